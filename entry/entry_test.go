package entry

import (
	"slices"
	"strconv"
	"strings"
	"testing"

	"burgess/api"
)

func attr(typ string, vals ...string) api.Attr { return api.Attr{Type: typ, Vals: vals} }

func sample() api.Entry {
	return api.Entry{DN: []api.Ava{{Type: "CN", Val: "a"}, {Type: "o", Val: "x"}}, Attrs: []api.Attr{attr("cn", "A", ""), attr("Sn", "b")}}
}

const sampleBytes = "\x02\x02CN\x01a\x01o\x01x\x02\x02cn\x02\x01A\x00\x02Sn\x01\x01b"

func vals(n int) []string { return slices.Repeat([]string{"v"}, n) }

// P20.1: which entries may be; their bytes both ways; the example.
func TestEncode(t *testing.T) {
	long := strings.Repeat("v", api.MaxValue)
	full := api.Entry{DN: slices.Repeat([]api.Ava{{Type: "o", Val: "x"}}, api.MaxRdns)}
	for i := range api.MaxAttrs {
		full.Attrs = append(full.Attrs, attr("t"+strconv.Itoa(i), slices.Repeat([]string{long}, api.MaxVals)...))
	}
	for i, e := range []api.Entry{{}, sample(), full, {Attrs: []api.Attr{attr("cn", "a"), attr("cn", "a", "a")}}} {
		s, err := Encode(e)
		if err != api.OK || !Is(e) {
			t.Error(i, err)
		}
		if got, err := Decode(s); err != api.OK || !Same(got, e) {
			t.Error(i, err)
		}
	}
	if s, _ := Encode(api.Entry{}); s != "\x00\x00" {
		t.Errorf("%q", s)
	}
	if s, _ := Encode(sample()); s != sampleBytes {
		t.Errorf("%q", s)
	}
	for i, e := range []api.Entry{
		{DN: []api.Ava{{Type: "o"}}}, {DN: []api.Ava{{Type: "o", Val: long}}}, {DN: append(full.DN, full.DN[0])}, {Attrs: append(slices.Clone(full.Attrs), attr("cn", "a"))}, {Attrs: []api.Attr{attr("", "a")}}, {Attrs: []api.Attr{attr("c n", "a")}},
		{Attrs: []api.Attr{attr(" cn", "a")}}, {Attrs: []api.Attr{attr("cn")}}, {Attrs: []api.Attr{attr("cn", vals(17)...)}}, {Attrs: []api.Attr{attr("cn", "a", long+"v")}},
	} {
		if s, err := Encode(e); s != "" || err != api.ErrArg || Is(e) {
			t.Error(i, err)
		}
	}
}

// P20.1: bytes that are none.
func TestDecodeErrs(t *testing.T) {
	for cut := range len(sampleBytes) {
		if e, err := Decode(sampleBytes[:cut]); err != api.ErrForm || !Same(e, api.Entry{}) {
			t.Error(cut, err)
		}
	}
	huge := "\xff\xff\xff\xff\xff\xff\xff\xff\x3f"
	for i, s := range []string{
		sampleBytes + "\x00", "\x01\x01o\x00\x00", "\x01\x00\x01x\x00", "\x00\x01\x02cn\x00", "\x00\x01\x00\x01\x01a", "\x80\x00\x00", "\x00\x80\x00", huge, "\x00" + huge, "\x00\x01\x02cn" + huge, "\x01" + huge,
		"\x0d" + strings.Repeat("\x01o\x01x", 13) + "\x00", "\x00\x11" + strings.Repeat("\x02cn\x01\x01a", 17), "\x00\x01\x02cn\x11" + strings.Repeat("\x01a", 17), "\x00\x01\x02cn\x01\x81\x02" + strings.Repeat("v", 257),
	} {
		if e, err := Decode(s); err != api.ErrForm || !Same(e, api.Entry{}) {
			t.Error(i, err)
		}
	}
}

// P20.2: Get and Same.
func TestGet(t *testing.T) {
	e := api.Entry{Attrs: []api.Attr{attr("CN", "a", "b"), attr("sn", "c"), attr(" cn ", "a"), attr("cn")}}
	for typ, want := range map[string][]string{"cn": {"a", "b", "a"}, " Cn": {"a", "b", "a"}, "SN": {"c"}, "l": nil, "": nil} {
		if got := Get(e, typ); !slices.Equal(got, want) {
			t.Error(typ, got)
		}
	}
	l := []api.Entry{{}, sample(), {DN: sample().DN}, {Attrs: sample().Attrs}, {DN: []api.Ava{{Type: "cn", Val: "a"}, {Type: "o", Val: "x"}}, Attrs: sample().Attrs}, {Attrs: []api.Attr{attr("cn")}}, {Attrs: []api.Attr{attr("CN")}}, {Attrs: []api.Attr{attr("cn", "")}}, {Attrs: []api.Attr{attr("cn", "a", "b")}}, {Attrs: []api.Attr{attr("cn", "b", "a")}}}
	for i, a := range l {
		for k, b := range l {
			if Same(a, b) != (i == k) {
				t.Error(i, k)
			}
		}
	}
	if !Same(api.Entry{DN: []api.Ava{}, Attrs: []api.Attr{}}, api.Entry{}) || !Same(api.Entry{Attrs: []api.Attr{{Vals: []string{}}}}, api.Entry{Attrs: []api.Attr{{}}}) {
		t.Error("nil and empty")
	}
}

// P20.3, W6: nothing is changed or kept; Own, Get and Decode are memory of their own.
func TestOwn(t *testing.T) {
	e := sample()
	o := Own(e)
	if !Same(o, e) || !Same(Own(api.Entry{}), api.Entry{}) {
		t.Error(o)
	}
	d, _ := Decode(sampleBytes)
	g := Get(e, "cn")
	for _, x := range []api.Entry{o, d} {
		x.DN[0].Val, x.Attrs[0].Vals[0], x.Attrs[1].Type = "z", "z", "z"
		_, _, _ = append(x.DN, api.Ava{}), append(x.Attrs, api.Attr{}), append(x.Attrs[0].Vals, "q")
	}
	g[0] = "z"
	if !Same(e, sample()) || o.Attrs[1].Vals[0] != "b" {
		t.Error(e, o)
	}
}
