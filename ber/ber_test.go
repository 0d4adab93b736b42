package ber

import (
	"bytes"
	"math"
	"testing"

	"burgess/api"
)

// P24.1: Tag; the example.
func TestTag(t *testing.T) {
	for _, c := range []struct {
		n    int
		head []byte
	}{
		{0, []byte{4, 0}}, {1, []byte{4, 1}}, {127, []byte{4, 127}}, {128, []byte{4, 0x81, 128}}, {255, []byte{4, 0x81, 255}}, {256, []byte{4, 0x82, 1, 0}}, {65535, []byte{4, 0x82, 255, 255}}, {65536, []byte{4, 0x83, 1, 0, 0}}, {1<<24 + 5, []byte{4, 0x84, 1, 0, 0, 5}},
	} {
		p := bytes.Repeat([]byte{'x'}, c.n)
		if got := Tag(4, p[:c.n/3], nil, p[c.n/3:]); !bytes.Equal(got, append(c.head, p...)) {
			t.Errorf("%d %x", c.n, got[:6])
		}
	}
	if got := Tag(0x1f); !bytes.Equal(got, []byte{0x1f, 0}) {
		t.Error(got)
	}
	if got := Tag(4, []byte("a")); !bytes.Equal(got, []byte{4, 1, 0x61}) {
		t.Error(got)
	}
}

// P24.1: Next, and its errors in their order.
func TestNext(t *testing.T) {
	full := make([]byte, api.MaxMsg)
	for i, c := range []struct {
		b          string
		body, rest string
	}{
		{"\x04\x01ab", "a", "b"}, {"\x30\x00", "", ""}, {"\x00\x00\x00", "", "\x00"}, {"\x04\x81\x01ab", "a", "b"}, {"\x04\x84\x00\x00\x00\x01ab", "a", "b"}, {"\x04\x82\x00\x00a", "", "a"}, {"\xfe\x01a", "a", ""},
		{"\x04\x83\x01\x00\x00" + string(full) + "z", string(full), "z"},
	} {
		tag, body, rest, e := Next([]byte(c.b))
		if tag != c.b[0] || string(body) != c.body || string(rest) != c.rest || e != api.OK {
			t.Error(i, tag, len(body), len(rest), e)
		}
	}
	for i, c := range []struct {
		b string
		e api.Errno
	}{
		{"", api.ErrShort}, {"\x1f", api.ErrForm}, {"\xff", api.ErrForm}, {"\x3f\x80", api.ErrForm}, {"\x04", api.ErrShort}, {"\x04\x80", api.ErrForm}, {"\x04\x85", api.ErrForm}, {"\x04\xff\x00", api.ErrForm},
		{"\x04\x81", api.ErrShort}, {"\x04\x84\xff\xff\xff", api.ErrShort}, {"\x04\x84\xff\xff\xff\xff", api.ErrLong}, {"\x04\x83\x01\x00\x01", api.ErrLong}, {"\x04\x83\x01\x00\x01" + string(full), api.ErrLong},
		{"\x04\x01", api.ErrShort}, {"\x04\x7f" + string(full[:126]), api.ErrShort}, {"\x04\x83\x01\x00\x00" + string(full[1:]), api.ErrShort},
	} {
		if tag, body, rest, e := Next([]byte(c.b)); tag != 0 || body != nil || rest != nil || e != c.e {
			t.Error(i, e)
		}
		if l, e := All([]byte("\x04\x01a" + c.b)); c.b != "" && (l != nil || e != c.e) {
			t.Error(i, e)
		}
	}
}

// P24.2: Int and FromInt; the example.
func TestInt(t *testing.T) {
	for n, want := range map[int]string{
		0: "\x00", 1: "\x01", -1: "\xff", 127: "\x7f", 128: "\x00\x80", -128: "\x80", -129: "\xff\x7f", 255: "\x00\xff", 256: "\x01\x00", 32767: "\x7f\xff", 32768: "\x00\x80\x00", -32768: "\x80\x00", -32769: "\xff\x7f\xff",
		1<<31 - 1: "\x7f\xff\xff\xff", 1 << 31: "\x00\x80\x00\x00\x00", math.MaxInt: "\x7f\xff\xff\xff\xff\xff\xff\xff", math.MinInt: "\x80\x00\x00\x00\x00\x00\x00\x00", 1<<55 - 1: "\x7f\xff\xff\xff\xff\xff\xff", 1 << 55: "\x00\x80\x00\x00\x00\x00\x00\x00",
	} {
		if got := Int(n); string(got) != want {
			t.Errorf("%d %x", n, got)
		}
		if got, e := FromInt([]byte(want)); got != n || e != api.OK {
			t.Error(n, got, e)
		}
	}
	for i := range 63 {
		for _, n := range []int{1<<i - 1, 1 << i, 1<<i + 1, -(1 << i), -(1 << i) - 1, 1 - (1 << i)} {
			b := Int(n)
			if got, e := FromInt(b); got != n || e != api.OK {
				t.Error(n, got)
			}
			if len(b) > 1 && (b[0] == 0 && b[1] < 0x80 || b[0] == 0xff && b[1] >= 0x80) {
				t.Errorf("%d %x", n, b)
			}
		}
	}
	for b, want := range map[string]int{"\x00\x00\x05": 5, "\xff\xff\xff": -1, "\x00\x00\x00\x00\x00\x00\x00\x80": 128} {
		if got, e := FromInt([]byte(b)); got != want || e != api.OK {
			t.Error(got, e)
		}
	}
	for _, b := range []string{"", "\x00\x00\x00\x00\x00\x00\x00\x00\x00"} {
		if got, e := FromInt([]byte(b)); got != 0 || e != api.ErrForm {
			t.Error(got, e)
		}
	}
}

// P24.2: Bool and All.
func TestBoolAll(t *testing.T) {
	if !bytes.Equal(Bool(true), []byte{0xff}) || !bytes.Equal(Bool(false), []byte{0}) {
		t.Error("Bool")
	}
	for b, want := range map[string]bool{"\x00": false, "\x01": true, "\xff": true, "\x80": true} {
		if got, e := FromBool([]byte(b)); got != want || e != api.OK {
			t.Error(got, e)
		}
	}
	for _, b := range []string{"", "\x00\x00", "\xff\xff"} {
		if got, e := FromBool([]byte(b)); got || e != api.ErrForm {
			t.Error(got, e)
		}
	}
	if l, e := All(nil); len(l) != 0 || e != api.OK {
		t.Error(l, e)
	}
	l, e := All([]byte("\x04\x01a\x30\x00\x02\x81\x02bc"))
	if e != api.OK || len(l) != 3 || l[0].Tag != 4 || string(l[0].Body) != "a" || l[1].Tag != 0x30 || len(l[1].Body) != 0 || l[2].Tag != 2 || string(l[2].Body) != "bc" {
		t.Error(l, e)
	}
	if l, e := All([]byte("\x04\x01a\x04")); l != nil || e != api.ErrShort {
		t.Error(l, e)
	}
}

// P24.3: Next of Tag, with anything behind, is it.
func TestBack(t *testing.T) {
	for n := range 700 {
		body := bytes.Repeat([]byte{byte(n)}, n*n%70000%(api.MaxMsg+1))
		tag := byte(n)
		if tag&0x1f == 0x1f {
			tag--
		}
		behind := body[:n%5%(len(body)+1)]
		got, p, rest, e := Next(append(Tag(tag, body), behind...))
		if got != tag || !bytes.Equal(p, body) || !bytes.Equal(rest, behind) || e != api.OK {
			t.Fatal(n, e)
		}
	}
	if _, _, _, e := Next(Tag(4, make([]byte, api.MaxMsg+1))); e != api.ErrLong {
		t.Error(e)
	}
}

// P24.3, W6: nothing is changed or kept, and every answer is memory of its own.
func TestOwn(t *testing.T) {
	in := append(make([]byte, 0, 16), "ab"...)
	b := Tag(4, in)
	if in[:3][2] != 0 {
		t.Error("spare room")
	}
	b = append(b, "\x04\x01c"...)
	was := bytes.Clone(b)
	_, body, rest, _ := Next(b)
	l, _ := All(b)
	for _, p := range [][]byte{body, rest, l[0].Body, l[1].Body} {
		p[0] = 'Z'
		_ = append(p, "qqqqqqqq"...)
	}
	if !bytes.Equal(b, was) || string(body) != "Zb" || string(rest) != "Z\x01c" || string(l[0].Body) != "Zb" || string(l[1].Body) != "Z" || string(in) != "ab" {
		t.Errorf("%q %q %q %q", b, body, rest, l)
	}
	x, y := Bool(true), Bool(true)
	x[0] = 1
	if y[0] != 0xff {
		t.Error("Bool")
	}
}
