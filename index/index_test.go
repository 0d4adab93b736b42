package index

import (
	"slices"
	"strings"
	"testing"

	"burgess/api"
)

func attr(typ string, vals ...string) api.Attr { return api.Attr{Type: typ, Vals: vals} }

// P21.1: beginnings of keys, and grams; the example.
func TestBegins(t *testing.T) {
	for got, want := range map[string]string{
		Present("cn"):              "pcn\x00",
		Present(""):                "p\x00",
		Equal("cn", "a b"):         "ecn\x00a b\x00\x01",
		Equal("cn", "\x00\x01a"):   "ecn\x00\x00\xff\x01a\x00\x01",
		Equal("userpassword", ""):  "euserpassword\x00\x00\x01",
		Gram("cn", "abc"):          "gcn\x00abc\x00\x01",
		Gram("cn", "\x00\x00\x01"): "gcn\x00\x00\xff\x00\xff\x01\x00\x01",
	} {
		if got != want {
			t.Errorf("%q %q", got, want)
		}
	}
	for s, want := range map[string][]string{
		"": nil, "a": nil, "ab": nil, "abc": {"abc"}, "abcab": {"abc", "bca", "cab"}, "aaaa": {"aaa"}, "cbabc": {"abc", "bab", "cba"}, "\xff\x00a\x00": {"\x00a\x00", "\xff\x00a"},
	} {
		if got := Grams(s); !slices.Equal(got, want) {
			t.Errorf("%q %q", s, got)
		}
	}
}

// P21.2: Keys of an entry.
func TestKeys(t *testing.T) {
	e := api.Entry{DN: []api.Ava{{Type: "CN", Val: " A"}, {Type: "o", Val: "x"}}, Attrs: []api.Attr{
		attr("CN", "Abc D", "ab", "AB"), attr("telephonenumber", "1 2-34", "-"), attr("uidnumber", "007", "12345"), attr("member", "CN=Foo"), attr("userpassword", "", "Secret"),
		attr("nothing", "abc"), attr("sn"), attr("mail", ""), attr(" cn ", "abc d", "x\x00yz"), attr("title", " "),
	}}
	key := "o=x\x00\x01cn=a\x00\x01"
	var want []string
	for _, s := range []string{
		"pcn\x00", "ptelephonenumber\x00", "puidnumber\x00", "pmember\x00", "puserpassword\x00", "pmail\x00", "ptitle\x00",
		"ecn\x00abc d\x00\x01", "ecn\x00ab\x00\x01", "ecn\x00x\x00\xffyz\x00\x01", "etelephonenumber\x001234\x00\x01", "euidnumber\x0012345\x00\x01", "emember\x00cn=foo\x00\x01", "euserpassword\x00\x00\x01", "euserpassword\x00Secret\x00\x01", "etitle\x00 \x00\x01",
		"gcn\x00abc\x00\x01", "gcn\x00bc \x00\x01", "gcn\x00c d\x00\x01", "gcn\x00x\x00\xffy\x00\x01", "gcn\x00\x00\xffyz\x00\x01", "gtelephonenumber\x00123\x00\x01", "gtelephonenumber\x00234\x00\x01",
	} {
		want = append(want, s+key)
	}
	slices.Sort(want)
	if got := Keys(e); !slices.Equal(got, want) {
		t.Errorf("%q\n%q", got, want)
	}
	if got := Keys(api.Entry{}); len(got) != 0 {
		t.Error(got)
	}
	if got := Keys(api.Entry{Attrs: []api.Attr{attr("userpassword", "a")}}); !slices.Equal(got, []string{"euserpassword\x00a\x00\x01", "puserpassword\x00"}) {
		t.Errorf("%q", got)
	}
	if got := Keys(api.Entry{Attrs: []api.Attr{attr("cn", strings.Repeat("a", api.MaxValue+1))}}); !slices.Equal(got, []string{"pcn\x00"}) {
		t.Errorf("%q", got)
	}
}

// P21.2: Diff.
func TestDiff(t *testing.T) {
	for i, c := range []struct {
		old, now []string
		want     []api.Row
	}{
		{nil, nil, nil}, {[]string{"a", "b"}, []string{"a", "b"}, nil}, {nil, []string{"a", "b"}, []api.Row{{Key: "a"}, {Key: "b"}}}, {[]string{"a", "b"}, nil, []api.Row{{Key: "a", Del: true}, {Key: "b", Del: true}}},
		{[]string{"a", "c", "d"}, []string{"b", "c", "e"}, []api.Row{{Key: "a", Del: true}, {Key: "b"}, {Key: "d", Del: true}, {Key: "e"}}},
	} {
		if got := Diff(c.old, c.now); !slices.Equal(got, c.want) {
			t.Error(i, got)
		}
	}
	var old, now []string
	for i := range 200 {
		s := string([]byte{byte(i), byte(i * i)})
		if i%3 > 0 {
			old = append(old, s)
		}
		if i%2 > 0 {
			now = append(now, s)
		}
	}
	rows := Diff(old, now)
	left := slices.Clone(old)
	for i, r := range rows {
		if i > 0 && rows[i-1].Key >= r.Key || r.Val != "" {
			t.Fatal(i)
		}
		if r.Del {
			left = slices.DeleteFunc(left, func(s string) bool { return s == r.Key })
		} else {
			left = append(left, r.Key)
		}
	}
	slices.Sort(left)
	if !slices.Equal(left, now) {
		t.Error(len(left), len(now))
	}
}

// P21.3: a key begins so just if the entry has that: no beginning of one value is that of another.
func TestJust(t *testing.T) {
	vals := []string{"", "a", "ab", "a\x00", "a\x00\x01", "a\x00\xff", "\x00", "\x00\x01", "\xff", "a\x01"}
	for _, a := range vals {
		for _, b := range vals {
			keys := Keys(api.Entry{DN: []api.Ava{{Type: "o", Val: "x"}}, Attrs: []api.Attr{attr("userpassword", a)}})
			has := slices.ContainsFunc(keys, func(k string) bool { return strings.HasPrefix(k, Equal("userpassword", b)) })
			if has != (a == b) {
				t.Errorf("%q %q", a, b)
			}
		}
	}
}

// P21.3, W6: nothing is changed, answers are memory of their own.
func TestOwn(t *testing.T) {
	old, now := append(make([]string, 0, 3), "a", "b"), append(make([]string, 0, 3), "b", "c")
	rows := Diff(old, now)
	rows[0].Key = "z"
	g, h := Grams("abcd"), Grams("abcd")
	g[0] = "z"
	e := api.Entry{Attrs: []api.Attr{attr("CN", "Abc")}}
	k, m := Keys(e), Keys(e)
	k[0] = "z"
	_, _, _ = append(rows, api.Row{}), append(g, "q"), append(k, "q")
	if old[0] != "a" || old[:3][2] != "" || now[:3][2] != "" || h[0] != "abc" || m[0] == "z" || e.Attrs[0].Vals[0] != "Abc" {
		t.Error(old, now, h, m)
	}
}
