package dnkey

import (
	"slices"
	"strings"
	"testing"

	"burgess/api"
	"burgess/dn"
)

func name(l ...string) []api.Ava {
	var n []api.Ava
	for _, s := range l {
		typ, val, _ := strings.Cut(s, "=")
		n = append(n, api.Ava{Type: typ, Val: val})
	}
	return n
}

// P19.1: Escape and Key; the example.
func TestKey(t *testing.T) {
	for s, want := range map[string]string{"": "", "a": "a", "\x00": "\x00\xff", "a\x00\x00b\x01": "a\x00\xff\x00\xffb\x01", "\x00\x01\x00\xff": "\x00\xff\x01\x00\xff\xff"} {
		if got := Escape(s); got != want {
			t.Errorf("%q %q", s, got)
		}
	}
	for want, n := range map[string][]api.Ava{
		"":                             nil,
		"o=x\x00\x01cn=a\x00\x01":      name("cn=A", "o=x"),
		"o=x y\x00\x01":                name(" O = X   y "),
		"cn= \x00\x01":                 name("CN=  "),
		"cn=\x00\xff\x01=\xff\x00\x01": name("cn=\x00\x01=\xff"),
	} {
		if got := Key(n); got != want {
			t.Errorf("%q %q", n, got)
		}
		if got := Depth(want); got != len(n) {
			t.Errorf("%q %d", want, got)
		}
	}
	for key, want := range map[string]int{"\x00\x01\x00\x01": 2, "\x00\x00\x01\x01": 1, "\x00": 0, "a\x01": 0, "x\x00\xff\x01": 0} {
		if got := Depth(key); got != want {
			t.Errorf("%q %d", key, got)
		}
	}
}

// P19.1: Back of what is no Key.
func TestBackErrs(t *testing.T) {
	long := strings.Repeat("v", api.MaxText)
	for _, key := range []string{
		"o=x", "o=x\x00", "\x00\x01", "=x\x00\x01", "o\x00\x01", "o=\x00\x01", "O=x\x00\x01", "o=X\x00\x01", "o=x \x00\x01", "o= x\x00\x01", "o=x  y\x00\x01", "o=  \x00\x01", "o=x\x00\x01y", "o=x\x00\x01\x00\x01", "1=x\x00\x01", "o =x\x00\x01",
		"o=x\x00y\x00\x01", "o=x\x00\x00\x01", "o=x\x00\xff", "o=" + long + "v\x00\x01", strings.Repeat("o=x\x00\x01", 13), strings.Repeat("o=x\x00\x01", 5000), "\xff",
	} {
		if n, ok := Back(key); n != nil || ok {
			t.Errorf("%q %q", key, n)
		}
	}
	for _, key := range []string{"", "o=" + long + "\x00\x01", strings.Repeat("o=x\x00\x01", 12), "o==\x00\x01", "o=\x00\xff\x00\x01"} {
		if n, ok := Back(key); !ok || Key(n) != key {
			t.Errorf("%q %q", key, n)
		}
	}
}

// P19.1 to P19.3: Back of Key is Norm; one Key just if Same; in Range just if Under.
func TestNames(t *testing.T) {
	x := uint32(5)
	draw := func(n int) int {
		x = x*1664525 + 1013904223
		return int(x>>8) % n
	}
	some := "aA \x00\x01\xff=,"
	var all [][]api.Ava
	for range 300 {
		var n []api.Ava
		for range draw(4) {
			val := make([]byte, 1+draw(3))
			for i := range val {
				val[i] = some[draw(len(some))]
			}
			n = append(n, api.Ava{Type: []string{"o", "O", "oo"}[draw(3)], Val: string(val)})
		}
		all = append(all, n, dn.Norm(n))
		if len(n) > 1 {
			all = append(all, n[1:])
		}
	}
	for _, a := range all {
		norm, ok := Back(Key(a))
		if !ok || !slices.Equal(norm, dn.Norm(a)) || Depth(Key(a)) != len(a) {
			t.Fatalf("%q %q", a, norm)
		}
		from, to := Range(a)
		if from != Key(a) || to != from+"\xff" {
			t.Fatalf("%q %q", from, to)
		}
		for _, b := range all {
			key := Key(b)
			if (key == from) != dn.Same(a, b) {
				t.Fatalf("%q %q", a, b)
			}
			if (key >= from && key < to) != dn.Under(b, a) {
				t.Fatalf("%q %q", a, b)
			}
		}
	}
}

// W6: nothing is changed, answers are memory of their own.
func TestOwn(t *testing.T) {
	n := append(make([]api.Ava, 0, 3), name("CN=A", "o=x")...)
	Key(n)
	Range(n)
	a, _ := Back(Key(n))
	b, _ := Back(Key(n))
	a[0].Val = "z"
	if !slices.Equal(n, name("CN=A", "o=x")) || b[0].Val != "a" || n[:3][2] != (api.Ava{}) {
		t.Error(n, b)
	}
}
