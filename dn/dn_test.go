package dn

import (
	"slices"
	"strings"
	"testing"

	"burgess/api"
)

func name(l ...string) []api.Ava {
	var n []api.Ava
	for i := 0; i < len(l); i += 2 {
		n = append(n, api.Ava{Type: l[i], Val: l[i+1]})
	}
	return n
}

// P13.1: types.
func TestType(t *testing.T) {
	for _, s := range []string{"a", "Z", "cn", "a-", "a1-B", "x" + strings.Repeat("9", 31)} {
		if !Type(s) {
			t.Error(s)
		}
	}
	for _, s := range []string{"", "1", "-a", "a b", " a", "a_", "é", "a\x00", "a.b", "x" + strings.Repeat("9", 32), "a="} {
		if Type(s) {
			t.Error(s)
		}
	}
}

// P13.1: texts that are names; the example.
func TestParse(t *testing.T) {
	long := strings.Repeat("v", api.MaxText)
	for s, want := range map[string][]api.Ava{
		"":                           nil,
		"cn=a\\,b , O = x y":         name("cn", "a,b", "O", "x y"),
		"cn=a":                       name("cn", "a"),
		"  cn  =  a  b  ":            name("cn", "a  b"),
		"cn=a=b#c":                   name("cn", "a=b#c"),
		"cn=#=":                      name("cn", "#="),
		"cn=\\#\\=\\ ":               name("cn", "#= "),
		"cn=\\,\\+\\\"\\\\\\<\\>\\;": name("cn", ",+\"\\<>;"),
		"cn=\\00\\fF\\2c\\20":        name("cn", "\x00\xff, "),
		"cn= \\  a \\  ":             name("cn", "  a  "),
		"cn=\\20":                    name("cn", " "),
		"cn=a \\41 ":                 name("cn", "a A"),
		"cn=\x00\xff\n\t":            name("cn", "\x00\xff\n\t"),
		"cn=" + long:                 name("cn", long),
		"a=1,b=2,c=3,d=4,e=5,f=6,g=7,h=8,i=9,j=10,k=11,l=12": name("a", "1", "b", "2", "c", "3", "d", "4", "e", "5", "f", "6", "g", "7", "h", "8", "i", "9", "j", "10", "k", "11", "l", "12"),
	} {
		if n, e := Parse(s); !slices.Equal(n, want) || e != api.OK {
			t.Errorf("%q %q %v", s, n, e)
		}
	}
}

// P13.1: texts that are none, ErrForm ahead of ErrLong.
func TestParseErrs(t *testing.T) {
	many := strings.Repeat("a=1,", api.MaxRdns) + "a=1"
	long := "cn=" + strings.Repeat("v", api.MaxText+1)
	for _, s := range []string{
		" ", ",", "cn", "cn=", "cn= ", "=a", "cn=a,", ",cn=a", "cn=a,,o=b", "1=a", "c n=a", "cn\\=a", "cn=a+b", "cn=a+o=b", "cn=\"a\"", "cn=<", "cn=>", "cn=;", "cn=a;o=b",
		"cn=\\", "cn=\\4", "cn=\\4g", "cn=\\g4", "cn=\\a", "cn=a\\", "cn=\\x41", "cn=\\4,o=x", strings.Repeat("x", 33) + "=a", many + ",", long + ",o=", "cn\x00=a", "\tcn=a", "cn=,o=a", "cn=\\0",
	} {
		n, e := Parse(s)
		if n != nil || e != api.ErrForm {
			t.Errorf("%q %q %v", s, n, e)
		}
	}
	for _, s := range []string{many, long, "o=x," + long, "cn=" + strings.Repeat("\\41", api.MaxText+1)} {
		if n, e := Parse(s); n != nil || e != api.ErrLong {
			t.Errorf("%q %v", n, e)
		}
	}
	if n, e := Parse("cn=" + strings.Repeat("\\41", api.MaxText)); len(n) != 1 || e != api.OK {
		t.Error(e)
	}
}

// P13.1: any byte by two digits of sixteen, of either case.
func TestDigits(t *testing.T) {
	for i := range 256 {
		for _, digits := range []string{"0123456789abcdef", "0123456789ABCDEF"} {
			s := "cn=x\\" + string(digits[i/16]) + string(digits[i%16])
			if n, e := Parse(s); e != api.OK || n[0].Val != "x"+string([]byte{byte(i)}) {
				t.Errorf("%q %q", s, n)
			}
		}
	}
}

// P13.2: Print.
func TestPrint(t *testing.T) {
	for want, n := range map[string][]api.Ava{
		"":                           nil,
		"cn=a\\,b,O=x y":             name("cn", "a,b", "O", "x y"),
		"cn=\\#a#=":                  name("cn", "#a#="),
		"cn=\\ ":                     name("cn", " "),
		"cn=\\ \\ ":                  name("cn", "  "),
		"cn=\\  \\ ":                 name("cn", "   "),
		"cn=\\ a  b\\ ":              name("cn", " a  b "),
		"cn=\\,\\+\\\"\\\\\\<\\>\\;": name("cn", ",+\"\\<>;"),
		"cn=\\00\\1f\\7f\\80\\ff~":   name("cn", "\x00\x1f\x7f\x80\xff~"),
		"=,x y=":                     name("", "", "x y", ""),
	} {
		if s := Print(n); s != want {
			t.Errorf("%q %q", s, want)
		}
	}
}

// P13.2: which names may be.
func TestIs(t *testing.T) {
	long := strings.Repeat("v", api.MaxText)
	twelve := slices.Repeat(name("a", "b"), api.MaxRdns)
	for i, n := range [][]api.Ava{nil, name("cn", long), name("x"+strings.Repeat("9", 31), "\x00"), twelve, name("cn", " ")} {
		if !Is(n) {
			t.Error(i)
		}
	}
	for i, n := range [][]api.Ava{name("cn", ""), name("cn", long+"v"), name("", "a"), name("c n", "a"), name("cn", "a", "1", "b"), append(slices.Clone(twelve), name("a", "b")...), name("x"+strings.Repeat("9", 32), "a")} {
		if Is(n) {
			t.Error(i)
		}
	}
}

// P13.3: Fold, Norm, Same, Under, Up.
func TestFold(t *testing.T) {
	for s, want := range map[string]string{"": "", " ": "", "   ": "", "A": "a", "  A  bC  ": "a bc", "a\t b": "a\t b", "AZ@[`{": "az@[`{", "\xc3\x84": "\xc3\x84", "a \x00  b": "a \x00 b"} {
		if got := Fold(s); got != want {
			t.Errorf("%q %q", s, got)
		}
	}
	if n := Norm(name("CN", "  A  b ", "o", "  ", "L", "x", "l", "")); !slices.Equal(n, name("cn", "a b", "o", " ", "l", "x", "l", "")) {
		t.Errorf("%q", n)
	}
	if !slices.Equal(Norm(nil), nil) {
		t.Error("the root")
	}
}

func TestSame(t *testing.T) {
	a := name("cn", "A  b", "O", "x", "dc", "Y")
	for _, c := range []struct {
		n, base     []api.Ava
		same, under bool
	}{
		{nil, nil, true, true}, {a, nil, false, true}, {nil, a, false, false}, {a, name("CN", " a b", "o", "X ", "DC", "y"), true, true},
		{a, a[1:], false, true}, {a, a[2:], false, true}, {a, a[:2], false, false}, {a[1:], a, false, false}, {a, name("o", "x"), false, false},
		{name("cn", "ab"), name("cn", "a b"), false, false}, {name("cn", " "), name("cn", "  "), true, true}, {name("cn", "a"), name("sn", "a"), false, false},
	} {
		if Same(c.n, c.base) != c.same || Under(c.n, c.base) != c.under {
			t.Error(c)
		}
	}
	if n := Up(a); !slices.Equal(n, a[1:]) {
		t.Error(n)
	}
	if len(Up(a[2:])) != 0 || len(Up(nil)) != 0 {
		t.Error("Up of the last part")
	}
}

// P13.4: Parse of Print of a name that may be is it; Norm of Norm is Norm.
func TestBack(t *testing.T) {
	x := uint32(1)
	draw := func(n int) int {
		x = x*1664525 + 1013904223
		return int(x>>8) % n
	}
	some := "  aAbB,+\"\\<>;#=\x00\x1f\x7f\x80\xff0f"
	for range 5000 {
		var n []api.Ava
		for range draw(api.MaxRdns + 1) {
			val := make([]byte, 1+draw(5))
			for i := range val {
				val[i] = some[draw(len(some))]
			}
			n = append(n, api.Ava{Type: []string{"a", "CN", "x-1"}[draw(3)], Val: string(val)})
		}
		got, e := Parse(Print(n))
		if e != api.OK || !slices.Equal(got, n) {
			t.Fatalf("%q %q %v", n, got, e)
		}
		norm := Norm(n)
		if !slices.Equal(Norm(norm), norm) || !Is(norm) || !Same(n, norm) {
			t.Fatalf("%q", n)
		}
		text := make([]byte, draw(12))
		for i := range text {
			text[i] = (some + "cn==,,")[draw(len(some)+6)]
		}
		if n, e := Parse(string(text)); e == api.OK && !Is(n) || e != api.OK && n != nil {
			t.Fatalf("%q", text)
		}
	}
}

// P13.4, W6: nothing is changed, answers are memory of their own.
func TestOwn(t *testing.T) {
	n := append(make([]api.Ava, 0, 5), name("CN", "A", "O", "B")...)
	u, m := Up(n), Norm(n)
	u[0].Val, m[0].Val = "z", "z"
	_, _ = append(u, api.Ava{Type: "q"}), append(m, api.Ava{Type: "q"})
	p, _ := Parse("cn=a,o=b")
	q, _ := Parse("cn=a,o=b")
	p[0].Val = "z"
	if !slices.Equal(n, name("CN", "A", "O", "B")) || n[:3][2] != (api.Ava{}) || q[0].Val != "a" {
		t.Error(n, q)
	}
}
