package filter

import (
	"slices"
	"strings"
	"testing"

	"burgess/api"
)

func and(l ...api.Filter) api.Filter { return api.Filter{Kind: api.FilterAnd, Kids: l} }
func or(l ...api.Filter) api.Filter  { return api.Filter{Kind: api.FilterOr, Kids: l} }
func not(f api.Filter) api.Filter    { return api.Filter{Kind: api.FilterNot, Kids: []api.Filter{f}} }
func eq(typ, val string) api.Filter {
	return api.Filter{Kind: api.FilterEqual, Type: typ, Val: val}
}
func present(typ string) api.Filter { return api.Filter{Kind: api.FilterPresent, Type: typ} }
func sub(typ string, subs ...string) api.Filter {
	return api.Filter{Kind: api.FilterSub, Type: typ, Subs: subs}
}

// deep is a filter that stands so deep, and its text.
func deep(n int) (api.Filter, string) {
	f := eq("cn", "a")
	for range n - 1 {
		f = not(f)
	}
	return f, strings.Repeat("(!", n-1) + "(cn=a)" + strings.Repeat(")", n-1)
}

// P16.1, P16.2: texts and filters, both ways; the example.
func TestParsePrint(t *testing.T) {
	full := strings.Repeat("v", api.MaxValue)
	stars := strings.Repeat("s*", 14)
	f16, s16 := deep(16)
	for s, want := range map[string]api.Filter{
		"(&(cn=a*b)(!(sn=*)))":                   and(sub("cn", "a", "b"), not(present("sn"))),
		"(cn=a)":                                 eq("cn", "a"),
		"(cn=)":                                  eq("cn", ""),
		"(cn= a b )":                             eq("cn", " a b "),
		"(cn==><~&|!a)":                          eq("cn", "=><~&|!a"),
		"(cn>=a)":                                {Kind: api.FilterGreater, Type: "cn", Val: "a"},
		"(cn<=)":                                 {Kind: api.FilterLess, Type: "cn"},
		"(cn=*)":                                 present("cn"),
		"(cn=*a)":                                sub("cn", "", "a"),
		"(cn=a*)":                                sub("cn", "a", ""),
		"(cn=*a*b*)":                             sub("cn", "", "a", "b", ""),
		"(cn=\\2a)":                              eq("cn", "*"),
		"(cn=\\2a*)":                             sub("cn", "*", ""),
		"(cn=\\28\\29\\5c\\00\\1f\\7f\\ff)":      eq("cn", "()\\\x00\x1f\x7f\xff"),
		"(cn>=\\2a)":                             {Kind: api.FilterGreater, Type: "cn", Val: "*"},
		"(|(a=b))":                               or(eq("a", "b")),
		"(&(a=b)(c=d)(|(e=f)(g=h)))":             and(eq("a", "b"), eq("c", "d"), or(eq("e", "f"), eq("g", "h"))),
		"(cn=" + full + ")":                      eq("cn", full),
		"(cn=" + full + "*" + full + ")":         sub("cn", full, full),
		"(cn=*" + stars + ")":                    sub("cn", append(append([]string{""}, slices.Repeat([]string{"s"}, 14)...), "")...),
		"(&" + strings.Repeat("(a=b)", 63) + ")": and(slices.Repeat([]api.Filter{eq("a", "b")}, 63)...),
		s16:                                      f16,
	} {
		f, e := Parse(s)
		if e != api.OK || !Same(f, want) {
			t.Error(s, f, e)
		}
		if !Is(want) {
			t.Error(s, "may not be")
		}
		if got := Print(want); got != s {
			t.Errorf("%q %q", s, got)
		}
	}
	for s, want := range map[string]api.Filter{"(cn~=a)": eq("cn", "a"), "(cn=\\C3\\a4\\2A)": eq("cn", "\xc3\xa4*"), "(cn=\xff\t\x7f)": eq("cn", "\xff\t\x7f"), "(CN=\\41)": eq("CN", "A")} {
		if f, e := Parse(s); e != api.OK || !Same(f, want) {
			t.Error(s, f, e)
		}
	}
}

// P16.1: any byte by two digits of sixteen, of either case.
func TestDigits(t *testing.T) {
	for i := range 256 {
		for _, digits := range []string{"0123456789abcdef", "0123456789ABCDEF"} {
			s := "(cn=x\\" + string(digits[i/16]) + string(digits[i%16]) + ")"
			if f, e := Parse(s); e != api.OK || f.Val != "x"+string([]byte{byte(i)}) {
				t.Errorf("%q %q", s, f.Val)
			}
		}
	}
}

// P16.1: texts that are none; ErrDeep as soon as it is met, ErrLong last.
func TestParseErrs(t *testing.T) {
	full := strings.Repeat("v", api.MaxValue+1)
	_, s17 := deep(17)
	_, s16 := deep(16)
	opened := strings.Repeat("(!", 16)
	many := strings.Repeat("(a=b)", 64)
	for s, want := range map[string]api.Errno{
		"": api.ErrForm, "(": api.ErrForm, ")": api.ErrForm, "()": api.ErrForm, "cn=a": api.ErrForm, "(cn=a": api.ErrForm, "(cn=a))": api.ErrForm, "(cn=a) ": api.ErrForm, " (cn=a)": api.ErrForm, "(cn=a)(cn=b)": api.ErrForm,
		"(cn)": api.ErrForm, "(=a)": api.ErrForm, "(cn>a)": api.ErrForm, "(cn<a)": api.ErrForm, "(cn~a)": api.ErrForm, "(cn =a)": api.ErrForm, "( cn=a)": api.ErrForm, "(1=a)": api.ErrForm, "(c_n=a)": api.ErrForm,
		"(" + strings.Repeat("x", 33) + "=a)": api.ErrForm, "(&)": api.ErrForm, "(|)": api.ErrForm, "(!)": api.ErrForm, "(!(a=b)(c=d))": api.ErrForm, "(& (a=b))": api.ErrForm, "(&(a=b) (c=d))": api.ErrForm, "(&(a=b)": api.ErrForm, "(&a=b)": api.ErrForm,
		"(cn=a(b)": api.ErrForm, "(cn=a\x00)": api.ErrForm, "(cn=\\)": api.ErrForm, "(cn=\\4)": api.ErrForm, "(cn=\\4g)": api.ErrForm, "(cn=\\g4)": api.ErrForm, "(cn=\\": api.ErrForm, "(cn=\\4": api.ErrForm, "(cn=\\*)": api.ErrForm,
		"(cn>=a*)": api.ErrForm, "(cn<=*)": api.ErrForm, "(cn~=*)": api.ErrForm, "(cn~=a*b)": api.ErrForm, "(cn:=a)": api.ErrForm, "(cn=*": api.ErrForm, "(cn\x00=a)": api.ErrForm, "(>=a)": api.ErrForm, "(cn>": api.ErrForm, "(cn~": api.ErrForm,
		s17: api.ErrDeep, opened + "(": api.ErrDeep, opened + "(???": api.ErrDeep, opened + "x": api.ErrForm, opened: api.ErrForm, "(&" + s16 + ")": api.ErrDeep, "(&(a=b)" + s16: api.ErrDeep, "(&(a=" + s16: api.ErrForm, "(&x" + s17: api.ErrForm, "(&" + s17[:40] + ")": api.ErrDeep,
		"(&" + many + s17 + ")": api.ErrDeep,
		"(cn=**)":               api.ErrLong, "(cn=a**b)": api.ErrLong, "(cn=" + full + ")": api.ErrLong, "(cn=a*" + full + ")": api.ErrLong, "(cn<=" + full + ")": api.ErrLong, "(&" + many + ")": api.ErrLong,
		"(cn=*" + strings.Repeat("s*", 15) + ")": api.ErrLong, "(cn=**) ": api.ErrForm, "(&(cn=**)": api.ErrForm, "(&(cn=**)(a=b)x": api.ErrForm, "(cn=***)": api.ErrLong,
	} {
		if f, e := Parse(s); e != want || !Same(f, api.Filter{}) {
			t.Errorf("%q %v", s, e)
		}
	}
}

// P16.2: which filters may be; nothing is printed of others.
func TestIs(t *testing.T) {
	full := strings.Repeat("v", api.MaxValue+1)
	f17, _ := deep(17)
	round := and(eq("a", "b"))
	round.Kids[0] = round // within itself
	wide := and(slices.Repeat([]api.Filter{and(slices.Repeat([]api.Filter{eq("a", "b")}, 20)...)}, 4)...)
	for i, f := range []api.Filter{
		{}, or(), {Kind: api.FilterNot}, {Kind: api.FilterNot, Kids: []api.Filter{eq("a", "b"), eq("a", "b")}}, and(eq("", "b")), and(eq("a", "b"), or()), not(eq("a b", "")),
		{Kind: api.FilterAnd, Type: "a", Kids: []api.Filter{eq("a", "b")}}, {Kind: api.FilterOr, Val: "a", Kids: []api.Filter{eq("a", "b")}}, {Kind: api.FilterNot, Subs: []string{""}, Kids: []api.Filter{eq("a", "b")}},
		eq("a", full), eq("1", "b"), {Kind: api.FilterEqual, Type: "a", Subs: []string{"a", "b"}}, {Kind: api.FilterEqual, Type: "a", Kids: []api.Filter{eq("a", "b")}},
		{Kind: api.FilterGreater, Type: "a", Val: full}, {Kind: api.FilterLess, Val: "a"}, {Kind: api.FilterPresent, Type: "a", Val: "b"}, {Kind: api.FilterPresent, Type: "a", Subs: []string{"a"}}, {Kind: api.FilterPresent}, {Kind: api.FilterPresent, Type: "a", Kids: []api.Filter{eq("a", "b")}},
		sub("a"), sub("a", "b"), sub("a", "", ""), sub("a", "a", "", "b"), sub("a", "", "", ""), sub("a", full, ""), sub("a", slices.Repeat([]string{"s"}, 17)...), sub("", "a", "b"), {Kind: api.FilterSub, Type: "a", Val: "x", Subs: []string{"a", "b"}}, {Kind: api.FilterSub, Type: "a", Subs: []string{"a", "b"}, Kids: []api.Filter{eq("a", "b")}},
		{Kind: 8, Type: "a"}, {Kind: -1, Type: "a"}, {Kind: 1 << 62}, f17, round, wide, and(slices.Repeat([]api.Filter{eq("a", "b")}, 64)...),
	} {
		if Is(f) || Print(f) != "" {
			t.Error(i)
		}
	}
	if f := sub("a", slices.Repeat([]string{"s"}, 16)...); !Is(f) || !Is(sub("a", "", "b", "")) || !Is(eq("a", full[1:])) {
		t.Error("may be")
	}
}

// P16.2: Same and Nodes.
func TestSame(t *testing.T) {
	l := []api.Filter{{}, eq("a", "b"), eq("A", "b"), eq("a", "B"), present("a"), sub("a", "b"), sub("a", "b", ""), sub("a", "", "b"), and(eq("a", "b")), and(eq("a", "b"), eq("a", "b")), or(eq("a", "b")), and(and(eq("a", "b"))), {Kind: 99}}
	for i, a := range l {
		for k, b := range l {
			if Same(a, b) != (i == k) {
				t.Error(i, k)
			}
		}
	}
	if !Same(api.Filter{Subs: []string{}, Kids: []api.Filter{}}, api.Filter{}) {
		t.Error("nil and empty")
	}
	for i, n := range []int{1, 1, 1, 1, 1, 1, 1, 1, 2, 3, 2, 3, 1} {
		if got := Nodes(l[i]); got != n {
			t.Error(i, got)
		}
	}
	f := eq("a", "b")
	for range 1 << 15 {
		f = not(f)
	}
	if Nodes(f) != 1<<15+1 || !Same(f, f) || Is(f) {
		t.Error("very deep")
	}
}

// P16.3: Parse of Print of a filter that may be is it; no text makes one that may not be.
func TestBack(t *testing.T) {
	x := uint32(3)
	draw := func(n int) int {
		x = x*1664525 + 1013904223
		return int(x>>8) % n
	}
	some := "aB *()\\\x00\x1f\x7f\xff=<>~&|!"
	val := func() string {
		b := make([]byte, 1+draw(4))
		for i := range b {
			b[i] = some[draw(len(some))]
		}
		return string(b)
	}
	var one func(deep int) api.Filter
	one = func(deep int) api.Filter {
		f := api.Filter{Kind: draw(8), Type: []string{"cn", "X-1", "sn"}[draw(3)]}
		if deep > 4 {
			f.Kind = 3 + draw(5)
		}
		switch f.Kind {
		case api.FilterAnd, api.FilterOr:
			f.Type = ""
			for range 1 + draw(3) {
				f.Kids = append(f.Kids, one(deep+1))
			}
		case api.FilterNot:
			f = not(one(deep + 1))
		case api.FilterSub:
			for range 2 + draw(3) {
				f.Subs = append(f.Subs, val())
			}
			if draw(2) == 0 {
				f.Subs[0] = ""
			}
		case api.FilterPresent:
		default:
			f.Val = val()
		}
		return f
	}
	for range 3000 {
		f := one(1)
		if !Is(f) {
			if Nodes(f) <= api.MaxNodes {
				t.Fatal(f)
			}
			continue
		}
		s := Print(f)
		if got, e := Parse(s); e != api.OK || !Same(got, f) {
			t.Fatalf("%q %v", s, e)
		}
		b := []byte(s)
		b[draw(len(b))] = some[draw(len(some))]
		if got, e := Parse(string(b)); e == api.OK && !Is(got) || e != api.OK && !Same(got, api.Filter{}) {
			t.Fatalf("%q", b)
		}
	}
}

// P16.3, W6: nothing is changed, answers are memory of their own.
func TestOwn(t *testing.T) {
	f := and(sub("cn", "a", "b"), eq("a", "b"))
	Is(f)
	Print(f)
	Nodes(f)
	if !Same(f, and(sub("cn", "a", "b"), eq("a", "b"))) {
		t.Error(f)
	}
	a, _ := Parse("(&(cn=a*b)(cn=a*b))")
	b, _ := Parse("(&(cn=a*b)(cn=a*b))")
	a.Kids[0].Subs[0] = "z"
	_ = append(a.Kids[0].Subs, "q")
	if a.Kids[1].Subs[0] != "a" || b.Kids[0].Subs[0] != "a" {
		t.Error(a, b)
	}
}
