package eval

import (
	"slices"
	"strings"
	"testing"

	"burgess/api"
	"burgess/filter"
)

const (
	no    = api.False
	yes   = api.True
	undef = api.Undefined
)

// P17.1: And, Or, Not.
func TestLogic(t *testing.T) {
	for i, c := range []struct {
		l       []int
		and, or int
	}{
		{nil, yes, no}, {[]int{yes}, yes, yes}, {[]int{no}, no, no}, {[]int{undef}, undef, undef}, {[]int{yes, no}, no, yes}, {[]int{yes, undef}, undef, yes}, {[]int{undef, no}, no, undef},
		{[]int{undef, no, yes}, no, yes}, {[]int{yes, yes}, yes, yes}, {[]int{no, no}, no, no}, {[]int{7}, undef, undef}, {[]int{-1, yes}, undef, yes}, {[]int{1 << 62, no}, no, undef}, {[]int{-1 << 63, undef}, undef, undef}, {[]int{yes, 3}, undef, yes},
	} {
		if got := And(c.l...); got != c.and {
			t.Error(i, got)
		}
		if got := Or(c.l...); got != c.or {
			t.Error(i, got)
		}
	}
	for v, want := range map[int]int{yes: no, no: yes, undef: undef, 3: undef, -1: undef, 1 << 62: undef} {
		if got := Not(v); got != want {
			t.Error(v, got)
		}
	}
}

func of(kind int, typ, val string, subs ...string) api.Filter {
	return api.Filter{Kind: kind, Type: typ, Val: val, Subs: subs}
}

// P17.2: Item.
func TestItem(t *testing.T) {
	l := func(s ...string) []string { return s }
	long := strings.Repeat("v", api.MaxValue+1)
	for i, c := range []struct {
		f    api.Filter
		vals []string
		want int
	}{
		{of(api.FilterPresent, "cn", ""), nil, no}, {of(api.FilterPresent, "CN", ""), l(""), yes}, {of(api.FilterPresent, "nothing", ""), l("a"), undef}, {of(api.FilterPresent, "member", ""), l("a"), yes}, {of(api.FilterPresent, "cn", long), l("a"), yes},
		{of(api.FilterEqual, "cn", " A  b"), l("x", "a B"), yes}, {of(api.FilterEqual, "cn", "a"), l("b"), no}, {of(api.FilterEqual, "cn", "a"), nil, no}, {of(api.FilterEqual, "cn", ""), l("a"), undef}, {of(api.FilterEqual, "cn", long), nil, undef}, {of(api.FilterEqual, "none", "a"), l("a"), undef},
		{of(api.FilterEqual, "member", "CN=a"), l("x", "cn=A"), yes}, {of(api.FilterEqual, "member", "a"), l("a"), undef}, {of(api.FilterEqual, "uidnumber", "05"), l("05"), undef}, {of(api.FilterEqual, "uidnumber", "5"), l("05"), no}, {of(api.FilterEqual, "userpassword", ""), l(""), yes}, {of(api.FilterEqual, "cn", "a"), l(""), no},
		{of(api.FilterGreater, "uidnumber", "10"), l("9"), no}, {of(api.FilterGreater, "uidnumber", "10"), l("9", "10"), yes}, {of(api.FilterGreater, "uidnumber", "10"), l("11"), yes}, {of(api.FilterGreater, "uidnumber", "x"), l("11"), undef}, {of(api.FilterGreater, "uidnumber", "1"), l("011"), no},
		{of(api.FilterGreater, "member", "cn=a"), l("cn=a"), undef}, {of(api.FilterGreater, "cn", "B"), l("a"), no}, {of(api.FilterGreater, "cn", "B"), l("b"), yes}, {of(api.FilterGreater, "cn", "b"), l("C"), yes}, {of(api.FilterGreater, "cn", "b"), l(""), no},
		{of(api.FilterLess, "uidnumber", "10"), l("9"), yes}, {of(api.FilterLess, "uidnumber", "10"), l("10"), yes}, {of(api.FilterLess, "uidnumber", "10"), l("11"), no}, {of(api.FilterLess, "member", "cn=a"), nil, undef}, {of(api.FilterLess, "cn", ""), l("a"), undef}, {of(api.FilterLess, "cn", "b"), l(""), no}, {of(api.FilterLess, "none", "b"), nil, undef},
		{of(api.FilterSub, "cn", "", "jo", "th"), l("x", "John Smith"), yes}, {of(api.FilterSub, "cn", "", "jo", "x"), l("John Smith"), no}, {of(api.FilterSub, "cn", "", "a"), l("a"), undef}, {of(api.FilterSub, "cn", ""), l("a"), undef}, {of(api.FilterSub, "cn", "", slices.Repeat(l(""), 17)...), l("a"), undef}, {of(api.FilterSub, "cn", "", slices.Repeat(l(""), 16)...), l("a"), yes},
		{of(api.FilterSub, "member", "", "c", ""), l("cn=a"), undef}, {of(api.FilterSub, "uidnumber", "", "1", ""), l("1"), undef}, {of(api.FilterSub, "telephonenumber", "", "1-", "3"), l("12 3"), yes}, {of(api.FilterSub, "userpassword", "", "A", ""), l("a"), no}, {of(api.FilterSub, "none", "", "a", ""), l("a"), undef}, {of(api.FilterSub, "cn", long, "a", ""), l("a"), yes},
		{of(api.FilterAnd, "cn", "a"), l("a"), undef}, {of(api.FilterOr, "cn", ""), l("a"), undef}, {of(api.FilterNot, "cn", ""), l("a"), undef}, {of(8, "cn", "a"), l("a"), undef}, {of(-1, "cn", "a"), l("a"), undef},
	} {
		if got := Item(c.f, c.vals); got != c.want {
			t.Error(i, got)
		}
	}
}

// P17.3: Eval; the example.
func TestEval(t *testing.T) {
	e := api.Entry{Attrs: []api.Attr{{Type: "CN", Vals: []string{"one"}}, {Type: "sn", Vals: []string{"x", "y"}}, {Type: " cn ", Vals: []string{"two"}}, {Type: "mail"}, {Type: "uidnumber", Vals: []string{"7"}}}}
	for s, want := range map[string]int{
		"(!(nothing=x))": undef, "(nothing=*)": undef, "(cn=one)": yes, "(Cn=TWO)": yes, "(cn=x)": no, "(!(cn=x))": yes, "(!(cn=one))": no, "(mail=*)": no, "(l=*)": no, "(l=a)": no, "(!(l=a))": yes, "(sn=*)": yes,
		"(&(cn=one)(sn=y))": yes, "(&(cn=one)(sn=z))": no, "(&(cn=one)(nothing=a))": undef, "(&(cn=x)(nothing=a))": no, "(|(cn=x)(nothing=a))": undef, "(|(cn=one)(nothing=a))": yes, "(|(cn=x)(sn=z))": no,
		"(!(&(nothing=a)(cn=x)))": yes, "(uidnumber>=7)": yes, "(uidnumber<=6)": no, "(uidnumber=07)": undef, "(cn=t*o)": yes, "(cn=)": undef, "(!(cn=))": undef, "(uidnumber=*7)": undef,
	} {
		f, er := filter.Parse(s)
		if er != api.OK {
			t.Fatal(s, er)
		}
		if got := Eval(f, e); got != want {
			t.Error(s, got)
		}
	}
	a := of(api.FilterEqual, "cn", "one")
	round := api.Filter{Kind: api.FilterOr, Kids: []api.Filter{a, a}}
	round.Kids[1] = round
	for i, f := range []api.Filter{
		{}, {Kind: api.FilterOr}, {Kind: api.FilterNot}, {Kind: api.FilterNot, Kids: []api.Filter{a, a}}, of(api.FilterEqual, "cn ", "one"), {Kind: api.FilterOr, Kids: []api.Filter{a, {}}}, of(api.FilterPresent, "cn", "x"), of(9, "cn", "one"), round,
		{Kind: api.FilterOr, Kids: slices.Repeat([]api.Filter{a}, 64)}, of(api.FilterSub, "cn", "", "", ""),
	} {
		if got := Eval(f, e); got != undef {
			t.Error(i, got)
		}
	}
}

// P17.4, W6: what is handed in stays.
func TestOwn(t *testing.T) {
	l := append(make([]int, 0, 4), 5, -1)
	And(l...)
	Or(l...)
	e := api.Entry{Attrs: []api.Attr{{Type: "cn", Vals: append(make([]string, 0, 4), "a")}, {Type: "CN", Vals: []string{"b"}}}}
	if Eval(of(api.FilterEqual, "cn", "b"), e) != yes || e.Attrs[0].Vals[:2][1] != "" || l[0] != 5 || l[1] != -1 {
		t.Error(e, l)
	}
}
