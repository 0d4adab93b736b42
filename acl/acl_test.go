package acl

import (
	"slices"
	"strings"
	"testing"

	"burgess/api"
)

func name(l ...string) []api.Ava {
	var n []api.Ava
	for _, s := range l {
		typ, val, _ := strings.Cut(s, "=")
		n = append(n, api.Ava{Type: typ, Val: val})
	}
	return n
}

// P18.1: which rules may be.
func TestIs(t *testing.T) {
	base := name("o=x")
	for i, r := range []api.Rule{
		{Who: api.AnyOne, Rights: 1}, {Who: api.Users, Base: base, Rights: 15}, {Who: api.Self, Base: base, Rights: 8, Type: "cn", Sub: true, Grant: true}, {Who: api.Named, Name: name("cn=a", "o=x"), Base: base, Rights: 2}, {Who: api.Named, Rights: 4},
	} {
		if !Is(r) || !Check([]api.Rule{r}) {
			t.Error(i)
		}
	}
	wrong := []api.Rule{
		{}, {Rights: -1}, {Rights: 16}, {Rights: 17}, {Rights: 1 << 62}, {Rights: -1 << 63}, {Who: -1, Rights: 1}, {Who: 4, Rights: 1}, {Name: base, Rights: 1}, {Who: api.Users, Name: base, Rights: 1}, {Who: api.Self, Name: base, Rights: 1},
		{Who: api.Named, Name: name("o="), Rights: 1}, {Base: name("=x"), Rights: 1}, {Base: slices.Repeat(base, 13), Rights: 1}, {Type: "c n", Rights: 1}, {Type: " ", Rights: 1},
	}
	for i, r := range wrong {
		if Is(r) || Check([]api.Rule{{Rights: 1}, r}) {
			t.Error(i)
		}
	}
	full := slices.Repeat([]api.Rule{{Rights: 1}}, api.MaxRules)
	if !Check(full) || Check(append(full, api.Rule{Rights: 1})) || !Check(nil) {
		t.Error("how many")
	}
}

// P18.2: May; the example.
func TestMay(t *testing.T) {
	root, none := name("cn=root"), []api.Ava(nil)
	o, u, other := name("o=x"), name("cn=A  b", "o=x"), name("cn=c", "o=x")
	grant := func(r api.Rule) api.Rule { r.Grant = true; return r }
	all := func(l ...api.Rule) []api.Rule { return l }
	for i, c := range []struct {
		rules       []api.Rule
		root        []api.Ava
		who, target []api.Ava
		typ         string
		right       int
		want        bool
	}{
		{nil, root, root, o, "", 1, true}, {nil, root, name("CN= root"), o, "", 8, true}, {nil, root, root, o, "", 3, true}, {nil, root, root, o, "", -7, true}, {nil, root, u, o, "", 1, false}, {nil, none, none, o, "", 1, false},
		{all(api.Rule{Sub: true, Rights: 15}), root, root, o, "", 1, true},
		{all(grant(api.Rule{Base: o, Rights: 3})), root, none, o, "", 1, true}, {all(grant(api.Rule{Base: o, Rights: 3})), root, none, o, "cn", 2, true}, {all(grant(api.Rule{Base: o, Rights: 3})), root, none, o, "", 4, false},
		{all(grant(api.Rule{Base: o, Rights: 15})), root, none, o, "", 3, false}, {all(grant(api.Rule{Base: o, Rights: 15})), root, none, o, "", 0, false}, {all(grant(api.Rule{Base: o, Rights: 15})), root, none, o, "", 16, false}, {all(grant(api.Rule{Base: o, Rights: 15})), root, none, o, "", -1 << 63, false}, {all(grant(api.Rule{Base: o, Rights: 15})), root, none, o, "", -1, false},
		{all(grant(api.Rule{Base: o, Rights: 15})), root, none, u, "", 1, false}, {all(grant(api.Rule{Base: o, Sub: true, Rights: 15})), root, none, u, "", 1, true}, {all(grant(api.Rule{Base: u, Sub: true, Rights: 15})), root, none, o, "", 1, false}, {all(grant(api.Rule{Sub: true, Rights: 15})), root, none, u, "", 1, true}, {all(grant(api.Rule{Rights: 15})), root, none, u, "", 1, false}, {all(grant(api.Rule{Rights: 15})), root, none, none, "", 1, true},
		{all(grant(api.Rule{Who: api.Users, Sub: true, Rights: 1})), root, none, o, "", 1, false}, {all(grant(api.Rule{Who: api.Users, Sub: true, Rights: 1})), root, u, o, "", 1, true},
		{all(grant(api.Rule{Who: api.Self, Sub: true, Rights: 1})), root, u, name("CN=a b", "O=X "), "", 1, true}, {all(grant(api.Rule{Who: api.Self, Sub: true, Rights: 1})), root, u, other, "", 1, false}, {all(grant(api.Rule{Who: api.Self, Sub: true, Rights: 1})), root, none, none, "", 1, false},
		{all(grant(api.Rule{Who: api.Named, Name: name("cn=a b", "o=x"), Sub: true, Rights: 1})), root, u, other, "", 1, true}, {all(grant(api.Rule{Who: api.Named, Name: u, Sub: true, Rights: 1})), root, other, other, "", 1, false}, {all(grant(api.Rule{Who: api.Named, Sub: true, Rights: 1})), root, none, other, "", 1, true}, {all(grant(api.Rule{Who: api.Named, Sub: true, Rights: 1})), root, u, other, "", 1, false},
		{all(grant(api.Rule{Type: "CN", Sub: true, Rights: 1})), root, none, o, " cn", 1, true}, {all(grant(api.Rule{Type: "cn", Sub: true, Rights: 1})), root, none, o, "sn", 1, false}, {all(grant(api.Rule{Type: "cn", Sub: true, Rights: 1})), root, none, o, "", 1, false}, {all(grant(api.Rule{Sub: true, Rights: 1})), root, none, o, "any", 1, true},
		{all(api.Rule{Type: "cn", Sub: true, Rights: 1}, grant(api.Rule{Sub: true, Rights: 15})), root, none, o, "cn", 1, false}, {all(api.Rule{Type: "cn", Sub: true, Rights: 1}, grant(api.Rule{Sub: true, Rights: 15})), root, none, o, "cn", 2, true}, {all(api.Rule{Type: "cn", Sub: true, Rights: 1}, grant(api.Rule{Sub: true, Rights: 15})), root, none, o, "sn", 1, true},
		{all(grant(api.Rule{Sub: true, Rights: 1}), api.Rule{Sub: true, Rights: 1}), root, none, o, "", 1, true},
		{all(api.Rule{Sub: true, Rights: 17}, api.Rule{Who: 9, Sub: true, Rights: 1}, api.Rule{Name: u, Sub: true, Rights: 1}, api.Rule{Type: "?", Sub: true, Rights: 1}, grant(api.Rule{Sub: true, Rights: 1})), root, none, o, "?", 1, true},
	} {
		if got := May(c.rules, c.root, c.who, c.target, c.typ, c.right); got != c.want {
			t.Error(i, got)
		}
	}
}

// P18.3: what is handed in stays.
func TestOwn(t *testing.T) {
	rules := append(make([]api.Rule, 0, 2), api.Rule{Who: api.Named, Name: name("CN=A"), Base: name("O=X"), Type: "CN", Sub: true, Rights: 1, Grant: true})
	root, who, target := name("CN=R"), name("CN= a"), name("CN=T", "O=X")
	if !May(rules, root, who, target, "cn", 1) || !Check(rules) {
		t.Error("may not")
	}
	if rules[0].Type != "CN" || !slices.Equal(rules[0].Name, name("CN=A")) || !slices.Equal(who, name("CN= a")) || !slices.Equal(target, name("CN=T", "O=X")) {
		t.Error(rules, who, target)
	}
}
