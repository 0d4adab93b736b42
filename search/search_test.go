package search

import (
	"slices"
	"strconv"
	"strings"
	"testing"

	"burgess/api"
	"burgess/disk"
	"burgess/dn"
	"burgess/dnkey"
	"burgess/entry"
	"burgess/eval"
	"burgess/filter"
	"burgess/lsm"
	"burgess/tree"
)

func name(t *testing.T, s string) []api.Ava {
	t.Helper()
	n, e := dn.Parse(s)
	if e != api.OK {
		t.Fatal(s, e)
	}
	return n
}

func parse(t *testing.T, s string) api.Filter {
	t.Helper()
	f, e := filter.Parse(s)
	if e != api.OK {
		t.Fatal(s, e)
	}
	return f
}

// grown is a tree of entries of texts: a name, and attributes as "type:value|value".
func grown(t *testing.T, l ...[]string) *tree.Tree {
	t.Helper()
	d, _ := disk.New(1 << 26)
	s, _ := lsm.Open(d)
	x, _ := tree.New(s, name(t, "o=x"))
	for i, row := range l {
		e := api.Entry{DN: name(t, row[0])}
		for _, a := range row[1:] {
			typ, vals, _ := strings.Cut(a, ":")
			e.Attrs = append(e.Attrs, api.Attr{Type: typ, Vals: strings.Split(vals, "|")})
		}
		if code := x.Add(e); code != api.Success {
			t.Fatal(i, code)
		}
		if i%5 == 4 {
			s.Flush()
		}
	}
	return x
}

func sample(t *testing.T) *tree.Tree {
	return grown(t, []string{"o=x", "objectclass:organization", "o:x", "telephonenumber:1-2 34 5"},
		[]string{"ou=a,o=x", "objectclass:organizationalunit", "ou:a", "description:Some words|other"},
		[]string{"cn=Joe Smith,ou=a,o=x", "objectclass:person", "cn:Joe Smith", "sn:Smith", "telephonenumber:12-34", "uidnumber:7", "manager:cn=boss", "userpassword:secret"},
		[]string{"cn=Ann  Smythe,ou=a,o=x", "objectclass:person", "cn:Ann Smythe|Annie", "sn:Smythe", "telephonenumber:234 5", "uidnumber:12", "mail:ann@x"},
		[]string{"cn=Bob,o=x", "objectclass:person", "cn:Bob", "sn:b", "description:some words", "seealso:CN=Boss"})
}

// keysOf is the Keys of names in one line, rising.
func keysOf(t *testing.T, s string) []string {
	t.Helper()
	var out []string
	for _, one := range strings.Split(s, ";") {
		if one != "" {
			out = append(out, dnkey.Key(name(t, one)))
		}
	}
	slices.Sort(out)
	return out
}

const (
	joe = "cn=joe smith,ou=a,o=x;"
	ann = "cn=ann smythe,ou=a,o=x;"
	bob = "cn=bob,o=x;"
	ou  = "ou=a,o=x;"
	o   = "o=x;"
)

// P23.1: Plan; the example.
func TestPlan(t *testing.T) {
	x := sample(t)
	for s, want := range map[string]string{
		"(!(cn=a))": "no", "(cn>=a)": "no", "(cn<=a)": "no", "(cn=*)": joe + ann + bob, "(MAIL=*)": ann, "(l=*)": "", "(none=*)": "", "(objectclass=*)": o + ou + joe + ann + bob,
		"(cn=BOB )": bob, "(cn=annie)": ann, "(cn=none)": "", "(cn=)": "", "(none=a)": "", "(uidnumber=7)": joe, "(uidnumber=07)": "", "(manager=CN=Boss)": joe, "(manager=x)": "", "(telephonenumber=1 234)": joe, "(userpassword=Secret)": "",
		"(cn=*sm*)": "no", "(cn=*smi*)": joe, "(sn=SMY*)": ann, "(cn=*smi*zzz)": "", "(cn=zzz*smi*)": "", "(cn=joe*smith)": joe, "(cn=jo*mi*th)": "no", "(cn=jo*mith)": joe, "(sn=smith*smith)": joe, "(cn=*xx *)": "no", "(cn=* smy*)": ann, "(cn=joe   s*)": joe, "(cn=* joe*)": joe, "(cn=th*smi*)": joe,
		"(telephonenumber=*2-3 4*)": o + joe + ann, "(telephonenumber=*3-4*)": "no", "(telephonenumber=1-2-3*)": o + joe, "(telephonenumber=*---*)": "no", "(userpassword=*secret*)": "no", "(uidnumber=*123*)": "no", "(manager=*boss*)": "no", "(none=*abc*)": "no",
		"(&(cn=*)(mail=*))": ann, "(&(cn=*)(!(mail=*)))": joe + ann + bob, "(&(!(cn=a))(cn>=b))": "no", "(&(!(mail=*))(cn=bob))": bob, "(&(cn=*)(none=*))": "", "(&(cn=*smi*)(sn=*)(cn=*joe*))": joe, "(&(cn=bob)(cn=annie))": "",
		"(|(cn=bob)(mail=*))": ann + bob, "(|(cn=bob)(!(mail=*)))": "no", "(|(none=a)(ou=*))": ou, "(|(cn=bob))": bob, "(|(&(cn=*)(!(sn=a)))(o=x))": o + joe + ann + bob, "(!(&(cn=a)))": "no",
	} {
		got, ok := Plan(x, parse(t, s))
		if want == "no" {
			if ok || got != nil {
				t.Error(s, got)
			}
			continue
		}
		if !ok || !slices.Equal(got, keysOf(t, want)) {
			t.Errorf("%s %q", s, got)
		}
	}
	for i, f := range []api.Filter{{}, {Kind: api.FilterNot}, {Kind: 9}, {Kind: api.FilterEqual, Type: "cn ", Val: "bob"}, {Kind: api.FilterNot, Kids: []api.Filter{{}}}} {
		if got, ok := Plan(x, f); len(got) != 0 || !ok {
			t.Error(i, got, ok)
		}
	}
}

func names(l []api.Entry) string {
	s := ""
	for _, e := range l {
		s += dn.Print(dn.Norm(e.DN)) + ";"
	}
	return s
}

// P23.2: Find, in the order of its errors, and what it finds.
func TestFind(t *testing.T) {
	x := sample(t)
	for i, c := range []struct {
		base  []api.Ava
		scope int
		f     api.Filter
		code  api.Code
	}{
		{[]api.Ava{{Type: "o"}}, 9, api.Filter{}, api.InvalidDN}, {slices.Repeat(name(t, "o=x"), 13), 9, api.Filter{}, api.InvalidDN}, {nil, 9, api.Filter{}, api.NoObject}, {name(t, "o=y"), 9, api.Filter{}, api.NoObject},
		{name(t, "o=x"), 3, parse(t, "(cn=*)"), api.Protocol}, {name(t, "o=x"), -1, parse(t, "(cn=*)"), api.Protocol}, {name(t, "o=x"), 2, api.Filter{}, api.Protocol}, {name(t, "o=x"), 0, api.Filter{Kind: 9}, api.Protocol},
	} {
		if l, code := Find(x, c.base, c.scope, c.f); l != nil || code != c.code {
			t.Error(i, code)
		}
	}
	for i, c := range []struct {
		base  string
		scope int
		f     string
		want  string
	}{
		{"o=x", api.ScopeSub, "(objectclass=*)", o + bob + ou + ann + joe}, {"O= X", api.ScopeOne, "(objectclass=*)", bob + ou}, {"o=x", api.ScopeBase, "(objectclass=*)", o}, {"ou=a,o=x", api.ScopeOne, "(cn=*)", ann + joe}, {"ou=a,o=x", api.ScopeSub, "(cn=*sm*)", ann + joe},
		{"ou=a,o=x", api.ScopeBase, "(cn=*)", ""}, {"o=x", api.ScopeSub, "(!(cn=*))", o + ou}, {"o=x", api.ScopeSub, "(uidnumber>=8)", ann}, {"o=x", api.ScopeSub, "(!(uidnumber<=8))", o + bob + ou + ann}, {"o=x", api.ScopeSub, "(!(none=a))", ""}, {"o=x", api.ScopeSub, "(cn=th*smi*)", ""},
		{"o=x", api.ScopeSub, "(description=some*words)", bob + ou}, {"cn=bob,o=x", api.ScopeOne, "(cn=*)", ""}, {"cn=bob,o=x", api.ScopeSub, "(cn=*)", bob}, {"o=x", api.ScopeSub, "(telephonenumber=12*5)", o}, {"o=x", api.ScopeSub, "(seealso=cn=boss)", bob},
	} {
		l, code := Find(x, name(t, c.base), c.scope, parse(t, c.f))
		if code != api.Success || names(l) != c.want {
			t.Error(i, code, names(l))
		}
	}
}

// draws is numbers that look drawn.
type draws uint64

func (d *draws) next(n int) int {
	*d = *d*6364136223846793005 + 1442695040888963407
	return int(*d>>33) % n
}

func (d *draws) of(l ...string) string { return l[d.next(len(l))] }

func (d *draws) filter(deep int) string {
	typ := d.of("cn", "sn", "mail", "telephonenumber", "uidnumber", "manager", "userpassword", "none")
	val := d.of("abc", "abcd", "bcab", "12-34", "123", "7", "cn=a", "a b  c", "abcabc")
	switch k := d.next(10); {
	case k == 0 && deep < 4:
		return "(!" + d.filter(deep+1) + ")"
	case k < 3 && deep < 4:
		return "(&" + d.filter(deep+1) + d.filter(deep+1) + ")"
	case k < 5 && deep < 4:
		return "(|" + d.filter(deep+1) + d.filter(deep+1) + ")"
	case k == 5:
		return "(" + typ + "=*)"
	case k == 6:
		return "(" + typ + d.of(">=", "<=") + val + ")"
	case k == 7:
		return "(" + typ + "=" + val + ")"
	}
	return "(" + typ + "=" + d.of("", val) + "*" + val + d.of("", "*") + ")"
}

// P23.2, P23.3, P0.3: an indexed search tells just those of whom the filter says so; whoever fits is in the Plan.
func TestIndexed(t *testing.T) {
	x := draws(5)
	rows := [][]string{{"o=x", "objectclass:organization", "o:x"}}
	for i := range 40 {
		cn := x.of("abc", "Abcd", "bcab", "a B c", "abc abc") + strconv.Itoa(i)
		row := []string{"cn=" + cn + ",o=x", "objectclass:person", "cn:" + cn, "sn:" + x.of("abc", "bcd", "x")}
		for _, typ := range []string{"mail", "telephonenumber", "uidnumber", "manager", "userpassword"} {
			if x.next(2) == 0 {
				val := x.of("abcd", "bcabc", "ab") + "|" + x.of("ABC", "cab")
				switch typ {
				case "telephonenumber":
					val = x.of("12 34", "1-234", "23")
				case "uidnumber":
					val = x.of("7", "123", "-5")
				case "manager":
					val = x.of("cn=A", "cn=b")
				}
				row = append(row, typ+":"+val)
			}
		}
		rows = append(rows, row)
	}
	tr := grown(t, rows...)
	base := name(t, "o=x")
	all := tr.Entries(base, api.ScopeSub)
	planned, found := 0, 0
	for range 3000 {
		f := parse(t, x.filter(1))
		plan, ok := Plan(tr, f)
		if !slices.IsSorted(plan) || len(slices.Compact(slices.Clone(plan))) != len(plan) {
			t.Fatal(plan)
		}
		var want []api.Entry
		for _, e := range all {
			if eval.Eval(f, e) != api.True {
				continue
			}
			want = append(want, e)
			if _, in := slices.BinarySearch(plan, dnkey.Key(e.DN)); ok && !in {
				t.Fatal(filter.Print(f), dn.Print(e.DN), "is not in the plan")
			}
		}
		got, code := Find(tr, base, api.ScopeSub, f)
		if code != api.Success || !slices.EqualFunc(got, want, entry.Same) {
			t.Fatal(filter.Print(f), names(got), names(want))
		}
		if ok {
			planned++
		}
		found += len(got)
	}
	if planned < 500 || found < 1000 {
		t.Error(planned, found)
	}
}

// P23.3, W6, W8: answers are memory of their own; a nil Tree.
func TestOwn(t *testing.T) {
	x := sample(t)
	f := parse(t, "(&(cn=*)(sn=smi*))")
	for range 2 {
		l, _ := Find(x, name(t, "o=x"), api.ScopeSub, f)
		p, _ := Plan(x, f)
		if names(l) != joe || !slices.Equal(p, keysOf(t, joe)) {
			t.Error(names(l), p)
		}
		l[0].Attrs[1].Vals[0], p[0] = "z", "z"
		_, _ = append(l, api.Entry{}), append(p, "q")
	}
	if filter.Print(f) != "(&(cn=*)(sn=smi*))" {
		t.Error(f)
	}
	for i, f := range []api.Filter{f, parse(t, "(!(cn=a))"), {}} {
		if l, ok := Plan(nil, f); len(l) != 0 || !ok {
			t.Error(i, l)
		}
	}
	if l, code := Find(nil, nil, 0, f); l != nil || code != api.NoObject {
		t.Error(code)
	}
	if l, code := Find(nil, []api.Ava{{Type: "o"}}, 0, f); l != nil || code != api.InvalidDN {
		t.Error(code)
	}
}
