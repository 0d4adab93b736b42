package tree

import (
	"maps"
	"slices"
	"strconv"
	"strings"
	"testing"

	"burgess/api"
	"burgess/disk"
	"burgess/dn"
	"burgess/dnkey"
	"burgess/entry"
	"burgess/index"
	"burgess/lsm"
	"burgess/octet"
)

func name(t *testing.T, s string) []api.Ava {
	t.Helper()
	n, e := dn.Parse(s)
	if e != api.OK {
		t.Fatal(s, e)
	}
	return n
}

// made is an entry of texts: its name, and attributes as "type:value|value".
func made(t *testing.T, dn string, attrs ...string) api.Entry {
	t.Helper()
	e := api.Entry{DN: name(t, dn)}
	for _, s := range attrs {
		typ, vals, _ := strings.Cut(s, ":")
		e.Attrs = append(e.Attrs, api.Attr{Type: typ, Vals: strings.Split(vals, "|")})
	}
	return e
}

func unit(t *testing.T, s string) api.Entry {
	t.Helper()
	n := name(t, s)
	class := map[string]string{"o": "organization", "ou": "organizationalunit", "dc": "domain", "uid": "account"}[strings.ToLower(n[0].Type)]
	e := api.Entry{DN: n, Attrs: []api.Attr{{Type: "objectclass", Vals: []string{class}}, {Type: n[0].Type, Vals: []string{n[0].Val}}}}
	return e
}

func person(t *testing.T, s string, attrs ...string) api.Entry {
	t.Helper()
	n := name(t, s)
	return made(t, s, append([]string{"objectClass:person|top", "cn:" + n[0].Val, "sn:Smith"}, attrs...)...)
}

func room(t *testing.T) *disk.Disk {
	t.Helper()
	d, e := disk.New(1 << 26)
	if e != api.OK {
		t.Fatal(e)
	}
	return d
}

func open(t *testing.T, d *disk.Disk) *Tree {
	t.Helper()
	s, e := lsm.Open(d)
	if e != api.OK {
		t.Fatal(e)
	}
	x, e := New(s, name(t, "o=x"))
	if e != api.OK {
		t.Fatal(e)
	}
	return x
}

func want(t *testing.T, code, got api.Code) {
	t.Helper()
	if got != code {
		t.Fatalf("%d, not %d", got, code)
	}
}

// small is a tree of few entries.
func small(t *testing.T) *Tree {
	t.Helper()
	x := open(t, room(t))
	for _, e := range []api.Entry{unit(t, "o=x"), unit(t, "ou=A,o=x"), unit(t, "ou=b,o=x"), person(t, "cn=Joe,ou=a,o=x", "mail:joe@x|j@x", "userpassword:s"), unit(t, "uid=u,ou=a,o=x")} {
		want(t, api.Success, x.Add(e))
	}
	checkAll(t, x)
	return x
}

// all is all entries, by Keys.
func all(x *Tree) []api.Entry { return x.Entries(nil, api.ScopeSub) }

func names(l []api.Entry) string {
	var out []string
	for _, e := range l {
		out = append(out, dn.Print(e.DN))
	}
	return strings.Join(out, " ")
}

// checkAll holds all rows of the store against those that its entries ask: P22.6.
func checkAll(t *testing.T, x *Tree) {
	t.Helper()
	rows := map[string]string{}
	kids := map[string]int{}
	l := all(x)
	for _, e := range l {
		key := dnkey.Key(e.DN)
		rows["d"+key], _ = entry.Encode(e)
		for _, k := range index.Keys(e) {
			rows[k] = ""
		}
		if dn.Same(e.DN, x.suffix) {
			continue
		}
		kids[dnkey.Key(dn.Up(e.DN))]++
		if _, ok := x.Get(dn.Up(e.DN)); !ok {
			t.Fatal(dn.Print(e.DN), "has no up")
		}
	}
	for key, n := range kids {
		var w octet.Writer
		w.Nums(n)
		rows["c"+key] = string(w.Out())
	}
	got := map[string]string{}
	for _, r := range x.Store().Scan("", "", 0) {
		got[r.Key] = r.Val
	}
	if !maps.Equal(got, rows) {
		for k, v := range got {
			if w, ok := rows[k]; !ok || w != v {
				t.Errorf("there: %q %q", k, v)
			}
		}
		for k := range rows {
			if _, ok := got[k]; !ok {
				t.Errorf("not there: %q", k)
			}
		}
		t.FailNow()
	}
}

// The example.
func TestExample(t *testing.T) {
	x := open(t, room(t))
	want(t, api.Success, x.Add(unit(t, "o=x")))
	want(t, api.Success, x.Add(unit(t, "ou=a,o=x")))
	want(t, api.NonLeaf, x.Delete(name(t, "o=x")))
	if n := x.Kids(name(t, "O=X")); n != 1 {
		t.Error(n)
	}
}

// P22.1: New, Get, Kids, Entries, Found, Store.
func TestReads(t *testing.T) {
	s, _ := lsm.Open(room(t))
	for i, c := range []struct {
		s *lsm.Store
		n []api.Ava
	}{{nil, name(t, "o=x")}, {s, nil}, {s, []api.Ava{{Type: "o"}}}, {s, slices.Repeat(name(t, "o=x"), 13)}} {
		if x, e := New(c.s, c.n); x != nil || e != api.ErrArg {
			t.Error(i, e)
		}
	}
	x := small(t)
	if e, ok := x.Get(name(t, "CN= joe ,OU=A,O=x")); !ok || !entry.Same(e, person(t, "cn=Joe,ou=a,o=x", "mail:joe@x|j@x", "userpassword:s")) {
		t.Error(e)
	}
	for _, n := range [][]api.Ava{nil, name(t, "o=y"), name(t, "cn=joe"), {{Type: "", Val: ""}}, {{Type: "o=x\x00\x01ou", Val: "a"}}} {
		if e, ok := x.Get(n); ok || !entry.Same(e, api.Entry{}) || x.Kids(n) != 0 || len(x.Entries(n, api.ScopeBase)) != 0 {
			t.Error(n, e)
		}
	}
	for s, n := range map[string]int{"o=x": 2, "ou=a,o=x": 2, "OU=B,o=x": 0, "cn=joe,ou=a,o=x": 0} {
		if got := x.Kids(name(t, s)); got != n {
			t.Error(s, got)
		}
	}
	for _, c := range []struct {
		base  string
		scope int
		want  string
	}{
		{"o=X", api.ScopeBase, "o=x"}, {"o=X", api.ScopeOne, "ou=A,o=x ou=b,o=x"}, {"o=X", api.ScopeSub, "o=x ou=A,o=x cn=Joe,ou=a,o=x uid=u,ou=a,o=x ou=b,o=x"},
		{"ou=a,o=x", api.ScopeOne, "cn=Joe,ou=a,o=x uid=u,ou=a,o=x"}, {"ou=b,o=x", api.ScopeOne, ""}, {"ou=b,o=x", api.ScopeSub, "ou=b,o=x"}, {"ou=c,o=x", api.ScopeSub, ""},
		{"", api.ScopeBase, ""}, {"", api.ScopeOne, "o=x"}, {"o=x", 3, ""}, {"o=x", -1, ""}, {"o=x", 1 << 62, ""},
	} {
		if got := names(x.Entries(name(t, c.base), c.scope)); got != c.want {
			t.Error(c, got)
		}
	}
	joe := dnkey.Key(name(t, "cn=joe,ou=a,o=x"))
	if got := x.Found(index.Equal("mail", "j@x")); !slices.Equal(got, []string{joe}) {
		t.Error(got)
	}
	if got := x.Found(index.Present("ou")); !slices.Equal(got, []string{dnkey.Key(name(t, "ou=a,o=x")), dnkey.Key(name(t, "ou=b,o=x"))}) {
		t.Error(got)
	}
	if got := x.Found(""); len(got) != len(x.Store().Scan("", "", 0)) || !slices.IsSorted(got) {
		t.Error(got)
	}
	if got := x.Found("d"); len(got) != 5 {
		t.Error(got)
	}
	for _, s := range []string{"\xff", "\xff\xff", "pou\x00\xff", "zz"} {
		if got := x.Found(s); len(got) != 0 {
			t.Error(got)
		}
	}
}

// P22.1: Found is all that begin so, and no others.
func TestFound(t *testing.T) {
	s, _ := lsm.Open(room(t))
	x, _ := New(s, name(t, "o=x"))
	var keys []string
	for _, a := range []string{"a", "b", "\xff", "a\xff", "a\xff\xff"} {
		for _, b := range []string{"", "a", "\x00", "\xff", "\xff\xff"} {
			keys = append(keys, a+b)
			if e := s.Write([]api.Row{{Key: a + b}}); e != api.OK {
				t.Fatal(e)
			}
		}
	}
	slices.Sort(keys)
	keys = slices.Compact(keys)
	for _, begin := range append(slices.Clone(keys), "", "c", "a\xfe") {
		var want []string
		for _, k := range keys {
			if rest, ok := strings.CutPrefix(k, begin); ok {
				want = append(want, rest)
			}
		}
		if got := x.Found(begin); !slices.Equal(got, want) {
			t.Errorf("%q %q %q", begin, got, want)
		}
	}
}

// P22.2: Add, in the order of its errors.
func TestAdd(t *testing.T) {
	x := small(t)
	before := x.Store().Scan("", "", 0)
	long := strings.Repeat("v", api.MaxValue+1)
	for i, c := range []struct {
		e    api.Entry
		want api.Code
	}{
		{api.Entry{}, api.InvalidDN}, {api.Entry{DN: []api.Ava{{Type: "o"}}}, api.InvalidDN}, {api.Entry{DN: slices.Repeat(name(t, "o=x"), 13)}, api.InvalidDN},
		{made(t, "o=y"), api.NoObject}, {made(t, "o=x,o=y"), api.NoObject}, {made(t, "ou=A,o=X"), api.EntryExists}, {made(t, "o=x"), api.EntryExists}, {made(t, "cn=a,ou=c,o=x", "objectclass:"+long), api.NoObject},
		{made(t, "cn=a,ou=b,o=x", "none:"+long), api.Constraint}, {api.Entry{DN: name(t, "cn=a,ou=b,o=x"), Attrs: []api.Attr{{Type: "cn"}}}, api.Constraint},
		{person(t, "cn=a,o=x", "none:a"), api.UndefinedType}, {made(t, "cn=a,o=x", "cn:a"), api.ObjectClass}, {person(t, "cn=a,o=x", "uidnumber:1|x"), api.Constraint}, {person(t, "cn=a,o=x", "dc:a", "uidnumber:x"), api.ObjectClass}, {person(t, "uid=a,o=x", "uidnumber:x"), api.Naming},
		{person(t, "cn=a,o=x", "uidnumber:x"), api.InvalidSyntax}, {person(t, "cn=a,o=x", "mail:q|Q", "uidnumber:x"), api.InvalidSyntax}, {person(t, "cn=a,o=x", "mail:q|q "), api.ValueExists}, {person(t, "cn=a,o=x", "mail:"), api.InvalidSyntax}, {person(t, "cn=a,o=x", "manager:x"), api.InvalidSyntax}, {person(t, "cn=a,o=x", "manager:cn=A|CN= a"), api.ValueExists},
	} {
		if got := x.Add(c.e); got != c.want || !slices.Equal(x.Store().Scan("", "", 0), before) {
			t.Error(i, got)
		}
	}
	e := person(t, "CN=  new One ,Ou=B,o=X", "Mail:q|r", "uidNumber:-7")
	want(t, api.Success, x.Add(e))
	checkAll(t, x)
	if got, ok := x.Get(name(t, "cn=new one,ou=b,o=x")); !ok || !entry.Same(got, e) {
		t.Error(got)
	}
	empty := open(t, room(t))
	want(t, api.NoObject, empty.Add(unit(t, "ou=a,o=x")))
	want(t, api.Success, empty.Add(unit(t, "o=X ")))
	checkAll(t, empty)
	s, _ := lsm.Open(room(t))
	deep, _ := New(s, name(t, "ou=a,o=x"))
	want(t, api.NoObject, deep.Add(unit(t, "o=x")))
	want(t, api.Success, deep.Add(unit(t, "OU=A,o=x")))
	want(t, api.Success, deep.Add(unit(t, "ou=c,ou=a,o=x")))
	checkAll(t, deep)
	if deep.Kids(name(t, "o=x")) != 0 || names(all(deep)) != "OU=A,o=x ou=c,ou=a,o=x" {
		t.Error(names(all(deep)))
	}
}

// P22.2: an entry whose rows are too many, or too long, is refused.
func TestUnwilling(t *testing.T) {
	x := small(t)
	before := x.Store().Scan("", "", 0)
	var vals []string
	for i := range 16 {
		s := ""
		for k := range 64 {
			s += string([]byte{byte('a' + i), byte('a' + k%26), byte('a' + k/26*7)})
		}
		vals = append(vals, s)
	}
	want(t, api.Unwilling, x.Add(person(t, "cn=big,o=x", "mail:"+strings.Join(vals, "|"))))
	want(t, api.Unwilling, x.Modify(name(t, "cn=joe,ou=a,o=x"), []api.Mod{{Kind: api.ModReplace, Type: "mail", Vals: vals}}))
	if !slices.Equal(x.Store().Scan("", "", 0), before) {
		t.Error("something changed")
	}
	e := person(t, "cn=big,o=x")
	for _, typ := range []string{"userpassword", "description", "title", "mail", "telephonenumber"} {
		a := api.Attr{Type: typ}
		for i := range 16 {
			a.Vals = append(a.Vals, strings.Repeat("1", 200)+strconv.Itoa(i))
		}
		e.Attrs = append(e.Attrs, a)
	}
	want(t, api.Unwilling, x.Add(e)) // its bytes are a Val that may not be
	checkAll(t, x)
}

// P22.3: Delete.
func TestDelete(t *testing.T) {
	x := small(t)
	for s, code := range map[string]api.Code{"": api.InvalidDN, "o=y": api.NoObject, "cn=joe,o=x": api.NoObject, "o=x": api.NonLeaf, "ou=a,o=x": api.NonLeaf} {
		want(t, code, x.Delete(name(t, s)))
	}
	want(t, api.InvalidDN, x.Delete([]api.Ava{{Type: "o"}}))
	for _, s := range []string{"UID=U,ou=a,o=x", "cn=joe,ou=A,o=x", "ou=a,o=x", "ou=b,o=x", "o=x"} {
		want(t, api.Success, x.Delete(name(t, s)))
		checkAll(t, x)
	}
	if got := x.Store().Scan("", "", 0); len(got) != 0 {
		t.Error(got)
	}
	want(t, api.NoObject, x.Delete(name(t, "o=x")))
}

func mod(kind int, typ string, vals ...string) api.Mod {
	return api.Mod{Kind: kind, Type: typ, Vals: vals}
}

// text is an entry's attributes in one line.
func text(e api.Entry) string {
	s := ""
	for _, a := range e.Attrs {
		s += a.Type + ":" + strings.Join(a.Vals, "|") + " "
	}
	return s
}

// P22.4: Modify.
func TestModify(t *testing.T) {
	const add, del, rep = api.ModAdd, api.ModDelete, api.ModReplace
	base := "objectClass:person|top cn:Joe sn:Smith mail:joe@x|j@x userpassword:s "
	many := make([]string, 17)
	for i := range many {
		many[i] = "v" + strconv.Itoa(i)
	}
	for i, c := range []struct {
		mods []api.Mod
		want string // attributes, or a code
	}{
		{nil, base},
		{[]api.Mod{mod(add, "MAIL", "Q")}, strings.Replace(base, "j@x", "j@x|Q", 1)},
		{[]api.Mod{mod(add, "Title", "a", "B")}, base + "Title:a|B "},
		{[]api.Mod{mod(add, "title", "a"), mod(add, "TITLE", "b"), mod(rep, "Mail", "c")}, strings.Replace(base, "joe@x|j@x", "c", 1) + "title:a|b "},
		{[]api.Mod{mod(del, "mail", "J@X ")}, strings.Replace(base, "|j@x", "", 1)},
		{[]api.Mod{mod(del, "mail", "j@x", "JOE@x")}, strings.Replace(base, "mail:joe@x|j@x ", "", 1)},
		{[]api.Mod{mod(del, "mail")}, strings.Replace(base, "mail:joe@x|j@x ", "", 1)},
		{[]api.Mod{mod(del, "mail"), mod(add, "MAIL", "n")}, strings.Replace(base, "mail:joe@x|j@x ", "", 1) + "MAIL:n "},
		{[]api.Mod{mod(rep, "mail")}, strings.Replace(base, "mail:joe@x|j@x ", "", 1)},
		{[]api.Mod{mod(rep, "title")}, base},
		{[]api.Mod{mod(rep, "title", "a"), mod(rep, "mail", "m")}, strings.Replace(base, "joe@x|j@x", "m", 1) + "title:a "},
		{[]api.Mod{mod(rep, "cn", "x", " JOE")}, strings.Replace(base, "cn:Joe", "cn:x| JOE", 1)},
		{[]api.Mod{mod(add, "cn", "x"), mod(del, "cn", "x")}, base},
		{[]api.Mod{mod(del, "userpassword", "s"), mod(add, "userpassword", "S", "s")}, strings.Replace(base, "userpassword:s ", "userpassword:S|s ", 1)},
		{[]api.Mod{mod(rep, "uidnumber", "1", "2"), mod(rep, "uidnumber", "2")}, base + "uidnumber:2 "},
		{[]api.Mod{mod(rep, "title", "a", "A"), mod(del, "title", "a")}, base},
		{[]api.Mod{mod(rep, "OBJECTCLASS", "person")}, strings.Replace(base, "|top", "", 1)},
		{[]api.Mod{mod(add, "objectclass", "account"), mod(add, "uid", "u")}, strings.Replace(base, "|top", "|top|account", 1) + "uid:u "},
		{[]api.Mod{mod(rep, "uidnumber", "x", "7"), mod(del, "uidnumber", "7"), mod(rep, "uidnumber")}, base},

		{[]api.Mod{mod(9, "none")}, "17"}, {[]api.Mod{mod(add, "none", "a")}, "17"}, {[]api.Mod{mod(9, "mail")}, "2"}, {[]api.Mod{mod(-1, "mail")}, "2"}, {[]api.Mod{mod(add, "mail", "j@x"), mod(add, "none")}, "20"},
		{[]api.Mod{mod(add, "mail")}, "19"}, {[]api.Mod{mod(add, "title")}, "19"}, {[]api.Mod{mod(add, "mail", "J@X")}, "20"}, {[]api.Mod{mod(add, "title", "a", "A "), mod(add, "none")}, "20"}, {[]api.Mod{mod(add, "mail", "j@x", "")}, "21"}, {[]api.Mod{mod(add, "uidnumber", "x")}, "21"},
		{[]api.Mod{mod(del, "title")}, "16"}, {[]api.Mod{mod(del, "title", "a")}, "16"}, {[]api.Mod{mod(del, "title", "")}, "21"}, {[]api.Mod{mod(del, "mail", "none")}, "16"}, {[]api.Mod{mod(del, "mail", "j@x", "J@x")}, "16"}, {[]api.Mod{mod(del, "mail", "none", "")}, "21"}, {[]api.Mod{mod(rep, "title", "a", "A"), mod(del, "title", "a", "a")}, "16"},
		{[]api.Mod{mod(rep, "cn", "x"), mod(rep, "none")}, "17"}, {[]api.Mod{mod(rep, "cn", "x"), mod(rep, "mail", many...)}, "67"}, {[]api.Mod{mod(del, "cn")}, "67"}, {[]api.Mod{mod(del, "cn", "joe")}, "67"}, {[]api.Mod{mod(rep, "mail", many...), mod(rep, "dc", "a")}, "19"},
		{[]api.Mod{mod(add, " title ", "a")}, "19"}, {[]api.Mod{mod(rep, "dc", "a"), mod(rep, "mail", "")}, "65"}, {[]api.Mod{mod(del, "sn")}, "65"}, {[]api.Mod{mod(del, "objectclass")}, "65"}, {[]api.Mod{mod(rep, "objectclass", "none")}, "17"}, {[]api.Mod{mod(rep, "uidnumber", "1", "2")}, "19"}, {[]api.Mod{mod(add, "uidnumber", "1"), mod(add, "uidnumber", "2")}, "19"},
		{[]api.Mod{mod(rep, "mail", "a", "A"), mod(rep, "uidnumber", "x")}, "21"}, {[]api.Mod{mod(rep, "mail", "a", "A")}, "20"}, {[]api.Mod{mod(rep, "mail", strings.Repeat("v", api.MaxValue+1))}, "19"},
	} {
		x := small(t)
		before := x.Store().Scan("", "", 0)
		n := name(t, "cn=JOE,ou=A,o=x")
		code := x.Modify(n, c.mods)
		e, _ := x.Get(n)
		if num, err := strconv.Atoi(c.want); err == nil {
			if int(code) != num || !slices.Equal(x.Store().Scan("", "", 0), before) {
				t.Error(i, code)
			}
			continue
		}
		if code != api.Success || text(e) != c.want || dn.Print(e.DN) != "cn=Joe,ou=a,o=x" {
			t.Error(i, code, text(e))
		}
		checkAll(t, x)
	}
	x := small(t)
	for s, code := range map[string]api.Code{"": api.InvalidDN, "o=y": api.NoObject} {
		want(t, code, x.Modify(name(t, s), []api.Mod{mod(9, "none")}))
	}
	want(t, api.InvalidDN, x.Modify([]api.Ava{{Type: "o"}}, nil))
	want(t, api.Success, x.Modify(name(t, "o=x"), []api.Mod{mod(add, "description", "d")}))
	checkAll(t, x)
}

// P22: of what is so already nothing is written.
func TestNoRows(t *testing.T) {
	x := small(t)
	n := name(t, "cn=joe,ou=a,o=x")
	seq := x.Store().Seq()
	want(t, api.Success, x.Modify(n, nil))
	want(t, api.Success, x.Modify(n, []api.Mod{mod(api.ModReplace, "sn", "Smith")}))
	want(t, api.Success, x.Rename(n, api.Ava{Type: "cn", Val: "Joe"}, true, name(t, "ou=a,o=x")))
	if x.Store().Seq() != seq {
		t.Error("something was written")
	}
	want(t, api.Success, x.Modify(n, []api.Mod{mod(api.ModReplace, "sn", "smith")})) // the entry alone
	if x.Store().Seq() != seq+1 {
		t.Error("nothing was written")
	}
}

// P22.5: Rename, in the order of its errors.
func TestRename(t *testing.T) {
	ava := func(typ, val string) api.Ava { return api.Ava{Type: typ, Val: val} }
	for i, c := range []struct {
		n    string
		part api.Ava
		keep bool
		up   string
		want string // the code, and the entry's attributes
	}{
		{"cn=joe,ou=a,o=x", ava("cn", "Jim"), false, "ou=a,o=x", "0 objectClass:person|top cn:Jim sn:Smith mail:joe@x|j@x userpassword:s "},
		{"cn=joe,ou=a,o=x", ava("CN", "Jim"), true, "Ou=B,o=x", "0 objectClass:person|top cn:Joe|Jim sn:Smith mail:joe@x|j@x userpassword:s "},
		{"cn=joe,ou=a,o=x", ava("sn", "SMITH"), true, "o=x", "0 objectClass:person|top cn:Joe sn:Smith mail:joe@x|j@x userpassword:s "},
		{"cn=joe,ou=a,o=x", ava("Title", "T"), true, "o=x", "0 objectClass:person|top cn:Joe sn:Smith mail:joe@x|j@x userpassword:s Title:T "},
		{"cn=joe,ou=a,o=x", ava("mail", "J@X"), true, "ou=a,o=x", "0 objectClass:person|top cn:Joe sn:Smith mail:joe@x|j@x userpassword:s "},
		{"cn=joe,ou=a,o=x", ava("CN", "JOE"), false, "ou=a,o=x", "0 objectClass:person|top cn:Joe sn:Smith mail:joe@x|j@x userpassword:s "},
		{"cn=joe,ou=a,o=x", ava("sn", "smith"), false, "ou=a,o=x", "65"},
		{"uid=u,ou=a,o=x", ava("uid", "v"), false, "o=x", "0 objectclass:account uid:v "},
		{"ou=a,o=x", ava("ou", "z"), false, "ou=b,o=x", "0 objectclass:organizationalunit ou:z "},
		{"ou=a,o=x", ava("OU", "a"), false, "o=x", "0 objectclass:organizationalunit ou:A "},

		{"", ava("cn", "a"), false, "ou=none,o=x", "34"}, {"ou=none,o=x", ava("", "a"), false, "o=x", "34"}, {"ou=none,o=x", ava("cn", ""), false, "o=x", "34"}, {"ou=none,o=x", ava("cn", "a"), false, "a=1,a=2,a=3,a=4,a=5,a=6,a=7,a=8,a=9,a=10,a=11,a=12", "34"},
		{"ou=none,o=x", ava("ou", "a"), false, "o=x", "32"}, {"o=x", ava("o", "y"), false, "", "53"}, {"o=x", ava("o", "x"), true, "o=none", "53"}, {"ou=a,o=x", ava("o", "y"), false, "", "32"}, {"ou=a,o=x", ava("o", "x"), false, "", "32"}, {"ou=a,o=x", ava("ou", "a"), false, "ou=none,o=x", "32"},
		{"ou=a,o=x", ava("ou", "c"), false, "OU=A,o=x", "53"}, {"ou=a,o=x", ava("ou", "c"), false, "cn=joe,ou=a,o=x", "53"}, {"ou=b,o=x", ava("ou", "A "), false, "o=x", "68"}, {"cn=joe,ou=a,o=x", ava("uid", "U"), false, "ou=a,o=x", "68"},
		{"cn=joe,ou=a,o=x", ava("none", "a"), false, "o=x", "17"}, {"cn=joe,ou=a,o=x", ava("dc", "a"), false, "o=x", "65"}, {"cn=joe,ou=a,o=x", ava("uidnumber", "x"), true, "o=x", "21"}, {"ou=b,o=x", ava("description", " "), true, "o=x", "0 objectclass:organizationalunit ou:b description:  "},
	} {
		x := small(t)
		before := x.Store().Scan("", "", 0)
		to := append([]api.Ava{c.part}, name(t, c.up)...)
		code := x.Rename(name(t, c.n), c.part, c.keep, name(t, c.up))
		num, attrs, moved := strings.Cut(c.want, " ")
		if strconv.Itoa(int(code)) != num {
			t.Error(i, code)
			continue
		}
		if !moved {
			if !slices.Equal(x.Store().Scan("", "", 0), before) {
				t.Error(i, "something changed")
			}
			continue
		}
		e, ok := x.Get(to)
		if !ok || text(e) != attrs || !slices.Equal(e.DN, to) || len(all(x)) != 5 {
			t.Error(i, text(e), e.DN)
		}
		checkAll(t, x)
	}
}

// P22.5: the elder value goes by its own type's syntax, the new one comes by its own.
func TestRenameSyntax(t *testing.T) {
	x := small(t)
	want(t, api.Success, x.Add(made(t, "mail=JOE@X,o=x", "objectclass:person", "cn:a", "sn:b", "mail:joe@x|other", "telephonenumber:1 2")))
	n, up := name(t, "mail=joe@x,o=x"), name(t, "o=x")
	want(t, api.Naming, x.Rename(n, api.Ava{Type: "telephoneNumber", Val: "1-2"}, false, up)) // Equal, but not as it is Folded
	want(t, api.Success, x.Rename(n, api.Ava{Type: "telephoneNumber", Val: "1  2"}, false, up))
	checkAll(t, x)
	if e, ok := x.Get(name(t, "telephonenumber=1 2,o=x")); !ok || text(e) != "objectclass:person cn:a sn:b mail:other telephonenumber:1 2 " {
		t.Error(text(e))
	}
}

// P22.5: all below goes with it, with names that end anew; kids are counted anew.
func TestRenameBelow(t *testing.T) {
	x := small(t)
	want(t, api.Success, x.Add(unit(t, "ou=Deep,UID=u,ou=a,o=x")))
	want(t, api.Success, x.Rename(name(t, "ou=a,o=x"), api.Ava{Type: "ou", Val: "Z"}, true, name(t, "OU=b,o=X")))
	checkAll(t, x)
	if got := names(all(x)); got != "o=x ou=b,o=x ou=Z,OU=b,o=X cn=Joe,ou=Z,OU=b,o=X uid=u,ou=Z,OU=b,o=X ou=Deep,UID=u,ou=Z,OU=b,o=X" {
		t.Error(got)
	}
	if x.Kids(name(t, "o=x")) != 1 || x.Kids(name(t, "ou=b,o=x")) != 1 || x.Kids(name(t, "ou=z,ou=b,o=x")) != 2 || x.Kids(name(t, "uid=u,ou=z,ou=b,o=x")) != 1 {
		t.Error("kids")
	}
	want(t, api.Success, x.Rename(name(t, "ou=z,ou=b,o=x"), api.Ava{Type: "OU", Val: " z "}, true, name(t, "ou=b,o=x")))
	checkAll(t, x)
	if got := names(all(x)); got != "o=x ou=b,o=x OU=\\ z\\ ,ou=b,o=x cn=Joe,OU=\\ z\\ ,ou=b,o=x uid=u,OU=\\ z\\ ,ou=b,o=x ou=Deep,UID=u,OU=\\ z\\ ,ou=b,o=x" {
		t.Error(got)
	}
}

// P22.5: names that become too long, and too many entries.
func TestRenameMuch(t *testing.T) {
	x := open(t, room(t))
	want(t, api.Success, x.Add(unit(t, "o=x")))
	up := "o=x"
	for i := range 10 {
		up = "ou=" + strconv.Itoa(i) + "," + up
		want(t, api.Success, x.Add(unit(t, up)))
	}
	want(t, api.Success, x.Add(unit(t, "ou=t,o=x")))
	want(t, api.Success, x.Add(unit(t, "ou=u,ou=t,o=x")))
	want(t, api.Constraint, x.Rename(name(t, "ou=t,o=x"), api.Ava{Type: "ou", Val: "t"}, false, name(t, up)))
	want(t, api.Success, x.Rename(name(t, "ou=t,o=x"), api.Ava{Type: "ou", Val: "t"}, false, name(t, up)[1:]))
	checkAll(t, x)
	y := open(t, room(t))
	want(t, api.Success, y.Add(unit(t, "o=x")))
	want(t, api.Success, y.Add(unit(t, "ou=t,o=x")))
	for i := range api.MaxTree - 1 {
		want(t, api.Success, y.Add(unit(t, "dc="+strconv.Itoa(i)+",ou=t,o=x")))
	}
	z := api.Ava{Type: "ou", Val: "z"}
	want(t, api.Unwilling, y.Rename(name(t, "ou=t,o=x"), z, false, name(t, "o=x"))) // too many rows
	want(t, api.Success, y.Add(unit(t, "dc=more,ou=t,o=x")))
	want(t, api.Unwilling, y.Rename(name(t, "ou=t,o=x"), z, false, name(t, "o=x")))
	for i := range api.MaxTree - 24 {
		want(t, api.Success, y.Delete(name(t, "dc="+strconv.Itoa(i)+",ou=t,o=x")))
	}
	want(t, api.Success, y.Rename(name(t, "ou=t,o=x"), z, false, name(t, "o=x")))
	if y.Kids(name(t, "ou=z,o=x")) != 24 {
		t.Error(y.Kids(name(t, "ou=z,o=x")))
	}
	checkAll(t, y)
}

// P22.5: more than MaxTree are refused, even where just their names' letters become others, which is few rows.
func TestRenameMany(t *testing.T) {
	x := open(t, room(t))
	want(t, api.Success, x.Add(unit(t, "o=x")))
	want(t, api.Success, x.Add(unit(t, "ou=t,o=x")))
	for i := range api.MaxTree {
		want(t, api.Success, x.Add(unit(t, "dc="+strconv.Itoa(i)+",ou=t,o=x")))
	}
	to := api.Ava{Type: "ou", Val: "T"}
	want(t, api.Unwilling, x.Rename(name(t, "ou=t,o=x"), to, true, name(t, "o=x")))
	want(t, api.Success, x.Delete(name(t, "dc=5,ou=t,o=x")))
	want(t, api.Success, x.Rename(name(t, "ou=t,o=x"), to, true, name(t, "o=x")))
	if l := x.Entries(name(t, "ou=t,o=x"), api.ScopeOne); len(l) != 63 || dn.Print(l[9].DN[1:]) != "ou=T,o=x" {
		t.Error(len(l))
	}
	checkAll(t, x)
}

// draws is numbers that look drawn.
type draws uint64

func (d *draws) next(n int) int {
	*d = *d*6364136223846793005 + 1442695040888963407
	return int(*d>>33) % n
}

func (d *draws) of(l ...string) string { return l[d.next(len(l))] }

// dn is a name that may be there.
func (d *draws) dn() string {
	s := "o=x"
	for range d.next(4) {
		s = d.of("ou=a", "OU=b", "uid=c", "uid=D", "cn=e") + "," + s
	}
	return s
}

// some is an update that is drawn.
func (d *draws) some(t *testing.T) func(x *Tree) api.Code {
	t.Helper()
	n := d.dn()
	switch d.next(8) {
	case 0, 1, 2:
		e := unit(t, n)
		if strings.HasPrefix(n, "cn") {
			e = person(t, n, "mail:"+d.of("a", "b", "abcd", "cab"))
		}
		return func(x *Tree) api.Code { return x.Add(e) }
	case 3:
		return func(x *Tree) api.Code { return x.Delete(name(t, n)) }
	case 4, 5:
		m := mod(d.next(3), d.of("description", "Description", "l", "ou", "uid", "cn"), d.of("one", "two", "a", "B"))
		return func(x *Tree) api.Code { return x.Modify(name(t, n), []api.Mod{m}) }
	}
	part := name(t, d.of("ou=a", "ou=b", "uid=c", "UID=d", "cn=E"))[0]
	up, keep := d.dn(), d.next(2) == 0
	return func(x *Tree) api.Code { return x.Rename(name(t, n), part, keep, name(t, up)) }
}

// P22.6: in every state all that is in the store is just what the entries ask; an update that is not answered Success changes nothing.
func TestStates(t *testing.T) {
	codes := map[api.Code]int{}
	for seed := range 6 {
		x := draws(seed)
		d := room(t)
		tree := open(t, d)
		want(t, api.Success, tree.Add(unit(t, "o=x")))
		for i := range 500 {
			before := tree.Store().Scan("", "", 0)
			code := x.some(t)(tree)
			codes[code]++
			if code != api.Success && !slices.Equal(tree.Store().Scan("", "", 0), before) {
				t.Fatal(seed, i, code)
			}
			checkAll(t, tree)
			switch x.next(12) {
			case 0:
				tree.Store().Flush()
			case 1:
				tree.Store().Compact()
			case 2:
				d.Crash(x.next(9))
				tree = open(t, d)
			}
		}
	}
	for _, code := range []api.Code{api.Success, api.NoObject, api.EntryExists, api.NonLeaf, api.Unwilling, api.OnRDN, api.NoAttribute, api.ValueExists, api.ObjectClass} {
		if codes[code] == 0 {
			t.Error(code, "never came")
		}
	}
}

// P22, P0.5: an error of the disk is Other, then Unavailable; what is told stays.
func TestDead(t *testing.T) {
	for n := range 2 {
		x := small(t)
		d := room(t)
		x = open(t, d)
		want(t, api.Success, x.Add(unit(t, "o=x")))
		before := x.Store().Scan("", "", 0)
		d.Fuse(n)
		want(t, api.Other, x.Add(unit(t, "ou=a,o=x")))
		d.Fuse(-1)
		want(t, api.Unavailable, x.Add(unit(t, "ou=a,o=x")))
		want(t, api.Unavailable, x.Delete(name(t, "o=x")))
		want(t, api.Unavailable, x.Modify(name(t, "o=x"), []api.Mod{mod(api.ModAdd, "l", "y")}))
		want(t, api.Success, x.Modify(name(t, "o=x"), nil))
		want(t, api.NoObject, x.Delete(name(t, "ou=a,o=x")))
		if !slices.Equal(x.Store().Scan("", "", 0), before) {
			t.Error("something changed")
		}
		checkAll(t, open(t, d))
	}
}

// P22.6, P0.2: behind a crash at any place the tree is what the updates answered Success make, and maybe one more.
func TestCrashes(t *testing.T) {
	var l []func(x *Tree) api.Code
	x := draws(99)
	l = append(l, func(x *Tree) api.Code { return x.Add(unit(t, "o=x")) })
	for range 60 {
		l = append(l, x.some(t))
	}
	for n := range 60 {
		d := room(t)
		tree, twin := open(t, d), open(t, room(t))
		d.Fuse(n)
		for i, do := range l {
			code := do(tree)
			if code == api.Other || code == api.Unavailable {
				d.Crash(n * 31)
				got := open(t, d)
				checkAll(t, got)
				now := names(all(got))
				if was := names(all(twin)); now != was {
					do(twin)
					if names(all(twin)) != now || code == api.Unavailable {
						t.Fatal(n, i, now, was)
					}
				}
				break
			}
			if code != do(twin) {
				t.Fatal(n, i)
			}
			if i%7 == 6 {
				tree.Store().Compact()
				tree.Store().Flush()
			}
		}
	}
}

// P22.6, W6: nothing is changed or kept, and every answer is memory of its own.
func TestOwn(t *testing.T) {
	d := room(t)
	s, _ := lsm.Open(d)
	suffix := append(make([]api.Ava, 0, 3), name(t, "o=x")...)
	x, _ := New(s, suffix)
	suffix[0].Val = "y"
	e := unit(t, "o=x")
	want(t, api.Success, x.Add(e))
	e.Attrs[0].Vals[0] = "z"
	mods := []api.Mod{mod(api.ModAdd, "l", append(make([]string, 0, 3), "b", "a")...)}
	want(t, api.Success, x.Modify(name(t, "o=x"), mods))
	mods[0].Vals[0] = "q"
	up := append(make([]api.Ava, 0, 3), name(t, "o=x")...)
	want(t, api.Success, x.Add(unit(t, "ou=a,o=x")))
	want(t, api.Success, x.Rename(name(t, "ou=a,o=x"), api.Ava{Type: "ou", Val: "b"}, true, up))
	if up[:2][1] != (api.Ava{}) {
		t.Error(up)
	}
	for range 2 {
		a, _ := x.Get(name(t, "o=x"))
		l := x.Entries(name(t, "o=x"), api.ScopeSub)
		f := x.Found("d")
		if text(a) != "objectclass:organization o:x l:b|a " || !entry.Same(a, l[0]) || f[0] != "o=x\x00\x01" || names(l) != "o=x ou=b,o=x" {
			t.Error(text(a), f, names(l))
		}
		a.DN[0].Val, a.Attrs[0].Vals[0], l[0].Attrs[0].Vals[0], f[0] = "z", "z", "z", "z"
	}
}

// P22.6, W8: a nil Tree.
func TestNil(t *testing.T) {
	for _, x := range []*Tree{nil, {}} {
		n := name(t, "o=x")
		want(t, api.Unavailable, x.Add(api.Entry{}))
		want(t, api.Unavailable, x.Delete(nil))
		want(t, api.Unavailable, x.Modify(n, nil))
		want(t, api.Unavailable, x.Rename(n, api.Ava{}, true, nil))
		if e, ok := x.Get(n); ok || !entry.Same(e, api.Entry{}) || x.Kids(n) != 0 || len(x.Entries(n, api.ScopeSub)) != 0 || len(x.Found("")) != 0 || x.Store() != nil {
			t.Error("something")
		}
	}
}
