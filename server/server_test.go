package server

import (
	"bytes"
	"slices"
	"strconv"
	"strings"
	"testing"

	"burgess/api"
	"burgess/disk"
	"burgess/dn"
	"burgess/filter"
	"burgess/msg"
	"burgess/sess"
)

func name(t *testing.T, s string) []api.Ava {
	t.Helper()
	n, e := dn.Parse(s)
	if e != api.OK {
		t.Fatal(s, e)
	}
	return n
}

func parse(t *testing.T, s string) api.Filter {
	t.Helper()
	f, e := filter.Parse(s)
	if e != api.OK {
		t.Fatal(s, e)
	}
	return f
}

func room(t *testing.T) *disk.Disk {
	t.Helper()
	d, e := disk.New(1 << 26)
	if e != api.OK {
		t.Fatal(e)
	}
	return d
}

func config(rules ...api.Rule) Config {
	return Config{Suffix: "o=x", Root: "cn=Root", Pass: "secret", Rules: rules}
}

func serve(t *testing.T, d *disk.Disk, rules ...api.Rule) *Server {
	t.Helper()
	s, e := New(d, config(rules...))
	if e != api.OK {
		t.Fatal(e)
	}
	return s
}

// ask is the responses in one line: codes, and entries as "dn{type:value|value}".
func ask(s *Server, conn int, r api.Request) string {
	if r.Num == 0 {
		r.Num = 7
	}
	var out []string
	for _, res := range s.Do(conn, r) {
		if res.Num != r.Num {
			out = append(out, "another number")
		}
		if res.Kind != api.ResEntry {
			want := r.Kind + 1
			if r.Kind == api.OpSearch {
				want = api.ResDone
			}
			if res.Kind != want || res.DN != "" || len(res.Attrs) != 0 {
				out = append(out, "another kind")
			}
			out = append(out, strconv.Itoa(int(res.Code)))
			continue
		}
		var attrs []string
		for _, a := range res.Attrs {
			attrs = append(attrs, a.Type+":"+strings.Join(a.Vals, "|"))
		}
		out = append(out, res.DN+"{"+strings.Join(attrs, " ")+"}")
	}
	return strings.Join(out, " ")
}

func want(t *testing.T, s *Server, conn int, r api.Request, answer string) {
	t.Helper()
	if got := ask(s, conn, r); got != answer {
		t.Errorf("%q, not %q", got, answer)
	}
}

func bind(dn, pass string) api.Request { return api.Request{Kind: api.OpBind, DN: dn, Pass: pass} }

// attrs is attributes of texts: "type:value|value".
func attrs(l ...string) []api.Attr {
	var out []api.Attr
	for _, s := range l {
		typ, vals, _ := strings.Cut(s, ":")
		out = append(out, api.Attr{Type: typ, Vals: strings.Split(vals, "|")})
	}
	return out
}

func add(dn string, l ...string) api.Request {
	return api.Request{Kind: api.OpAdd, DN: dn, Attrs: attrs(l...)}
}

func find(t *testing.T, base string, scope int, f string, wanted ...string) api.Request {
	t.Helper()
	return api.Request{Kind: api.OpSearch, DN: base, Scope: scope, Filter: parse(t, f), Want: wanted}
}

// filled is a server with few entries, and a connection that is bound to nobody.
func filled(t *testing.T, rules ...api.Rule) (*Server, int) {
	t.Helper()
	s := serve(t, room(t), rules...)
	c := s.Connect()
	want(t, s, c, bind("cn=root", "secret"), "0")
	for _, r := range []api.Request{
		add("o=x", "objectclass:organization", "o:x"), add("ou=a,o=x", "objectclass:organizationalunit", "ou:a", "description:some"),
		add("cn=Joe,ou=a,o=x", "objectclass:person", "cn:Joe", "sn:Smith", "userpassword:pw|PW2", "uidnumber:7"), add("cn=Ann,o=x", "objectclass:person", "cn:Ann", "sn:Smythe", "mail:ann@x", "title:T", "userpassword:ann"),
	} {
		want(t, s, c, r, "0")
	}
	want(t, s, c, bind("", ""), "0")
	return s, c
}

// The example.
func TestExample(t *testing.T) {
	s := serve(t, room(t))
	c := s.Connect()
	want(t, s, c, bind("cn=root", "secret"), "0")
	want(t, s, c, add("o=x", "objectclass:organization", "o:x"), "0")
	want(t, s, c, find(t, "o=x", api.ScopeBase, "(o=*)"), "o=x{objectclass:organization o:x} 0")
}

// P27.1: New.
func TestNew(t *testing.T) {
	for i, turn := range []func(c *Config){
		func(c *Config) { c.Suffix = "x" }, func(c *Config) { c.Suffix = "" }, func(c *Config) { c.Suffix = "o=" + strings.Repeat("x", 65) }, func(c *Config) { c.Root = "cn" }, func(c *Config) { c.Root = "" }, func(c *Config) { c.Pass = "" }, func(c *Config) { c.Rules = []api.Rule{{}} }, func(c *Config) { c.Rules = slices.Repeat([]api.Rule{{Rights: 1}}, 65) },
	} {
		c := config()
		turn(&c)
		d := room(t)
		d.Append("s-img", []byte("none"))
		if s, e := New(d, c); s != nil || e != api.ErrArg {
			t.Error(i, e)
		}
	}
	if s, e := New(nil, config()); s != nil || e != api.ErrArg {
		t.Error(e)
	}
	d := room(t)
	d.Append("s-img", []byte("none"))
	if s, e := New(d, config()); s != nil || e != api.ErrForm {
		t.Error(e)
	}
	if s := serve(t, room(t)); s.Sess(0) != nil || s.Sess(1) != nil || s.Tree() == nil || s.Dead() {
		t.Error("something is there")
	}
}

// P27.1: connections.
func TestConnect(t *testing.T) {
	s := serve(t, room(t))
	for i := range api.MaxConns {
		if c := s.Connect(); c != i+1 || !s.Sess(c).Open() {
			t.Error(c)
		}
	}
	if c := s.Connect(); c != 0 {
		t.Error(c)
	}
	was := s.Sess(3)
	s.Sess(5).Close()
	want(t, s, 3, api.Request{Kind: api.OpUnbind}, "")
	if was.Open() || s.Sess(3) != was {
		t.Error("Unbind")
	}
	if c := s.Connect(); c != 3 || s.Sess(3) == was || len(s.Sess(3).Who()) != 0 {
		t.Error(c)
	}
	if c := s.Connect(); c != 5 {
		t.Error(c)
	}
	for _, c := range []int{0, -1, 9, 1 << 62} {
		if s.Sess(c) != nil || s.Send(c, []byte{0x31}) != nil || s.Do(c, bind("", "")) != nil {
			t.Error(c)
		}
	}
	for _, kind := range []int{-1, 1, 4, 17, 1 << 62} {
		if l := s.Do(1, api.Request{Num: 1, Kind: kind}); len(l) != 0 {
			t.Error(kind, l)
		}
	}
}

func encode(t *testing.T, l ...api.Request) []byte {
	t.Helper()
	var out []byte
	for i, r := range l {
		r.Num = i + 1
		b, e := msg.Encode(r)
		if e != api.OK {
			t.Fatal(i, e)
		}
		out = append(out, b...)
	}
	return out
}

// codes is the responses of bytes in one line.
func codes(t *testing.T, b []byte) string {
	t.Helper()
	var out []string
	for len(b) > 0 {
		n, e := msg.Frame(b)
		if e != api.OK || n == 0 {
			t.Fatalf("%x", b)
		}
		r, e := msg.DecodeRes(b[:n])
		if e != api.OK {
			t.Fatal(e)
		}
		out = append(out, strconv.Itoa(r.Num)+"/"+strconv.Itoa(r.Kind)+"/"+strconv.Itoa(int(r.Code)))
		b = b[n:]
	}
	return strings.Join(out, " ")
}

// P27.1: Send, in any pieces; what broke it, and what comes behind an Unbind.
func TestSend(t *testing.T) {
	good := encode(t, bind("cn=root", "secret"), add("o=x", "objectclass:organization", "o:x"), find(t, "o=x", api.ScopeSub, "(o=*)"), api.Request{Kind: api.OpAbandon, Which: 3}, bind("cn=root", "x"))
	told := "1/1/0 2/9/0 3/4/0 3/5/0 5/1/49"
	unbind, _ := msg.Encode(api.Request{Num: 6, Kind: api.OpUnbind})
	for _, c := range []struct {
		tail []byte
		more string
		open bool
	}{
		{nil, "", true}, {[]byte{0x30, 5}, "", true}, {unbind, "", false}, {append(slices.Clone(unbind), good...), "", false}, {append(slices.Clone(unbind), 0xff), "", false}, {[]byte{0xff, 0xff}, " 0/24/2", false}, {append([]byte{0x30, 0}, good...), " 0/24/2", false},
	} {
		b := append(slices.Clone(good), c.tail...)
		var first []byte
		for _, size := range []int{len(b), 1, 5, 64} {
			s := serve(t, room(t))
			conn := s.Connect()
			var out []byte
			for i := 0; i < len(b); i += size {
				out = append(out, s.Send(conn, b[i:min(i+size, len(b))])...)
			}
			if got := codes(t, out); got != told+c.more || s.Sess(conn).Open() != c.open {
				t.Error(size, got)
			}
			if first == nil {
				first = out
			}
			if !bytes.Equal(out, first) {
				t.Error(size, "other bytes")
			}
		}
	}
}

// P27.1: a response that cannot be told is left out.
func TestLeftOut(t *testing.T) {
	s := serve(t, room(t))
	c := s.Connect()
	want(t, s, c, bind("cn=root", "secret"), "0")
	want(t, s, c, add("o=x", "objectclass:organization", "o:x"), "0")
	r := find(t, "o=x", api.ScopeSub, "(o=*)")
	r.Num = 1 << 31
	if l := s.Do(c, r); len(l) != 2 || l[0].Num != 1<<31 {
		t.Error(l)
	}
	if b := lay(nil, api.Response{Num: 1 << 31, Kind: 5}); len(b) != 0 {
		t.Error(b)
	}
}

// P27.2: OpBind.
func TestBind(t *testing.T) {
	s, c := filled(t)
	for i, r := range []struct {
		dn, pass, code, who string
	}{
		{"", "", "0", ""}, {"CN= root", "secret", "0", "CN=root"}, {"cn", "secret", "34", ""}, {"cn", "", "34", ""}, {"cn=root", "", "53", ""}, {"cn=none", "", "53", ""}, {"cn=root", "Secret", "49", ""}, {"cn=none,o=x", "pw", "49", ""}, {"", "secret", "49", ""}, {"o=x", "x", "49", ""},
		{"cn=joe,OU=a,o=x", "pw", "0", "cn=joe,OU=a,o=x"}, {"cn=joe,ou=a,o=x", "PW2", "0", "cn=joe,ou=a,o=x"}, {"cn=joe,ou=a,o=x", "PW", "49", ""}, {"cn=joe,ou=a,o=x", "secret", "49", ""}, {"cn=ann,o=x", "pw", "49", ""}, {" ", "", "34", ""},
	} {
		s.Sess(c).Bind(name(t, "cn=before"))
		want(t, s, c, bind(r.dn, r.pass), r.code)
		if got := dn.Print(s.Sess(c).Who()); got != r.who {
			t.Error(i, got)
		}
	}
	if l := s.Do(c, api.Request{Kind: api.OpUnbind}); len(l) != 0 || s.Sess(c).Open() {
		t.Error(l)
	}
	want(t, s, c, bind("cn=root", "secret"), "0") // Do does not ask whether it is open
	if l := s.Do(c, api.Request{Kind: api.OpAbandon}); len(l) != 0 {
		t.Error(l)
	}
}

// P27.2: updates, as the root.
func TestUpdates(t *testing.T) {
	s, c := filled(t)
	want(t, s, c, bind("cn=root", "secret"), "0")
	del := func(dn string) api.Request { return api.Request{Kind: api.OpDelete, DN: dn} }
	mod := func(dn string, l ...api.Mod) api.Request {
		return api.Request{Kind: api.OpModify, DN: dn, Mods: l}
	}
	ren := func(dn, rdn string, keep, above bool, up string) api.Request {
		return api.Request{Kind: api.OpRename, DN: dn, Rdn: rdn, Keep: keep, Above: above, Up: up}
	}
	for i, row := range []struct {
		r    api.Request
		want string
	}{
		{add("x"), "34"}, {add(""), "34"}, {add("o=x"), "68"}, {add("ou=b,ou=c,o=x"), "32"}, {add("ou=b,o=x", "objectclass:organizationalunit"), "65"},
		{del("x"), "34"}, {del(""), "34"}, {del("o=y"), "32"}, {del("o=x"), "66"},
		{mod("x"), "34"}, {mod(""), "34"}, {mod("o=y"), "32"}, {mod("o=x", api.Mod{Kind: 9, Type: "l"}), "2"}, {mod("o=x", api.Mod{Type: "none"}), "17"}, {mod("o=x", api.Mod{Type: "l", Vals: []string{"a"}}), "0"},
		{ren("x", "cn=a", false, false, ""), "34"}, {ren("cn=ann,o=x", "x", false, false, ""), "34"}, {ren("cn=ann,o=x", "", false, false, ""), "34"}, {ren("cn=ann,o=x", "cn=a,o=b", false, false, ""), "34"}, {ren("cn=ann,o=x", "cn=a", false, true, "x"), "34"}, {ren("", "cn=a", false, false, ""), "34"}, {ren("o=x", "o=y", false, false, ""), "53"},
		{ren("cn=ann,o=x", "cn=Anna", true, false, "ou=a,o=x"), "0"}, {find(t, "o=x", api.ScopeSub, "(cn=ann)", "cn"), "cn=Anna,o=x{cn:Ann|Anna} 0"}, {ren("cn=anna,o=x", "cn=Ann", false, true, "ou=a,o=x"), "0"}, {find(t, "o=x", api.ScopeSub, "(cn=ann)", "cn"), "cn=Ann,ou=a,o=x{cn:Ann} 0"},
		{ren("cn=ann,ou=a,o=x", "cn=q", false, true, ""), "32"}, {del("cn=ann,ou=a,o=x"), "0"}, {del("cn=ann,ou=a,o=x"), "32"},
	} {
		if got := ask(s, c, row.r); got != row.want {
			t.Error(i, got)
		}
	}
}

func rule(who int, base []api.Ava, sub bool, typ string, rights int) api.Rule {
	return api.Rule{Who: who, Base: base, Sub: sub, Type: typ, Rights: rights, Grant: true}
}

// P27.2: who may write what.
func TestWrite(t *testing.T) {
	x, a := name(t, "o=x"), name(t, "ou=a,o=x")
	no := func(r api.Rule) api.Rule { r.Grant = false; return r }
	ou := add("ou=n,o=x", "objectclass:organizationalunit", "ou:n")
	desc := api.Request{Kind: api.OpModify, DN: "ou=a,o=x", Mods: []api.Mod{{Kind: api.ModReplace, Type: "Description", Vals: []string{"d"}}, {Kind: api.ModReplace, Type: "l", Vals: []string{"d"}}}}
	del := api.Request{Kind: api.OpDelete, DN: "cn=joe,ou=a,o=x"}
	ren := api.Request{Kind: api.OpRename, DN: "cn=joe,ou=a,o=x", Rdn: "cn=j", Above: true, Up: "o=x"}
	for i, c := range []struct {
		rules []api.Rule
		r     api.Request
		want  string
	}{
		{nil, ou, "50"}, {[]api.Rule{rule(0, x, true, "", 8)}, ou, "0"}, {[]api.Rule{rule(0, x, true, "", 7)}, ou, "50"}, {[]api.Rule{rule(0, x, false, "", 8)}, ou, "50"}, {[]api.Rule{rule(0, x, true, "ou", 8), rule(0, x, true, "objectclass", 8)}, ou, "50"}, {[]api.Rule{no(rule(0, x, true, "ou", 8)), rule(0, x, true, "", 8)}, ou, "50"}, {[]api.Rule{no(rule(0, x, true, "l", 8)), rule(0, x, true, "", 8)}, ou, "0"},
		{nil, desc, "50"}, {[]api.Rule{rule(0, a, false, "", 8)}, desc, "0"}, {[]api.Rule{no(rule(0, a, false, "description", 8)), rule(0, a, false, "", 8)}, desc, "50"}, {[]api.Rule{no(rule(0, a, false, "L", 8)), rule(0, a, false, "", 8)}, desc, "50"}, {[]api.Rule{no(rule(0, a, false, "ou", 8)), rule(0, a, false, "", 8)}, desc, "0"}, {[]api.Rule{rule(0, a, false, "l", 8), rule(0, a, false, "description", 8)}, desc, "50"},
		{nil, del, "50"}, {[]api.Rule{rule(0, a, true, "", 8)}, del, "0"}, {[]api.Rule{rule(0, a, false, "", 8)}, del, "50"}, {[]api.Rule{no(rule(0, a, true, "cn", 8)), rule(0, a, true, "", 8)}, del, "0"},
		{nil, ren, "50"}, {[]api.Rule{rule(0, a, true, "", 8)}, ren, "50"}, {[]api.Rule{rule(0, name(t, "cn=j,o=x"), true, "", 8)}, ren, "50"}, {[]api.Rule{rule(0, a, true, "", 8), rule(0, name(t, "CN=J,o=x"), false, "", 8)}, ren, "0"}, {[]api.Rule{rule(0, x, true, "", 8)}, ren, "0"},
		{nil, api.Request{Kind: api.OpDelete, DN: "x"}, "34"}, {nil, api.Request{Kind: api.OpDelete, DN: ""}, "50"}, {nil, add("o=none"), "50"}, {nil, api.Request{Kind: api.OpModify, DN: "o=none"}, "50"}, {nil, api.Request{Kind: api.OpRename, DN: "o=none", Rdn: "o=x", Up: "not counted"}, "50"},
		{[]api.Rule{rule(api.Users, x, true, "", 8)}, del, "50"},
	} {
		s, conn := filled(t, c.rules...)
		before := s.Tree().Store().Scan("", "", 0)
		want(t, s, conn, c.r, c.want)
		if now := s.Tree().Store().Scan("", "", 0); slices.Equal(before, now) != (c.want != "0") {
			t.Error(i, "the tree")
		}
	}
	s, conn := filled(t, rule(api.Users, x, true, "", 8), rule(api.Self, x, true, "", 15))
	want(t, s, conn, bind("cn=joe,ou=a,o=x", "pw"), "0")
	want(t, s, conn, del, "0")
}

// P27.2: OpCompare, in the order of its answers.
func TestCompare(t *testing.T) {
	s, c := filled(t, rule(0, name(t, "ou=a,o=x"), true, "", 4), rule(0, name(t, "cn=ann,o=x"), false, "cn", 4), rule(0, name(t, "o=y"), false, "", 4))
	for i, row := range []struct{ dn, typ, val, want string }{
		{"x", "cn", "a", "34"}, {"", "cn", "a", "32"}, {"o=y", "cn", "a", "32"}, {"o=x", "o", "x", "32"}, {"o=x", "none", "x", "32"}, {"cn=joe,ou=a,o=x", "none", "", "17"}, {"cn=joe,ou=a,o=x", "cn", "", "21"}, {"cn=joe,ou=a,o=x", "uidnumber", "07", "21"}, {"cn=joe,ou=a,o=x", "l", "", "21"}, {"cn=joe,ou=a,o=x", "l", "a", "16"},
		{"CN=joe,ou=a,o=x", "CN", " JOE", "6"}, {"cn=joe,ou=a,o=x", "cn", "jo", "5"}, {"cn=joe,ou=a,o=x", "userpassword", "PW2", "6"}, {"cn=joe,ou=a,o=x", "userpassword", "PW", "5"}, {"cn=ann,o=x", "cn", "ann", "6"}, {"cn=ann,o=x", "sn", "smythe", "32"}, {"cn=ann,o=x", " cn ", "ann", "6"},
	} {
		if got := ask(s, c, api.Request{Kind: api.OpCompare, DN: row.dn, Ava: api.Ava{Type: row.typ, Val: row.val}}); got != row.want {
			t.Error(i, got)
		}
	}
}

// P27.2: OpSearch: rights of the base, of entries, of attributes; what is wanted; limits.
func TestSearch(t *testing.T) {
	x, a, ann := name(t, "o=x"), name(t, "ou=a,o=x"), name(t, "cn=ann,o=x")
	no := func(r api.Rule) api.Rule { r.Grant = false; return r }
	all := rule(0, x, true, "", 3)
	limit := func(n int) api.Request { r := find(t, "o=x", 2, "(objectclass=*)", "none"); r.Limit = n; return r }
	joe, annAll := "cn=Joe,ou=a,o=x{objectclass:person cn:Joe sn:Smith userpassword:pw|PW2 uidnumber:7}", "cn=Ann,o=x{objectclass:person cn:Ann sn:Smythe mail:ann@x title:T userpassword:ann}"
	for i, c := range []struct {
		rules []api.Rule
		r     api.Request
		want  string
	}{
		{nil, find(t, "x", 9, "(cn=*)"), "34"}, {nil, find(t, "o=x", 2, "(cn=*)"), "32"}, {[]api.Rule{all}, find(t, "o=y", 2, "(cn=*)"), "32"}, {[]api.Rule{all}, find(t, "", 2, "(cn=*)"), "32"}, {[]api.Rule{all}, find(t, "o=x", 3, "(cn=*)"), "2"}, {[]api.Rule{all}, api.Request{Kind: api.OpSearch, DN: "o=x"}, "2"}, {nil, api.Request{Kind: api.OpSearch, DN: "o=x"}, "32"},
		{[]api.Rule{all}, find(t, "o=x", 2, "(cn=*)"), annAll + " " + joe + " 0"}, {[]api.Rule{all}, find(t, "o=x", 1, "(cn=*)"), annAll + " 0"}, {[]api.Rule{all}, find(t, "OU=A,o=x", 0, "(ou=a)"), "ou=a,o=x{objectclass:organizationalunit ou:a description:some} 0"}, {[]api.Rule{all}, find(t, "o=x", 2, "(cn=none)"), "0"},
		{[]api.Rule{all}, find(t, "o=x", 2, "(cn=ann)", "CN", " mail"), "cn=Ann,o=x{cn:Ann mail:ann@x} 0"}, {[]api.Rule{all}, find(t, "o=x", 2, "(cn=ann)", "*"), annAll + " 0"}, {[]api.Rule{all}, find(t, "o=x", 2, "(cn=ann)", "none", "*"), annAll + " 0"}, {[]api.Rule{all}, find(t, "o=x", 2, "(cn=ann)", "none"), "cn=Ann,o=x{} 0"}, {[]api.Rule{all}, find(t, "o=x", 2, "(cn=ann)", "1.1"), "cn=Ann,o=x{} 0"}, {[]api.Rule{all}, find(t, "o=x", 2, "(cn=ann)", ""), "cn=Ann,o=x{} 0"},
		{[]api.Rule{no(rule(0, x, true, "userpassword", 15)), all}, find(t, "o=x", 2, "(cn=joe)"), "cn=Joe,ou=a,o=x{objectclass:person cn:Joe sn:Smith uidnumber:7} 0"}, {[]api.Rule{no(rule(0, x, true, "userpassword", 15)), all}, find(t, "o=x", 2, "(|(cn=joe)(!(userpassword=pw)))"), "0"}, {[]api.Rule{no(rule(0, x, true, "userpassword", 1)), all}, find(t, "o=x", 2, "(userpassword=pw)", "cn"), "cn=Joe,ou=a,o=x{cn:Joe} 0"},
		{[]api.Rule{no(rule(0, a, true, "sn", 2)), all}, find(t, "o=x", 2, "(&(cn=*)(!(sn=q)))", "cn"), "cn=Ann,o=x{cn:Ann} 0"}, {[]api.Rule{no(rule(0, a, true, "", 2)), all}, find(t, "o=x", 2, "(cn=*)", "cn"), "cn=Ann,o=x{cn:Ann} 0"}, {[]api.Rule{no(rule(0, ann, true, "", 3)), all}, find(t, "o=x", 2, "(cn=*)", "cn"), "cn=Joe,ou=a,o=x{cn:Joe} 0"}, {[]api.Rule{rule(0, x, true, "", 2)}, find(t, "o=x", 2, "(cn=ann)"), "cn=Ann,o=x{} 0"}, {[]api.Rule{rule(0, x, true, "", 2), rule(0, ann, false, "title", 1)}, find(t, "o=x", 2, "(cn=*)"), "cn=Ann,o=x{title:T} cn=Joe,ou=a,o=x{} 0"},
		{[]api.Rule{rule(0, x, true, "", 1), rule(0, a, true, "", 2)}, find(t, "o=x", 2, "(cn=*)"), "32"}, {[]api.Rule{rule(0, x, true, "", 1), rule(0, a, true, "", 2)}, find(t, "ou=a,o=x", 2, "(cn=*)"), joe + " 0"}, {[]api.Rule{rule(0, x, true, "cn", 3)}, find(t, "o=x", 2, "(cn=*)"), "32"}, {[]api.Rule{rule(api.Users, x, true, "", 3)}, find(t, "o=x", 2, "(cn=*)"), "32"},
		{[]api.Rule{all}, limit(0), "o=x{} cn=Ann,o=x{} ou=a,o=x{} cn=Joe,ou=a,o=x{} 0"}, {[]api.Rule{all}, limit(-1), "o=x{} cn=Ann,o=x{} ou=a,o=x{} cn=Joe,ou=a,o=x{} 0"}, {[]api.Rule{all}, limit(4), "o=x{} cn=Ann,o=x{} ou=a,o=x{} cn=Joe,ou=a,o=x{} 0"}, {[]api.Rule{all}, limit(3), "o=x{} cn=Ann,o=x{} ou=a,o=x{} 4"}, {[]api.Rule{all}, limit(1), "o=x{} 4"}, {[]api.Rule{no(rule(0, a, true, "", 2)), all}, limit(2), "o=x{} cn=Ann,o=x{} 0"},
	} {
		s, conn := filled(t, c.rules...)
		if got := ask(s, conn, c.r); got != c.want {
			t.Errorf("%d %q", i, got)
		}
	}
	written, conn := filled(t, rule(0, x, true, "", 15))
	want(t, written, conn, add("OU=Q,o=x", "objectClass:OrganizationalUnit", "Ou:Q", "Description:d"), "0")
	want(t, written, conn, find(t, "o=x", 2, "(ou=q)", "oU", " description "), "OU=Q,o=x{Ou:Q Description:d} 0")
	round := api.Filter{Kind: api.FilterAnd, Kids: make([]api.Filter, 1)}
	round.Kids[0] = round
	want(t, written, conn, api.Request{Kind: api.OpSearch, DN: "o=x", Filter: round}, "2")
}

// P27.2: what a Kind does not name does not count.
func TestNotNamed(t *testing.T) {
	s, c := filled(t)
	other := func(r api.Request) api.Request {
		b := api.Request{Num: r.Num, Kind: r.Kind, DN: r.DN, Pass: "p", Scope: 9, Limit: -7, Filter: api.Filter{Kind: 9}, Want: []string{"w"}, Mods: []api.Mod{{Kind: 9}}, Attrs: attrs("none:a"), Rdn: "x", Up: "x", Ava: api.Ava{Type: "none"}, Which: -1}
		switch r.Kind {
		case api.OpBind:
			b.Pass = r.Pass
		case api.OpAdd:
			b.Attrs = r.Attrs
		case api.OpModify:
			b.Mods = r.Mods
		case api.OpRename:
			b.Rdn, b.Keep = r.Rdn, r.Keep
		}
		return b
	}
	for i, row := range []struct {
		r    api.Request
		want string
	}{
		{bind("cn=root", "secret"), "0"}, {add("ou=n,o=x", "objectclass:organizationalunit", "ou:n"), "0"}, {api.Request{Kind: api.OpModify, DN: "ou=n,o=x", Mods: []api.Mod{{Type: "l", Vals: []string{"a"}}}}, "0"},
		{api.Request{Kind: api.OpRename, DN: "ou=n,o=x", Rdn: "ou=m"}, "0"}, {api.Request{Kind: api.OpDelete, DN: "ou=m,o=x"}, "0"}, {api.Request{Kind: api.OpAbandon}, ""}, {api.Request{Kind: api.OpUnbind}, ""},
	} {
		if got := ask(s, c, other(row.r)); got != row.want {
			t.Error(i, got)
		}
	}
}

// P27.4, P0.4: who has no right is answered alike, whatever stands there.
func TestAlike(t *testing.T) {
	x, hidden := name(t, "o=x"), name(t, "ou=a,o=x")
	rules := []api.Rule{{Base: hidden, Sub: true, Rights: 15}, rule(0, x, true, "", 15)}
	there, c := filled(t, rules...)
	bare, cc := filled(t, rules...)
	want(t, bare, cc, bind("cn=root", "secret"), "0")
	for _, s := range []string{"cn=joe,ou=a,o=x", "ou=a,o=x"} {
		want(t, bare, cc, api.Request{Kind: api.OpDelete, DN: s}, "0")
	}
	want(t, bare, cc, bind("", ""), "0")
	var reqs []api.Request
	for _, s := range []string{"ou=a,o=x", "cn=joe,ou=a,o=x", "cn=none,ou=a,o=x"} {
		reqs = append(reqs, add(s, "objectclass:person", "cn:q"), api.Request{Kind: api.OpDelete, DN: s}, api.Request{Kind: api.OpModify, DN: s, Mods: []api.Mod{{Type: "none"}}}, api.Request{Kind: api.OpRename, DN: s, Rdn: "cn=q"}, api.Request{Kind: api.OpRename, DN: s, Rdn: "cn=q", Above: true, Up: "o=x"}, api.Request{Kind: api.OpRename, DN: "cn=ann,o=x", Rdn: "cn=q", Above: true, Up: s},
			api.Request{Kind: api.OpCompare, DN: s, Ava: api.Ava{Type: "cn", Val: "joe"}}, api.Request{Kind: api.OpCompare, DN: s, Ava: api.Ava{Type: "none"}}, bind(s, "wrong"), bind(s, ""))
		for scope := range 3 {
			reqs = append(reqs, find(t, s, scope, "(objectclass=*)"))
		}
	}
	reqs = append(reqs, find(t, "o=x", 2, "(objectclass=*)"), find(t, "o=x", 2, "(|(cn=*)(!(cn=joe)))"), find(t, "o=x", 1, "(ou=*)"))
	for i, r := range reqs {
		b := encode(t, r)
		one, other := there.Send(c, b), bare.Send(cc, b)
		if !bytes.Equal(one, other) || len(one) == 0 {
			t.Errorf("%d %x %x", i, one, other)
		}
	}
}

// P27.3: Step.
func TestStep(t *testing.T) {
	s, c := filled(t, rule(0, nil, true, "", 15))
	steps := 0
	for i := range 60 {
		want(t, s, c, add("dc=d"+strconv.Itoa(i)+",o=x", "objectclass:domain", "dc:d"+strconv.Itoa(i), "description:"+strings.Repeat("text ", 20)), "0")
		before := ask(s, c, find(t, "o=x", 2, "(dc=*)"))
		due, seq := s.Tree().Store().Due(), s.Tree().Store().Version().Next
		did, e := s.Step()
		if did != due || e != api.OK || did != (s.Tree().Store().Version().Next > seq) {
			t.Fatal(i, did, e)
		}
		if did {
			steps++
		}
		if ask(s, c, find(t, "o=x", 2, "(dc=*)")) != before {
			t.Fatal(i, "what is told is another one")
		}
	}
	v := s.Tree().Store().Version()
	if steps < 10 || v.Files[len(v.Files)-1].Level == 0 {
		t.Error(steps, v)
	}
}

// P0.5: an error of the disk is Other, then Unavailable; Step tells it.
func TestDead(t *testing.T) {
	d := room(t)
	s := serve(t, d, rule(0, nil, true, "", 15))
	c := s.Connect()
	want(t, s, c, add("o=x", "objectclass:organization", "o:x", "description:"+strings.Repeat("text ", 50)), "0")
	for i := 0; !s.Tree().Store().Due(); i++ {
		want(t, s, c, add("dc=d"+strconv.Itoa(i)+",o=x", "objectclass:domain", "dc:d"+strconv.Itoa(i)), "0")
	}
	other := serve(t, d.Copy(), rule(0, nil, true, "", 15))
	before := ask(s, c, find(t, "o=x", 2, "(objectclass=*)"))
	d.Fuse(1)
	want(t, s, c, add("dc=new,o=x", "objectclass:domain", "dc:new"), "80")
	want(t, s, c, add("dc=new,o=x", "objectclass:domain", "dc:new"), "52")
	want(t, s, c, find(t, "o=x", 2, "(objectclass=*)"), before)
	if did, e := s.Step(); did || e != api.ErrDead || !s.Dead() {
		t.Error(did, e)
	}
	if did, e := other.Step(); !did || e != api.OK || other.Dead() {
		t.Error(did, e)
	}
}

// P27.4, W6, W8: nothing is kept; a nil Server, and one that New did not make.
func TestOwn(t *testing.T) {
	cfg := config(rule(api.Named, name(t, "o=x"), true, "", 15))
	cfg.Rules[0].Name = name(t, "cn=joe,ou=a,o=x")
	s, e := New(room(t), cfg)
	if e != api.OK {
		t.Fatal(e)
	}
	cfg.Rules[0].Name[0].Val, cfg.Rules[0].Base[0].Val = "z", "z"
	cfg.Rules[0].Grant = false
	c := s.Connect()
	s.Sess(c).Bind(name(t, "cn=joe,ou=a,o=x"))
	r := add("o=x", "objectclass:organization", "o:x")
	want(t, s, c, r, "0")
	r.Attrs[0].Vals[0] = "z"
	for range 2 {
		l := s.Do(c, find(t, "o=x", 2, "(o=*)"))
		if len(l) != 2 || l[0].Attrs[0].Vals[0] != "organization" {
			t.Error(l)
		}
		l[0].Attrs[0].Vals[0], l[0].Attrs[1].Type = "z", "z"
	}
	for _, n := range []*Server{nil, {}} {
		if n.Connect() != 0 || n.Send(1, []byte{0x30}) != nil || n.Do(1, r) != nil || n.Tree() != nil || n.Sess(1) != (*sess.Sess)(nil) || !n.Dead() {
			t.Error("nil")
		}
		if did, e := n.Step(); did || e != api.ErrArg {
			t.Error(did, e)
		}
	}
}
