package schema

import (
	"slices"
	"strconv"
	"strings"
	"testing"

	"burgess/api"
)

// rows is the document's first table: types, syntax, single.
func rows() map[string][2]int {
	m := map[string][2]int{}
	for _, s := range strings.Fields("objectclass cn sn ou o dc uid mail description title l") {
		m[s] = [2]int{api.SynText, 0}
	}
	m["telephonenumber"] = [2]int{api.SynPhone, 0}
	m["uidnumber"], m["gidnumber"] = [2]int{api.SynNumber, 1}, [2]int{api.SynNumber, 1}
	for _, s := range strings.Fields("member manager seealso") {
		m[s] = [2]int{api.SynName, 0}
	}
	m["userpassword"] = [2]int{api.SynBytes, 0}
	m["displayname"] = [2]int{api.SynText, 1}
	return m
}

// P14.1: the first table.
func TestType(t *testing.T) {
	var all []string
	for name, k := range rows() {
		all = append(all, name)
		for _, s := range []string{name, strings.ToUpper(name), "  " + name + " "} {
			canon, syntax, single, ok := Type(s)
			if canon != name || syntax != k[0] || single != (k[1] == 1) || !ok {
				t.Error(s, canon, syntax, single, ok)
			}
		}
	}
	slices.Sort(all)
	if got := Types(); !slices.Equal(got, all) || len(got) != 19 {
		t.Error(got)
	}
	for _, s := range []string{"", " ", "c n", "cnn", "nothing", "cn\x00", "person", "objectClasses"} {
		if canon, syntax, single, ok := Type(s); canon != "" || syntax != 0 || single || ok {
			t.Error(s, canon)
		}
	}
}

// P14.1: the second table.
func TestClass(t *testing.T) {
	for name, c := range map[string][2]string{
		"top":                {"objectclass", ""},
		"person":             {"cn sn", "userpassword telephonenumber description title mail manager displayname seealso l uid uidnumber gidnumber ou"},
		"organization":       {"o", "description l telephonenumber userpassword seealso"},
		"organizationalunit": {"ou", "description l telephonenumber userpassword seealso manager"},
		"domain":             {"dc", "description o l"},
		"account":            {"uid", "description l o ou userpassword uidnumber gidnumber"},
		"groupofnames":       {"cn member", "description o ou seealso"},
	} {
		for _, s := range []string{name, " " + strings.ToUpper(name) + " "} {
			must, may, ok := Class(s)
			if !ok || !slices.Equal(must, strings.Fields(c[0])) || !slices.Equal(may, strings.Fields(c[1])) {
				t.Error(s, must, may)
			}
		}
	}
	for _, s := range []string{"", "cn", "persons", "organizational unit"} {
		if must, may, ok := Class(s); len(must) != 0 || len(may) != 0 || ok {
			t.Error(s)
		}
	}
}

// entry is an entry of texts: its name's only part, and attributes as "type:value,value".
func entry(part string, attrs ...string) api.Entry {
	var e api.Entry
	if typ, val, ok := strings.Cut(part, "="); ok {
		e.DN = []api.Ava{{Type: typ, Val: val}, {Type: "o", Val: "x"}}
	}
	for _, s := range attrs {
		typ, vals, some := strings.Cut(s, ":")
		a := api.Attr{Type: typ}
		if some {
			a.Vals = strings.Split(vals, ",")
		}
		e.Attrs = append(e.Attrs, a)
	}
	return e
}

func vals(n int) string {
	var l []string
	for i := range n {
		l = append(l, "v"+strconv.Itoa(i))
	}
	return strings.Join(l, ",")
}

// P14.2: the first of what holds; the example.
func TestCheck(t *testing.T) {
	allOf := []string{"objectclass:person,organization,domain", "cn:a", "sn:b", "o:c", "dc:d", "userpassword:e", "telephonenumber:1", "description:f", "title:g", "mail:h", "manager:o=x",
		"displayname:i", "seealso:o=x", "l:j", "uid:k", "uidnumber:1"}
	for i, c := range []struct {
		e    api.Entry
		want api.Code
	}{
		{entry("o=x", "objectclass:organization", "o:x"), api.Success},
		{entry("", "objectclass:top"), api.Success},
		{entry("O= X ", "ObjectClass:Organization", " O :y,x"), api.Success},
		{entry("cn=a  b", "objectclass:top,person", "cn:q,A B", "sn:c", "uidnumber:5", "ou:d"), api.Success},
		{entry("cn=a", allOf...), api.Success},
		{entry("cn=a", append(allOf, "gidnumber:5")...), api.Constraint},
		{entry("o=x", "objectclass:person,organization", "o:x", "cn:a", "sn:"), api.Success},

		{api.Entry{}, api.ObjectClass},
		{entry("o=x", "nothing:1"), api.UndefinedType},
		{entry("o=x", "objectclass:organization,none", "o:x"), api.UndefinedType},
		{entry("o=x", "objectclass:organization", "o", "nothing"), api.UndefinedType},
		{entry("o=x", "objectclass:organization", "o", "objectclass:none"), api.UndefinedType},
		{entry("o=x", "o:x"), api.ObjectClass},
		{entry("o=x", "objectclass", "o:x"), api.ObjectClass},
		{entry("o=x", "o", "o"), api.ObjectClass},
		{entry("o=x", "objectclass:organization", "o:x", "l", "cn:a"), api.Constraint},
		{entry("o=x", "objectclass:organization", "o:x", "O:x"), api.Constraint},
		{entry("o=x", "objectclass:organization", "objectclass:organization", "o:x"), api.Constraint},
		{entry("cn=a", "objectclass:person", "cn:a", "sn:"+vals(16)), api.Success},
		{entry("cn=a", "objectclass:person", "cn:a", "sn:"+vals(17)), api.Constraint},
		{entry("cn=a", "objectclass:person", "cn:a", "sn:b", "uidnumber:1,2"), api.Constraint},
		{entry("cn=a", "objectclass:person", "cn:a", "sn:b", "displayname:1,2"), api.Constraint},
		{entry("cn=a", "objectclass:person", "cn:a", "sn:b", "mail:1,2"), api.Success},
		{entry("cn=a", "objectclass:person", "cn:a"), api.ObjectClass},
		{entry("cn=a", "objectclass:person,groupofnames", "cn:a", "sn:b"), api.ObjectClass},
		{entry("o=x", "objectclass:organization", "o:y", "cn:a"), api.ObjectClass},
		{entry("o=x", "objectclass:top", "o:x"), api.ObjectClass},
		{entry("o=x", "objectclass:organization", "o:y"), api.Naming},
		{entry("cn=x", "objectclass:organization", "o:x"), api.Naming},
		{entry("nothing=x", "objectclass:organization", "o:x"), api.Naming},
		{entry("=", "objectclass:organization", "o:x"), api.Naming},
	} {
		if got := Check(c.e); got != c.want {
			t.Error(i, got, c.want)
		}
	}
}

// P14.3, W6: nothing is changed, answers are memory of their own.
func TestOwn(t *testing.T) {
	for range 2 {
		must, may, _ := Class("person")
		l := Types()
		if must[0] != "cn" || may[0] != "userpassword" || l[0] != "cn" {
			t.Error(must, may, l)
		}
		must[0], may[0], l[0] = "x", "x", "x"
		_, _, _ = append(must, "y"), append(may, "y"), append(l, "y")
	}
	e := entry("o=x", "ObjectClass:Organization", "O:X")
	Check(e)
	if e.Attrs[0].Type != "ObjectClass" || e.Attrs[0].Vals[0] != "Organization" || e.Attrs[1].Vals[0] != "X" {
		t.Error(e)
	}
}
