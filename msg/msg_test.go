package msg

import (
	"bytes"
	"encoding/hex"
	"slices"
	"strings"
	"testing"

	"burgess/api"
	"burgess/ber"
	"burgess/filter"
)

func parse(t *testing.T, s string) api.Filter {
	t.Helper()
	f, e := filter.Parse(s)
	if e != api.OK {
		t.Fatal(s, e)
	}
	return f
}

// raw is bytes of a text of digits of sixteen, in which blanks do not count and '...' is a text.
func raw(t *testing.T, s string) []byte {
	t.Helper()
	var out []byte
	for i, part := range strings.Split(s, "'") {
		if i%2 == 1 {
			out = append(out, part...)
			continue
		}
		b, err := hex.DecodeString(strings.ReplaceAll(part, " ", ""))
		if err != nil {
			t.Fatal(s, err)
		}
		out = append(out, b...)
	}
	return out
}

// sampled is a request of each kind, and its bytes.
func sampled(t *testing.T) map[string]api.Request {
	return map[string]api.Request{
		"30 05 02 01 01 42 00":                                                         {Num: 1, Kind: api.OpUnbind},
		"30 0c 02 01 02 60 07 02 01 03 04 00 80 00":                                    {Num: 2, Kind: api.OpBind},
		"30 11 02 02 01 2c 60 0b 02 01 03 04 03 'o=x' 80 01 'p'":                       {Num: 300, Kind: api.OpBind, DN: "o=x", Pass: "p"},
		"30 08 02 01 03 4a 03 'o=x'":                                                   {Num: 3, Kind: api.OpDelete, DN: "o=x"},
		"30 06 02 01 04 50 01 07":                                                      {Num: 4, Kind: api.OpAbandon, Which: 7},
		"30 09 02 01 04 50 04 7f ff ff ff":                                             {Num: 4, Kind: api.OpAbandon, Which: 1<<31 - 1},
		"30 12 02 01 05 6e 0d 04 03 'o=x' 30 06 04 01 'o' 04 01 'x'":                   {Num: 5, Kind: api.OpCompare, DN: "o=x", Ava: api.Ava{Type: "o", Val: "x"}},
		"30 10 02 01 06 6c 0b 04 03 'o=x' 04 01 'r' 01 01 ff":                          {Num: 6, Kind: api.OpRename, DN: "o=x", Rdn: "r"},
		"30 12 02 01 06 6c 0d 04 03 'o=x' 04 01 'r' 01 01 00 80 00":                    {Num: 6, Kind: api.OpRename, DN: "o=x", Rdn: "r", Keep: true, Above: true},
		"30 13 02 01 06 6c 0e 04 03 'o=x' 04 01 'r' 01 01 00 80 01 'u'":                {Num: 6, Kind: api.OpRename, DN: "o=x", Rdn: "r", Keep: true, Above: true, Up: "u"},
		"30 09 02 01 07 68 04 04 00 30 00":                                             {Num: 7, Kind: api.OpAdd},
		"30 18 02 01 07 68 13 04 03 'o=x' 30 0c 30 0a 04 01 'l' 31 05 04 01 'a' 04 00": {Num: 7, Kind: api.OpAdd, DN: "o=x", Attrs: []api.Attr{{Type: "l", Vals: []string{"a", ""}}}},
		"30 27 02 01 08 66 22 04 03 'o=x' 30 1b 30 0d 0a 01 00 30 08 04 01 'l' 31 03 04 01 'a' 30 0a 0a 01 02 30 05 04 01 'm' 31 00":  {Num: 8, Kind: api.OpModify, DN: "o=x", Mods: []api.Mod{{Kind: api.ModAdd, Type: "l", Vals: []string{"a"}}, {Kind: api.ModReplace, Type: "m"}}},
		"30 1b 02 01 09 63 16 04 00 0a 01 02 0a 01 00 02 01 05 02 01 00 01 01 00 87 01 'o' 30 00":                                     {Num: 9, Kind: api.OpSearch, Scope: 2, Limit: 5, Filter: parse(t, "(o=*)")},
		"30 26 02 01 09 63 21 04 01 'd' 0a 01 00 0a 01 00 02 01 00 02 01 00 01 01 00 a3 06 04 01 'o' 04 01 'x' 30 05 04 01 '*' 04 00": {Num: 9, Kind: api.OpSearch, DN: "d", Filter: parse(t, "(o=x)"), Want: []string{"*", ""}},
		"30 40 02 01 09 63 3b 04 01 'd' 0a 01 01 0a 01 00 02 01 00 02 01 00 01 01 00 a0 25 a1 12 a5 06 04 01 'a' 04 01 'b' a6 05 04 01 'c' 04 00 87 01 'e' a2 0f a4 0d 04 01 'f' 30 08 80 01 'g' 81 03 'h i' 30 00": {Num: 9, Kind: api.OpSearch, DN: "d", Scope: 1,
			Filter: parse(t, "(&(|(a>=b)(c<=)(e=*))(!(f=g*h i*)))")},
		"30 2a 02 01 09 63 25 04 01 'd' 0a 01 00 0a 01 00 02 01 00 02 01 00 01 01 00 a4 0f 04 01 'f' 30 0a 81 01 'a' 81 02 'bc' 82 01 'z' 30 00": {Num: 9, Kind: api.OpSearch, DN: "d", Filter: parse(t, "(f=*a*bc*z)")},
	}
}

// P25.1, P25.2: the bytes of each kind, both ways; the example.
func TestBytes(t *testing.T) {
	for s, r := range sampled(t) {
		want := raw(t, s)
		if b, e := Encode(r); !bytes.Equal(b, want) || e != api.OK || !Is(r) {
			t.Errorf("%x %v\n%x", b, e, want)
		}
		if got, e := Decode(want); !Same(got, r) || e != api.OK {
			t.Error(s, got, e)
		}
		if n, e := Frame(append(want, 1)); n != len(want) || e != api.OK {
			t.Error(s, n, e)
		}
	}
}

// P25.1: requests that may not be.
func TestIs(t *testing.T) {
	kinds := []int{api.OpBind, api.OpUnbind, api.OpSearch, api.OpModify, api.OpAdd, api.OpDelete, api.OpRename, api.OpCompare, api.OpAbandon}
	all := api.Request{DN: "d", Pass: "p", Scope: 1, Limit: 1, Filter: parse(t, "(a=b)"), Want: []string{"w"}, Mods: []api.Mod{{Type: "t"}}, Attrs: []api.Attr{{Type: "t"}}, Rdn: "r", Keep: true, Above: true, Up: "u", Ava: api.Ava{Type: "t"}, Which: 1}
	named := map[int]string{api.OpBind: "dp", api.OpUnbind: "", api.OpSearch: "dslfw", api.OpModify: "dm", api.OpAdd: "da", api.OpDelete: "d", api.OpRename: "drkbu", api.OpCompare: "dc", api.OpAbandon: "x"}
	fields := map[string]func(r *api.Request){
		"d": func(r *api.Request) { r.DN = all.DN }, "p": func(r *api.Request) { r.Pass = all.Pass }, "s": func(r *api.Request) { r.Scope = all.Scope }, "l": func(r *api.Request) { r.Limit = all.Limit }, "f": func(r *api.Request) { r.Filter = all.Filter }, "w": func(r *api.Request) { r.Want = all.Want },
		"m": func(r *api.Request) { r.Mods = all.Mods }, "a": func(r *api.Request) { r.Attrs = all.Attrs }, "r": func(r *api.Request) { r.Rdn = all.Rdn }, "k": func(r *api.Request) { r.Keep = true }, "b": func(r *api.Request) { r.Above = true }, "u": func(r *api.Request) { r.Above, r.Up = true, all.Up },
		"c": func(r *api.Request) { r.Ava = all.Ava }, "x": func(r *api.Request) { r.Which = 1 },
	}
	base := func(kind int) api.Request {
		r := api.Request{Num: 1, Kind: kind}
		if kind == api.OpSearch {
			r.Filter = parse(t, "(a=*)")
		}
		return r
	}
	for _, kind := range kinds {
		if !Is(base(kind)) {
			t.Error(kind)
		}
		for f, set := range fields {
			r := base(kind)
			set(&r)
			if Is(r) != strings.Contains(named[kind], f) {
				t.Error(kind, f)
			}
			b, e := Encode(r)
			if (e == api.OK) != Is(r) || e != api.OK && (b != nil || e != api.ErrArg) {
				t.Error(kind, f, e)
			}
			if got, de := Decode(b); e == api.OK && (de != api.OK || !Same(got, r)) {
				t.Error(kind, f, de)
			}
		}
	}
	search := func(turn func(r *api.Request)) api.Request { r := base(api.OpSearch); turn(&r); return r }
	for i, r := range []api.Request{
		{}, {Kind: api.OpUnbind}, {Num: -1, Kind: api.OpUnbind}, {Num: 1 << 31, Kind: api.OpUnbind}, {Num: 1, Kind: 1}, {Num: 1, Kind: -1}, {Num: 1, Kind: 17}, {Num: 1, Kind: 32}, {Num: 1, Kind: 1 << 62}, {Num: 1, Kind: 256},
		search(func(r *api.Request) { r.Scope = 3 }), search(func(r *api.Request) { r.Scope = -1 }), search(func(r *api.Request) { r.Limit = -1 }), search(func(r *api.Request) { r.Limit = 1 << 31 }), search(func(r *api.Request) { r.Filter = api.Filter{} }), search(func(r *api.Request) { r.Want = make([]string, api.MaxNodes+1) }),
		{Num: 1, Kind: api.OpModify, Mods: []api.Mod{{Kind: 3}}}, {Num: 1, Kind: api.OpModify, Mods: []api.Mod{{}, {Kind: -1}}}, {Num: 1, Kind: api.OpModify, Mods: make([]api.Mod, api.MaxNodes+1)}, {Num: 1, Kind: api.OpModify, Mods: []api.Mod{{Vals: make([]string, api.MaxNodes+1)}}},
		{Num: 1, Kind: api.OpAdd, Attrs: make([]api.Attr, api.MaxNodes+1)}, {Num: 1, Kind: api.OpAdd, Attrs: []api.Attr{{Vals: make([]string, api.MaxNodes+1)}}}, {Num: 1, Kind: api.OpRename, Up: "u"}, {Num: 1, Kind: api.OpAbandon, Which: -1}, {Num: 1, Kind: api.OpAbandon, Which: 1 << 31},
		{Num: 1, Kind: api.OpDelete, DN: string(make([]byte, api.MaxMsg-10))},
	} {
		if b, e := Encode(r); b != nil || e != api.ErrArg || Is(r) {
			t.Error(i, e)
		}
	}
	for i, r := range []api.Request{
		{Num: 1<<31 - 1, Kind: api.OpUnbind}, {Num: 1, Kind: api.OpModify, Mods: slices.Repeat([]api.Mod{{Kind: 2, Vals: make([]string, api.MaxNodes)}}, api.MaxNodes)}, {Num: 1, Kind: api.OpAdd, Attrs: slices.Repeat([]api.Attr{{Vals: make([]string, api.MaxNodes)}}, api.MaxNodes)},
		search(func(r *api.Request) { r.Want = make([]string, api.MaxNodes); r.Limit = 1<<31 - 1 }), {Num: 1, Kind: api.OpDelete, DN: string(make([]byte, api.MaxMsg-11))},
	} {
		b, e := Encode(r)
		if got, de := Decode(b); e != api.OK || de != api.OK || !Same(got, r) || len(b) > api.MaxMsg {
			t.Error(i, e, de, len(b))
		}
	}
}

// P25.2: what may stand otherwise.
func TestOtherwise(t *testing.T) {
	for s, want := range map[string]api.Request{
		"30 81 05 02 01 01 42 00":                         {Num: 1, Kind: api.OpUnbind},
		"30 84 00 00 00 09 02 84 00 00 00 01 01 42 00 ":   {Num: 1, Kind: api.OpUnbind},
		"30 09 02 04 00 00 00 01 42 81 00":                {Num: 1, Kind: api.OpUnbind},
		"30 07 02 01 01 42 00 a0 00":                      {Num: 1, Kind: api.OpUnbind},
		"30 0b 02 01 01 42 00 a0 04 'any\x00'":            {Num: 1, Kind: api.OpUnbind},
		"30 07 02 01 04 50 02 00 07":                      {Num: 4, Kind: api.OpAbandon, Which: 7},
		"30 0d 02 01 02 60 08 02 02 00 03 04 00 80 00":    {Num: 2, Kind: api.OpBind},
		"30 0f 02 01 06 6c 0a 04 03 'o=x' 04 00 01 01 01": {Num: 6, Kind: api.OpRename, DN: "o=x"},
		"30 1b 02 01 09 63 16 04 00 0a 01 02 0a 01 03 02 01 05 02 01 7f 01 01 07 87 01 'o' 30 00":                 {Num: 9, Kind: api.OpSearch, Scope: 2, Limit: 5, Filter: parse(t, "(o=*)")},
		"30 1e 02 01 09 63 19 04 00 0a 01 02 0a 01 01 02 01 05 02 04 7f ff ff ff 01 01 ff 87 01 'o' 30 00":        {Num: 9, Kind: api.OpSearch, Scope: 2, Limit: 5, Filter: parse(t, "(o=*)")},
		"30 20 02 01 09 63 1b 04 01 'd' 0a 01 00 0a 01 00 02 01 00 02 01 00 01 01 00 a8 05 04 01 'o' 04 00 30 00": {Num: 9, Kind: api.OpSearch, DN: "d", Filter: parse(t, "(o=)")},
	} {
		if got, e := Decode(raw(t, s)); !Same(got, want) || e != api.OK {
			t.Error(s, got, e)
		}
	}
}

// sub is a search whose filter is of pieces: tags and texts.
func sub(parts ...string) []byte {
	var b []byte
	for _, p := range parts {
		b = append(b, ber.Tag(p[0], []byte(p[1:]))...)
	}
	f := ber.Tag(0xa4, ber.Tag(4, []byte("cn")), ber.Tag(0x30, b))
	return wrap(0x63, ber.Tag(4), num(10, 0), num(10, 0), num(2, 0), num(2, 0), ber.Tag(1, []byte{0}), f, ber.Tag(0x30))
}

// wrap is a message of a tag and parts.
func wrap(tag byte, parts ...[]byte) []byte {
	return ber.Tag(0x30, num(2, 1), ber.Tag(tag, parts...))
}

// P25.2: pieces of a Sub.
func TestSubs(t *testing.T) {
	for i, c := range []struct {
		parts []string
		want  string
	}{
		{[]string{"\x80a"}, "(cn=a*)"}, {[]string{"\x82a"}, "(cn=*a)"}, {[]string{"\x81a"}, "(cn=*a*)"}, {[]string{"\x80a", "\x81b", "\x81c", "\x82d"}, "(cn=a*b*c*d)"}, {[]string{"\x80a", "\x82b"}, "(cn=a*b)"},
		{[]string{"\x80", "\x81a", "\x82"}, "(cn=*a*)"}, {[]string{"\x82", "\x80a", "\x80", "\x81b", "\x80", "\x82", "\x82c", "\x82", "\x80"}, "(cn=a*b*c)"},
		{nil, ""}, {[]string{"\x80"}, ""}, {[]string{"\x80", "\x82"}, ""}, {[]string{"\x81"}, ""}, {[]string{"\x80a", "\x81", "\x82b"}, ""}, {[]string{"\x80a", "\x80b"}, ""}, {[]string{"\x81a", "\x80b"}, ""}, {[]string{"\x82a", "\x81b"}, ""}, {[]string{"\x82a", "\x82b"}, ""}, {[]string{"\x82a", "\x80b"}, ""}, {[]string{"\x83a"}, ""}, {[]string{"\x04a"}, ""},
		{slices.Repeat([]string{"\x81a"}, 14), "(cn=*" + strings.Repeat("a*", 14) + ")"}, {slices.Repeat([]string{"\x81a"}, 15), ""}, {[]string{"\x80" + strings.Repeat("a", 257)}, ""},
	} {
		r, e := Decode(sub(c.parts...))
		if c.want == "" && e != api.ErrForm || c.want != "" && (e != api.OK || filter.Print(r.Filter) != c.want) {
			t.Error(i, e, filter.Print(r.Filter))
		}
	}
}

// P25.2: bytes that are none: Next's error first.
func TestDecodeErrs(t *testing.T) {
	txt := func(s string) []byte { return text(4, s) }
	seq := func(p ...[]byte) []byte { return ber.Tag(0x30, p...) }
	search := func(turn func(p [][]byte)) []byte {
		p := [][]byte{txt(""), num(10, 0), num(10, 0), num(2, 0), num(2, 0), ber.Tag(1, []byte{0}), text(0x87, "cn"), seq()}
		turn(p)
		return wrap(0x63, p...)
	}
	if _, e := Decode(search(func(p [][]byte) {})); e != api.OK {
		t.Fatal(e)
	}
	deep := func(n int) []byte {
		f := text(0x87, "cn")
		for range n - 1 {
			f = ber.Tag(0xa2, f)
		}
		return f
	}
	if _, e := Decode(search(func(p [][]byte) { p[6] = deep(16) })); e != api.OK {
		t.Error(e)
	}
	good := wrap(0x42)
	for i, c := range []struct {
		b []byte
		e api.Errno
	}{
		{nil, api.ErrShort}, {good[:6], api.ErrShort}, {[]byte{0x3f}, api.ErrForm}, {[]byte{0x30, 0x80}, api.ErrForm}, {raw(t, "30 83 01 00 01"), api.ErrLong}, {append(slices.Clone(good), 0), api.ErrForm}, {ber.Tag(0x31, num(2, 1), ber.Tag(0x42)), api.ErrForm},
		{seq(), api.ErrForm}, {seq(num(2, 1)), api.ErrForm}, {seq(num(2, 0), ber.Tag(0x42)), api.ErrForm}, {seq(num(2, -1), ber.Tag(0x42)), api.ErrForm}, {seq(num(2, 1<<31), ber.Tag(0x42)), api.ErrForm}, {seq(num(10, 1), ber.Tag(0x42)), api.ErrForm}, {seq(ber.Tag(2), ber.Tag(0x42)), api.ErrForm}, {seq(ber.Tag(2, make([]byte, 9)), ber.Tag(0x42)), api.ErrForm},
		{seq(num(2, 1), ber.Tag(0x42), ber.Tag(0xa1)), api.ErrForm}, {seq(num(2, 1), ber.Tag(0x42), ber.Tag(0x80)), api.ErrForm}, {seq(num(2, 1), ber.Tag(0x42), ber.Tag(0xa0), ber.Tag(0xa0)), api.ErrForm}, {seq(num(2, 1), []byte{0x42, 5}), api.ErrForm}, {seq(num(2, 1), []byte{0x42}), api.ErrForm},
		{wrap(0x42, []byte{0}), api.ErrForm}, {wrap(0x62), api.ErrForm}, {wrap(0x6a, []byte("o=x")), api.ErrForm}, {wrap(0x40), api.ErrForm}, {wrap(0x61), api.ErrForm}, {wrap(0x70), api.ErrForm}, {wrap(0x77), api.ErrForm}, {wrap(0x02), api.ErrForm}, {wrap(0xc2), api.ErrForm},
		{wrap(0x60, num(2, 2), txt(""), text(0x80, "")), api.ErrForm}, {wrap(0x60, num(2, 4), txt(""), text(0x80, "")), api.ErrForm}, {wrap(0x60, num(2, 3), txt(""), text(0x83, "")), api.ErrForm}, {wrap(0x60, num(2, 3), txt(""), text(0xa0, "")), api.ErrForm}, {wrap(0x60, num(2, 3), txt("")), api.ErrForm}, {wrap(0x60, num(2, 3), txt(""), text(0x80, ""), txt("")), api.ErrForm},
		{wrap(0x50), api.ErrForm}, {wrap(0x50, ber.Int(-1)), api.ErrForm}, {wrap(0x50, ber.Int(1<<31)), api.ErrForm}, {wrap(0x50, make([]byte, 9)), api.ErrForm},
		{wrap(0x6c, txt("a"), txt("b")), api.ErrForm}, {wrap(0x6c, txt("a"), txt("b"), ber.Tag(1)), api.ErrForm}, {wrap(0x6c, txt("a"), txt("b"), ber.Tag(1, []byte{0, 0})), api.ErrForm}, {wrap(0x6c, txt("a"), txt("b"), ber.Tag(1, []byte{0}), txt("")), api.ErrForm}, {wrap(0x6c, txt("a"), txt("b"), ber.Tag(1, []byte{0}), text(0x80, ""), text(0x80, "")), api.ErrForm},
		{wrap(0x6e, txt("a"), seq(txt("b"))), api.ErrForm}, {wrap(0x6e, txt("a"), ber.Tag(0x31, txt("b"), txt("c"))), api.ErrForm}, {wrap(0x6e, txt("a"), seq(txt("b"), txt("c"), txt("d"))), api.ErrForm}, {wrap(0x6e, txt("a")), api.ErrForm},
		{wrap(0x68, txt("a")), api.ErrForm}, {wrap(0x68, txt("a"), ber.Tag(0x31)), api.ErrForm}, {wrap(0x68, txt("a"), seq(seq(txt("t"), seq()))), api.ErrForm}, {wrap(0x68, txt("a"), seq(ber.Tag(0x31, txt("t"), ber.Tag(0x31)))), api.ErrForm}, {wrap(0x68, txt("a"), seq(seq(txt("t"), ber.Tag(0x31, num(2, 1))))), api.ErrForm}, {wrap(0x68, txt("a"), seq([]byte{4})), api.ErrForm}, {wrap(0x68, txt("a"), seq(seq(txt("t"), ber.Tag(0x31, []byte{4, 9})))), api.ErrForm},
		{wrap(0x68, txt("a"), seq(slices.Repeat([][]byte{seq(txt("t"), ber.Tag(0x31))}, 65)...)), api.ErrForm}, {wrap(0x68, txt("a"), seq(seq(txt("t"), ber.Tag(0x31, slices.Repeat([][]byte{txt("v")}, 65)...)))), api.ErrForm},
		{wrap(0x66, txt("a")), api.ErrForm}, {wrap(0x66, txt("a"), ber.Tag(0x31)), api.ErrForm}, {wrap(0x66, txt("a"), seq([]byte{4})), api.ErrForm}, {wrap(0x66, txt("a"), seq(), seq()), api.ErrForm},
		{wrap(0x66, txt("a"), seq(seq(num(10, 3), seq(txt("t"), ber.Tag(0x31))))), api.ErrForm}, {wrap(0x66, txt("a"), seq(seq(num(2, 0), seq(txt("t"), ber.Tag(0x31))))), api.ErrForm}, {wrap(0x66, txt("a"), seq(seq(num(10, 0)))), api.ErrForm}, {wrap(0x66, txt("a"), seq(ber.Tag(0x31, num(10, 0), seq(txt("t"), ber.Tag(0x31))))), api.ErrForm}, {wrap(0x66, txt("a"), seq(seq(num(10, -1), seq(txt("t"), ber.Tag(0x31))))), api.ErrForm},
		{search(func(p [][]byte) { p[0] = num(2, 0) }), api.ErrForm}, {search(func(p [][]byte) { p[1] = num(10, 3) }), api.ErrForm}, {search(func(p [][]byte) { p[1] = num(2, 0) }), api.ErrForm}, {search(func(p [][]byte) { p[2] = num(10, 4) }), api.ErrForm}, {search(func(p [][]byte) { p[2] = num(10, -1) }), api.ErrForm}, {search(func(p [][]byte) { p[3] = num(2, -1) }), api.ErrForm}, {search(func(p [][]byte) { p[3] = num(2, 1<<31) }), api.ErrForm},
		{search(func(p [][]byte) { p[4] = num(2, -1) }), api.ErrForm}, {search(func(p [][]byte) { p[4] = num(2, 1<<31) }), api.ErrForm}, {search(func(p [][]byte) { p[5] = ber.Tag(1) }), api.ErrForm}, {search(func(p [][]byte) { p[5] = num(2, 0) }), api.ErrForm}, {search(func(p [][]byte) { p[7] = ber.Tag(0x31) }), api.ErrForm}, {search(func(p [][]byte) { p[7] = seq(num(2, 1)) }), api.ErrForm}, {search(func(p [][]byte) { p[7] = seq(slices.Repeat([][]byte{txt("")}, 65)...) }), api.ErrForm}, {search(func(p [][]byte) { p[7] = nil }), api.ErrForm},
		{search(func(p [][]byte) { p[6] = deep(17) }), api.ErrForm}, {search(func(p [][]byte) { p[6] = deep(900) }), api.ErrForm}, {search(func(p [][]byte) { p[6] = text(0xa7, "cn") }), api.ErrForm}, {search(func(p [][]byte) { p[6] = text(0x87, "c n") }), api.ErrForm}, {search(func(p [][]byte) { p[6] = ber.Tag(0xa0) }), api.ErrForm}, {search(func(p [][]byte) { p[6] = ber.Tag(0xa2, deep(1), deep(1)) }), api.ErrForm}, {search(func(p [][]byte) { p[6] = ber.Tag(0xa9, txt("cn"), txt("a")) }), api.ErrForm},
		{search(func(p [][]byte) { p[6] = ber.Tag(0x83, txt("cn"), txt("a")) }), api.ErrForm}, {search(func(p [][]byte) { p[6] = ber.Tag(0x63, txt("cn"), txt("a")) }), api.ErrForm}, {search(func(p [][]byte) { p[6] = ber.Tag(0xa3, txt("cn")) }), api.ErrForm}, {search(func(p [][]byte) { p[6] = ber.Tag(0xa3, txt("cn"), txt(strings.Repeat("a", 257))) }), api.ErrForm}, {search(func(p [][]byte) { p[6] = ber.Tag(0xa1, slices.Repeat([][]byte{deep(1)}, 64)...) }), api.ErrForm}, {search(func(p [][]byte) { p[6] = ber.Tag(0xa0, []byte{0x87}) }), api.ErrForm},
	} {
		if r, e := Decode(c.b); e != c.e || !Same(r, api.Request{}) {
			t.Errorf("%d %x %v", i, c.b[:min(len(c.b), 40)], e)
		}
	}
}

// P25.3: responses, both ways.
func TestResponses(t *testing.T) {
	for s, r := range map[string]api.Response{
		"30 0c 02 01 01 61 07 0a 01 00 04 00 04 00":                                                    {Num: 1, Kind: 1},
		"30 0c 02 01 00 65 07 0a 01 04 04 00 04 00":                                                    {Num: 0, Kind: api.ResDone, Code: api.SizeLimit},
		"30 0f 02 04 7f ff ff ff 6f 07 0a 01 7f 04 00 04 00":                                           {Num: 1<<31 - 1, Kind: 15, Code: 127},
		"30 0c 02 01 02 6d 07 0a 01 50 04 00 04 00":                                                    {Num: 2, Kind: 13, Code: api.Other},
		"30 24 02 01 00 78 1f 0a 01 02 04 00 04 00 8a 16 '1.3.6.1.4.1.1466.20036'":                     {Kind: api.ResNotice, Code: api.Protocol},
		"30 09 02 01 05 64 04 04 00 30 00":                                                             {Num: 5, Kind: api.ResEntry},
		"30 1d 02 01 05 64 18 04 03 'o=x' 30 11 30 08 04 01 'o' 31 03 04 01 'x' 30 05 04 01 'l' 31 00": {Num: 5, Kind: api.ResEntry, DN: "o=x", Attrs: []api.Attr{{Type: "o", Vals: []string{"x"}}, {Type: "l"}}},
	} {
		b, e := EncodeRes(r)
		if e != api.OK || !bytes.Equal(b, raw(t, s)) {
			t.Errorf("%s\n%x", s, b)
		}
		if got, e := DecodeRes(b); !SameRes(got, r) || e != api.OK {
			t.Error(s, got, e)
		}
	}
	for kind := -1; kind < 40; kind++ {
		_, e := EncodeRes(api.Response{Num: 1, Kind: kind})
		if want := slices.Contains([]int{1, 4, 5, 7, 9, 11, 13, 15, 24}, kind); want != (e == api.OK) {
			t.Error(kind, e)
		}
	}
	big := string(make([]byte, api.MaxMsg))
	for i, c := range []struct {
		r api.Response
		e api.Errno
	}{
		{api.Response{Num: -1, Kind: 5}, api.ErrArg}, {api.Response{Num: 1 << 31, Kind: 5}, api.ErrArg}, {api.Response{Kind: 0}, api.ErrArg}, {api.Response{Kind: 1 << 62}, api.ErrArg}, {api.Response{Kind: 261}, api.ErrArg}, {api.Response{Kind: 5, Code: -1}, api.ErrArg}, {api.Response{Kind: 5, Code: 128}, api.ErrArg},
		{api.Response{Kind: 4, Code: 1}, api.ErrArg}, {api.Response{Kind: 5, DN: "a"}, api.ErrArg}, {api.Response{Kind: 24, Attrs: make([]api.Attr, 1)}, api.ErrArg}, {api.Response{Kind: 4, DN: big}, api.ErrLong}, {api.Response{Kind: 4, DN: big, Code: 1}, api.ErrArg}, {api.Response{Num: 1, Kind: 4, DN: big[:api.MaxMsg-16]}, api.ErrLong},
	} {
		if b, e := EncodeRes(c.r); b != nil || e != c.e {
			t.Error(i, e)
		}
	}
}

// P25.3: as long as a response may be.
func TestResLong(t *testing.T) {
	r := api.Response{Num: 1, Kind: 4, DN: string(make([]byte, api.MaxMsg-17))}
	b, e := EncodeRes(r)
	if e != api.OK || len(b) != api.MaxMsg {
		t.Error(len(b), e)
	}
	if got, e := DecodeRes(b); e != api.OK || !SameRes(got, r) {
		t.Error(e)
	}
}

// P25.3: bytes that are no response.
func TestResErrs(t *testing.T) {
	done := func(p ...[]byte) []byte { return ber.Tag(0x30, num(2, 1), ber.Tag(0x65, p...)) }
	code, none := num(10, 0), ber.Tag(4)
	if _, e := DecodeRes(done(code, none, none)); e != api.OK {
		t.Fatal(e)
	}
	for i, c := range []struct {
		b []byte
		e api.Errno
	}{
		{nil, api.ErrShort}, {[]byte{0x1f}, api.ErrForm}, {raw(t, "30 83 01 00 01"), api.ErrLong}, {done(code, none, none)[:9], api.ErrShort}, {append(done(code, none, none), 0), api.ErrForm}, {raw(t, "30 81 0c 02 01 01 61 07 0a 01 00 04 00 04 00"), api.ErrForm}, {done(code, none), api.ErrForm}, {done(code), api.ErrForm}, {done(), api.ErrForm},
		{done(code, none, text(4, "x")), api.ErrForm}, {done(code, text(4, "x"), none), api.ErrForm}, {done(code, none, none, none), api.ErrForm}, {done(num(2, 0), none, none), api.ErrForm}, {done(num(10, 128), none, none), api.ErrForm}, {done(num(10, -1), none, none), api.ErrForm}, {done(ber.Tag(10, []byte{0, 1}), none, none), api.ErrForm},
		{ber.Tag(0x30, num(2, 1), ber.Tag(0x45, code, none, none)), api.ErrForm}, {ber.Tag(0x30, num(2, 1), ber.Tag(0x63, code, none, none)), api.ErrForm}, {ber.Tag(0x30, num(2, 1), ber.Tag(0x78, code, none, none)), api.ErrForm}, {ber.Tag(0x30, num(2, 1), ber.Tag(0x78, code, none, none, text(0x8a, "1.2"))), api.ErrForm}, {ber.Tag(0x31, num(2, 1), ber.Tag(0x65, code, none, none)), api.ErrForm},
		{ber.Tag(0x30, num(2, -1), ber.Tag(0x65, code, none, none)), api.ErrForm}, {ber.Tag(0x30, num(2, 1), ber.Tag(0x65, code, none, none), ber.Tag(0xa0)), api.ErrForm}, {ber.Tag(0x30, num(2, 1)), api.ErrForm}, {ber.Tag(0x30, num(2, 1), ber.Tag(0x64, none)), api.ErrForm}, {ber.Tag(0x30, num(2, 1), ber.Tag(0x64, none, ber.Tag(0x31))), api.ErrForm}, {ber.Tag(0x30, num(2, 1), ber.Tag(0x64, none, ber.Tag(0x30, []byte{4}))), api.ErrForm},
		{ber.Tag(0x30, num(2, 1), ber.Tag(0x64, text(4, string(make([]byte, api.MaxMsg-30))), ber.Tag(0x30, ber.Tag(0x30, ber.Tag(4), ber.Tag(0x31, none))))), api.OK},
	} {
		r, e := DecodeRes(c.b)
		if e != c.e || e != api.OK && !SameRes(r, api.Response{}) {
			t.Errorf("%d %v", i, e)
		}
	}
}

// P25.4: Frame, in the order of what it tells.
func TestFrame(t *testing.T) {
	full := make([]byte, api.MaxMsg+9)
	for i, c := range []struct {
		b string
		n int
		e api.Errno
	}{
		{"", 0, api.OK}, {"\x31", 0, api.ErrForm}, {"\x00\x00", 0, api.ErrForm}, {"\x30", 0, api.OK}, {"\x30\x80", 0, api.ErrForm}, {"\x30\x85", 0, api.ErrForm}, {"\x30\xff", 0, api.ErrForm}, {"\x30\x81", 0, api.OK}, {"\x30\x84\xff\xff\xff", 0, api.OK}, {"\x30\x84\xff\xff\xff\xff", 0, api.ErrLong},
		{"\x30\x83\x00\xff\xfb", 0, api.OK}, {"\x30\x83\x00\xff\xfc", 0, api.ErrLong}, {"\x30\x82\xff\xfc", 0, api.OK}, {"\x30\x82\xff\xfd", 0, api.ErrLong}, {"\x30\x82\xff\xfc" + string(full), api.MaxMsg, api.OK}, {"\x30\x82\xff\xfd" + string(full), 0, api.ErrLong}, {"\x30\x82\xff\xfc" + string(full[:api.MaxMsg-5]), 0, api.OK},
		{"\x30\x00", 2, api.OK}, {"\x30\x01", 0, api.OK}, {"\x30\x01\x00\x30", 3, api.OK}, {"\x30\x81\x00\x00", 3, api.OK}, {"\x30\x84\x00\x00\x00\x01\x00\x00", 7, api.OK},
	} {
		if n, e := Frame([]byte(c.b)); n != c.n || e != c.e {
			t.Error(i, n, e)
		}
	}
}

// P25.3: Same and SameRes tell each field apart.
func TestSame(t *testing.T) {
	l := []api.Request{
		{}, {Num: 1}, {Kind: 1}, {DN: "a"}, {Pass: "a"}, {Scope: 1}, {Limit: 1}, {Filter: api.Filter{Kind: 1}}, {Want: []string{""}}, {Want: []string{"a"}}, {Mods: []api.Mod{{}}}, {Mods: []api.Mod{{Kind: 1}}}, {Mods: []api.Mod{{Type: "a"}}}, {Mods: []api.Mod{{Vals: []string{""}}}}, {Attrs: []api.Attr{{}}}, {Attrs: []api.Attr{{Type: "a"}}}, {Attrs: []api.Attr{{Vals: []string{""}}}},
		{Rdn: "a"}, {Keep: true}, {Above: true}, {Up: "a"}, {Ava: api.Ava{Type: "a"}}, {Ava: api.Ava{Val: "a"}}, {Which: 1},
	}
	for i, a := range l {
		for k, b := range l {
			if Same(a, b) != (i == k) {
				t.Error(i, k)
			}
		}
	}
	m := []api.Response{{}, {Num: 1}, {Kind: 1}, {Code: 1}, {DN: "a"}, {Attrs: []api.Attr{{}}}, {Attrs: []api.Attr{{Type: "a"}}}, {Attrs: []api.Attr{{Vals: []string{""}}}}}
	for i, a := range m {
		for k, b := range m {
			if SameRes(a, b) != (i == k) {
				t.Error(i, k)
			}
		}
	}
	if !Same(api.Request{Want: []string{}, Mods: []api.Mod{}, Attrs: []api.Attr{}}, api.Request{}) || !SameRes(api.Response{Attrs: []api.Attr{}}, api.Response{}) {
		t.Error("nil and empty")
	}
}

// W1: bytes with one turned, cut or doubled: no panic, and what comes out may be.
func TestTurned(t *testing.T) {
	for s := range sampled(t) {
		b := raw(t, s)
		for i := range b {
			for _, d := range []byte{1, 2, 4, 0x20, 0x40, 0x80, 0xff} {
				c := bytes.Clone(b)
				c[i] ^= d
				for _, c := range [][]byte{c, c[:len(c)-1], append(bytes.Clone(c[:i]), c[min(i+1, len(c)):]...), append(bytes.Clone(c[:i+1]), c[i:]...)} {
					r, e := Decode(c)
					if e == api.OK && !Is(r) || e != api.OK && !Same(r, api.Request{}) {
						t.Fatalf("%x", c)
					}
					DecodeRes(c)
					Frame(c)
				}
			}
		}
	}
}

// P25.5, W6: nothing is changed or kept, and every answer is memory of its own.
func TestOwn(t *testing.T) {
	r := api.Request{Num: 8, Kind: api.OpModify, DN: "o=x", Mods: []api.Mod{{Type: "l", Vals: append(make([]string, 0, 3), "a", "b")}, {Type: "m", Vals: []string{"c"}}}}
	b, _ := Encode(r)
	was := bytes.Clone(b)
	x, _ := Decode(b)
	y, _ := Decode(b)
	x.Mods[0].Vals[0] = "z"
	_, _ = append(x.Mods[0].Vals, "q"), append(x.Mods, api.Mod{})
	clear(b)
	if !Same(y, r) || x.Mods[1].Vals[0] != "c" || r.Mods[0].Vals[:3][2] != "" {
		t.Error(y, r)
	}
	c, _ := Encode(r)
	if !bytes.Equal(c, was) {
		t.Error("Encode")
	}
	res := api.Response{Kind: 4, Attrs: []api.Attr{{Type: "a", Vals: []string{"b"}}}}
	d, _ := EncodeRes(res)
	p, _ := DecodeRes(d)
	q, _ := DecodeRes(d)
	p.Attrs[0].Vals[0] = "z"
	if !SameRes(q, res) {
		t.Error(q)
	}
}
