package level

import (
	"slices"
	"strconv"
	"strings"
	"testing"

	"burgess/api"
)

func file(id, level int, first, last string) api.File {
	return api.File{ID: id, Level: level, Size: 10 * id, First: first, Last: last}
}

func version(next int, l ...api.File) api.Version { return api.Version{Next: next, Files: l} }

func same(a, b api.Version) bool { return a.Next == b.Next && slices.Equal(a.Files, b.Files) }

func ids(l []api.File) string {
	s := ""
	for _, f := range l {
		s += strconv.Itoa(f.ID) + " "
	}
	return s
}

// P11.1: which versions may be; Encode and Decode of these, and none of others.
func TestIs(t *testing.T) {
	key := strings.Repeat("k", api.MaxKey)
	one := func(f api.File) api.Version { return version(100, f) }
	many := version(2000)
	for i := range 1 << 10 {
		many.Files = append(many.Files, api.File{ID: i + 1, Size: 1, First: "a", Last: "b"})
	}
	for i, v := range []api.Version{
		version(1), version(1 << 40), one(api.File{ID: 99, Level: 4, Size: api.MaxFrame, First: key, Last: key}),
		version(9, file(3, 0, "a", "z"), file(5, 0, "b", "c"), file(8, 1, "a", "b"), file(2, 1, "c", "c"), file(1, 3, "a", "z")), many,
	} {
		if !Is(v) {
			t.Error(i)
		}
		b, e := Encode(v)
		if e != api.OK {
			t.Error(i, e)
		}
		if got, e := Decode(b); e != api.OK || !same(got, v) {
			t.Error(i, got, e)
		}
	}
	tooMany := version(2000, append(slices.Clone(many.Files), api.File{ID: 1500, Size: 1, First: "a", Last: "b"})...)
	for i, v := range []api.Version{
		{}, version(0), version(-1), version(1<<40 + 1), version(1<<63 - 1), version(-1 << 63), tooMany,
		version(3, file(3, 0, "a", "b")), one(file(0, 0, "a", "b")), one(file(-1, 0, "a", "b")), one(file(1, -1, "a", "b")), one(file(1, 5, "a", "b")),
		one(api.File{ID: 1, First: "a", Last: "b"}), one(api.File{ID: 1, Size: -1, First: "a", Last: "b"}), one(api.File{ID: 1, Size: api.MaxFrame + 1, First: "a", Last: "b"}),
		one(file(1, 0, "", "b")), one(file(1, 0, "", "")), one(file(1, 0, "a", key+"k")), one(file(1, 0, "b", "a")),
		version(9, file(2, 0, "a", "b"), file(1, 0, "a", "b")), version(9, file(2, 0, "a", "b"), file(2, 0, "a", "b")), version(9, file(1, 0, "a", "b"), file(1, 1, "a", "b")),
		version(9, file(1, 1, "a", "b"), file(2, 0, "a", "b")), version(9, file(1, 1, "a", "b"), file(2, 1, "b", "c")), version(9, file(1, 2, "c", "d"), file(2, 2, "a", "b")),
		version(9, file(1, 1, "a", "c"), file(2, 1, "b", "d")),
	} {
		if Is(v) {
			t.Error(i)
		}
		if b, e := Encode(v); b != nil || e != api.ErrArg {
			t.Error(i, e)
		}
		if l, ok := Pick(v); len(l) != 0 || ok {
			t.Error(i, l)
		}
		if got, e := Change(v, nil); e != api.ErrArg || !same(got, api.Version{}) {
			t.Error(i, got, e)
		}
	}
}

// P11.1: the bytes, and bytes that are none.
func TestBytes(t *testing.T) {
	v := version(300, file(3, 0, "a", "bc"), file(2, 1, "d", "d"))
	want := "\xac\x02\x02" + "\x03\x00\x1e\x01a\x02bc" + "\x02\x01\x14\x01d\x01d"
	if b, e := Encode(v); string(b) != want || e != api.OK {
		t.Errorf("%q", b)
	}
	for cut := range want {
		if got, e := Decode([]byte(want[:cut])); e != api.ErrForm || !same(got, api.Version{}) {
			t.Error(cut, got, e)
		}
	}
	for i, b := range []string{
		want + "\x00", "\x01\x01" + want[3:10], "\x00\x00", "\x81\x00\x00", "\x01\x80\x00", "\x05\xff\xff\xff\xff\xff\xff\xff\xff\x3f", "\x05\x01\x03\x00\x00\x01a\x01b", "\x05\x01\x03\x05\x01\x01a\x01b",
	} {
		if got, e := Decode([]byte(b)); e != api.ErrForm || !same(got, api.Version{}) {
			t.Error(i, got, e)
		}
	}
}

// P11.2: Over and Order.
func TestOver(t *testing.T) {
	v := version(20, file(3, 0, "a", "f"), file(7, 0, "c", "d"), file(9, 0, "d", "z"), file(4, 1, "a", "c"), file(2, 1, "d", "d"), file(8, 1, "e", "h"), file(1, 3, "b", "y"))
	for _, c := range []struct {
		level    int
		from, to string
		want     string
	}{
		{0, "d", "d", "3 7 9 "}, {0, "a", "b", "3 "}, {0, "g", "z", "9 "}, {1, "c", "d", "4 2 "}, {1, "cc", "cd", ""}, {1, "a", "z", "4 2 8 "}, {1, "d", "e", "2 8 "},
		{2, "a", "z", ""}, {3, "", "a", ""}, {3, "", "b", "1 "}, {3, "y", "zz", "1 "}, {3, "yy", "z", ""}, {-1, "a", "z", ""}, {1 << 62, "a", "z", ""}, {1, "z", "a", ""}, {1, "g", "f", "8 "},
	} {
		if got := ids(Over(v, c.level, c.from, c.to)); got != c.want {
			t.Error(c.level, c.from, c.to, got)
		}
	}
	for key, want := range map[string]string{"": "", "a": "3 4 ", "d": "9 7 3 2 1 ", "e": "9 3 8 1 ", "z": "9 ", "zz": "", "c": "7 3 4 1 "} {
		if got := ids(Order(v, key)); got != want {
			t.Error(key, got)
		}
	}
	strange := version(0, file(9, 2, "a", "z"), file(5, 0, "a", "z"), file(1, 1, "a", "z"), file(3, 0, "a", "z"), file(7, 99, "a", "z"), file(9, 2, "b", "z"))
	if got := ids(Order(strange, "c")); got != "3 5 1 9 9 7 " {
		t.Error(got)
	}
	if got := ids(Over(strange, 0, "c", "c")); got != "5 3 " {
		t.Error(got)
	}
}

func wide(level, n, from int) []api.File {
	var l []api.File
	for i := range n {
		key := strconv.Itoa(1000 + i)
		l = append(l, file(from+(i+5)%n, level, key, key+"x"))
	}
	return l
}

// P11.3: what is due.
func TestPick(t *testing.T) {
	zero := []api.File{file(11, 0, "d", "e"), file(12, 0, "c", "d"), file(13, 0, "f", "g"), file(14, 0, "d", "d")}
	one := []api.File{file(1, 1, "a", "b"), file(2, 1, "bb", "c"), file(3, 1, "e", "e"), file(4, 1, "g", "k"), file(5, 1, "l", "m")}
	for i, c := range []struct {
		v    api.Version
		want string
	}{
		{version(50), ""}, {version(50, zero[:3]...), ""}, {version(50, zero...), "11 12 13 14 "},
		{version(50, append(slices.Clone(zero), one...)...), "11 12 13 14 2 3 4 "},
		{version(50, append(append(slices.Clone(zero), file(15, 0, "z", "z")), one...)...), "11 12 13 14 15 2 3 4 5 "},
		{version(50, one[:4]...), ""}, {version(50, one...), "1 "},
		{version(50, append(slices.Clone(one), file(20, 2, "a", "a"), file(21, 2, "b", "f"), file(22, 2, "g", "g"))...), "1 20 21 "},
		{version(99, wide(2, 16, 1)...), ""}, {version(99, wide(2, 17, 1)...), "1 "},
		{version(99, append(wide(2, 17, 1), file(50, 3, "0", "5"))...), "1 50 "},
		{version(99, wide(3, 64, 1)...), ""}, {version(99, wide(3, 65, 1)...), "1 "}, {version(999, wide(4, 300, 1)...), ""},
		{version(99, append(wide(1, 5, 40), wide(2, 17, 1)...)...), "40 6 "},
		{version(99, append(wide(1, 4, 40), wide(2, 17, 1)...)...), "1 "},
	} {
		l, ok := Pick(c.v)
		if got := ids(l); got != c.want || ok != (c.want != "") {
			t.Error(i, got, ok)
		}
	}
}

// P11.4: Change.
func TestChange(t *testing.T) {
	v := version(10, file(3, 0, "a", "f"), file(7, 0, "c", "d"), file(4, 1, "c", "e"), file(2, 2, "d", "d"))
	for i, c := range []struct {
		gone []int
		add  []api.File
		next int
		want string
	}{
		{nil, nil, 10, "3 7 4 2 "}, {[]int{7, 2}, nil, 10, "3 4 "}, {[]int{3, 7, 4, 2}, nil, 10, ""},
		{nil, []api.File{file(12, 1, "f", "g"), file(11, 1, "a", "b"), file(9, 0, "a", "z"), file(1, 0, "a", "z")}, 13, "1 3 7 9 11 4 12 2 "},
		{[]int{4}, []api.File{file(4, 1, "a", "z")}, 10, "3 7 4 2 "}, {nil, []api.File{file(1<<40-1, 4, "a", "z")}, 1 << 40, "3 7 4 2 1099511627775 "},
	} {
		before := ids(v.Files)
		got, e := Change(v, c.gone, func() []api.File {
			for k := range c.add {
				c.add[k].Size = 1
			}
			return c.add
		}()...)
		if e != api.OK || got.Next != c.next || ids(got.Files) != c.want || !Is(got) || ids(v.Files) != before {
			t.Error(i, got, e)
		}
	}
	for i, c := range []struct {
		gone []int
		add  []api.File
	}{
		{[]int{1}, nil}, {[]int{3, 3}, nil}, {[]int{3, 0}, nil}, {[]int{-1 << 63}, nil}, {[]int{3, 7, 4, 2, 1}, nil},
		{nil, []api.File{file(7, 3, "a", "b")}}, {nil, []api.File{file(11, 1, "e", "f")}}, {nil, []api.File{file(11, 1, "", "f")}}, {nil, []api.File{file(0, 1, "x", "y")}},
		{nil, []api.File{{ID: 1 << 40, Size: 1, First: "a", Last: "b"}}}, {nil, []api.File{{ID: 1<<63 - 1, Size: 1, First: "a", Last: "b"}}}, {nil, []api.File{{ID: -1 << 63, Size: 1, First: "a", Last: "b"}}},
		{nil, []api.File{file(11, 5, "a", "b")}}, {nil, []api.File{file(11, 0, "a", "b"), file(11, 0, "a", "b")}},
	} {
		if got, e := Change(v, c.gone, c.add...); e != api.ErrArg || !same(got, api.Version{}) {
			t.Error(i, got, e)
		}
	}
	var add []api.File
	for i := range 1 << 10 {
		add = append(add, api.File{ID: 100 + i, Level: 0, Size: 1, First: "a", Last: "b"})
	}
	if _, e := Change(version(1), nil, add...); e != api.OK {
		t.Error(e)
	}
	if _, e := Change(v, nil, add...); e != api.ErrArg {
		t.Error(e)
	}
}

// P11.5, W6: nothing is changed or kept, and every answer is memory of its own.
func TestOwn(t *testing.T) {
	v := version(50, append(make([]api.File, 0, 9), file(1, 0, "a", "b"), file(2, 0, "a", "b"), file(3, 0, "a", "b"), file(4, 0, "a", "b"), file(5, 1, "a", "b"))...)
	before := slices.Clone(v.Files)
	gone := append(make([]int, 0, 4), 5, 1)
	add := append(make([]api.File, 0, 4), file(9, 2, "b", "c"), file(8, 2, "a", "a"))
	a := Over(v, 0, "a", "b")
	b, _ := Pick(v)
	c, _ := Change(v, gone, add...)
	d := Order(v, "a")
	enc, _ := Encode(v)
	e, _ := Decode(enc)
	f, _ := Change(v, nil)
	for _, l := range [][]api.File{a, b, c.Files, d, e.Files, f.Files} {
		l[0].ID = 77
		_ = append(l, file(99, 0, "q", "q"))
	}
	clear(enc)
	if !slices.Equal(v.Files, before) || gone[0] != 5 || gone[:3][2] != 0 || add[0].ID != 9 || add[:3][2] != (api.File{}) {
		t.Error(v, gone, add)
	}
	if a[1].ID != 2 || b[1].ID != 2 || d[1].ID != 3 || e.Files[1].ID != 2 || f.Files[1].ID != 2 || ids(c.Files) != "77 3 4 8 9 " {
		t.Error(a, b, c, d, e, f)
	}
}
