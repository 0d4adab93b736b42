package keep

import (
	"bytes"
	"slices"
	"strings"
	"testing"

	"burgess/api"
	"burgess/disk"
	"burgess/frame"
)

func room(t *testing.T, n int) *disk.Disk {
	t.Helper()
	d, e := disk.New(n)
	ok(t, e)
	return d
}

func ok(t *testing.T, l ...api.Errno) {
	t.Helper()
	for i, e := range l {
		if e != api.OK {
			t.Fatal(i, e)
		}
	}
}

func load(t *testing.T, d *disk.Disk, name string) string {
	t.Helper()
	p, e := Load(d, name)
	ok(t, e)
	return string(p)
}

// P4.1, P4.2: what is Saved is a record in the file, wholly synced; rows side by side (Ways); the example.
func TestSave(t *testing.T) {
	d := room(t, 1000)
	ok(t, Save(d, "a", []byte("12"), []byte("3")))
	d.Crash(0)
	if s := load(t, d, "a"); s != "123" {
		t.Error(s)
	}
	want, _ := frame.Encode([]byte("123"))
	if b, _ := d.Read("a"); !bytes.Equal(b, want) || !slices.Equal(d.List(), []string{"a"}) {
		t.Error(b, d.List())
	}
	ok(t, Save(d, "a"))
	if s := load(t, d, "a"); s != "" {
		t.Error(s)
	}
	ok(t, d.Append("a~", []byte("left behind")), Save(d, "a", []byte("x")))
	if s := load(t, d, "a"); s != "x" || !slices.Equal(d.List(), []string{"a"}) {
		t.Error(s, d.List())
	}
}

// P4.1: the things that are done on the disk, one by one: three, and one more if something was left behind.
func TestSteps(t *testing.T) {
	for left := range 2 {
		for n := range 6 {
			d := room(t, 1000)
			if left == 1 {
				ok(t, d.Append("a~", []byte("left")))
			}
			d.Fuse(n)
			want := api.OK
			if n < 3+left {
				want = api.ErrDead
			}
			if e := Save(d, "a", []byte("x")); e != want {
				t.Error(left, n, e)
			}
		}
	}
}

// P4.1: wrong inputs, in their order; an error of the disk leaves what was there.
func TestSaveErrs(t *testing.T) {
	d := room(t, 40)
	long := make([]byte, api.MaxFrame+1)
	for _, e := range []api.Errno{Save(nil, "a"), Save(nil, "a", long), Save(d, "", long), Save(d, strings.Repeat("n", 61), long)} {
		if e != api.ErrArg {
			t.Error(e)
		}
	}
	ok(t, Save(d, "a", []byte("old")), d.Append("b~", []byte("left")))
	d.Fuse(0)
	if e := Save(d, "a", long); e != api.ErrLong {
		t.Error(e)
	}
	if e := Save(d, "b", []byte("x")); e != api.ErrDead {
		t.Error(e)
	}
	d.Fuse(-1)
	if e := Save(d, "a", make([]byte, 20)); e != api.ErrFull {
		t.Error(e)
	}
	if s := load(t, d, "a"); s != "old" {
		t.Error(s)
	}
	name := strings.Repeat("n", 60)
	ok(t, d.Remove("b~"), Save(d, name, []byte("x")))
	if s := load(t, d, name); s != "x" {
		t.Error(s)
	}
}

// P4.2: Load's errors.
func TestLoadErrs(t *testing.T) {
	d := room(t, 1000)
	record, _ := frame.Encode([]byte("hello"))
	ok(t, d.Append("empty"), d.Append("torn", record[:9]), d.Append("more", record, []byte{0}), d.Append("two", record, record))
	turned := bytes.Clone(record)
	turned[9] ^= 1
	ok(t, d.Append("turned", turned))
	for _, c := range []struct {
		d    *disk.Disk
		name string
		e    api.Errno
	}{
		{nil, "two", api.ErrArg}, {nil, "", api.ErrArg}, {d, "none", api.ErrNone}, {d, "", api.ErrNone}, {d, strings.Repeat("n", 99), api.ErrNone},
		{d, "empty", api.ErrForm}, {d, "torn", api.ErrForm}, {d, "more", api.ErrForm}, {d, "two", api.ErrForm}, {d, "turned", api.ErrForm},
	} {
		if p, e := Load(c.d, c.name); p != nil || e != c.e {
			t.Error(c.name, p, e)
		}
	}
}

// P4.3: Clear takes what has the prefix, but for what is to stay, by names, up to the first error.
func TestClear(t *testing.T) {
	all := []string{"s1", "t", "t1", "t10", "t2", "t2~", "u"}
	full := func() *disk.Disk {
		d := room(t, 1000)
		for _, name := range all {
			ok(t, d.Append(name, []byte(name)))
		}
		return d
	}
	for _, c := range []struct {
		prefix string
		stay   []string
		want   []string
	}{
		{"t", nil, []string{"s1", "u"}},
		{"t", []string{"t10", "t2", "u", "none"}, []string{"s1", "t10", "t2", "u"}},
		{"x", nil, all},
		{"", []string{"t"}, []string{"t"}},
		{"t2", []string{"t2"}, []string{"s1", "t", "t1", "t10", "t2", "u"}},
	} {
		d := full()
		ok(t, Clear(d, c.prefix, c.stay...))
		if l := d.List(); !slices.Equal(l, c.want) {
			t.Error(c.prefix, c.stay, l)
		}
	}
	d := full()
	d.Fuse(2)
	if e := Clear(d, "t", "t1"); e != api.ErrDead || !slices.Equal(d.List(), []string{"s1", "t1", "t2", "t2~", "u"}) {
		t.Error(e, d.List())
	}
	ok(t, Clear(d, "x"))
	if e := Clear(nil, "t"); e != api.ErrArg {
		t.Error(e)
	}
}

// P4.4: behind any crash Load tells what was Saved last with OK, or what the Save that erred was to write.
func TestCrashes(t *testing.T) {
	for first := range 2 {
		for n := range 6 {
			for draw := range 25 {
				d := room(t, 1000)
				if first == 1 {
					ok(t, Save(d, "a", []byte("old")))
				}
				d.Fuse(n)
				e := Save(d, "a", []byte("newer"))
				d.Crash(draw)
				p, le := Load(d, "a")
				old := first == 1 && le == api.OK && string(p) == "old" || first == 0 && le == api.ErrNone
				now := le == api.OK && string(p) == "newer"
				if e == api.OK && !now || e != api.OK && !now && !old {
					t.Error(first, n, draw, string(p), le)
				}
				ok(t, Save(d, "a", []byte("third")))
				if s := load(t, d, "a"); s != "third" {
					t.Error(s)
				}
			}
		}
	}
}

// P4.4, W6: nothing is changed or kept, and every answer is memory of its own.
func TestOwn(t *testing.T) {
	d := room(t, 1000)
	in := append(make([]byte, 0, 32), "abc"...)
	ok(t, Save(d, "a", in))
	in[0] = 'X'
	p, _ := Load(d, "a")
	q, _ := Load(d, "a")
	p[1] = 'Y'
	_ = append(p, "more"...)
	if string(q) != "abc" || load(t, d, "a") != "abc" || in[:4][3] != 0 {
		t.Errorf("%q %q", p, q)
	}
	stay := append(make([]string, 0, 4), "b", "a")
	ok(t, Clear(d, "", stay...))
	if !slices.Equal(stay[:4], []string{"b", "a", "", ""}) {
		t.Error(stay[:4])
	}
}
