package disk

import (
	"slices"
	"strconv"
	"strings"
	"testing"

	"burgess/api"
)

func room(t *testing.T, n int) *Disk {
	t.Helper()
	d, e := New(n)
	if e != api.OK {
		t.Fatal(e)
	}
	return d
}

func ok(t *testing.T, l ...api.Errno) {
	t.Helper()
	for i, e := range l {
		if e != api.OK {
			t.Fatal(i, e)
		}
	}
}

func read(t *testing.T, d *Disk, name string) string {
	t.Helper()
	p, e := d.Read(name)
	ok(t, e)
	return string(p)
}

// all is all that a disk tells, and what of it lasts.
func all(d *Disk) string {
	s := strconv.Itoa(d.Used())
	c := d.Copy()
	c.Crash(0)
	for _, name := range d.List() {
		p, _ := d.Read(name)
		q, _ := c.Read(name)
		s += "|" + name + "=" + string(p) + "/" + strconv.Itoa(len(q))
	}
	return s
}

// P3.1: how much room may be.
func TestNew(t *testing.T) {
	for _, n := range []int{-1, -1 << 63, 1<<30 + 1, 1<<63 - 1} {
		if d, e := New(n); d != nil || e != api.ErrArg {
			t.Error(n, e)
		}
	}
	for _, n := range []int{0, 1, 1 << 30} {
		if d := room(t, n); d.Used() != 0 || len(d.List()) != 0 {
			t.Error(n)
		}
	}
}

// The example.
func TestExample(t *testing.T) {
	d := room(t, 100)
	ok(t, d.Append("a", []byte("12"), []byte("34")), d.Sync("a"), d.Append("a", []byte("56")))
	d.Crash(1)
	if s := read(t, d, "a"); s != "12345" {
		t.Error(s)
	}
}

// P3.1: names are 1 to 64 bytes; ErrDead is ahead of ErrArg, that ahead of the others.
func TestNames(t *testing.T) {
	d := room(t, 1000)
	long := strings.Repeat("n", 64)
	ok(t, d.Append(long), d.Sync(long), d.Truncate(long, 0), d.Rename(long, "\x00"), d.Remove("\x00"))
	bad := func(want api.Errno) {
		for _, name := range []string{"", long + "n"} {
			for i, e := range []api.Errno{
				d.Append(name), d.Append(name, make([]byte, 2000)), d.Sync(name), d.Truncate(name, -1),
				d.Rename(name, "b"), d.Rename("none", name), d.Rename("a", name), d.Remove(name),
			} {
				if e != want {
					t.Error(i, len(name), e)
				}
			}
		}
	}
	ok(t, d.Append("a", []byte("x")))
	before := all(d)
	bad(api.ErrArg)
	d.Fuse(0)
	bad(api.ErrDead)
	if all(d) != before {
		t.Error(all(d))
	}
}

// P3.2: Append: room, and how many files.
func TestAppend(t *testing.T) {
	d := room(t, 10)
	ok(t, d.Append("a", []byte("123"), nil, []byte("45")), d.Append("b"), d.Append("a", []byte("67")))
	if d.Used() != 7 || read(t, d, "a") != "1234567" || read(t, d, "b") != "" {
		t.Error(all(d))
	}
	before := all(d)
	for _, e := range []api.Errno{d.Append("a", []byte("1234")), d.Append("c", []byte("12"), []byte("34")), d.Append("b", make([]byte, 11))} {
		if e != api.ErrFull {
			t.Error(e)
		}
	}
	if all(d) != before {
		t.Error(all(d))
	}
	ok(t, d.Append("c", []byte("12"), []byte("3")))
	if d.Used() != 10 || d.Append("d", []byte("1")) != api.ErrFull || d.Append("d") != api.OK {
		t.Error(all(d))
	}
}

// P3.2: MaxFiles files, and no more; those that are there still take.
func TestFiles(t *testing.T) {
	d := room(t, 1<<20)
	for i := range api.MaxFiles {
		ok(t, d.Append("f"+strconv.Itoa(i)))
	}
	if d.Append("one more") != api.ErrFull || d.Append("f0", []byte("x")) != api.OK || len(d.List()) != api.MaxFiles {
		t.Error(len(d.List()))
	}
	ok(t, d.Rename("f1", "g"), d.Rename("g", "f2"), d.Append("one more"))
}

// P3.2: Sync and Truncate.
func TestTruncate(t *testing.T) {
	d := room(t, 100)
	for _, e := range []api.Errno{d.Sync("a"), d.Truncate("a", 0), d.Truncate("a", -1), d.Remove("a"), d.Rename("a", "b"), d.Rename("a", "a")} {
		if e != api.ErrNone {
			t.Error(e)
		}
	}
	ok(t, d.Append("a", []byte("12345")))
	for _, n := range []int{-1, 6, 1<<63 - 1, -1 << 63} {
		if e := d.Truncate("a", n); e != api.ErrArg {
			t.Error(n, e)
		}
	}
	ok(t, d.Truncate("a", 5), d.Sync("a"), d.Truncate("a", 2), d.Append("a", []byte("xyz")))
	if d.Used() != 5 || all(d) != "5|a=12xyz/2" {
		t.Error(all(d))
	}
	d.Crash(1)
	if read(t, d, "a") != "12x" {
		t.Error(all(d))
	}
	ok(t, d.Truncate("a", 0))
	if d.Used() != 0 || read(t, d, "a") != "" {
		t.Error(all(d))
	}
}

// P3.3: Rename and Remove last at once, and make room.
func TestRename(t *testing.T) {
	d := room(t, 10)
	ok(t, d.Append("a", []byte("123")), d.Sync("a"), d.Append("a", []byte("4")), d.Append("b", []byte("56")))
	ok(t, d.Rename("a", "b"))
	if all(d) != "4|b=1234/3" {
		t.Error(all(d))
	}
	ok(t, d.Rename("b", "b"))
	if all(d) != "4|b=1234/3" {
		t.Error(all(d))
	}
	d.Crash(0)
	if all(d) != "3|b=123/3" {
		t.Error(all(d))
	}
	ok(t, d.Append("c", []byte("7")), d.Remove("b"))
	d.Crash(1)
	if all(d) != "1|c=7/1" {
		t.Error(all(d))
	}
}

// P3.1, Ways: several names are what they are of each, up to the first that errs; of none nothing is done.
func TestSeveral(t *testing.T) {
	d := room(t, 100)
	for _, name := range []string{"a", "b", "c"} {
		ok(t, d.Append(name, []byte(name)))
	}
	if e := d.Sync("a", "none", "b"); e != api.ErrNone || all(d) != "3|a=a/1|b=b/0|c=c/0" {
		t.Error(e, all(d))
	}
	if e := d.Remove("a", "", "b"); e != api.ErrArg || all(d) != "2|b=b/0|c=c/0" {
		t.Error(e, all(d))
	}
	if e := d.Remove("b", "b", "c"); e != api.ErrNone || all(d) != "1|c=c/0" {
		t.Error(e, all(d))
	}
	d.Fuse(1)
	ok(t, d.Sync(), d.Remove(), d.Sync("c"))
	ok(t, d.Sync(), d.Remove())
	if e := d.Sync("c"); e != api.ErrDead {
		t.Error(e)
	}
}

// P3.4: the fuse counts what does not err, each name for itself.
func TestFuse(t *testing.T) {
	d := room(t, 100)
	ok(t, d.Append("a", []byte("1")))
	d.Fuse(6)
	d.Sync("none")
	d.Append("b", make([]byte, 200))
	d.Truncate("a", 7)
	ok(t, d.Append("b"), d.Sync("a", "b"), d.Truncate("a", 0), d.Rename("a", "c"))
	if e := d.Remove("b", "c"); e != api.ErrDead || len(d.List()) != 1 {
		t.Error(e, d.List())
	}
	before := all(d)
	for i, e := range []api.Errno{d.Append("a"), d.Sync("c"), d.Truncate("c", 0), d.Rename("c", "d"), d.Remove("c"), d.Sync("none")} {
		if e != api.ErrDead {
			t.Error(i, e)
		}
	}
	if all(d) != before {
		t.Error(all(d))
	}
	d.Fuse(-1)
	ok(t, d.Append("a"))
	d.Fuse(0)
	if d.Append("a") != api.ErrDead {
		t.Error("a fuse of nothing")
	}
	if c := d.Copy(); c.Append("a") != api.OK {
		t.Error("a copy has a fuse")
	}
	d.Crash(0)
	ok(t, d.Append("a"))
}

// P3.4: a crash leaves what lasts, and so many others as the draw says; all that is there lasts.
func TestCrash(t *testing.T) {
	for _, c := range []struct {
		draw int
		want string
	}{
		{0, "5|a=12/2|b=/0|c=abc/3"}, {-5, "5|a=12/2|b=/0|c=abc/3"}, {1, "7|a=123/3|b=x/1|c=abc/3"},
		{2, "9|a=1234/4|b=xy/2|c=abc/3"}, {3, "5|a=12/2|b=/0|c=abc/3"}, {4, "7|a=123/3|b=x/1|c=abc/3"}, {1<<63 - 1, "7|a=123/3|b=x/1|c=abc/3"},
	} {
		d := room(t, 100)
		ok(t, d.Append("a", []byte("12")), d.Sync("a"), d.Append("a", []byte("34")), d.Append("b", []byte("xy")), d.Append("c", []byte("abc")), d.Sync("c"))
		d.Crash(c.draw)
		if got := all(d); got != c.want {
			t.Error(c.draw, got)
		}
		d.Crash(0)
		if got := all(d); got != c.want {
			t.Error("again", c.draw, got)
		}
	}
}

// P3.5: List rises; a Copy goes its own way, with the same room.
func TestCopy(t *testing.T) {
	d := room(t, 10)
	for _, name := range []string{"b", "a", "\xff", "ab", "B"} {
		ok(t, d.Append(name, []byte(name)))
	}
	if l := d.List(); !slices.Equal(l, []string{"B", "a", "ab", "b", "\xff"}) {
		t.Error(l)
	}
	ok(t, d.Sync("ab"))
	c := d.Copy()
	if all(c) != all(d) {
		t.Error(all(c))
	}
	before := all(d)
	ok(t, c.Append("a", []byte("1234")), c.Remove("b"))
	if c.Append("a", []byte("12")) != api.ErrFull || all(d) != before {
		t.Error(all(d), all(c))
	}
	if p, e := d.Read("none"); p != nil || e != api.ErrNone {
		t.Error(p, e)
	}
	if p, e := d.Read(""); p != nil || e != api.ErrNone {
		t.Error(p, e)
	}
}

// P3.6, W6: nothing is changed or kept, and every answer is memory of its own.
func TestOwn(t *testing.T) {
	d := room(t, 100)
	in := append(make([]byte, 0, 32), "abc"...)
	ok(t, d.Append("a", in, in), d.Sync("a"))
	in[0] = 'X'
	p, _ := d.Read("a")
	p[1] = 'Y'
	_ = append(p, "more"...)
	q, _ := d.Read("a")
	l := d.List()
	l[0] = "z"
	if string(q) != "abcabc" || string(p) != "aYcabc" || d.List()[0] != "a" || in[:4][3] != 0 {
		t.Errorf("%q %q %q", p, q, in)
	}
	ok(t, d.Append("a", []byte("d")), d.Truncate("a", 1), d.Append("a", []byte("zz")))
	if string(q) != "abcabc" || read(t, d, "a") != "azz" {
		t.Errorf("%q", q)
	}
}

// P3.6: a nil Disk, and one that New did not make.
func TestNil(t *testing.T) {
	var d *Disk
	for i, e := range []api.Errno{d.Append("a"), d.Sync("a"), d.Sync(), d.Truncate("a", 0), d.Rename("a", "b"), d.Remove("a"), d.Remove()} {
		if e != api.ErrArg {
			t.Error(i, e)
		}
	}
	if p, e := d.Read("a"); p != nil || e != api.ErrNone {
		t.Error(p, e)
	}
	d.Fuse(1)
	d.Crash(1)
	if len(d.List()) != 0 || d.Used() != 0 || d.Copy() != nil {
		t.Error("something")
	}
	var z Disk
	if z.Append("a", []byte("1")) != api.ErrFull || z.Append("a") != api.OK || z.Remove("a") != api.OK {
		t.Error(z.List())
	}
}
