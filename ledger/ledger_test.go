package ledger

import (
	"bytes"
	"slices"
	"strconv"
	"strings"
	"testing"

	"burgess/api"
	"burgess/disk"
	"burgess/frame"
	"burgess/keep"
	"burgess/octet"
)

func ok(t *testing.T, l ...api.Errno) {
	t.Helper()
	for i, e := range l {
		if e != api.OK {
			t.Fatal(i, e)
		}
	}
}

func room(t *testing.T, n int) *disk.Disk {
	t.Helper()
	d, e := disk.New(n)
	ok(t, e)
	return d
}

func open(t *testing.T, d *disk.Disk) *Ledger {
	t.Helper()
	l, e := Open(d, "a")
	ok(t, e)
	return l
}

func add(t *testing.T, l *Ledger, p string, want int) {
	t.Helper()
	if n, e := l.Append([]byte(p)); n != want || e != api.OK {
		t.Fatal(n, e)
	}
}

// tell is all that a ledger tells.
func tell(l *Ledger) string {
	n, data := l.Base()
	s := strconv.Itoa(n) + " " + string(data)
	for i := n + 1; i <= l.Last(); i++ {
		p, e := l.At(i)
		if e != api.OK {
			s += " error " + strconv.Itoa(int(e))
		}
		s += " " + strconv.Itoa(i) + ":" + string(p)
	}
	return s
}

func entryBytes(n int, p string) []byte {
	var w octet.Writer
	w.Nums(n)
	w.Bytes([]byte(p))
	return w.Out()
}

func record(n int, p string) []byte {
	b, _ := frame.Encode(entryBytes(n, p))
	return b
}

// The example.
func TestExample(t *testing.T) {
	d := room(t, 1000)
	l := open(t, d)
	if n, p := l.Base(); n != 0 || len(p) != 0 || l.Last() != 0 {
		t.Error(n, p)
	}
	add(t, l, "x", 1)
	ok(t, l.Write(1, []byte("y")))
	add(t, l, "z", 2)
	d.Crash(0)
	l = open(t, d)
	if s := tell(l); s != "1 y 2:z" || l.Last() != 2 {
		t.Error(s)
	}
}

// Words: what stands on the disk.
func TestFiles(t *testing.T) {
	d := room(t, 1<<20)
	l := open(t, d)
	if len(d.List()) != 0 {
		t.Error(d.List())
	}
	add(t, l, "x", 1)
	add(t, l, "", 2)
	if b, _ := d.Read("a-log"); !bytes.Equal(b, append(record(1, "x"), record(2, "")...)) || !slices.Equal(d.List(), []string{"a-log"}) {
		t.Errorf("%x", b)
	}
	ok(t, l.Write(7, []byte("img")))
	p, e := keep.Load(d, "a-img")
	if e != api.OK || !bytes.Equal(p, entryBytes(7, "img")) || !slices.Equal(d.List(), []string{"a-img"}) {
		t.Errorf("%x %v", p, d.List())
	}
	add(t, l, "z", 8)
	if tell(l) != "7 img 8:z" || tell(open(t, d)) != "7 img 8:z" {
		t.Error(tell(l))
	}
	ok(t, l.Drop())
	if len(d.List()) != 0 || tell(l) != "0 " || tell(open(t, d)) != "0 " { // P5.4: it is told as an Open tells it
		t.Error(d.List(), tell(l))
	}
}

// P5.1: ErrArg, and prefixes of 1 to 20 bytes.
func TestPrefix(t *testing.T) {
	d := room(t, 1000)
	for _, p := range []string{"", strings.Repeat("p", 21)} {
		if l, e := Open(d, p); l != nil || e != api.ErrArg {
			t.Error(e)
		}
	}
	if l, e := Open(nil, "a"); l != nil || e != api.ErrArg {
		t.Error(e)
	}
	long := strings.Repeat("p", 20)
	l, e := Open(d, long)
	ok(t, e)
	add(t, l, "x", 1)
	other := open(t, d)
	if other.Last() != 0 {
		t.Error("another prefix")
	}
	ok(t, l.Write(1, nil))
}

// P5.1: images that are none.
func TestImages(t *testing.T) {
	for i, c := range []struct {
		img []byte
		e   api.Errno
	}{
		{entryBytes(0, ""), api.OK}, {entryBytes(1<<40, "x"), api.OK}, {entryBytes(1<<40+1, "x"), api.ErrForm}, {nil, api.ErrForm},
		{entryBytes(3, "xy")[:3], api.ErrForm}, {append(entryBytes(3, "x"), 0), api.ErrForm}, {[]byte{0x80, 0, 0}, api.ErrForm},
	} {
		d := room(t, 1000)
		ok(t, keep.Save(d, "a-img", c.img))
		if l, e := Open(d, "a"); e != c.e || (l == nil) != (e != api.OK) {
			t.Error(i, e)
		}
	}
	d := room(t, 1000)
	ok(t, d.Append("a-img", []byte("no record")))
	if l, e := Open(d, "a"); l != nil || e != api.ErrForm {
		t.Error(e)
	}
}

// P5.1: logs, with an image of the number 5.
func TestLogs(t *testing.T) {
	raw := func(b []byte) []byte {
		r, _ := frame.Encode(b)
		return r
	}
	for i, c := range []struct {
		log  [][]byte
		want string
		e    api.Errno
		left int
	}{
		{[][]byte{record(6, "x"), record(7, "y")}, "5 i 6:x 7:y", api.OK, 2},
		{[][]byte{record(4, "u"), record(5, "v"), record(6, "x")}, "5 i 6:x", api.OK, 3},
		{[][]byte{record(1, "u"), record(2, "v")}, "5 i", api.OK, -1},
		{[][]byte{record(5, "u")}, "5 i", api.OK, -1},
		{nil, "5 i", api.OK, -1},
		{[][]byte{record(7, "u")}, "", api.ErrForm, 1},
		{[][]byte{record(6, "u"), record(8, "v")}, "", api.ErrForm, 2},
		{[][]byte{record(6, "u"), record(6, "v")}, "", api.ErrForm, 2},
		{[][]byte{record(6, "u"), record(5, "v")}, "", api.ErrForm, 2},
		{[][]byte{record(3, "u"), record(5, "v")}, "", api.ErrForm, 2},
		{[][]byte{record(3, "u"), record(6, "v")}, "", api.ErrForm, 2},
		{[][]byte{record(0, "u")}, "", api.ErrForm, 1},
		{[][]byte{record(1<<40+1, "u")}, "", api.ErrForm, 1},
		{[][]byte{raw(nil)}, "", api.ErrForm, 1},
		{[][]byte{raw([]byte{6, 2, 'u'})}, "", api.ErrForm, 1},
		{[][]byte{raw([]byte{6, 1, 'u', 0})}, "", api.ErrForm, 1},
	} {
		for _, tail := range []string{"", "\x00", "torn behind", string(record(9, "x")[:13])} {
			d := room(t, 1000)
			ok(t, keep.Save(d, "a-img", entryBytes(5, "i")), d.Append("a-log", c.log...), d.Append("a-log", []byte(tail)))
			whole := len(octet.Join(c.log...))
			l, e := Open(d, "a")
			if e != c.e || e == api.OK && tell(l) != c.want || e != api.OK && l != nil {
				t.Error(i, tail, e)
			}
			b, re := d.Read("a-log")
			switch {
			case e != api.OK && len(b) != whole+len(tail):
				t.Error(i, "an error changed the log")
			case e == api.OK && c.left < 0 && re != api.ErrNone:
				t.Error(i, "the log is there")
			case e == api.OK && c.left > 0 && len(b) != whole:
				t.Error(i, "the end was not cut off")
			}
		}
	}
}

// P5.1: the things that are done on the disk by Open, one by one.
func TestOpenSteps(t *testing.T) {
	for i, c := range []struct {
		temp, tail bool
		entry      int // 0: none
		steps      int
	}{
		{false, false, 0, 0}, {true, false, 0, 1}, {false, true, 6, 2}, {false, false, 6, 0}, {false, false, 5, 1}, {true, true, 5, 4}, {true, true, 6, 3},
	} {
		for n := range 6 {
			d := room(t, 1000)
			ok(t, keep.Save(d, "a-img", entryBytes(5, "i")))
			if c.temp {
				ok(t, d.Append("a-img~", []byte("left")))
			}
			if c.entry > 0 {
				ok(t, d.Append("a-log", record(c.entry, "x")))
			}
			if c.tail {
				ok(t, d.Append("a-log", []byte("tail")))
			}
			d.Fuse(n)
			l, e := Open(d, "a")
			want := api.OK
			if n < c.steps {
				want = api.ErrDead
			}
			if e != want || (l == nil) != (e != api.OK) {
				t.Error(i, n, e)
			}
		}
	}
	d := room(t, 1000)
	ok(t, d.Append("a-log", record(1, "x"), []byte("tail")), d.Sync("a-log"))
	open(t, d)
	d.Crash(0)
	if b, _ := d.Read("a-log"); !bytes.Equal(b, record(1, "x")) {
		t.Errorf("%x", b)
	}
}

// P5.2: Append's errors, in their order.
func TestAppend(t *testing.T) {
	d := room(t, 1<<20)
	l := open(t, d)
	full := make([]byte, 1<<16)
	add(t, l, string(full), 1)
	if n, e := l.Append(append(full, 0)); n != 0 || e != api.ErrLong || l.Last() != 1 {
		t.Error(n, e)
	}
	add(t, l, "", 2)
	ok(t, l.Write(1<<40-1, nil))
	add(t, l, "last", 1<<40)
	if n, e := l.Append(nil); n != 0 || e != api.ErrLong {
		t.Error(n, e)
	}
	l = open(t, d)
	if n, e := l.Append(nil); n != 0 || e != api.ErrLong || l.Last() != 1<<40 {
		t.Error(n, e)
	}
	ok(t, l.Drop())
	if n, e := l.Append(append(full, 0)); n != 0 || e != api.ErrDead {
		t.Error(n, e)
	}
}

// P5.2: Write's errors, in their order.
func TestWrite(t *testing.T) {
	d := room(t, 1<<21)
	l := open(t, d)
	add(t, l, "x", 1)
	add(t, l, "y", 2)
	long := make([]byte, 1<<19+1)
	before := tell(l)
	for _, n := range []int{1, 0, -1, -1 << 63, 1<<40 + 1, 1<<63 - 1} {
		if e := l.Write(n, long); e != api.ErrArg {
			t.Error(n, e)
		}
	}
	if e := l.Write(2, long); e != api.ErrLong || tell(l) != before {
		t.Error(e, tell(l))
	}
	ok(t, l.Write(2, []byte("i")), l.Write(2, nil), l.Write(1<<40, long[:1<<19]))
	if l.Last() != 1<<40 || open(t, d).Last() != 1<<40 {
		t.Error(l.Last())
	}
	if e := l.Write(1<<40-1, nil); e != api.ErrArg {
		t.Error(e)
	}
	ok(t, l.Drop())
	if l.Write(-1, long) != api.ErrDead || l.Drop() != api.ErrDead {
		t.Error("not dead")
	}
}

// P5.2: an error of the disk is told, and then it is dead; what is told stays.
func TestDead(t *testing.T) {
	for i, c := range []struct {
		do    func(l *Ledger) api.Errno
		steps int
	}{
		{func(l *Ledger) api.Errno { _, e := l.Append([]byte("n")); return e }, 2},
		{func(l *Ledger) api.Errno { return l.Write(3, []byte("n")) }, 4},
		{func(l *Ledger) api.Errno { return l.Drop() }, 2},
	} {
		for n := range c.steps + 1 {
			d := room(t, 1000)
			l := open(t, d)
			ok(t, l.Write(1, []byte("i")))
			add(t, l, "x", 2)
			before := tell(l)
			d.Fuse(n)
			e := c.do(l)
			if n == c.steps {
				ok(t, e)
				continue
			}
			if e != api.ErrDead || tell(l) != before {
				t.Error(i, n, e, tell(l))
			}
			d.Fuse(-1)
			if _, e := l.Append(nil); e != api.ErrDead {
				t.Error(i, n, e)
			}
			if l.Write(9, nil) != api.ErrDead || l.Drop() != api.ErrDead {
				t.Error(i, n, "not dead")
			}
		}
	}
	d := room(t, 20)
	l := open(t, d)
	if n, e := l.Append(make([]byte, 9)); n != 0 || e != api.ErrFull {
		t.Error(n, e)
	}
	if _, e := l.Append(nil); e != api.ErrDead {
		t.Error(e)
	}
}

// P5.3: At.
func TestAt(t *testing.T) {
	l := open(t, room(t, 1000))
	ok(t, l.Write(4, nil))
	add(t, l, "x", 5)
	for _, i := range []int{-1 << 63, -1, 0, 4, 6, 1<<63 - 1} {
		if p, e := l.At(i); p != nil || e != api.ErrNone {
			t.Error(i, p, e)
		}
	}
	if p, e := l.At(5); string(p) != "x" || e != api.OK {
		t.Error(p, e)
	}
}

// P5.4: behind a crash at any place, within an Open, too, it is as behind some call from the last one that answered OK on.
func TestCrashes(t *testing.T) {
	script := []func(l *Ledger) api.Errno{
		func(l *Ledger) api.Errno { _, e := l.Append([]byte("one")); return e },
		func(l *Ledger) api.Errno { _, e := l.Append([]byte("two")); return e },
		func(l *Ledger) api.Errno { return l.Write(2, []byte("image")) },
		func(l *Ledger) api.Errno { _, e := l.Append([]byte("three")); return e },
		func(l *Ledger) api.Errno { return l.Write(9, []byte("other")) },
		func(l *Ledger) api.Errno { _, e := l.Append([]byte("ten")); return e },
		func(l *Ledger) api.Errno { _, e := l.Append(nil); return e },
	}
	want := []string{"0 "}
	l := open(t, room(t, 1000))
	for _, do := range script {
		ok(t, do(l))
		want = append(want, tell(l))
	}
	for n := range 20 {
		for draw := range 40 {
			d := room(t, 1000)
			l := open(t, d)
			d.Fuse(n)
			done := 0
			for _, do := range script {
				if do(l) != api.OK {
					break
				}
				done++
			}
			d.Crash(draw)
			for again := range 5 {
				c := d.Copy()
				c.Fuse(again)
				Open(c, "a")
				c.Crash(draw)
				got := tell(open(t, c))
				if got != want[done] && (done == len(script) || got != want[done+1]) {
					t.Fatal(n, draw, again, done, got)
				}
			}
		}
	}
}

// P5.4, W6: nothing is changed or kept, and every answer is memory of its own.
func TestOwn(t *testing.T) {
	l := open(t, room(t, 1000))
	in := append(make([]byte, 0, 32), "img"...)
	ok(t, l.Write(0, in))
	if _, e := l.Append(in); e != api.OK {
		t.Error(e)
	}
	in[0] = 'X'
	for range 2 {
		_, p := l.Base()
		q, _ := l.At(1)
		if string(p) != "img" || string(q) != "img" || in[:4][3] != 0 {
			t.Errorf("%q %q", p, q)
		}
		p[0], q[0] = 'Y', 'Y'
		_, _ = append(p, 1), append(q, 1)
	}
}

// P5.4, W8: a nil Ledger.
func TestNil(t *testing.T) {
	var l *Ledger
	if n, e := l.Append(nil); n != 0 || e != api.ErrArg {
		t.Error(n, e)
	}
	if l.Write(0, nil) != api.ErrArg || l.Drop() != api.ErrArg || l.Last() != 0 {
		t.Error("nil")
	}
	if p, e := l.At(1); p != nil || e != api.ErrNone {
		t.Error(p, e)
	}
	if n, p := l.Base(); n != 0 || len(p) != 0 {
		t.Error(n, p)
	}
	var z Ledger
	z.Append(nil)
	z.Write(1, nil)
	z.Drop()
}
