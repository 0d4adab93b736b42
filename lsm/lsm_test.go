package lsm

import (
	"bytes"
	"maps"
	"slices"
	"strconv"
	"strings"
	"testing"

	"burgess/api"
	"burgess/batch"
	"burgess/disk"
	"burgess/keep"
	"burgess/ledger"
	"burgess/level"
	"burgess/table"
)

func row(key, val string) api.Row { return api.Row{Key: key, Val: val} }
func gone(key string) api.Row     { return api.Row{Key: key, Del: true} }

func ok(t *testing.T, l ...api.Errno) {
	t.Helper()
	for i, e := range l {
		if e != api.OK {
			t.Fatal(i, e)
		}
	}
}

func room(t *testing.T) *disk.Disk {
	t.Helper()
	d, e := disk.New(1 << 28)
	ok(t, e)
	return d
}

func open(t *testing.T, d *disk.Disk) *Store {
	t.Helper()
	s, e := Open(d)
	ok(t, e)
	return s
}

func flush(t *testing.T, s *Store, want bool) {
	t.Helper()
	if did, e := s.Flush(); did != want || e != api.OK {
		t.Fatal(did, e)
	}
}

func compact(t *testing.T, s *Store, want bool) {
	t.Helper()
	if did, e := s.Compact(); did != want || e != api.OK {
		t.Fatal(did, e)
	}
}

// model is what rows make.
type model map[string]string

func (m model) write(l []api.Row) {
	for _, r := range l {
		delete(m, r.Key)
		if !r.Del {
			m[r.Key] = r.Val
		}
	}
}

func (m model) scan(from, to string, most int) []api.Row {
	var out []api.Row
	for _, k := range slices.Sorted(maps.Keys(m)) {
		if k >= from && (to == "" || k < to) && (most < 1 || len(out) < most) {
			out = append(out, row(k, m[k]))
		}
	}
	return out
}

// draws is numbers that look drawn.
type draws uint64

func (d *draws) next(n int) int {
	*d = *d*6364136223846793005 + 1442695040888963407
	return int(*d>>33) % n
}

// some is a batch of few rows.
func (d *draws) some(keys int) []api.Row {
	var l []api.Row
	for range 1 + d.next(6) {
		key := "k" + strconv.Itoa(100+d.next(keys))
		if d.next(3) == 0 {
			l = append(l, gone(key))
		} else {
			l = append(l, row(key, strings.Repeat(string(rune('a'+d.next(26))), d.next(300))))
		}
	}
	return l
}

// The example.
func TestExample(t *testing.T) {
	s := open(t, room(t))
	ok(t, s.Write([]api.Row{row("a", "x")}))
	flush(t, s, true)
	ok(t, s.Write([]api.Row{gone("a")}))
	if v, found := s.Get("a"); v != "" || found {
		t.Error(v, found)
	}
	compact(t, s, false)
}

// P12.2 to P12.6: whatever is flushed, merged and opened anew meanwhile, what is told is what the batches make.
func TestModel(t *testing.T) {
	for seed := range 4 {
		x := draws(seed)
		d := room(t)
		s := open(t, d)
		m := model{}
		n := 0
		for i := range 900 {
			switch k := x.next(20); {
			case k < 14:
				l := x.some(60)
				ok(t, s.Write(l))
				m.write(l)
				n++
			case k < 16:
				_, e := s.Flush()
				ok(t, e)
			case k < 19:
				_, e := s.Compact()
				ok(t, e)
			default:
				d.Crash(x.next(9))
				s = open(t, d)
			}
			if s.Seq() != n {
				t.Fatal(seed, i, s.Seq(), n)
			}
			key := "k" + strconv.Itoa(100+x.next(60))
			if v, found := s.Get(key); v != m[key] || found != hasKey(m, key) {
				t.Fatal(seed, i, key)
			}
			from, to, most := "k"+strconv.Itoa(100+x.next(60)), "k"+strconv.Itoa(100+x.next(60)), x.next(5)
			if got := s.Scan(from, to, most); !slices.Equal(got, m.scan(from, to, most)) {
				t.Fatal(seed, i, from, to, most, got)
			}
			if i%50 == 0 {
				if got := s.Scan("", "", 0); !slices.Equal(got, m.scan("", "", -1)) {
					t.Fatal(seed, i)
				}
				checkDisk(t, d, s)
			}
		}
		if v := s.Version(); v.Next < 30 || v.Files[len(v.Files)-1].Level < 1 {
			t.Error(seed, v.Next)
		}
	}
}

func hasKey(m model, key string) bool {
	_, found := m[key]
	return found
}

// checkDisk holds the disk's files against the version: tables, image, and the levels' bounds.
func checkDisk(t *testing.T, d *disk.Disk, s *Store) {
	t.Helper()
	v := s.Version()
	if !level.Is(v) {
		t.Fatal(v)
	}
	var want []string
	for _, f := range v.Files {
		want = append(want, "t"+strconv.Itoa(f.ID))
		b, e := keep.Load(d, "t"+strconv.Itoa(f.ID))
		ok(t, e)
		x, e := table.Open(b)
		ok(t, e)
		if x.First() != f.First || x.Last() != f.Last || len(b) != f.Size {
			t.Fatal(f)
		}
	}
	for _, name := range d.List() {
		if name != "s-log" && name != "s-img" {
			i := slices.Index(want, name)
			if i < 0 {
				t.Fatal(name, "is stray")
			}
			want = slices.Delete(want, i, i+1)
		}
	}
	if len(want) != 0 {
		t.Fatal(want)
	}
}

// P12.2: Write's errors; what a batch is in the ledger.
func TestWrite(t *testing.T) {
	d := room(t)
	s := open(t, d)
	long := make([]api.Row, api.MaxBatch+1)
	for i := range long {
		long[i] = row("k", "")
	}
	for i, c := range []struct {
		l []api.Row
		e api.Errno
	}{{nil, api.ErrArg}, {[]api.Row{row("", "x")}, api.ErrArg}, {long, api.ErrLong}} {
		if e := s.Write(c.l); e != c.e || s.Dead() || s.Seq() != 0 {
			t.Error(i, e)
		}
	}
	l := []api.Row{row("b", "1"), gone("a"), row("b", "2")}
	ok(t, s.Write(l))
	ok(t, s.Write([]api.Row{row("a", "3")}))
	if got := s.Scan("", "", 0); !slices.Equal(got, []api.Row{row("a", "3"), row("b", "2")}) {
		t.Error(got)
	}
	if got := s.Scan("b", "b", 0); len(got) != 0 {
		t.Error(got)
	}
	g, e := ledger.Open(d.Copy(), "s")
	ok(t, e)
	p, e := g.At(1)
	ok(t, e)
	if got, e := batch.Decode(p); e != api.OK || !slices.Equal(got, l) || g.Last() != 2 || s.Seq() != 2 {
		t.Error(got, e)
	}
}

// P12.3: the tables that Flush makes.
func TestFlush(t *testing.T) {
	d := room(t)
	s := open(t, d)
	flush(t, s, false)
	if v := s.Version(); v.Next != 1 || len(v.Files) != 0 || len(d.List()) != 0 {
		t.Error(v)
	}
	ok(t, s.Write([]api.Row{row("a", "old"), row("b", strings.Repeat("x", 4096-17-17))}))
	ok(t, s.Write([]api.Row{gone("a"), row("c", ""), row("d", strings.Repeat("y", 9000)), row("e", "1")}))
	flush(t, s, true)
	// a (17) and b (17 less than 4096) are one table; c stands alone, for d behind it is too much
	for i, want := range [][]api.Cell{
		{{Key: "a", Del: true, Seq: 2}, {Key: "b", Val: strings.Repeat("x", 4096-34), Seq: 1}}, {{Key: "c", Seq: 2}}, {{Key: "d", Val: strings.Repeat("y", 9000), Seq: 2}}, {{Key: "e", Val: "1", Seq: 2}},
	} {
		want, e := table.Build(want...)
		ok(t, e)
		b, e := keep.Load(d, "t"+strconv.Itoa(i+1))
		if e != api.OK || !bytes.Equal(b, want) {
			t.Error(i, e)
		}
		if f := s.Version().Files[i]; f.ID != i+1 || f.Level != 0 || f.Size != len(want) {
			t.Error(f)
		}
	}
	if v := s.Version(); v.Next != 5 || len(v.Files) != 4 {
		t.Error(v)
	}
	g, e := ledger.Open(d.Copy(), "s")
	ok(t, e)
	n, img := g.Base()
	if enc, _ := level.Encode(s.Version()); n != 2 || g.Last() != 2 || !bytes.Equal(img, enc) {
		t.Error(n, img)
	}
	flush(t, s, false)
	checkDisk(t, d, s)
}

// P12.4: what Compact merges, and where what is gone is left out.
func TestCompact(t *testing.T) {
	d := room(t)
	s := open(t, d)
	put := func(l ...api.Row) {
		ok(t, s.Write(l))
		flush(t, s, true)
	}
	put(row("a", "1"), row("m", "1"))
	put(row("a", "2"))
	put(gone("m"))
	compact(t, s, false)
	put(row("z", "1"))
	ok(t, s.Write([]api.Row{row("q", "1"), gone("z")})) // is flushed first: a fifth table
	compact(t, s, true)
	v := s.Version()
	if v.Next != 7 || len(v.Files) != 1 || v.Files[0].Level != 1 || v.Files[0].ID != 6 || v.Files[0].First != "a" || v.Files[0].Last != "q" {
		t.Error(v)
	}
	b, e := keep.Load(d, "t6")
	ok(t, e)
	want, _ := table.Build(api.Cell{Key: "a", Val: "2", Seq: 2}, api.Cell{Key: "q", Val: "1", Seq: 5})
	if !bytes.Equal(b, want) {
		t.Error("other cells")
	}
	checkDisk(t, d, s)
	compact(t, s, false)
	// all is gone: no table is left
	for _, k := range []string{"a", "q", "a", "q"} {
		put(gone(k))
	}
	compact(t, s, true)
	if v := s.Version(); len(v.Files) != 0 || v.Next != 11 {
		t.Error(v)
	}
	if got := s.Scan("", "", 0); len(got) != 0 {
		t.Error(got)
	}
	checkDisk(t, d, s)
}

// made is a disk with a store of tables: of each row its level, its key, and its cells.
func made(t *testing.T, next int, tables ...[]api.Cell) *disk.Disk {
	t.Helper()
	d := room(t)
	v := api.Version{Next: next}
	for i, l := range tables {
		lvl := l[0].Seq // the first cell tells the level
		b, e := table.Build(l[1:]...)
		ok(t, e)
		ok(t, keep.Save(d, "t"+strconv.Itoa(i+1), b))
		v.Files = append(v.Files, api.File{ID: i + 1, Level: lvl, Size: len(b), First: l[1].Key, Last: l[len(l)-1].Key})
	}
	img, e := level.Encode(v)
	ok(t, e)
	g, e := ledger.Open(d, "s")
	ok(t, e)
	ok(t, g.Write(900, img))
	return d
}

func at(n int) api.Cell { return api.Cell{Seq: n} }

// P12.4: a cell that is Del stays where a level behind that into which it goes may have its key.
func TestBelow(t *testing.T) {
	del := func(key string, seq int) api.Cell { return api.Cell{Key: key, Del: true, Seq: seq} }
	val := func(key string, seq int) api.Cell { return api.Cell{Key: key, Val: key, Seq: seq} }
	d := made(t, 50,
		[]api.Cell{at(0), del("b", 800), del("e", 801)}, []api.Cell{at(0), val("c", 700)}, []api.Cell{at(0), val("c", 701), del("x", 702)}, []api.Cell{at(0), del("d", 703)},
		[]api.Cell{at(1), val("b", 500), val("e", 501)}, []api.Cell{at(1), val("y", 500)},
		[]api.Cell{at(2), val("d", 400), val("f", 400)}, []api.Cell{at(4), val("w", 3), val("z", 4)})
	s := open(t, d)
	compact(t, s, true)
	v := s.Version()
	if v.Next != 51 || len(v.Files) != 4 || v.Files[0].ID != 50 || v.Files[1].ID != 6 || v.Files[0].Level != 1 {
		t.Fatal(v)
	}
	b, e := keep.Load(d, "t50")
	ok(t, e)
	x, e := table.Open(b)
	ok(t, e)
	if got := x.Scan("", ""); !slices.Equal(got, []api.Cell{val("c", 701), del("d", 703), del("e", 801), del("x", 702)}) {
		t.Error(got)
	}
	if got := s.Scan("", "", 0); !slices.Equal(got, []api.Row{row("c", "c"), row("f", "f"), row("w", "w"), row("y", "y"), row("z", "z")}) {
		t.Error(got)
	}
	if s.Seq() != 900 {
		t.Error(s.Seq())
	}
}

// P12.4: of a level behind the first the file of the least ID goes down, with those over it.
func TestDeeper(t *testing.T) {
	val := func(key string, seq int) api.Cell { return api.Cell{Key: key, Val: key, Seq: seq} }
	d := made(t, 20, []api.Cell{at(1), val("a", 9), val("c", 9)}, []api.Cell{at(1), val("d", 9)}, []api.Cell{at(1), val("e", 9)}, []api.Cell{at(1), val("f", 9)}, []api.Cell{at(1), val("g", 9)},
		[]api.Cell{at(2), val("a", 2)}, []api.Cell{at(2), val("b", 2)}, []api.Cell{at(2), val("d", 2)})
	s := open(t, d)
	if !s.Due() {
		t.Error("not due")
	}
	compact(t, s, true)
	var got []string
	for _, f := range s.Version().Files {
		got = append(got, strconv.Itoa(f.Level)+":"+strconv.Itoa(f.ID)+f.First+f.Last)
	}
	if want := []string{"1:2dd", "1:3ee", "1:4ff", "1:5gg", "2:20ac", "2:8dd"}; !slices.Equal(got, want) {
		t.Error(got)
	}
	if s.Due() {
		t.Error("still due")
	}
}

// P12.1: what is stray goes; disks that are none.
func TestOpen(t *testing.T) {
	if s, e := Open(nil); s != nil || e != api.ErrArg {
		t.Error(e)
	}
	d := room(t)
	s := open(t, d)
	ok(t, s.Write([]api.Row{row("a", "1")}))
	flush(t, s, true)
	ok(t, s.Write([]api.Row{row("b", "2")}))
	ok(t, d.Append("t2", []byte("stray")), d.Append("t1~", []byte("stray")), d.Append("t", nil), d.Append("table", nil), d.Append("u", []byte("other")), d.Append("s-img~", nil))
	good := d.Copy()
	s = open(t, d)
	if l := d.List(); !slices.Equal(l, []string{"s-img", "s-log", "t1", "u"}) {
		t.Error(l)
	}
	if got := s.Scan("", "", 0); !slices.Equal(got, []api.Row{row("a", "1"), row("b", "2")}) || s.Seq() != 2 {
		t.Error(got)
	}
	other, _ := table.Build(api.Cell{Key: "a", Seq: 1}, api.Cell{Key: "b", Seq: 1})
	for i, c := range []struct {
		turn func(d *disk.Disk)
		e    api.Errno
	}{
		{func(d *disk.Disk) { d.Remove("t1") }, api.ErrNone},
		{func(d *disk.Disk) { d.Append("t1", []byte("x")) }, api.ErrForm},
		{func(d *disk.Disk) { keep.Save(d, "t1", []byte("no table")) }, api.ErrSum},
		{func(d *disk.Disk) { keep.Save(d, "t1", nil) }, api.ErrShort},
		{func(d *disk.Disk) { keep.Save(d, "t1", other) }, api.ErrForm},
		{func(d *disk.Disk) { keep.Save(d, "s-img", []byte("no image")) }, api.ErrForm},
		{func(d *disk.Disk) { keep.Save(d, "s-img", []byte{1, 2, 0, 0}) }, api.ErrForm},
		{func(d *disk.Disk) { keep.Save(d, "s-img", []byte{1, 0}) }, api.ErrForm},
		{func(d *disk.Disk) { d.Remove("s-log"); g, _ := ledger.Open(d, "s"); g.Append([]byte("no batch")) }, api.ErrForm},
		{func(d *disk.Disk) { d.Remove("s-img") }, api.ErrForm},
		{func(d *disk.Disk) { d.Fuse(0) }, api.ErrDead},
		{func(d *disk.Disk) { d.Fuse(4) }, api.ErrDead},
		{func(d *disk.Disk) { d.Fuse(5) }, api.OK},
	} {
		d := good.Copy()
		c.turn(d)
		s, e := Open(d)
		if e != c.e || (s == nil) != (e != api.OK) {
			t.Error(i, e)
		}
	}
}

// P12.3, W3: ErrLong, and nothing is changed.
func TestLong(t *testing.T) {
	d := room(t)
	s := open(t, d)
	wide := func(i int) string { return strconv.Itoa(100+i) + strings.Repeat("k", api.MaxKey-3) }
	n := 0
	for ; n < 60; n++ {
		ok(t, s.Write([]api.Row{row(wide(n), "")}))
		before, files := s.Version(), d.List()
		did, e := s.Flush()
		if e == api.OK && did {
			continue
		}
		if e != api.ErrLong || did || s.Dead() || !slices.Equal(s.Version().Files, before.Files) || !slices.Equal(d.List(), files) {
			t.Fatal(n, did, e)
		}
		if did, e := s.Compact(); did || e != api.ErrLong || s.Dead() || !slices.Equal(d.List(), files) {
			t.Fatal(did, e)
		}
		break
	}
	if n < 25 || n > 32 {
		t.Error(n)
	}
	ok(t, s.Write([]api.Row{row("a", "")}))
	for i := range n {
		if _, found := s.Get(wide(i)); !found {
			t.Error(i)
		}
	}
	s = open(t, d)
	if _, found := s.Get("a"); !found || s.Seq() != n+2 {
		t.Error(s.Seq())
	}
	img, _ := level.Encode(api.Version{Next: 1 << 40})
	d = room(t)
	g, _ := ledger.Open(d, "s")
	ok(t, g.Write(5, img))
	s = open(t, d)
	ok(t, s.Write([]api.Row{row("a", "")}))
	if did, e := s.Flush(); did || e != api.ErrLong || s.Dead() {
		t.Error(did, e)
	}
}

// wideTables is tables of level 4, of one cell each, with keys so long.
func wideTables(lens ...int) [][]api.Cell {
	var l [][]api.Cell
	for i, n := range lens {
		key := "w" + strconv.Itoa(100+i)
		l = append(l, []api.Cell{at(4), {Key: key + strings.Repeat("k", n-len(key)), Seq: 5}})
	}
	return l
}

// P12.3: the version's bytes may be 2^18, and no more.
func TestLongest(t *testing.T) {
	d := made(t, 1000, wideTables(append(slices.Repeat([]int{api.MaxKey}, 31), 2000)...)...)
	before := open(t, d).Version()
	met := map[int]int{}
	for n := 3000; n < 4000; n++ {
		for _, last := range []string{"b", "bb"} {
			first := "a" + strings.Repeat("k", n)
			l := []api.Row{row(first, ""), row(last, "")}
			b, e := table.Build(batch.Cells(l, 901)...)
			ok(t, e)
			v, e := level.Change(before, nil, api.File{ID: 1000, Size: len(b), First: first, Last: last})
			ok(t, e)
			img, e := level.Encode(v)
			ok(t, e)
			if len(img) < 1<<18-1 || len(img) > 1<<18+1 {
				continue
			}
			met[len(img)]++
			s := open(t, d.Copy())
			ok(t, s.Write(l))
			did, e := s.Flush()
			if len(img) > 1<<18 && (did || e != api.ErrLong) || len(img) <= 1<<18 && (!did || e != api.OK) {
				t.Error(n, len(img), did, e)
			}
		}
	}
	if met[1<<18] == 0 || met[1<<18+1] == 0 {
		t.Error("not met", met)
	}
}

// P12.4, W3: a merge that would make too long a version changes nothing, not even by its Flush.
func TestMergeLong(t *testing.T) {
	var tables [][]api.Cell
	for i := range 4 {
		long := strings.Repeat("k", 398) + strconv.Itoa(i)
		tables = append(tables, []api.Cell{at(0), {Key: "a" + long, Val: strings.Repeat("v", 1700), Seq: 10 + i}, {Key: "v" + long, Val: strings.Repeat("v", 1400), Seq: 10 + i}})
	}
	tables = append(tables, wideTables(append(slices.Repeat([]int{api.MaxKey}, 31), 1700)...)...)
	d := made(t, 1000, tables...)
	for i, l := range [][]api.Row{nil, {row("q", "1")}} {
		c := d.Copy()
		s := open(t, c)
		if l != nil {
			ok(t, s.Write(l))
		}
		before, files, was := told(s), c.List(), s.Version()
		did, e := s.Compact()
		if did || e != api.ErrLong || s.Dead() || told(s) != before || !slices.Equal(c.List(), files) || !slices.Equal(s.Version().Files, was.Files) {
			t.Error(i, did, e)
		}
		ok(t, s.Write([]api.Row{row("q", "2")}))
		if v, found := open(t, c).Get("q"); v != "2" || !found {
			t.Error(i, v)
		}
	}
}

// P12.4: without anything in the mem nothing is flushed: a table and an image of three things each, and four tables gone.
func TestMergeSteps(t *testing.T) {
	d := room(t)
	s := open(t, d)
	for range api.MaxZero {
		ok(t, s.Write([]api.Row{row("a", "1")}))
		flush(t, s, true)
	}
	for n := range 13 {
		c := d.Copy()
		s := open(t, c)
		c.Fuse(n)
		did, e := s.Compact()
		if want := n >= 3+3+4; did != want || (e == api.OK) != want {
			t.Error(n, did, e)
		}
	}
}

// P12.5: Due.
func TestDue(t *testing.T) {
	s := open(t, room(t))
	ok(t, s.Write([]api.Row{row("a", strings.Repeat("x", api.MaxMem-17))}))
	if !s.Due() {
		t.Error("so many bytes, and not due")
	}
	s = open(t, room(t))
	ok(t, s.Write([]api.Row{row("a", strings.Repeat("x", api.MaxMem-18))}))
	if s.Due() {
		t.Error("early")
	}
	ok(t, s.Write([]api.Row{gone("a")})) // the elder cell counts, too
	if !s.Due() {
		t.Error("not due")
	}
	flush(t, s, true)
	for range 2 {
		if s.Due() {
			t.Error("early")
		}
		ok(t, s.Write([]api.Row{gone("a")}))
		flush(t, s, true)
	}
	ok(t, s.Write([]api.Row{gone("a")}))
	if s.Due() {
		t.Error("early")
	}
	flush(t, s, true)
	if !s.Due() {
		t.Error("not due")
	}
	compact(t, s, true)
	if s.Due() {
		t.Error("still")
	}
}

// told is all that a store tells.
func told(s *Store) string {
	v := s.Version()
	out := strconv.Itoa(s.Seq()) + " " + strconv.Itoa(v.Next)
	for _, f := range v.Files {
		out += " " + strconv.Itoa(f.ID)
	}
	for _, r := range s.Scan("", "", 0) {
		out += "|" + r.Key + "=" + r.Val
		if val, found := s.Get(r.Key); !found || val != r.Val {
			out += "!"
		}
	}
	return out + strconv.FormatBool(s.Due())
}

// P12.5, P0.5: an error of the disk is told, and the store is dead; what is told stays as it was.
func TestDead(t *testing.T) {
	calls := []func(s *Store) (bool, api.Errno){
		func(s *Store) (bool, api.Errno) { return false, s.Write([]api.Row{row("new", "1"), gone("k1")}) },
		func(s *Store) (bool, api.Errno) { return s.Flush() },
		func(s *Store) (bool, api.Errno) { return s.Compact() },
	}
	base := room(t)
	s := open(t, base)
	for i := range 4 {
		ok(t, s.Write([]api.Row{row("k"+strconv.Itoa(i), "v"), row("k", strconv.Itoa(i))}))
		flush(t, s, true)
	}
	ok(t, s.Write([]api.Row{row("last", "v"), gone("k0")}))
	// Append and Sync; a table and an image of three each, and the log; these, and the like, and five tables gone
	for i, want := range []int{2, 7, 7 + 6 + 5} {
		for n := 0; ; n++ {
			d := base.Copy()
			s := open(t, d)
			before := told(s)
			d.Fuse(n)
			did, e := calls[i](s)
			if e == api.OK {
				if n != want {
					t.Error(i, n)
				}
				break
			}
			if e != api.ErrDead || did || !s.Dead() || told(s) != before {
				t.Fatal(i, n, e, told(s))
			}
			d.Fuse(-1)
			if s.Write(nil) != api.ErrDead || told(s) != before {
				t.Error(i, n)
			}
			for _, call := range calls {
				if did, e := call(s); did || e != api.ErrDead {
					t.Error(i, n, e)
				}
			}
		}
	}
	small, _ := disk.New(60)
	s = open(t, small)
	if e := s.Write([]api.Row{row("a", strings.Repeat("x", 100))}); e != api.ErrFull || !s.Dead() {
		t.Error(e)
	}
}

// P12.6: behind a crash at any place, within an opening, too, what is told is what the batches answered OK make, and maybe one more.
func TestCrashes(t *testing.T) {
	for seed := range 3 {
		x := draws(seed * 77)
		base := room(t)
		s := open(t, base)
		m := model{}
		for range 60 {
			l := x.some(30)
			ok(t, s.Write(l))
			m.write(l)
			if x.next(3) == 0 {
				_, e := s.Flush()
				ok(t, e)
			}
		}
		next := [][]api.Row{x.some(30), x.some(30), x.some(30)}
		for n := range 80 {
			for _, draw := range []int{0, 1, 7, 1000003} {
				d := base.Copy()
				s := open(t, d)
				d.Fuse(n)
				now := maps.Clone(m)
				also := crashRun(s, now, next)
				d.Crash(draw)
				d.Fuse(x.next(8))
				Open(d)
				d.Crash(x.next(5))
				got := open(t, d).Scan("", "", 0)
				if !slices.Equal(got, now.scan("", "", 0)) && (also == nil || !slices.Equal(got, also.scan("", "", 0))) {
					t.Fatal(seed, n, draw)
				}
			}
		}
	}
}

// crashRun writes, flushes and merges up to the first error; it answers what the batch under way would make.
func crashRun(s *Store, m model, next [][]api.Row) model {
	for _, l := range next {
		if s.Write(l) != api.OK {
			also := maps.Clone(m)
			also.write(l)
			return also
		}
		m.write(l)
		if _, e := s.Compact(); e != api.OK {
			return nil
		}
		if _, e := s.Flush(); e != api.OK {
			return nil
		}
	}
	return nil
}

// P12.6, W6: nothing is changed or kept, and every answer is memory of its own.
func TestOwn(t *testing.T) {
	s := open(t, room(t))
	l := append(make([]api.Row, 0, 4), row("b", "1"), row("a", "2"))
	ok(t, s.Write(l))
	flush(t, s, true)
	for range 2 {
		got := s.Scan("", "", 0)
		v := s.Version()
		if !slices.Equal(got, []api.Row{row("a", "2"), row("b", "1")}) || v.Files[0].ID != 1 {
			t.Error(got, v)
		}
		got[0].Key, v.Files[0].ID = "z", 9
		_, _ = append(got[:1], row("q", "")), append(v.Files, api.File{})
	}
	if l[0].Key != "b" || l[:3][2] != (api.Row{}) {
		t.Error(l)
	}
}

// P12.6, W8: a nil Store.
func TestNil(t *testing.T) {
	var s *Store
	if did, e := s.Flush(); did || e != api.ErrArg {
		t.Error(e)
	}
	if did, e := s.Compact(); did || e != api.ErrArg {
		t.Error(e)
	}
	if v, found := s.Get("a"); v != "" || found || s.Write(nil) != api.ErrArg || len(s.Scan("", "", 0)) != 0 || s.Due() || s.Seq() != 0 || s.Dead() || s.Version().Next != 0 || len(s.Version().Files) != 0 {
		t.Error("nil")
	}
	var z Store
	z.Write([]api.Row{row("a", "b")})
	z.Flush()
	z.Compact()
	z.Get("a")
	z.Scan("", "", 0)
	z.Due()
	z.Version()
}
