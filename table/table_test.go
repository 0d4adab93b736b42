package table

import (
	"bytes"
	"slices"
	"strconv"
	"strings"
	"testing"

	"burgess/api"
	"burgess/block"
	"burgess/bloom"
	"burgess/frame"
	"burgess/octet"
)

func cell(key, val string, seq int) api.Cell { return api.Cell{Key: key, Val: val, Seq: seq} }
func gone(key string, seq int) api.Cell      { return api.Cell{Key: key, Del: true, Seq: seq} }

func build(t *testing.T, l ...api.Cell) []byte {
	t.Helper()
	b, e := Build(l...)
	if e != api.OK {
		t.Fatal(e)
	}
	return b
}

func open(t *testing.T, b []byte) *Table {
	t.Helper()
	x, e := Open(b)
	if e != api.OK {
		t.Fatal(e)
	}
	return x
}

// laid is a table's bytes as the words of the chapter make them, of given blocks.
func laid(count int, filter []byte, parts ...[]api.Cell) []byte {
	var w octet.Writer
	w.Nums(len(parts))
	for _, p := range parts {
		b, _ := block.Encode(p...)
		last := p[len(p)-1]
		w.Bytes([]byte(last.Key))
		w.Nums(last.Seq)
		w.Bytes(b)
	}
	w.Nums(count)
	w.Bytes(filter)
	b, _ := frame.Encode(w.Out())
	return b
}

// many is so many cells that rise, several of a Key.
func many(n int) []api.Cell {
	var l []api.Cell
	for i := 0; len(l) < n; i++ {
		key := "k" + strconv.Itoa(10000+i)
		for s := range 1 + i%3 {
			c := cell(key, strings.Repeat("v", i%40), 90-s)
			if (i+s)%7 == 0 {
				c = gone(key, 90-s)
			}
			l = append(l, c)
		}
	}
	return l[:n]
}

// The example.
func TestExample(t *testing.T) {
	x := open(t, build(t, cell("a", "x", 2), cell("a", "y", 1)))
	if c, ok := x.Get("a", 1); !ok || c != cell("a", "y", 1) {
		t.Error(c, ok)
	}
}

// P8.1: the bytes, block by block.
func TestBuild(t *testing.T) {
	l := []api.Cell{cell("a", strings.Repeat("x", 200), 3), cell("a", strings.Repeat("x", 278), 1), gone("b", 1), cell("c", strings.Repeat("x", 496), 9), cell("d", "", 1)}
	// 217 + 295 are 512, and are one block; 17 stands alone, for 513 behind it is too much even alone
	want := laid(5, bloom.Make("a", "b", "c", "d"), l[:2], l[2:3], l[3:4], l[4:])
	if b := build(t, l...); !bytes.Equal(b, want) {
		t.Errorf("%q\n%q", b, want)
	}
	if x := open(t, want); x.Blocks() != 4 || x.Len() != 5 || x.First() != "a" || x.Last() != "d" {
		t.Error(x.Blocks(), x.Len())
	}
	one := cell("k", strings.Repeat("x", api.MaxVal), 1)
	if x := open(t, build(t, one)); x.Blocks() != 1 || !slices.Equal(x.Scan("", ""), []api.Cell{one}) {
		t.Error(x.Blocks())
	}
}

// P8.1: wrong inputs, in their order.
func TestBuildErrs(t *testing.T) {
	tooMany := many(1<<12 + 1)
	falls := []api.Cell{cell("b", "", 1), cell("a", "", 1)}
	long := make([]api.Cell, 64)
	for i := range long {
		long[i] = cell("k"+strconv.Itoa(100+i), strings.Repeat("x", api.MaxVal), 1)
	}
	for i, c := range []struct {
		l []api.Cell
		e api.Errno
	}{
		{nil, api.ErrArg}, {tooMany, api.ErrArg}, {append(slices.Clone(falls), cell("", "", 1)), api.ErrArg}, {falls, api.ErrOrder},
		{[]api.Cell{cell("a", "", 1), cell("a", "", 1)}, api.ErrOrder}, {[]api.Cell{cell("a", "", 1), cell("a", "", 2)}, api.ErrOrder}, {long, api.ErrLong},
	} {
		if b, e := Build(c.l...); b != nil || e != c.e {
			t.Error(i, e)
		}
	}
	l := tooMany[:1<<12]
	if x := open(t, build(t, l...)); x.Len() != 1<<12 || !slices.Equal(x.Scan("", ""), l) {
		t.Error(x.Len())
	}
}

// P8.2: bytes that are no table.
func TestForm(t *testing.T) {
	a, b := cell("a", "x", 2), cell("b", "y", 1)
	both := []api.Cell{a, b}
	f := bloom.Make("a", "b")
	good := laid(2, f, both)
	if _, e := Open(good); e != api.OK {
		t.Fatal(e)
	}
	wrong := bytes.Clone(f)
	wrong[0] ^= 1
	body, _ := frame.One(good)
	framed := func(p ...[]byte) []byte {
		r, _ := frame.Encode(p...)
		return r
	}
	for i, x := range [][]byte{
		laid(1, f, both), laid(3, f, both), laid(2, wrong, both), laid(2, nil, both), laid(2, bloom.Make("a", "b", "b", "b", "b", "b", "b"), both),
		laid(2, f, []api.Cell{a}, []api.Cell{b}), laid(2, f, []api.Cell{b}, []api.Cell{a}), laid(2, bloom.Make("a", "a"), []api.Cell{a}, []api.Cell{a}),
		laid(0, bloom.Make()), framed(), framed(body, []byte{0}), framed(body[:len(body)-1]), framed(body[1:]),
		append(bytes.Clone(good), 0), framed([]byte{0xff, 0xff, 0xff, 0xff, 0xff, 0xff, 0xff, 0xff, 0x3f}),
	} {
		if x, e := Open(x); x != nil || e != api.ErrForm {
			t.Error(i, e)
		}
	}
	var w octet.Writer
	w.Nums(1)
	w.Bytes([]byte("z")) // not the last cell's Key
	w.Nums(1)
	cells, _ := block.Encode(both...)
	w.Bytes(cells)
	w.Nums(2)
	w.Bytes(f)
	if x, e := Open(framed(w.Out())); x != nil || e != api.ErrForm {
		t.Error(e)
	}
	turned := bytes.Clone(good)
	turned[9] ^= 1
	for i, c := range []struct {
		b []byte
		e api.Errno
	}{{nil, api.ErrShort}, {good[:len(good)-1], api.ErrShort}, {turned, api.ErrSum}, {make([]byte, 20), api.ErrSum}} {
		if x, e := Open(c.b); x != nil || e != c.e {
			t.Error(i, e)
		}
	}
}

// W1: many blocks that are told to be one end soon.
func TestTwice(t *testing.T) {
	var cells []api.Cell
	for i := range 20000 {
		cells = append(cells, gone(strconv.Itoa(100000+i), 1))
	}
	b, _ := block.Encode(cells...)
	var w octet.Writer
	w.Nums(100001)
	for range 100000 {
		w.Nums(0, 0, 0)
	}
	w.Nums(0, 0)
	w.Bytes(b)
	w.Nums(7, 0)
	x, _ := frame.Encode(w.Out())
	if x, e := Open(x); x != nil || e != api.ErrForm {
		t.Error(e)
	}
}

// P8.2: Get and Scan are what going through all cells tells.
func TestGetScan(t *testing.T) {
	l := many(300)
	x := open(t, build(t, l...))
	if x.Len() != 300 || x.First() != l[0].Key || x.Last() != l[299].Key || x.Blocks() < 2 {
		t.Error(x.Len(), x.First(), x.Last(), x.Blocks())
	}
	ends := []string{"", "a", "k10000", "k10000\x00", "k10001", "k10017", "k100170", "k10099", "k10149", "k10150", "z"}
	for _, key := range ends {
		for _, seq := range []int{-1 << 63, 0, 87, 88, 89, 90, 91, 1<<63 - 1} {
			var want api.Cell
			found := false
			for _, c := range l {
				if !found && c.Key == key && c.Seq <= seq {
					want, found = c, true
				}
			}
			if c, ok := x.Get(key, seq); c != want || ok != found {
				t.Error(key, seq, c, ok)
			}
		}
		for _, to := range ends {
			var want []api.Cell
			for _, c := range l {
				if c.Key >= key && (to == "" || c.Key < to) {
					want = append(want, c)
				}
			}
			if got := x.Scan(key, to); !slices.Equal(got, want) {
				t.Error(key, to, len(got), len(want))
			}
		}
	}
	for _, c := range l {
		if got, ok := x.Get(c.Key, c.Seq); !ok || got != c {
			t.Error(c, got)
		}
	}
}

// P8.2: a Key whose cells stand in several blocks.
func TestWide(t *testing.T) {
	var l []api.Cell
	for s := range 40 {
		l = append(l, cell("a", strings.Repeat("v", 100), 100-s))
	}
	x := open(t, build(t, l...))
	for s := 61; s <= 100; s++ {
		if c, ok := x.Get("a", s); !ok || c.Seq != s {
			t.Error(s, c.Seq, ok)
		}
	}
	if _, ok := x.Get("a", 60); ok || len(x.Scan("a", "")) != 40 || len(x.Scan("a\x00", "")) != 0 || x.Blocks() != 10 {
		t.Error("wide")
	}
}

// P8.3: where the filter says no, nothing of that Key is there.
func TestFilter(t *testing.T) {
	l := many(200)
	b := build(t, l...)
	body, _ := frame.One(b)
	r := octet.NewReader(body)
	for range r.Num() {
		r.Bytes()
		r.Num()
		r.Bytes()
	}
	r.Num()
	f := r.Bytes()
	if !r.Whole() {
		t.Fatal("not read")
	}
	x := open(t, b)
	for i := range 1000 {
		key := "k" + strconv.Itoa(9900+i)
		if _, ok := x.Get(key, 1<<40); ok && !bloom.May(f, key) {
			t.Error(key)
		}
	}
}

// P8.3, W6: nothing is changed or kept, and every answer is memory of its own; a nil Table.
func TestOwn(t *testing.T) {
	l := append(make([]api.Cell, 0, 4), cell("a", "x", 2), cell("b", "y", 1))
	b := build(t, l...)
	x := open(t, b)
	clear(b)
	for range 2 {
		got := x.Scan("", "")
		if !slices.Equal(got, l) {
			t.Error(got)
		}
		got[0].Key = "z"
		_ = append(got[:1], cell("q", "", 1))
	}
	if c, ok := x.Get("a", 9); !ok || c.Val != "x" || l[:3][2] != (api.Cell{}) {
		t.Error(c)
	}
	var n *Table
	if c, ok := n.Get("a", 1); ok || c != (api.Cell{}) || len(n.Scan("", "")) != 0 || n.Len() != 0 || n.First() != "" || n.Last() != "" || n.Blocks() != 0 {
		t.Error("nil")
	}
	var z Table
	if _, ok := z.Get("a", 1); ok || len(z.Scan("", "")) != 0 || z.First() != "" || z.Last() != "" {
		t.Error("zero")
	}
}
