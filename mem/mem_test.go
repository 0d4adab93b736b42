package mem

import (
	"slices"
	"strconv"
	"strings"
	"testing"

	"burgess/api"
	"burgess/block"
)

func cell(key, val string, seq int) api.Cell { return api.Cell{Key: key, Val: val, Seq: seq} }
func gone(key string, seq int) api.Cell      { return api.Cell{Key: key, Del: true, Seq: seq} }

func sorted(l []api.Cell) []api.Cell {
	l = slices.Clone(l)
	slices.SortFunc(l, func(a, b api.Cell) int {
		if block.Less(a, b) {
			return -1
		}
		return 1
	})
	return l
}

// The example.
func TestExample(t *testing.T) {
	m := New()
	if !m.Put(cell("a", "x", 1)) || !m.Put(gone("a", 2)) {
		t.Error("not put")
	}
	if c, ok := m.Get("a", 2); !ok || c != gone("a", 2) {
		t.Error(c, ok)
	}
	if c, ok := m.Get("a", 1); !ok || c != cell("a", "x", 1) {
		t.Error(c, ok)
	}
}

// P9.1: what Put refuses changes nothing.
func TestPut(t *testing.T) {
	m := New(1, 2, 3)
	if m.Len() != 0 || m.Size() != 0 || len(m.All()) != 0 {
		t.Error("something is there")
	}
	if !m.Put(cell("a", "x", 7)) || !m.Put(gone("b", 1)) || !m.Put(cell("a", "", 1<<40)) {
		t.Error("not put")
	}
	all := m.All()
	for i, c := range []api.Cell{
		cell("a", "x", 7), cell("a", "y", 7), gone("a", 7), cell("b", "x", 1), {}, cell("", "x", 1), cell("c", "x", 0), cell("c", "x", -1), cell("c", "x", 1<<40+1),
		{Key: "c", Val: "x", Del: true, Seq: 1}, cell(strings.Repeat("k", api.MaxKey+1), "", 1), cell("c", strings.Repeat("v", api.MaxVal+1), 1),
	} {
		if m.Put(c) {
			t.Error(i)
		}
	}
	if !slices.Equal(m.All(), all) || m.Len() != 3 || m.Size() != 1+1+16+1+16+1+16 {
		t.Error(m.All(), m.Size())
	}
	if !slices.Equal(all, []api.Cell{cell("a", "", 1<<40), cell("a", "x", 7), gone("b", 1)}) {
		t.Error(all)
	}
}

// P9.1, P9.2: whatever the draws and the order, what is told is what going through all cells tells.
func TestTold(t *testing.T) {
	var l []api.Cell
	size := 0
	for i := range 300 {
		c := cell("k"+strconv.Itoa(100+i/3), strings.Repeat("v", i%30), 10+i%3)
		if i%7 == 0 {
			c = gone(c.Key, c.Seq)
		}
		l = append(l, c)
		size += block.Size(c)
	}
	want := sorted(l)
	for i, draws := range [][]uint32{nil, {0}, {0xffffffff}, {1, 2, 3, 4, 5}, {0x80000000, 0x12345678}} {
		m := New(draws...)
		step := []int{1, 7, 11, 299, 13}[i]
		for k := range l {
			if !m.Put(l[k*step%300]) {
				t.Fatal(i, k)
			}
		}
		if !slices.Equal(m.All(), want) || m.Len() != 300 || m.Size() != size {
			t.Fatal(i)
		}
		ends := []string{"", "a", "k100", "k100\x00", "k133", "k199", "k2", "z"}
		for _, from := range ends {
			for _, seq := range []int{-1 << 63, 0, 9, 10, 11, 12, 13, 1<<63 - 1} {
				var first api.Cell
				found := false
				for _, c := range want {
					if !found && c.Key == from && c.Seq <= seq {
						first, found = c, true
					}
				}
				if c, ok := m.Get(from, seq); c != first || ok != found {
					t.Error(i, from, seq, c)
				}
			}
			for _, to := range ends {
				var some []api.Cell
				for _, c := range want {
					if c.Key >= from && (to == "" || c.Key < to) {
						some = append(some, c)
					}
				}
				if got := m.Scan(from, to); !slices.Equal(got, some) {
					t.Error(i, from, to, len(got), len(some))
				}
			}
		}
	}
}

// W1: many cells, whatever the draws, in time.
func TestMany(t *testing.T) {
	for _, d := range []uint32{0, 0xffffffff} {
		m := New(d)
		for i := range 50000 {
			m.Put(cell(strconv.Itoa(i), "", 1))
		}
		if m.Len() != 50000 {
			t.Error(m.Len())
		}
		if _, ok := m.Get("49999", 1); !ok {
			t.Error("not there")
		}
	}
}

// P9.2, W6: nothing is kept, and every answer is memory of its own; a nil Mem.
func TestOwn(t *testing.T) {
	draws := append(make([]uint32, 0, 4), 1, 2)
	m := New(draws...)
	draws[0] = 9
	m.Put(cell("a", "x", 1))
	m.Put(cell("b", "y", 1))
	for range 2 {
		for _, l := range [][]api.Cell{m.All(), m.Scan("a", "c")} {
			if !slices.Equal(l, []api.Cell{cell("a", "x", 1), cell("b", "y", 1)}) {
				t.Error(l)
			}
			l[0].Key = "z"
			_ = append(l[:1], cell("q", "", 1))
		}
	}
	before := m.All()
	m.Put(cell("aa", "", 1))
	if len(before) != 2 || before[1].Key != "b" {
		t.Error(before)
	}
	var n *Mem
	if c, ok := n.Get("a", 1); ok || c != (api.Cell{}) || n.Put(cell("a", "", 1)) || n.Len() != 0 || n.Size() != 0 || len(n.All()) != 0 || len(n.Scan("", "")) != 0 {
		t.Error("nil")
	}
	var z Mem
	if _, ok := z.Get("a", 1); ok || z.Len() != 0 || len(z.All()) != 0 || !z.Put(cell("a", "", 1)) || z.Len() != 1 {
		t.Error("zero")
	}
}
