package block

import (
	"bytes"
	"slices"
	"strconv"
	"strings"
	"testing"

	"burgess/api"
	"burgess/octet"
)

func cell(key, val string, seq int) api.Cell { return api.Cell{Key: key, Val: val, Seq: seq} }
func gone(key string, seq int) api.Cell      { return api.Cell{Key: key, Del: true, Seq: seq} }

// P7.1: which one is ahead.
func TestLess(t *testing.T) {
	rising := []api.Cell{cell("", "", 5), cell("a", "x", 9), gone("a", 8), cell("a", "y", 1), cell("a", "", -3), cell("a\x00", "", 1), cell("aa", "", 1), cell("b", "", 1<<40), cell("\xff", "", 2)}
	for i, a := range rising {
		for j, b := range rising {
			if Less(a, b) != (i < j) {
				t.Error(i, j)
			}
		}
	}
	if Less(cell("a", "x", 1), cell("a", "y", 1)) || Less(cell("a", "y", 1), gone("a", 1)) {
		t.Error("one Key and one Seq")
	}
	if !Less(cell("a", "", 1<<63-1), cell("a", "", -1<<63)) {
		t.Error("far numbers")
	}
}

// P7.1: which cells may be, and what they count.
func TestIs(t *testing.T) {
	key, val := strings.Repeat("k", api.MaxKey), strings.Repeat("v", api.MaxVal)
	for i, c := range []api.Cell{cell("a", "", 1), cell("\x00", "\xff", 1<<40), gone("a", 1), cell(key, val, 7), gone(key, 7)} {
		if !Is(c) {
			t.Error(i)
		}
		if n := Size(c); n != len(c.Key)+len(c.Val)+16 {
			t.Error(i, n)
		}
	}
	for i, c := range []api.Cell{{}, cell("", "x", 1), gone("", 1), cell(key+"k", "", 1), cell("a", val+"v", 1), {Key: "a", Val: "x", Del: true, Seq: 1}, cell("a", "x", 0), cell("a", "x", -1), cell("a", "x", 1<<40+1), cell("a", "x", 1<<63-1), cell("a", "x", -1<<63)} {
		if Is(c) {
			t.Error(i)
		}
		if b, e := Encode(cell("A", "", 1), c); b != nil || e != api.ErrArg {
			t.Error(i, e)
		}
	}
}

// P7.2: the bytes; the example.
func TestEncode(t *testing.T) {
	for i, c := range []struct {
		l    []api.Cell
		want string
	}{
		{nil, ""},
		{[]api.Cell{cell("ab", "x", 1), gone("ac", 2)}, "\x00\x02ab\x01\x00\x01x\x01\x01c\x02\x01"},
		{[]api.Cell{cell("a", "", 300), cell("a", "x", 2), gone("a", 1)}, "\x00\x01a\xac\x02\x00\x00" + "\x01\x00\x02\x00\x01x" + "\x01\x00\x01\x01"},
		{[]api.Cell{gone("a1", 1), gone("a2", 1), gone("a3", 1), gone("a4", 1), gone("a5", 1), gone("a55", 1)},
			"\x00\x02a1\x01\x01" + "\x01\x012\x01\x01" + "\x01\x013\x01\x01" + "\x01\x014\x01\x01" + "\x00\x02a5\x01\x01" + "\x02\x015\x01\x01"},
	} {
		if b, e := Encode(c.l...); string(b) != c.want || e != api.OK {
			t.Errorf("%d %q %v", i, b, e)
		}
		if l, e := Decode([]byte(c.want)); !slices.Equal(l, c.l) || e != api.OK {
			t.Error(i, l, e)
		}
	}
}

// P7.2: the order of errors: ErrArg of any cell is ahead of ErrOrder.
func TestOrder(t *testing.T) {
	for i, l := range [][]api.Cell{
		{cell("b", "", 1), cell("a", "", 1)}, {cell("a", "", 1), cell("a", "", 2)}, {cell("a", "", 1), cell("a", "", 1)},
		{cell("a", "x", 1), gone("a", 1)}, {cell("a", "", 1), cell("c", "", 1), cell("b", "", 1)},
	} {
		if b, e := Encode(l...); b != nil || e != api.ErrOrder {
			t.Error(i, e)
		}
		if b, e := Encode(append(l, cell("", "", 1))...); b != nil || e != api.ErrArg {
			t.Error(i, e)
		}
	}
}

// P7.2: bytes that are not Encode of cells.
func TestForm(t *testing.T) {
	good := "\x00\x02ab\x01\x00\x01x\x01\x01c\x02\x01"
	for cut := range len(good) {
		if l, e := Decode([]byte(good[:cut])); e == api.OK && cut != 0 && cut != 8 || e != api.OK && (e != api.ErrForm || l != nil) {
			t.Error(cut, l, e)
		}
	}
	for i, b := range []string{
		good + "\x00", "\x00\x00\x01\x00\x00", "\x01\x01a\x01\x00\x00",
		"\x00\x01a\x00\x00\x00",                // Seq 0
		"\x00\x01a\x01\x02\x00",                // neither gone nor there
		"\x00\x01a\x81\x00\x00\x00",            // a number of more bytes than it needs
		"\x00\x02ab\x01\x01\x00\x02ac\x01\x01", // fewer bytes alike than there are
		"\x00\x02ab\x01\x01\x03\x01c\x01\x01",  // more than there are
		"\x00\x02ab\x01\x01\x01\x01a\x01\x01",  // falls
		"\x00\x01a\x01\x01\x01\x00\x01\x01",    // twice
		"\x00\x02a1\x01\x01\x01\x012\x01\x01\x01\x013\x01\x01\x01\x014\x01\x01\x01\x015\x01\x01", // not whole where it must be
		"\x00\x01a\x81\x80\x80\x80\x80\x20\x01",                                                  // Seq above 2^40
	} {
		if l, e := Decode([]byte(b)); l != nil || e != api.ErrForm {
			t.Error(i, l, e)
		}
		if c, ok, e := Seek([]byte(b), "a", 9); c != (api.Cell{}) || ok || e != api.ErrForm {
			t.Error(i, c, ok, e)
		}
	}
	var w octet.Writer
	w.Nums(0)
	w.Bytes([]byte("a"))
	w.Nums(1, 0)
	w.Bytes(make([]byte, api.MaxVal+1))
	if _, e := Decode(w.Out()); e != api.ErrForm {
		t.Error(e)
	}
}

func many() []api.Cell {
	var l []api.Cell
	for i := range 100 {
		key := "key" + strconv.Itoa(1000+i*i)
		for s := range 1 + i%3 {
			c := cell(key, strconv.Itoa(i), 50-10*s)
			if (i+s)%5 == 0 {
				c = gone(key, c.Seq)
			}
			l = append(l, c)
		}
	}
	slices.SortFunc(l, func(a, b api.Cell) int {
		if Less(a, b) {
			return -1
		}
		return 1
	})
	return l
}

// P7.3: Seek.
func TestSeek(t *testing.T) {
	l := many()
	b, e := Encode(l...)
	if e != api.OK {
		t.Fatal(e)
	}
	for _, key := range []string{"", "key1000", "key1001", "key1002", "key1004", "key10801", "key9", "z"} {
		for _, seq := range []int{-1, 0, 29, 30, 31, 40, 49, 50, 1 << 62} {
			var want api.Cell
			found := false
			for _, c := range l {
				if !found && c.Key == key && c.Seq <= seq {
					want, found = c, true
				}
			}
			if c, ok, e := Seek(b, key, seq); c != want || ok != found || e != api.OK {
				t.Error(key, seq, c, ok, e)
			}
		}
	}
	if c, ok, e := Seek(nil, "a", 1); c != (api.Cell{}) || ok || e != api.OK {
		t.Error(c, ok, e)
	}
}

// P7.4: Decode of Encode are the cells; no byte may be another one and all the rest told as it was.
func TestBack(t *testing.T) {
	l := many()
	for n := range l {
		b, _ := Encode(l[:n]...)
		if got, e := Decode(b); e != api.OK || !slices.Equal(got, l[:n]) {
			t.Fatal(n, e)
		}
	}
	b, _ := Encode(l[:20]...)
	for i := range b {
		b[i] ^= 0x41
		if got, e := Decode(b); e == api.OK {
			if again, _ := Encode(got...); !bytes.Equal(again, b) {
				t.Error(i)
			}
		}
		b[i] ^= 0x41
	}
}

// P7.4, W6: nothing is changed, answers are memory of their own.
func TestOwn(t *testing.T) {
	l := append(make([]api.Cell, 0, 4), cell("ab", "x", 1), gone("ac", 2))
	b, _ := Encode(l...)
	c, _ := Encode(l...)
	b2 := bytes.Clone(b)
	got, _ := Decode(b)
	b[2], got[0].Key = 'Z', "Z"
	_ = append(got, cell("x", "", 1))
	if !bytes.Equal(c, b2) || got[1].Key != "ac" || l[0].Key != "ab" || l[:3][2] != (api.Cell{}) {
		t.Error(c, got, l)
	}
}
