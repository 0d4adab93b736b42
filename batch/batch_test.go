package batch

import (
	"slices"
	"strconv"
	"strings"
	"testing"

	"burgess/api"
	"burgess/octet"
)

func row(key, val string) api.Row { return api.Row{Key: key, Val: val} }
func gone(key string) api.Row     { return api.Row{Key: key, Del: true} }

func rows(n, each int) []api.Row {
	var l []api.Row
	for i := range n {
		key := strconv.Itoa(1000 + i)
		l = append(l, row(key, strings.Repeat("v", each-len(key))))
	}
	return l
}

// P10.1: what may not be, in the order of errors.
func TestCheck(t *testing.T) {
	key, val := strings.Repeat("k", api.MaxKey), strings.Repeat("v", api.MaxVal)
	for i, c := range []struct {
		l []api.Row
		e api.Errno
	}{
		{nil, api.ErrArg}, {[]api.Row{}, api.ErrArg}, {[]api.Row{{}}, api.ErrArg}, {[]api.Row{row("", "x")}, api.ErrArg},
		{[]api.Row{row(key+"k", "")}, api.ErrArg}, {[]api.Row{row("a", val+"v")}, api.ErrArg}, {[]api.Row{{Key: "a", Val: "x", Del: true}}, api.ErrArg},
		{[]api.Row{row(key, val), row("a", ""), gone("a"), row("a", "x")}, api.OK},
		{rows(api.MaxBatch, 5), api.OK}, {rows(api.MaxBatch+1, 5), api.ErrLong}, {append(rows(api.MaxBatch+1, 5), row("", "")), api.ErrArg},
		{rows(api.MaxRow/64, 64), api.OK}, {append(rows(api.MaxRow/64, 64), gone("a")), api.ErrLong}, {rows(500, 66), api.ErrLong},
		{append(rows(500, 66), row("", "")), api.ErrArg}, {rows(4096, 64), api.ErrLong},
	} {
		if e := Check(c.l); e != c.e {
			t.Error(i, e)
		}
		b, e := Encode(c.l)
		if e != c.e || (len(b) == 0) != (e != api.OK) {
			t.Error(i, e)
		}
		if l, de := Decode(b); e == api.OK && (de != api.OK || !slices.Equal(l, c.l)) {
			t.Error(i, de)
		}
	}
}

// P10.1: the bytes, both ways.
func TestBytes(t *testing.T) {
	l := []api.Row{row("b", "x"), gone("a"), row("b", ""), gone("a")}
	want := "\x04\x01b\x00\x01x\x01a\x01\x01b\x00\x00\x01a\x01"
	if b, e := Encode(l); string(b) != want || e != api.OK {
		t.Errorf("%q", b)
	}
	if got, e := Decode([]byte(want)); !slices.Equal(got, l) || e != api.OK {
		t.Error(got, e)
	}
	for cut := range want {
		if got, e := Decode([]byte(want[:cut])); got != nil || e != api.ErrForm {
			t.Error(cut, got, e)
		}
	}
	var w octet.Writer
	w.Nums(1)
	w.Bytes([]byte("k"))
	w.Nums(0)
	w.Bytes(make([]byte, api.MaxVal+1))
	for i, b := range []string{
		want + "\x00", "\x03" + want[1:], "\x05" + want[1:], "\x00", "\x01\x00\x01", "\x01\x01a\x02\x00", "\x01\x01a\x02", "\x01\x01a\x81\x00", "\x81\x00\x01a\x01",
		"\xff\xff\xff\xff\xff\xff\xff\xff\x3f", "\xff\xff\xff\xff\xff\xff\xff\xff\x3f\x01a\x01", string(w.Out()),
	} {
		if got, e := Decode([]byte(b)); got != nil || e != api.ErrForm {
			t.Error(i, got, e)
		}
	}
}

// P10.2: of each Key the last row alone; the example.
func TestCells(t *testing.T) {
	for i, c := range []struct {
		l    []api.Row
		seq  int
		want []api.Cell
	}{
		{nil, 3, nil},
		{[]api.Row{row("b", "x"), row("a", "y"), gone("b")}, 3, []api.Cell{{Key: "a", Val: "y", Seq: 3}, {Key: "b", Del: true, Seq: 3}}},
		{[]api.Row{gone("b"), row("\xff", "1"), row("b", "x"), row("b", "y"), row("ab", "")}, 1 << 40, []api.Cell{{Key: "ab", Seq: 1 << 40}, {Key: "b", Val: "y", Seq: 1 << 40}, {Key: "\xff", Val: "1", Seq: 1 << 40}}},
		{[]api.Row{row("", "x")}, -1, []api.Cell{{Val: "x", Seq: -1}}},
	} {
		if got := Cells(c.l, c.seq); !slices.Equal(got, c.want) {
			t.Error(i, got)
		}
	}
	var l []api.Row
	for i := range 400 {
		l = append(l, row(strconv.Itoa(i*7%100), strconv.Itoa(i)))
	}
	got := Cells(l, 1)
	if len(got) != 100 || !slices.IsSortedFunc(got, func(a, b api.Cell) int { return strings.Compare(a.Key, b.Key) }) {
		t.Error(len(got))
	}
	for _, c := range got {
		if n, _ := strconv.Atoi(c.Val); n < 300 || strconv.Itoa(n*7%100) != c.Key {
			t.Error(c)
		}
	}
}

// P10.3, W6: nothing is changed, every answer is memory of its own.
func TestOwn(t *testing.T) {
	l := append(make([]api.Row, 0, 4), row("b", "x"), row("a", "y"))
	b, _ := Encode(l)
	c, _ := Encode(l)
	got, _ := Decode(b)
	cells := Cells(l, 1)
	b[0], got[0].Key, cells[0].Key = 9, "Z", "Z"
	_, _ = append(got, row("q", "")), append(cells, api.Cell{})
	if c[0] != 2 || l[0] != row("b", "x") || l[:3][2] != (api.Row{}) || got[1] != row("a", "y") {
		t.Error(c, l, got)
	}
}
