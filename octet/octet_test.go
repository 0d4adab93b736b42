package octet

import (
	"bytes"
	"hash/crc32"
	"testing"
)

// P1.1: what a Writer lays, byte by byte.
func TestLaid(t *testing.T) {
	for _, c := range []struct {
		lay  func(w *Writer)
		want []byte
	}{
		{func(w *Writer) {}, nil},
		{func(w *Writer) { w.Nums() }, nil},
		{func(w *Writer) { w.Bytes() }, nil},
		{func(w *Writer) { w.Raw() }, nil},
		{func(w *Writer) { w.Nums(1, 300); w.Bytes([]byte("a")) }, []byte{1, 0xac, 2, 1, 'a'}},
		{func(w *Writer) { w.Nums(0, 127, 128, 16383, 16384) }, []byte{0, 0x7f, 0x80, 1, 0xff, 0x7f, 0x80, 0x80, 1}},
		{func(w *Writer) { w.Nums(-1, -1<<63) }, []byte{0, 0}},
		{func(w *Writer) { w.Nums(1 << 62) }, []byte{0x80, 0x80, 0x80, 0x80, 0x80, 0x80, 0x80, 0x80, 0x40}},
		{func(w *Writer) { w.Nums(1<<62 + 1) }, []byte{0x80, 0x80, 0x80, 0x80, 0x80, 0x80, 0x80, 0x80, 0x40}},
		{func(w *Writer) { w.Nums(1<<63 - 1) }, []byte{0x80, 0x80, 0x80, 0x80, 0x80, 0x80, 0x80, 0x80, 0x40}},
		{func(w *Writer) { w.Nums(1<<62 - 1) }, []byte{0xff, 0xff, 0xff, 0xff, 0xff, 0xff, 0xff, 0xff, 0x3f}},
		{func(w *Writer) { w.Bytes(nil, []byte("xy"), []byte{}) }, []byte{0, 2, 'x', 'y', 0}},
		{func(w *Writer) { w.Raw(9, 8); w.Raw(7) }, []byte{9, 8, 7}},
	} {
		var w Writer
		c.lay(&w)
		if got := w.Out(); !bytes.Equal(got, c.want) {
			t.Errorf("%x, not %x", got, c.want)
		}
	}
	var w Writer
	w.Bytes(make([]byte, 200))
	if b := w.Out(); len(b) != 202 || b[0] != 200 || b[1] != 1 {
		t.Errorf("%x", b)
	}
}

// Ways: one behind the other is what each alone would lay.
func TestVariadic(t *testing.T) {
	var all, each Writer
	all.Nums(5, 600, 0)
	all.Bytes([]byte("a"), nil, []byte("bc"))
	all.Raw(1, 2)
	for _, n := range []int{5, 600, 0} {
		each.Nums(n)
	}
	for _, p := range []string{"a", "", "bc"} {
		each.Bytes([]byte(p))
	}
	each.Raw(1)
	each.Raw(2)
	if !bytes.Equal(all.Out(), each.Out()) {
		t.Errorf("%x %x", all.Out(), each.Out())
	}
}

// P1.2, P1.4: what was laid is taken as it was.
func TestTaken(t *testing.T) {
	nums := []int{0, 1, 127, 128, 300, 1 << 20, 1<<40 + 3, 1<<62 - 1, 1 << 62}
	var w Writer
	w.Nums(nums...)
	w.Bytes([]byte("hello"), nil)
	w.Raw(1, 2, 3)
	r := NewReader(w.Out())
	for _, n := range nums {
		if got := r.Num(); got != n {
			t.Error(got, n)
		}
	}
	if got := r.Bytes(); string(got) != "hello" {
		t.Error(got)
	}
	if got := r.Bytes(); len(got) != 0 {
		t.Error(got)
	}
	if r.Left() != 3 || !r.Good() || r.Whole() {
		t.Error(r.Left(), r.Good(), r.Whole())
	}
	if got := r.Raw(0); len(got) != 0 || !r.Good() {
		t.Error(got)
	}
	if got := r.Raw(3); !bytes.Equal(got, []byte{1, 2, 3}) || !r.Whole() || r.Left() != 0 {
		t.Error(got)
	}
	if r.Raw(0); !r.Whole() {
		t.Error("nothing taken of nothing")
	}
	if r.Num(); r.Good() || r.Whole() {
		t.Error("taken behind the end")
	}
}

// P1.2: numbers that err, and those next to them that do not.
func TestNumbers(t *testing.T) {
	eight := bytes.Repeat([]byte{0x80}, 8)
	full := bytes.Repeat([]byte{0xff}, 8)
	for i, b := range [][]byte{
		nil, {0x80}, {0xff, 0xff}, {0x80, 0}, {0x81, 0}, {0xff, 0x80, 0},
		append(append([]byte{}, eight...), 0x41), append(append([]byte{1}, full...), 0x40)[1:],
		append(append([]byte{}, eight...), 0x80, 1), append(append([]byte{}, eight...), 0x80, 0),
		bytes.Repeat([]byte{0x80}, 10), append(bytes.Repeat([]byte{0x80}, 10), 1),
		append([]byte{0x81}, append(append([]byte{}, eight[1:]...), 0x40)...),
	} {
		r := NewReader(b)
		if n := r.Num(); n != 0 || r.Good() || r.Whole() || r.Left() != 0 {
			t.Error(i, n, r.Good())
		}
	}
	for i, c := range []struct {
		b []byte
		n int
	}{
		{[]byte{0}, 0}, {[]byte{0x80, 1}, 128}, {[]byte{0x7f}, 127},
		{append(append([]byte{}, eight...), 0x40), 1 << 62}, {append(append([]byte{}, full...), 0x3f), 1<<62 - 1},
	} {
		r := NewReader(c.b)
		if n := r.Num(); n != c.n || !r.Whole() {
			t.Error(i, n, r.Good())
		}
	}
}

// P1.2: behind the first error all that is taken is 0, empty, and Left is 0.
func TestErrs(t *testing.T) {
	for i, turn := range []func(r *Reader){
		func(r *Reader) { r.Raw(-1) },
		func(r *Reader) { r.Raw(-1 << 63) },
		func(r *Reader) { r.Raw(6) },
		func(r *Reader) { r.Raw(1<<63 - 1) },
		func(r *Reader) { r.Bytes() },
		func(r *Reader) { r.Bad() },
		func(r *Reader) { r.Bad(); r.Bad() },
	} {
		r := NewReader([]byte{9, 1, 2, 1, 3})
		turn(r)
		n, m := 5, 6
		r.Nums(&n, nil, &m)
		if n != 0 || m != 0 || r.Num() != 0 || len(r.Bytes()) != 0 || len(r.Raw(1)) != 0 || len(r.Raw(0)) != 0 || r.Left() != 0 || r.Good() || r.Whole() {
			t.Error(i)
		}
	}
	r := NewReader([]byte{0xff, 0xff, 0xff, 0xff, 0xff, 0xff, 0xff, 0xff, 0x3f, 1})
	if got := r.Bytes(); len(got) != 0 || r.Good() {
		t.Error("a row of more than there is")
	}
	r = NewReader([]byte{2, 7})
	if got := r.Bytes(); len(got) != 0 || r.Good() {
		t.Error("a row that tells one more than is left")
	}
}

// P1.2: a place that is nil: the number is taken all the same; in order.
func TestPlaces(t *testing.T) {
	var a, b int
	r := NewReader([]byte{1, 2, 3, 4})
	r.Nums(&a, nil, &b)
	if a != 1 || b != 3 || r.Left() != 1 {
		t.Error(a, b, r.Left())
	}
	r.Nums(&a, &b)
	if a != 4 || b != 0 || r.Good() {
		t.Error(a, b)
	}
}

// P1.3: Join and Sum.
func TestSum(t *testing.T) {
	if s := Sum([]byte("1234"), []byte("56789")); s != 0xcbf43926 {
		t.Errorf("%x", s)
	}
	if Sum() != 0 || Sum(nil, nil) != 0 || len(Join()) != 0 {
		t.Error("nothing")
	}
	all := make([]byte, 700)
	for i := range all {
		all[i] = byte(i * i / 3)
	}
	for i := range all {
		p := [][]byte{all[:i/3], nil, all[i/3 : i]}
		if Sum(p...) != crc32.ChecksumIEEE(all[:i]) || !bytes.Equal(Join(p...), all[:i]) {
			t.Fatal(i)
		}
	}
}

// P1.4: two rows of one length that differ in one byte have unlike Sums.
func TestSumsDiffer(t *testing.T) {
	row := []byte("some bytes in a row")
	s := Sum(row)
	for i := range row {
		for d := 1; d < 256; d++ {
			row[i] ^= byte(d)
			if Sum(row) == s {
				t.Error(i, d)
			}
			row[i] ^= byte(d)
		}
	}
}

// P1.4, W6, W7: nothing is changed or kept, and every answer is memory of its own.
func TestOwn(t *testing.T) {
	in := append(make([]byte, 0, 64), "\x02ab\x02cd"...)
	r := NewReader(in)
	clear(in[:cap(in)])
	first := r.Bytes()
	first = append(first, "zzzz"...)
	if second := r.Bytes(); string(second) != "cd" || string(first[:2]) != "ab" {
		t.Errorf("%q %q", first, second)
	}
	var w Writer
	row := append(make([]byte, 0, 64), "row"...)
	w.Bytes(row)
	w.Raw(row...)
	row[0] = 'X'
	if rest := row[:cap(row)][3:]; !bytes.Equal(rest, make([]byte, len(rest))) {
		t.Error("the spare room was written to")
	}
	a, b := w.Out(), w.Out()
	a[0] = 77
	_ = append(a, 1)
	w.Nums(5)
	if string(b) != "\x03rowrow" || string(w.Out()) != "\x03rowrow\x05" {
		t.Errorf("%q %q", b, w.Out())
	}
	one := append(make([]byte, 0, 8), "one"...)
	j := Join(one)
	j[0] = 'X'
	_ = append(j, "more"...)
	if string(one) != "one" || one[:4][3] != 0 {
		t.Errorf("%q", one)
	}
}

// P1.4, W8: nil objects.
func TestNil(t *testing.T) {
	var w *Writer
	w.Nums(1)
	w.Bytes([]byte("a"))
	w.Raw(1)
	if len(w.Out()) != 0 {
		t.Error(w.Out())
	}
	var r *Reader
	n := 5
	r.Bad()
	r.Nums(&n, nil)
	if n != 0 || r.Num() != 0 || len(r.Bytes()) != 0 || len(r.Raw(0)) != 0 || len(r.Raw(-1)) != 0 || r.Left() != 0 || r.Good() || r.Whole() {
		t.Error(n)
	}
}
