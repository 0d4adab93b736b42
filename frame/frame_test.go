package frame

import (
	"bytes"
	"encoding/binary"
	"hash/crc32"
	"testing"

	"burgess/api"
)

// record is a record as the words of the chapter make it.
func record(p []byte) []byte {
	b := binary.LittleEndian.AppendUint32(nil, uint32(len(p)))
	b = binary.LittleEndian.AppendUint32(b, crc32.ChecksumIEEE(b))
	b = append(b, p...)
	return binary.LittleEndian.AppendUint32(b, crc32.ChecksumIEEE(b))
}

func must(t *testing.T, p ...[]byte) []byte {
	t.Helper()
	b, e := Encode(p...)
	if e != api.OK {
		t.Fatal(e)
	}
	return b
}

// P2.1: the bytes of a record; rows side by side are what they are joined (Ways); the example.
func TestEncode(t *testing.T) {
	if b := must(t); len(b) != 12 || !bytes.Equal(b, record(nil)) {
		t.Errorf("%x", b)
	}
	for _, p := range []string{"", "a", "hello", string(make([]byte, 70000))} {
		if b := must(t, []byte(p)); !bytes.Equal(b, record([]byte(p))) {
			t.Errorf("%d bytes", len(p))
		}
	}
	if b := must(t, []byte("he"), nil, []byte("llo")); !bytes.Equal(b, record([]byte("hello"))) {
		t.Errorf("%x", b)
	}
}

// P2.1: so much, and no more.
func TestLong(t *testing.T) {
	full := make([]byte, api.MaxFrame)
	b := must(t, full)
	if len(b) != api.MaxFrame+12 {
		t.Error(len(b))
	}
	if p, n, e := Decode(b); e != api.OK || n != len(b) || !bytes.Equal(p, full) {
		t.Error(n, e)
	}
	if b, e := Encode(full, []byte{1}); e != api.ErrLong || b != nil {
		t.Error(e)
	}
	if b, e := Encode([]byte{1}, full[:api.MaxFrame-1]); e != api.OK || len(b) != api.MaxFrame+12 {
		t.Error(e)
	}
}

// P2.1: the errors of Decode, in their order.
func TestDecodeErrs(t *testing.T) {
	good := record([]byte("hello"))
	long := binary.LittleEndian.AppendUint32(nil, api.MaxFrame+1)
	huge := binary.LittleEndian.AppendUint32(nil, 0xffffffff)
	sum := func(b []byte) []byte { return binary.LittleEndian.AppendUint32(b, crc32.ChecksumIEEE(b)) }
	turned := func(i int) []byte {
		b := bytes.Clone(good)
		b[i] ^= 0x10
		return b
	}
	for i, c := range []struct {
		b []byte
		e api.Errno
	}{
		{nil, api.ErrShort},
		{good[:7], api.ErrShort},
		{make([]byte, 7), api.ErrShort},
		{make([]byte, 8), api.ErrSum},
		{turned(0), api.ErrSum},
		{turned(4), api.ErrSum},
		{append(bytes.Clone(long), 0, 0, 0, 0), api.ErrSum},
		{sum(bytes.Clone(long)), api.ErrLong},
		{sum(bytes.Clone(huge)), api.ErrLong},
		{good[:8], api.ErrShort},
		{good[:len(good)-1], api.ErrShort},
		{turned(8), api.ErrSum},
		{turned(len(good) - 1), api.ErrSum},
	} {
		if p, n, e := Decode(c.b); e != c.e || p != nil || n != 0 {
			t.Error(i, p, n, e)
		}
		if p, e := One(c.b); e != c.e || p != nil {
			t.Error(i, p, e)
		}
		if l, n := Scan(c.b); len(l) != 0 || n != 0 {
			t.Error(i, l, n)
		}
	}
}

// P2.1, P2.3: Decode of Encode, with anything behind; One is just one.
func TestDecode(t *testing.T) {
	for _, behind := range []string{"", "x", "any bytes \xff\x00", string(record([]byte("more")))} {
		b := append(record([]byte("hello")), behind...)
		if p, n, e := Decode(b); string(p) != "hello" || n != 17 || e != api.OK {
			t.Error(p, n, e)
		}
		p, e := One(b)
		if behind == "" && (string(p) != "hello" || e != api.OK) || behind != "" && (p != nil || e != api.ErrForm) {
			t.Error(p, e)
		}
	}
	if p, e := One(record(nil)); len(p) != 0 || e != api.OK {
		t.Error(p, e)
	}
}

// P2.2: all up to the end, or to the first that errs.
func TestScan(t *testing.T) {
	var b []byte
	want := []string{"one", "", "three", "four"}
	for _, p := range want {
		b = append(b, record([]byte(p))...)
	}
	for cut := 0; cut <= len(b); cut++ {
		l, n := Scan(b[:cut])
		at := 0
		for _, p := range l {
			at += len(p) + 12
		}
		if at != n || n > cut {
			t.Fatal(cut, n, at)
		}
		if len(l) < len(want) && n+12+len(want[len(l)]) <= cut {
			t.Fatal(cut, "one is not told")
		}
		for i, p := range l {
			if string(p) != want[i] {
				t.Error(cut, i, p)
			}
		}
	}
	b[15+4] ^= 1 // the second one's first sum
	if l, n := Scan(b); len(l) != 1 || n != 15 {
		t.Error(len(l), n)
	}
	if l, n := Scan(append(record([]byte("a")), "torn"...)); len(l) != 1 || n != 13 {
		t.Error(len(l), n)
	}
}

// P2.3: a record of which one byte is another one is refused.
func TestTurned(t *testing.T) {
	b := record([]byte("some bytes"))
	for i := range b {
		for d := 1; d < 256; d++ {
			b[i] ^= byte(d)
			if _, _, e := Decode(b); e == api.OK {
				t.Error(i, d)
			}
			b[i] ^= byte(d)
		}
	}
}

// P2.3, W6: nothing is changed or kept, and every answer is memory of its own.
func TestOwn(t *testing.T) {
	in := append(make([]byte, 0, 64), "abc"...)
	b := must(t, in)
	if !bytes.Equal(in[:cap(in)][3:], make([]byte, 61)) {
		t.Error("spare room")
	}
	b = append(b, record([]byte("def"))...)
	copyOf := bytes.Clone(b)
	p, _, _ := Decode(b)
	q, _ := One(b[:15])
	l, _ := Scan(b)
	for _, row := range [][]byte{p, q, l[0], l[1]} {
		row[0] = 'X'
		_ = append(row, "YYYYYYYYYYYYYYYYYYYYYYY"...)
	}
	if !bytes.Equal(b, copyOf) || string(p) != "Xbc" || string(q) != "Xbc" || string(l[0]) != "Xbc" || string(l[1]) != "Xef" {
		t.Errorf("%q %q %q %q", b, p, q, l)
	}
	clear(b)
	if string(p) != "Xbc" || string(l[1]) != "Xef" {
		t.Error("kept")
	}
}
