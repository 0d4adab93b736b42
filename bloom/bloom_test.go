package bloom

import (
	"bytes"
	"hash/fnv"
	"strconv"
	"testing"
)

// P6.1: Hash is what FNV-1a is.
func TestHash(t *testing.T) {
	if h := Hash(""); h != 0x811c9dc5 {
		t.Errorf("%x", h)
	}
	if h := Hash("a"); h != 0xe40c292c {
		t.Errorf("%x", h)
	}
	for i := range 300 {
		s := strconv.Itoa(i*i*i) + string([]byte{byte(i), 0, 0xff})
		f := fnv.New32a()
		f.Write([]byte(s))
		if Hash(s) != f.Sum32() {
			t.Error(i)
		}
	}
}

// made is the bits of keys as the words of the chapter make them.
func made(keys ...string) []byte {
	n := (10*len(keys) + 7) / 8
	b := make([]byte, max(n, 8))
	for _, k := range keys {
		h := uint64(Hash(k))
		d := (h>>17 | h<<15) % (1 << 32)
		for i := uint64(0); i < 6; i++ {
			bit := (h + i*d) % (1 << 32) % uint64(8*len(b))
			b[bit/8] |= 1 << (bit % 8)
		}
	}
	return b
}

// P6.2: how many bytes, and which bits; the example.
func TestMake(t *testing.T) {
	if b := Make(); !bytes.Equal(b, make([]byte, 8)) {
		t.Error(b)
	}
	var keys []string
	for i := range 200 {
		if b := Make(keys...); !bytes.Equal(b, made(keys...)) {
			t.Fatal(i)
		}
		keys = append(keys, "key"+strconv.Itoa(i*7))
	}
	for n, want := range map[int]int{1: 8, 6: 8, 7: 9, 8: 10, 9: 12, 100: 125} {
		if b := Make(keys[:n]...); len(b) != want {
			t.Error(n, len(b))
		}
	}
	if b := Make("a"); !bytes.Equal(b, made("a")) || !bytes.Equal(Make("a", "a"), b) || bytes.Equal(b, Make("b")) {
		t.Error(b)
	}
}

// P6.2, P6.3: a key that it was made of may be there; few others.
func TestMay(t *testing.T) {
	var keys []string
	for i := range 500 {
		keys = append(keys, "in"+strconv.Itoa(i))
	}
	b := Make(keys...)
	for _, k := range keys {
		if !May(b, k) {
			t.Error(k)
		}
	}
	wrong := 0
	for i := range 5000 {
		if May(b, "out"+strconv.Itoa(i)) {
			wrong++
		}
	}
	if wrong > 250 {
		t.Error(wrong, "of 5000")
	}
	if !May(nil, "a") || !May([]byte{}, "") || May(make([]byte, 8), "a") || May([]byte{0}, "") || !May([]byte{0xff, 0xff, 0xff}, "any") {
		t.Error("edges")
	}
	for i := range 48 {
		one := make([]byte, 7) // a length that no Make has: the bits are counted among as many as there are
		one[i%7] = byte(i)
		want := true
		h := uint64(Hash("k"))
		d := (h>>17 | h<<15) % (1 << 32)
		for j := uint64(0); j < 6; j++ {
			bit := (h + j*d) % (1 << 32) % 56
			want = want && one[bit/8]>>(bit%8)&1 == 1
		}
		if May(one, "k") != want {
			t.Error(i)
		}
	}
}

// P6.2: all six bits are asked.
func TestAllBits(t *testing.T) {
	for i := range 50 {
		k := "key" + strconv.Itoa(i)
		full := Make(k)
		for bit := range 64 {
			if full[bit/8]>>(bit%8)&1 == 1 {
				b := bytes.Clone(full)
				b[bit/8] ^= 1 << (bit % 8)
				if May(b, k) {
					t.Error(k, bit)
				}
			}
		}
	}
}

// P6.3, W6: new memory; nothing is changed.
func TestOwn(t *testing.T) {
	keys := append(make([]string, 0, 4), "a", "b")
	b, c := Make(keys...), Make(keys...)
	b[0] ^= 0xff
	_ = append(b, 1)
	if bytes.Equal(b, c) || keys[0] != "a" || keys[:3][2] != "" {
		t.Error(b, c)
	}
	copyOf := bytes.Clone(c)
	if May(c, "a"); !bytes.Equal(c, copyOf) {
		t.Error("May changed it")
	}
}
