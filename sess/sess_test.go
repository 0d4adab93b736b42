package sess

import (
	"bytes"
	"slices"
	"testing"

	"burgess/api"
	"burgess/msg"
)

func encode(t *testing.T, l ...api.Request) []byte {
	t.Helper()
	var out []byte
	for _, r := range l {
		b, e := msg.Encode(r)
		if e != api.OK {
			t.Fatal(e)
		}
		out = append(out, b...)
	}
	return out
}

func requests() []api.Request {
	return []api.Request{
		{Num: 1, Kind: api.OpBind, DN: "cn=root", Pass: "p"}, {Num: 2, Kind: api.OpDelete, DN: "o=x"}, {Num: 3, Kind: api.OpAbandon, Which: 2}, {Num: 300, Kind: api.OpCompare, DN: string(make([]byte, 500)), Ava: api.Ava{Type: "o", Val: "x"}},
		{Num: 4, Kind: api.OpRename, DN: "o=x", Rdn: "o=y"},
	}
}

// The example.
func TestExample(t *testing.T) {
	s := New()
	if l, broke := s.Take([]byte{0x30, 5, 2, 1, 1}); len(l) != 0 || broke || s.Waiting() != 5 || !s.Open() {
		t.Error(l, broke)
	}
	if l, broke := s.Take([]byte{0x42, 0}); len(l) != 1 || l[0].Kind != api.OpUnbind || broke || s.Open() || s.Waiting() != 0 {
		t.Error(l, broke)
	}
}

// P26.1, P26.3: in whatever pieces bytes come, the requests are the same.
func TestPieces(t *testing.T) {
	want := requests()
	for _, tail := range []struct {
		b     []byte
		more  int // requests
		broke bool
		open  bool
		waits int
	}{
		{nil, 0, false, true, 0}, {[]byte{0x30}, 0, false, true, 1}, {[]byte{0x30, 5, 2, 1}, 0, false, true, 4}, {[]byte{0x31}, 0, true, false, 0}, {[]byte{0x30, 0x80}, 0, true, false, 0}, {[]byte{0x30, 0x83, 1, 0, 0}, 0, true, false, 0},
		{[]byte{0x30, 0, 0x30}, 0, true, false, 0}, {[]byte{0x30, 5, 2, 1, 0, 0x42, 0}, 0, true, false, 0}, {encode(t, api.Request{Num: 9, Kind: api.OpUnbind}), 1, false, false, 0}, {append(encode(t, api.Request{Num: 9, Kind: api.OpUnbind}), 0x31, 0x31), 1, false, false, 0},
		{append(encode(t, api.Request{Num: 9, Kind: api.OpUnbind}), encode(t, want...)...), 1, false, false, 0},
	} {
		b := append(encode(t, want...), tail.b...)
		for _, size := range []int{1, 2, 3, 7, 50, 511, len(b)} {
			s := New()
			var got []api.Request
			broke := 0
			for i := 0; i < len(b); i += size {
				was := s.Open()
				l, now := s.Take(b[i:min(i+size, len(b))])
				got = append(got, l...)
				if now {
					broke++
				}
				if !was && (len(l) > 0 || now) {
					t.Error("closed, and yet")
				}
			}
			if len(got) != len(want)+tail.more || !slices.EqualFunc(got[:len(want)], want, msg.Same) || (broke == 1) != tail.broke || broke > 1 || s.Open() != tail.open || s.Waiting() != tail.waits {
				t.Error(tail, size, len(got), broke, s.Open(), s.Waiting())
			}
		}
	}
}

// P26.1: what came ahead of what broke it is answered; then nothing more is taken.
func TestBroken(t *testing.T) {
	s := New()
	l, broke := s.Take(append(encode(t, requests()[:2]...), 0xff))
	if len(l) != 2 || !broke || s.Open() || s.Waiting() != 0 {
		t.Error(l, broke)
	}
	if l, broke := s.Take(encode(t, requests()...)); len(l) != 0 || broke || s.Waiting() != 0 {
		t.Error(l, broke)
	}
	s = New()
	s.Take([]byte{0x30, 9})
	s.Close()
	if s.Open() || s.Waiting() != 0 {
		t.Error("open")
	}
	if l, broke := s.Take([]byte{0x31}); len(l) != 0 || broke {
		t.Error(l, broke)
	}
	s.Close()
	if l, broke := New().Take(nil); len(l) != 0 || broke {
		t.Error(l, broke)
	}
}

// P26.1: the longest message, byte by byte.
func TestLong(t *testing.T) {
	b := encode(t, api.Request{Num: 1, Kind: api.OpDelete, DN: string(make([]byte, api.MaxMsg-11))})
	s := New()
	for i := range b[1:] {
		if l, broke := s.Take(b[i : i+1]); len(l) != 0 || broke || s.Waiting() != i+1 {
			t.Fatal(i)
		}
	}
	if l, broke := s.Take(b[len(b)-1:]); len(b) != api.MaxMsg || len(l) != 1 || broke || s.Waiting() != 0 {
		t.Error(len(b), len(l))
	}
}

// P26.2: Who and Bind.
func TestWho(t *testing.T) {
	s := New()
	if len(s.Who()) != 0 {
		t.Error(s.Who())
	}
	who := append(make([]api.Ava, 0, 3), api.Ava{Type: "CN", Val: "a"}, api.Ava{Type: "o", Val: "x"})
	want := slices.Clone(who)
	s.Bind(who)
	who[0].Val = "z"
	for range 2 {
		got := s.Who()
		if !slices.Equal(got, want) {
			t.Error(got)
		}
		got[0].Val = "z"
		_ = append(got, api.Ava{})
	}
	s.Close()
	if !slices.Equal(s.Who(), want) {
		t.Error("closed")
	}
	s.Bind(nil)
	if len(s.Who()) != 0 {
		t.Error(s.Who())
	}
}

// P26.3, W6, W8: nothing is changed or kept; a nil Sess is not open.
func TestOwn(t *testing.T) {
	b := encode(t, requests()[1])
	s := New()
	in := append(make([]byte, 0, 64), b[:5]...)
	s.Take(in)
	clear(in[:cap(in)])
	l, broke := s.Take(b[5:])
	if len(l) != 1 || broke || !msg.Same(l[0], requests()[1]) || !bytes.Equal(b, encode(t, requests()[1])) {
		t.Error(l)
	}
	var n *Sess
	n.Bind([]api.Ava{{Type: "o", Val: "x"}})
	n.Close()
	if l, broke := n.Take(b); len(l) != 0 || broke || len(n.Who()) != 0 || n.Open() || n.Waiting() != 0 {
		t.Error("nil")
	}
}
