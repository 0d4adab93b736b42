package world

import (
	"bytes"
	"slices"
	"strconv"
	"strings"
	"testing"

	"burgess/api"
	"burgess/entry"
	"burgess/filter"
	"burgess/msg"
	"burgess/server"
)

const plenty = 1 << 26

// config lets anybody do anything below o=x, but for what stands below ou=hidden.
func config() server.Config {
	base := []api.Ava{{Type: "o", Val: "x"}}
	hidden := []api.Ava{{Type: "ou", Val: "hidden"}, base[0]}
	return server.Config{Suffix: "o=x", Root: "cn=root", Pass: "secret", Rules: []api.Rule{{Base: hidden, Sub: true, Rights: 15}, {Base: base, Sub: true, Rights: 15, Grant: true}}}
}

func made(t *testing.T, room int) *World {
	t.Helper()
	w, e := New(room, config())
	if e != api.OK {
		t.Fatal(e)
	}
	return w
}

func parse(t *testing.T, s string) api.Filter {
	t.Helper()
	f, e := filter.Parse(s)
	if e != api.OK {
		t.Fatal(s, e)
	}
	return f
}

func encode(t *testing.T, r api.Request) []byte {
	t.Helper()
	if r.Num == 0 {
		r.Num = 1
	}
	b, e := msg.Encode(r)
	if e != api.OK {
		t.Fatal(e)
	}
	return b
}

func send(b []byte) Step { return Step{Kind: StepSend, Conn: 1, Data: b} }

// code is the last response's code; -1, if there is none.
func code(t *testing.T, b []byte) api.Code {
	t.Helper()
	last := api.Code(-1)
	for len(b) > 0 {
		n, e := msg.Frame(b)
		if e != api.OK || n == 0 {
			t.Fatalf("%x", b)
		}
		r, e := msg.DecodeRes(b[:n])
		if e != api.OK {
			t.Fatal(e)
		}
		last = r.Code
		b = b[n:]
	}
	return last
}

func bind(t *testing.T) []byte {
	return encode(t, api.Request{Kind: api.OpBind, DN: "cn=root", Pass: "secret"})
}

// unit is the bytes of what adds an entry of few attributes.
func unit(t *testing.T, typ, val, up, text string) []byte {
	class := map[string]string{"o": "organization", "ou": "organizationalunit", "dc": "domain", "uid": "account"}[typ]
	dn := typ + "=" + val
	if up != "" {
		dn += "," + up
	}
	attrs := []api.Attr{{Type: "objectclass", Vals: []string{class}}, {Type: typ, Vals: []string{val}}}
	if text != "" {
		attrs = append(attrs, api.Attr{Type: "description", Vals: []string{text}})
	}
	return encode(t, api.Request{Kind: api.OpAdd, DN: dn, Attrs: attrs})
}

func step(t *testing.T, w *World, s Step, want []byte, e api.Errno) {
	t.Helper()
	if b, err := w.Do(s); !bytes.Equal(b, want) || err != e {
		t.Fatalf("%v: %x %v", s.Kind, b, err)
	}
}

// The example.
func TestExample(t *testing.T) {
	w := made(t, plenty)
	step(t, w, Step{Kind: StepConnect}, []byte{1}, api.OK)
	res, _ := msg.EncodeRes(api.Response{Num: 1, Kind: 1})
	step(t, w, send(bind(t)), res, api.OK)
}

// P28.1: New.
func TestNew(t *testing.T) {
	bad := config()
	bad.Pass = ""
	for i, c := range []struct {
		room int
		c    server.Config
	}{{-1, config()}, {1<<30 + 1, bad}, {100, bad}} {
		if w, e := New(c.room, c.c); w != nil || e != api.ErrArg {
			t.Error(i, e)
		}
	}
	w := made(t, 0)
	if !w.Up() || w.Server() == nil || w.Disk() == nil || len(w.Entries()) != 0 {
		t.Error("not up")
	}
}

// P28.1: each kind of step, with a server and without.
func TestSteps(t *testing.T) {
	w := made(t, plenty)
	for i := range api.MaxConns {
		step(t, w, Step{Kind: StepConnect}, []byte{byte(i + 1)}, api.OK)
	}
	step(t, w, Step{Kind: StepConnect}, []byte{0}, api.OK)
	step(t, w, Step{Kind: StepClose, Conn: 4}, nil, api.OK)
	step(t, w, Step{Kind: StepClose, Conn: 99}, nil, api.OK)
	if w.Server().Sess(4).Open() {
		t.Error("open")
	}
	step(t, w, Step{Kind: StepConnect}, []byte{4}, api.OK)
	step(t, w, Step{Kind: StepSend, Conn: 99, Data: []byte{0x31}}, nil, api.OK)
	step(t, w, Step{Kind: StepBack}, []byte{0}, api.OK)
	step(t, w, Step{Kind: StepOpen}, nil, api.ErrArg)
	for _, kind := range []int{0, -1, 8, 1 << 62} {
		step(t, w, Step{Kind: kind}, nil, api.ErrArg)
	}
	if c := code(t, w.Run(send(bind(t)), send(unit(t, "o", "x", "", "")))[1]); c != api.Success || len(w.Entries()) != 1 {
		t.Fatal(c)
	}
	step(t, w, Step{Kind: StepCrash}, nil, api.OK)
	if w.Up() || w.Server() != nil || w.Disk() == nil || len(w.Entries()) != 0 {
		t.Error("up")
	}
	for _, kind := range []int{StepConnect, StepSend, StepBack, StepClose, 0, 8} {
		step(t, w, Step{Kind: kind, Conn: 1}, nil, api.ErrArg)
	}
	step(t, w, Step{Kind: StepCrash}, nil, api.OK)
	w.Disk().Append("s-img", []byte("none"))
	step(t, w, Step{Kind: StepOpen}, nil, api.ErrForm)
	if w.Up() {
		t.Error("up")
	}
	w.Disk().Remove("s-img")
	w.Disk().Append("tstray")
	step(t, w, Step{Kind: StepFuse, N: 0}, nil, api.OK)
	step(t, w, Step{Kind: StepOpen}, nil, api.ErrDead)
	step(t, w, Step{Kind: StepFuse, N: -1}, nil, api.OK)
	step(t, w, Step{Kind: StepOpen}, nil, api.OK)
	if len(w.Entries()) != 1 || w.Server().Sess(1) != nil {
		t.Error(w.Entries())
	}
	step(t, w, Step{Kind: StepConnect}, []byte{1}, api.OK)
}

// P28.1: StepBack tells whether it did something, and its error beside the byte.
func TestBack(t *testing.T) {
	w := made(t, plenty)
	w.Run(Step{Kind: StepConnect}, send(bind(t)), send(unit(t, "o", "x", "", "")))
	for i := 0; !w.Server().Tree().Store().Due(); i++ {
		w.Run(send(unit(t, "dc", "d"+strconv.Itoa(i), "o=x", strings.Repeat("text ", 30))))
	}
	step(t, w, Step{Kind: StepFuse, N: 3}, nil, api.OK)
	was := w.Entries()
	step(t, w, Step{Kind: StepBack}, []byte{0}, api.ErrDead)
	step(t, w, Step{Kind: StepBack}, []byte{0}, api.ErrDead)
	if !slices.Equal(w.Entries(), was) {
		t.Error("other entries")
	}
	w.Run(Step{Kind: StepCrash, N: 7}, Step{Kind: StepOpen})
	step(t, w, Step{Kind: StepBack}, []byte{1}, api.OK)
	step(t, w, Step{Kind: StepBack}, []byte{0}, api.OK)
	if !slices.Equal(w.Entries(), was) {
		t.Error("other entries")
	}
}

// P28.2: Run and Entries.
func TestRun(t *testing.T) {
	w := made(t, plenty)
	l := w.Run(Step{Kind: StepConnect}, Step{}, send(bind(t)), Step{Kind: StepBack}, send(unit(t, "o", "x", "", "")), send(unit(t, "ou", "b", "o=x", "")), send(unit(t, "ou", "a", "o=x", "")), Step{Kind: StepFuse, N: -1})
	if len(l) != 8 || !bytes.Equal(l[0], []byte{1}) || len(l[1]) != 0 || code(t, l[2]) != 0 || !bytes.Equal(l[3], []byte{0}) || code(t, l[6]) != 0 || len(l[7]) != 0 {
		t.Error(l)
	}
	var names []string
	for _, s := range w.Entries() {
		e, err := entry.Decode(s)
		if err != api.OK {
			t.Fatal(err)
		}
		names = append(names, e.DN[0].Val)
	}
	if !slices.Equal(names, []string{"x", "a", "b"}) {
		t.Error(names)
	}
	if len(w.Run()) != 0 {
		t.Error("nothing")
	}
}

// P28.3, W6, W8: nothing is kept of what is handed in; a nil World.
func TestOwn(t *testing.T) {
	c := config()
	c.Rules = append(c.Rules, api.Rule{Who: api.Named, Name: []api.Ava{{Type: "cn", Val: "q"}}, Rights: 1})
	w, e := New(plenty, c)
	if e != api.OK {
		t.Fatal(e)
	}
	c.Rules[0].Base[0].Val, c.Rules[1].Base[0].Val, c.Rules[2].Name[0].Type = "z", "z", "" // a rule that may not be
	c.Rules[1].Grant = false
	w.Run(Step{Kind: StepCrash}, Step{Kind: StepOpen}, Step{Kind: StepConnect})
	data := unit(t, "o", "x", "", "")
	b, _ := w.Do(send(data[:9]))
	first := bytes.Clone(data)
	clear(data)
	b, _ = w.Do(send(first[9:]))
	if code(t, b) != api.Success {
		t.Error(b)
	}
	l := w.Entries()
	l[0] = "z"
	if w.Entries()[0] == "z" {
		t.Error("kept")
	}
	var n *World
	for kind := range 9 {
		if b, e := n.Do(Step{Kind: kind}); b != nil || e != api.ErrArg {
			t.Error(kind, e)
		}
	}
	if len(n.Run(Step{}, Step{})) != 0 || n.Up() || n.Server() != nil || n.Disk() != nil || len(n.Entries()) != 0 {
		t.Error("nil")
	}
	var z World
	for kind := range 9 {
		z.Do(Step{Kind: kind})
	}
	z.Run(Step{Kind: StepOpen})
	if z.Up() || len(z.Entries()) != 0 {
		t.Error("zero")
	}
}
