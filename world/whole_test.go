package world

import (
	"bytes"
	"maps"
	"slices"
	"strings"
	"testing"

	"burgess/api"
	"burgess/dn"
	"burgess/dnkey"
	"burgess/entry"
	"burgess/eval"
	"burgess/index"
	"burgess/msg"
	"burgess/octet"
)

// The promises of the whole, P0.1 to P0.6, of requests that are drawn.

// draws is numbers that look drawn.
type draws uint64

func (d *draws) next(n int) int {
	*d = *d*6364136223846793005 + 1442695040888963407
	return int(*d>>33) % n
}

func (d *draws) of(l ...string) string { return l[d.next(len(l))] }

func (d *draws) name() string {
	s := "o=x"
	for range d.next(4) {
		s = d.of("ou=a", "OU=b", "ou=hidden", "uid=c", "uid=D", "cn=e") + "," + s
	}
	return s
}

func (d *draws) filter(t *testing.T) api.Filter {
	return parse(t, d.of("(objectclass=*)", "(cn=E)", "(description=*xt tex*)", "(&(ou=*)(!(ou=a)))", "(|(uid=c)(cn=e*))", "(none=a)", "(uid>=d)", "(!(description=*text*))", "(mail=*@x*)", "(&(sn=s)(mail=e@x))"))
}

// request is one that may be, whatever it is answered.
func (d *draws) request(t *testing.T) api.Request {
	t.Helper()
	n := d.name()
	r := api.Request{Num: 1 + d.next(1000), DN: n}
	text := strings.Repeat(d.of("text ", "word ", "ab"), 1+d.next(30))
	switch d.next(12) {
	case 0, 1, 2, 3:
		r.Kind = api.OpAdd
		typ, val, _ := strings.Cut(strings.Split(n, ",")[0], "=")
		class := map[string]string{"o": "organization", "ou": "organizationalunit", "uid": "account", "cn": "person"}[strings.ToLower(typ)]
		r.Attrs = []api.Attr{{Type: "objectClass", Vals: []string{class}}, {Type: typ, Vals: []string{val}}, {Type: "description", Vals: []string{text, "two"}}}
		if class == "person" {
			r.Attrs = append(r.Attrs, api.Attr{Type: "sn", Vals: []string{"S"}}, api.Attr{Type: "mail", Vals: []string{val + "@x"}})
		}
	case 4:
		r.Kind = api.OpDelete
	case 5, 6:
		r.Kind = api.OpModify
		r.Mods = []api.Mod{{Kind: d.next(3), Type: d.of("description", "L", "uid", "none"), Vals: []string{text}}}
	case 7, 8:
		r.Kind = api.OpRename
		r.Rdn, r.Keep = d.of("ou=a", "ou=B", "uid=c", "cn=f"), d.next(2) == 0
		if d.next(2) == 0 {
			r.Above, r.Up = true, d.name()
		}
	case 9:
		r.Kind, r.Ava = api.OpCompare, api.Ava{Type: d.of("ou", "cn", "none"), Val: d.of("A", "b", "E")}
	case 10:
		r.Kind, r.DN, r.Pass = api.OpBind, d.of("", "cn=root", "cn=root", "o=x"), d.of("", "secret", "secret")
	default:
		r.Kind, r.Scope, r.Limit, r.Filter, r.Want = api.OpSearch, d.next(3), d.next(3), d.filter(t), []string{d.of("*", "ou", "description")}
	}
	return r
}

// begun is a world with a connection, and the suffix.
func begun(t *testing.T) *World {
	t.Helper()
	w := made(t, plenty)
	if c := code(t, w.Run(Step{Kind: StepConnect}, send(unit(t, "o", "x", "", "")))[1]); c != api.Success {
		t.Fatal(c)
	}
	return w
}

// checkIndexes holds all rows of the store against those that its entries ask.
func checkIndexes(t *testing.T, w *World) {
	t.Helper()
	rows := map[string]string{}
	kids := map[string]int{}
	for _, s := range w.Entries() {
		e, _ := entry.Decode(s)
		key := dnkey.Key(e.DN)
		rows["d"+key] = s
		for _, k := range index.Keys(e) {
			rows[k] = ""
		}
		if len(e.DN) > 1 {
			kids[dnkey.Key(dn.Up(e.DN))]++
			if _, ok := w.Server().Tree().Get(dn.Up(e.DN)); !ok {
				t.Fatal(dn.Print(e.DN), "has no up")
			}
		}
	}
	for key, n := range kids {
		var o octet.Writer
		o.Nums(n)
		rows["c"+key] = string(o.Out())
	}
	got := map[string]string{}
	for _, r := range w.Server().Tree().Store().Scan("", "", 0) {
		got[r.Key] = r.Val
	}
	if !maps.Equal(got, rows) {
		t.Fatal("other rows", len(got), len(rows))
	}
}

// P0.1, P0.6: whatever is flushed, merged, parted and opened anew meanwhile, each response is the same, byte by byte.
func TestWhateverMeanwhile(t *testing.T) {
	codes := map[api.Code]int{}
	for seed := range 3 {
		x := draws(seed)
		calm, busy := begun(t), begun(t)
		levels := 0
		for i := range 700 {
			b := encode(t, x.request(t))
			want, _ := calm.Do(send(b))
			codes[code(t, want)]++
			var got []byte
			cut := x.next(len(b) + 1)
			for _, p := range [][]byte{b[:cut], b[cut:]} {
				out, _ := busy.Do(send(p))
				got = append(got, out...)
				if x.next(2) == 0 {
					busy.Do(Step{Kind: StepBack})
				}
			}
			if !bytes.Equal(got, want) {
				t.Fatalf("%d %d %x %x", seed, i, got, want)
			}
			if x.next(40) == 0 {
				busy.Run(Step{Kind: StepCrash, N: x.next(99)}, Step{Kind: StepOpen}, Step{Kind: StepConnect})
				calm.Run(Step{Kind: StepClose, Conn: 1}, Step{Kind: StepConnect})
			}
			if i%20 == 0 && !slices.Equal(calm.Entries(), busy.Entries()) {
				t.Fatal(seed, i)
			}
			for _, f := range busy.Server().Tree().Store().Version().Files {
				levels = max(levels, f.Level)
			}
		}
		if levels == 0 {
			t.Error(seed, "nothing was merged")
		}
	}
	for _, c := range []api.Code{api.Success, api.NoAccess, api.NoObject, api.EntryExists, api.SizeLimit, api.CompareTrue, api.BadCredentials, api.UndefinedType, api.NonLeaf} {
		if codes[c] == 0 {
			t.Error(c, "never came")
		}
	}
}

// P0.1: bytes that are no message are answered by a notice, and leave the tree alone.
func TestNoMessage(t *testing.T) {
	w := begun(t)
	was := w.Entries()
	notice, _ := msg.EncodeRes(api.Response{Kind: api.ResNotice, Code: api.Protocol})
	good := unit(t, "ou", "a", "o=x", "")
	for i, b := range [][]byte{{0}, {0x31, 0}, {0x30, 0x80}, {0x30, 0}, {0x30, 0x83, 1, 0, 0}, good[1:], append([]byte{0x30, 3, 2, 1, 1}, good...)} {
		w.Run(Step{Kind: StepClose, Conn: 1}, Step{Kind: StepConnect})
		out, e := w.Do(send(b))
		if !bytes.Equal(out, notice) || e != api.OK || !slices.Equal(w.Entries(), was) {
			t.Errorf("%d %x", i, out)
		}
		if out, e := w.Do(send(good)); len(out) != 0 || e != api.OK || !slices.Equal(w.Entries(), was) {
			t.Errorf("%d %x", i, out)
		}
	}
}

// P0.2, P28.3: behind a crash at any place, within an opening, too, the entries are those that the updates answered Success make, and maybe one more.
func TestCrashes(t *testing.T) {
	for seed := range 4 {
		x := draws(100 + seed)
		var l [][]byte
		for range 80 {
			l = append(l, encode(t, x.request(t)))
		}
		for n := range 90 {
			w, twin := begun(t), begun(t)
			for _, b := range l[:40] {
				w.Run(send(b), Step{Kind: StepBack})
				twin.Run(send(b))
			}
			w.Run(Step{Kind: StepFuse, N: n})
			more := runUntil(t, w, twin, l[40:])
			w.Run(Step{Kind: StepCrash, N: x.next(50)})
			for range x.next(3) {
				w.Run(Step{Kind: StepFuse, N: x.next(6)}, Step{Kind: StepOpen}, Step{Kind: StepCrash, N: x.next(50)})
			}
			if _, e := w.Do(Step{Kind: StepOpen}); e != api.OK {
				t.Fatal(seed, n, e)
			}
			now := w.Entries()
			if !slices.Equal(now, twin.Entries()) {
				twin.Run(more)
				if more.Kind == 0 || !slices.Equal(now, twin.Entries()) {
					t.Fatal(seed, n)
				}
			}
			checkIndexes(t, w)
		}
	}
}

// runUntil sends up to the first that is answered Other or Unavailable, and answers the step that was under way.
func runUntil(t *testing.T, w, twin *World, l [][]byte) Step {
	t.Helper()
	for i, b := range l {
		out, _ := w.Do(send(b))
		switch code(t, out) {
		case api.Other:
			return send(b)
		case api.Unavailable:
			return Step{}
		}
		if want, _ := twin.Do(send(b)); !bytes.Equal(out, want) {
			t.Fatalf("%d %x %x", i, out, want)
		}
		if _, e := w.Do(Step{Kind: StepBack}); e != api.OK {
			return Step{}
		}
	}
	return Step{}
}

// P0.3: in every state the indexes are just what the entries have, and a search tells just those of whom the filter says so.
func TestIndexes(t *testing.T) {
	x := draws(7)
	w := begun(t)
	w.Run(send(bind(t)))
	found := 0
	for i := range 600 {
		r := x.request(t)
		if r.Kind == api.OpBind {
			continue
		}
		w.Run(send(encode(t, r)))
		if x.next(4) == 0 {
			w.Run(Step{Kind: StepBack})
		}
		if i%5 == 0 {
			checkIndexes(t, w)
		}
		f := x.filter(t)
		var want []string
		for _, s := range w.Entries() {
			if e, _ := entry.Decode(s); eval.Eval(f, e) == api.True {
				want = append(want, dn.Print(e.DN))
			}
		}
		var got []string
		for _, res := range w.Server().Do(1, api.Request{Num: 1, Kind: api.OpSearch, DN: "o=x", Scope: api.ScopeSub, Filter: f}) {
			if res.Kind == api.ResEntry {
				got = append(got, res.DN)
			}
		}
		if !slices.Equal(got, want) {
			t.Fatal(i, got, want)
		}
		found += len(got)
	}
	if found < 500 {
		t.Error(found)
	}
}

// P0.4: who has no right below a name is answered byte by byte alike, whatever stands there; an update that is not answered Success changes no entry.
func TestRights(t *testing.T) {
	full, bare := begun(t), begun(t)
	full.Run(send(bind(t)), send(unit(t, "ou", "hidden", "o=x", "text")), send(unit(t, "uid", "c", "ou=hidden,o=x", "")), send(unit(t, "ou", "a", "ou=hidden,o=x", "")), Step{Kind: StepClose, Conn: 1}, Step{Kind: StepConnect})
	if len(full.Entries()) != 4 {
		t.Fatal(len(full.Entries()))
	}
	x := draws(11)
	asked := 0
	for range 3000 {
		r := x.request(t)
		if r.Kind == api.OpBind || !strings.HasSuffix(r.DN, "ou=hidden,o=x") && r.Kind != api.OpSearch && r.Kind != api.OpRename {
			continue
		}
		was := full.Entries()
		one, _ := full.Do(send(encode(t, r)))
		other, _ := bare.Do(send(encode(t, r)))
		if !bytes.Equal(one, other) {
			t.Fatalf("%+v %x %x", r, one, other)
		}
		if code(t, one) != api.Success && !slices.Equal(full.Entries(), was) {
			t.Fatal("an entry was changed")
		}
		asked++
	}
	if asked < 300 {
		t.Error(asked)
	}
}

// P0.5: an error of the disk is answered by other, then by unavailable; what is told stays as it was.
func TestErrors(t *testing.T) {
	for n := range 2 {
		w := begun(t)
		w.Run(send(unit(t, "ou", "a", "o=x", "")))
		look := encode(t, api.Request{Kind: api.OpSearch, DN: "o=x", Scope: api.ScopeSub, Filter: parse(t, "(objectclass=*)")})
		before := w.Run(send(look))[0]
		was := w.Entries()
		w.Run(Step{Kind: StepFuse, N: n})
		for i, want := range []api.Code{api.Other, api.Unavailable, api.Unavailable} {
			if c := code(t, w.Run(send(unit(t, "ou", "b", "o=x", "")))[0]); c != want {
				t.Error(n, i, c)
			}
			if now := w.Run(send(look))[0]; !bytes.Equal(now, before) || !slices.Equal(w.Entries(), was) || !w.Server().Dead() {
				t.Error(n, i, "what is told is another one")
			}
		}
		w.Run(Step{Kind: StepCrash}, Step{Kind: StepOpen})
		if !slices.Equal(w.Entries(), was) {
			t.Error(n, "behind the crash")
		}
	}
	small := made(t, 900)
	small.Run(Step{Kind: StepConnect}, send(unit(t, "o", "x", "", "")))
	got := code(t, small.Run(send(unit(t, "ou", "a", "o=x", strings.Repeat("text ", 50))))[0])
	if got != api.Other || code(t, small.Run(send(unit(t, "ou", "b", "o=x", "")))[0]) != api.Unavailable || len(small.Entries()) != 1 {
		t.Error(got, len(small.Entries()))
	}
}

// P0.6: what is told depends on the room, the config and the steps alone.
func TestTwins(t *testing.T) {
	x := draws(23)
	l := []Step{{Kind: StepConnect}, {Kind: StepConnect}, send(unit(t, "o", "x", "", ""))}
	for range 500 {
		switch x.next(12) {
		case 0, 1:
			l = append(l, Step{Kind: StepBack})
		case 2:
			l = append(l, Step{Kind: x.next(9), Conn: x.next(4), N: x.next(60)})
		case 3:
			l = append(l, Step{Kind: StepOpen}, Step{Kind: StepConnect})
		default:
			l = append(l, Step{Kind: StepSend, Conn: 1 + x.next(2), Data: encode(t, x.request(t))})
		}
	}
	one, other := made(t, plenty), made(t, plenty)
	a, b := one.Run(l...), other.Run(l...)
	if !slices.EqualFunc(a, b, bytes.Equal) || !slices.Equal(one.Entries(), other.Entries()) || !slices.Equal(one.Disk().List(), other.Disk().List()) {
		t.Error("not alike")
	}
	for _, name := range one.Disk().List() {
		p, _ := one.Disk().Read(name)
		q, _ := other.Disk().Read(name)
		if !bytes.Equal(p, q) {
			t.Error(name)
		}
	}
}
