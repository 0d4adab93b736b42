package tree

import (
	"slices"
	"strings"

	"burgess/api"
	"burgess/batch"
	"burgess/entry"
	"burgess/index"
	"burgess/octet"
)

// work is what an update is to make of the store: of each key what it is to have, or that it is to be gone.
type work struct {
	t    *Tree
	rows map[string]api.Row
	kids map[string]int // how many entries there are more or fewer right below the name of a key
}

func (t *Tree) begin() *work {
	return &work{t: t, rows: map[string]api.Row{}, kids: map[string]int{}}
}

func (w *work) put(key, val string) { w.rows[key] = api.Row{Key: key, Val: val} }
func (w *work) drop(key string)     { w.rows[key] = api.Row{Key: key, Del: true} }

// leave takes an entry away, and its indexes.
func (w *work) leave(e api.Entry) {
	key, _ := keyOf(e.DN)
	w.drop(ofEntry + key)
	for _, k := range index.Keys(e) {
		w.drop(k)
	}
}

// stand lays an entry, and its indexes; it may be.
func (w *work) stand(e api.Entry) {
	key, _ := keyOf(e.DN)
	val, _ := entry.Encode(e)
	w.put(ofEntry+key, val)
	for _, k := range index.Keys(e) {
		w.put(k, "")
	}
}

// change makes one entry of another one that has the same name.
func (w *work) change(old, now api.Entry) {
	key, _ := keyOf(now.DN)
	val, _ := entry.Encode(now)
	w.put(ofEntry+key, val)
	for _, row := range index.Diff(index.Keys(old), index.Keys(now)) {
		w.rows[row.Key] = row
	}
}

// more counts an entry more or fewer below a name.
func (w *work) more(up []api.Ava, n int) {
	key, _ := keyOf(up)
	w.kids[key] += n
}

// have says how many stand right below the name of a key.
func (w *work) have(key string, n int) {
	if n < 1 {
		w.drop(ofKids + key)
		return
	}
	var o octet.Writer
	o.Nums(n)
	w.put(ofKids+key, string(o.Out()))
}

// write writes one batch of what is to be other than it is.
func (w *work) write() api.Code {
	for key, n := range w.kids {
		w.have(key, w.t.count(key)+n)
	}
	s := w.t.s
	var l []api.Row
	for key, row := range w.rows {
		val, there := s.Get(key)
		if there == row.Del || val != row.Val { // it is not so yet
			l = append(l, row)
		}
	}
	if len(l) == 0 {
		return api.Success
	}
	slices.SortFunc(l, func(a, b api.Row) int { return strings.Compare(a.Key, b.Key) })
	if batch.Check(l) != api.OK {
		return api.Unwilling
	}
	if s.Dead() {
		return api.Unavailable
	}
	if s.Write(l) != api.OK {
		return api.Other
	}
	return api.Success
}
