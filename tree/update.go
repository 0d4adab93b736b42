package tree

import (
	"slices"

	"burgess/api"
	"burgess/dn"
	"burgess/entry"
	"burgess/match"
	"burgess/schema"
)

// Add adds an entry.
func (t *Tree) Add(e api.Entry) api.Code {
	if t.store() == nil {
		return api.Unavailable
	}
	if !isOne(e.DN) {
		return api.InvalidDN
	}
	if !dn.Under(e.DN, t.suffix) {
		return api.NoObject
	}
	if t.has(e.DN) {
		return api.EntryExists
	}
	top := dn.Same(e.DN, t.suffix)
	if !top && !t.has(dn.Up(e.DN)) {
		return api.NoObject
	}
	if code := check(e); code != api.Success {
		return code
	}
	w := t.begin()
	w.stand(e)
	if !top {
		w.more(dn.Up(e.DN), 1)
	}
	return w.write()
}

// check tells whether an entry may stand in the tree.
func check(e api.Entry) api.Code {
	if !entry.Is(e) {
		return api.Constraint
	}
	if code := schema.Check(e); code != api.Success {
		return code
	}
	return sound(e)
}

// sound tells whether values are.
func sound(e api.Entry) api.Code {
	code := api.Success
	for _, a := range e.Attrs {
		_, syntax, _, _ := schema.Type(a.Type)
		l, ok := norms(syntax, a.Vals)
		if !ok {
			return api.InvalidSyntax
		}
		if twice(l) {
			code = api.ValueExists
		}
	}
	return code
}

// norms is the Norms of values; false, if one has none.
func norms(syntax int, vals []string) ([]string, bool) {
	var out []string
	for _, val := range vals {
		n, ok := match.Norm(syntax, val)
		if !ok {
			return nil, false
		}
		out = append(out, n)
	}
	return out, true
}

func twice(l []string) bool {
	seen := make(map[string]struct{}, len(l))
	for _, s := range l {
		seen[s] = struct{}{}
	}
	return len(seen) < len(l)
}

// Delete takes one away.
func (t *Tree) Delete(n []api.Ava) api.Code {
	if t.store() == nil {
		return api.Unavailable
	}
	if !isOne(n) {
		return api.InvalidDN
	}
	e, ok := t.Get(n)
	if !ok {
		return api.NoObject
	}
	if t.Kids(n) > 0 {
		return api.NonLeaf
	}
	w := t.begin()
	w.leave(e)
	if !dn.Same(n, t.suffix) {
		w.more(dn.Up(n), -1)
	}
	return w.write()
}

// Modify changes one.
func (t *Tree) Modify(n []api.Ava, mods []api.Mod) api.Code {
	if t.store() == nil {
		return api.Unavailable
	}
	if !isOne(n) {
		return api.InvalidDN
	}
	old, ok := t.Get(n)
	if !ok {
		return api.NoObject
	}
	now := entry.Own(old)
	for _, m := range mods {
		if code := apply(&now, m); code != api.Success {
			return code
		}
	}
	if !holds(now, now.DN[0]) {
		return api.OnRDN
	}
	if code := check(now); code != api.Success {
		return code
	}
	w := t.begin()
	w.change(old, now)
	return w.write()
}

// apply brings one change into an entry, which is spoilt if that cannot be.
func apply(e *api.Entry, m api.Mod) api.Code {
	_, syntax, _, ok := schema.Type(m.Type)
	if !ok {
		return api.UndefinedType
	}
	switch m.Kind {
	case api.ModAdd:
		return addVals(e, m, syntax)
	case api.ModDelete:
		return deleteVals(e, m, syntax)
	case api.ModReplace:
		setVals(e, m.Type, slices.Clone(m.Vals))
		return api.Success
	}
	return api.Protocol
}

func addVals(e *api.Entry, m api.Mod, syntax int) api.Code {
	if len(m.Vals) == 0 {
		return api.Constraint
	}
	more, ok := norms(syntax, m.Vals)
	if !ok {
		return api.InvalidSyntax
	}
	vals := entry.Get(*e, m.Type)
	has := normSet(syntax, vals)
	for _, n := range more {
		if _, ok := has[n]; ok {
			return api.ValueExists
		}
		has[n] = struct{}{}
	}
	setVals(e, m.Type, append(vals, m.Vals...))
	return api.Success
}

func deleteVals(e *api.Entry, m api.Mod, syntax int) api.Code {
	less, ok := norms(syntax, m.Vals)
	if !ok {
		return api.InvalidSyntax
	}
	if place(*e, m.Type) < 0 {
		return api.NoAttribute
	}
	if len(less) == 0 {
		setVals(e, m.Type, nil)
		return api.Success
	}
	vals := entry.Get(*e, m.Type)
	stay := normSet(syntax, vals)
	for _, n := range less {
		if _, ok := stay[n]; !ok {
			return api.NoAttribute
		}
		delete(stay, n)
	}
	setVals(e, m.Type, slices.DeleteFunc(vals, func(val string) bool {
		n, ok := match.Norm(syntax, val)
		_, stays := stay[n]
		return ok && !stays
	}))
	return api.Success
}

// normSet is the Norms of those values that have one.
func normSet(syntax int, vals []string) map[string]struct{} {
	set := make(map[string]struct{}, len(vals))
	for _, val := range vals {
		if n, ok := match.Norm(syntax, val); ok {
			set[n] = struct{}{}
		}
	}
	return set
}

// place is where an attribute stands; below 0, if there is none.
func place(e api.Entry, typ string) int {
	typ = dn.Fold(typ)
	return slices.IndexFunc(e.Attrs, func(a api.Attr) bool { return dn.Fold(a.Type) == typ })
}

// setVals gives an attribute its values, where it stands, or last; without values it is gone.
func setVals(e *api.Entry, typ string, vals []string) {
	i := place(*e, typ)
	switch {
	case len(vals) == 0 && i >= 0:
		e.Attrs = slices.Delete(e.Attrs, i, i+1)
	case len(vals) == 0:
	case i >= 0:
		e.Attrs[i].Vals = vals
	default:
		e.Attrs = append(e.Attrs, api.Attr{Type: typ, Vals: vals})
	}
}

// holds tells whether an entry has a part's value.
func holds(e api.Entry, part api.Ava) bool {
	_, syntax, _, _ := schema.Type(part.Type)
	return slices.ContainsFunc(entry.Get(e, part.Type), func(v string) bool { return match.Equal(syntax, v, part.Val) })
}

// Rename moves one, and all below it.
func (t *Tree) Rename(n []api.Ava, part api.Ava, keep bool, up []api.Ava) api.Code {
	if t.store() == nil {
		return api.Unavailable
	}
	to := slices.Concat([]api.Ava{part}, up)
	if !isOne(n) || !dn.Is(to) {
		return api.InvalidDN
	}
	if code := t.mayMove(n, up, to); code != api.Success {
		return code
	}
	old := t.Entries(n, api.ScopeSub)
	if len(old) > api.MaxTree {
		return api.Unwilling
	}
	now := renamed(old, len(n), to)
	rename(&now[0], old[0].DN[0], part, keep)
	for _, e := range now {
		if !entry.Is(e) {
			return api.Constraint
		}
	}
	if code := check(now[0]); code != api.Success {
		return code
	}
	w := t.begin()
	w.move(old, now)
	w.more(dn.Up(n), -1)
	w.more(up, 1)
	return w.write()
}

// mayMove tells whether there is an entry, and a place for it.
func (t *Tree) mayMove(n, up, to []api.Ava) api.Code {
	switch {
	case !t.has(n):
		return api.NoObject
	case dn.Same(n, t.suffix):
		return api.Unwilling
	case !dn.Under(to, t.suffix) || !t.has(up):
		return api.NoObject
	case dn.Under(up, n):
		return api.Unwilling
	case t.has(to) && !dn.Same(to, n):
		return api.EntryExists
	}
	return api.Success
}

// renamed is entries, of whose names the last so many parts are others.
func renamed(l []api.Entry, parts int, to []api.Ava) []api.Entry {
	var out []api.Entry
	for _, e := range l {
		e = entry.Own(e)
		e.DN = slices.Concat(e.DN[:len(e.DN)-parts], to)
		out = append(out, e)
	}
	return out
}

// rename gives an entry the value of its new part, and takes that of the elder one.
func rename(e *api.Entry, elder, part api.Ava, keep bool) {
	_, syntax, _, _ := schema.Type(part.Type)
	if !holds(*e, part) {
		setVals(e, part.Type, append(entry.Get(*e, part.Type), part.Val))
	}
	if keep || dn.Fold(elder.Type) == dn.Fold(part.Type) && match.Equal(syntax, elder.Val, part.Val) {
		return
	}
	_, syntax, _, _ = schema.Type(elder.Type)
	vals := entry.Get(*e, elder.Type)
	setVals(e, elder.Type, slices.DeleteFunc(vals, func(v string) bool { return match.Equal(syntax, v, elder.Val) }))
}

// move makes entries of others: these are gone, with all that they have.
func (w *work) move(old, now []api.Entry) {
	for _, e := range old {
		key, _ := keyOf(e.DN)
		w.leave(e)
		w.drop(ofKids + key)
	}
	for i, e := range now {
		key, _ := keyOf(e.DN)
		w.stand(e)
		if n := w.t.Kids(old[i].DN); n > 0 {
			w.have(key, n)
		}
	}
}
