package server

import (
	"slices"

	"burgess/acl"
	"burgess/api"
	"burgess/dn"
	"burgess/entry"
	"burgess/match"
	"burgess/schema"
	"burgess/search"
	"burgess/sess"
)

const (
	passType = "userpassword"
	noType   = "" // what an entry as a whole is asked for
	allTypes = "*"
)

// asker is the one who asks: what a rule says hangs on who is bound.
type asker struct {
	s   *Server
	who []api.Ava
}

// may tells what a rule says.
func (a asker) may(target []api.Ava, typ string, right int) bool {
	return acl.May(a.s.rules, a.s.root, a.who, target, typ, right)
}

// mayAll tells whether a rule says yes for no type, and for each of some.
func (a asker) mayAll(target []api.Ava, types []string, right int) bool {
	for _, typ := range types {
		if !a.may(target, typ, right) {
			return false
		}
	}
	return a.may(target, noType, right)
}

// Do answers a request.
func (s *Server) Do(conn int, r api.Request) []api.Response {
	c := s.Sess(conn)
	if c == nil || s.none() {
		return nil
	}
	a := asker{s: s, who: c.Who()}
	code := api.Success
	switch r.Kind {
	case api.OpUnbind:
		c.Close()
		return nil
	case api.OpAbandon:
		return nil
	case api.OpSearch:
		return a.search(r)
	case api.OpBind:
		code = s.bind(c, r)
	case api.OpAdd:
		code = a.add(r)
	case api.OpDelete:
		code = a.remove(r)
	case api.OpModify:
		code = a.modify(r)
	case api.OpRename:
		code = a.rename(r)
	case api.OpCompare:
		code = a.compare(r)
	default:
		return nil
	}
	return []api.Response{{Num: r.Num, Kind: r.Kind + 1, Code: code}}
}

// bind says who is bound; nobody, if that is not Success.
func (s *Server) bind(c *sess.Sess, r api.Request) api.Code {
	c.Bind(nil)
	n, e := dn.Parse(r.DN)
	switch {
	case e != api.OK:
		return api.InvalidDN
	case len(n) == 0 && r.Pass == "":
		return api.Success
	case r.Pass == "":
		return api.Unwilling
	case !s.knows(n, r.Pass):
		return api.BadCredentials
	}
	c.Bind(n)
	return api.Success
}

// knows tells whether a password is somebody's.
func (s *Server) knows(n []api.Ava, pass string) bool {
	if dn.Same(n, s.root) && pass == s.pass {
		return true
	}
	e, ok := s.tree.Get(n)
	return ok && slices.Contains(entry.Get(e, passType), pass)
}

func (a asker) add(r api.Request) api.Code {
	n, e := dn.Parse(r.DN)
	if e != api.OK {
		return api.InvalidDN
	}
	var types []string
	for _, attr := range r.Attrs {
		types = append(types, attr.Type)
	}
	if !a.mayAll(n, types, api.RightWrite) {
		return api.NoAccess
	}
	return a.s.tree.Add(api.Entry{DN: n, Attrs: r.Attrs})
}

func (a asker) remove(r api.Request) api.Code {
	n, e := dn.Parse(r.DN)
	if e != api.OK {
		return api.InvalidDN
	}
	if !a.may(n, noType, api.RightWrite) {
		return api.NoAccess
	}
	return a.s.tree.Delete(n)
}

func (a asker) modify(r api.Request) api.Code {
	n, e := dn.Parse(r.DN)
	if e != api.OK {
		return api.InvalidDN
	}
	var types []string
	for _, m := range r.Mods {
		types = append(types, m.Type)
	}
	if !a.mayAll(n, types, api.RightWrite) {
		return api.NoAccess
	}
	return a.s.tree.Modify(n, r.Mods)
}

func (a asker) rename(r api.Request) api.Code {
	n, e := dn.Parse(r.DN)
	part, ee := dn.Parse(r.Rdn)
	if e != api.OK || ee != api.OK || len(part) != 1 {
		return api.InvalidDN
	}
	up := dn.Up(n)
	if r.Above {
		if up, e = dn.Parse(r.Up); e != api.OK {
			return api.InvalidDN
		}
	}
	if !a.may(n, noType, api.RightWrite) || !a.may(slices.Concat(part, up), noType, api.RightWrite) {
		return api.NoAccess
	}
	return a.s.tree.Rename(n, part[0], r.Keep, up)
}

func (a asker) compare(r api.Request) api.Code {
	n, err := dn.Parse(r.DN)
	if err != api.OK {
		return api.InvalidDN
	}
	e, ok := a.s.tree.Get(n)
	if !ok || !a.may(n, r.Ava.Type, api.RightCompare) {
		return api.NoObject
	}
	typ, syntax, _, ok := schema.Type(r.Ava.Type)
	if !ok {
		return api.UndefinedType
	}
	if _, ok := match.Norm(syntax, r.Ava.Val); !ok {
		return api.InvalidSyntax
	}
	vals := entry.Get(e, typ)
	if len(vals) == 0 {
		return api.NoAttribute
	}
	if slices.ContainsFunc(vals, func(v string) bool { return match.Equal(syntax, v, r.Ava.Val) }) {
		return api.CompareTrue
	}
	return api.CompareFalse
}

func (a asker) search(r api.Request) []api.Response {
	done := api.Response{Num: r.Num, Kind: api.ResDone}
	found, code := a.find(r)
	if code != api.Success {
		done.Code = code
		return []api.Response{done}
	}
	var out []api.Response
	types := typesOf(r.Filter, nil)
	for _, e := range found {
		if !a.mayAll(e.DN, types, api.RightSearch) {
			continue
		}
		if r.Limit > 0 && len(out) == r.Limit {
			done.Code = api.SizeLimit
			break
		}
		out = append(out, api.Response{Num: r.Num, Kind: api.ResEntry, DN: dn.Print(e.DN), Attrs: a.readable(e, r.Want)})
	}
	return append(out, done)
}

// find is those that fit, whoever asks, if the base may be searched.
func (a asker) find(r api.Request) ([]api.Entry, api.Code) {
	base, e := dn.Parse(r.DN)
	if e != api.OK {
		return nil, api.InvalidDN
	}
	if _, ok := a.s.tree.Get(base); !ok || !a.may(base, noType, api.RightSearch) {
		return nil, api.NoObject
	}
	return search.Find(a.s.tree, base, r.Scope, r.Filter)
}

// typesOf is the types that a filter names, behind those that were told.
func typesOf(f api.Filter, types []string) []string {
	if f.Type != "" {
		types = append(types, f.Type)
	}
	for _, kid := range f.Kids {
		types = typesOf(kid, types)
	}
	return types
}

// readable is the attributes of an entry that are wanted, and may be read.
func (a asker) readable(e api.Entry, want []string) []api.Attr {
	var out []api.Attr
	for _, attr := range e.Attrs {
		if len(attr.Vals) > 0 && wanted(attr.Type, want) && a.may(e.DN, attr.Type, api.RightRead) {
			out = append(out, attr)
		}
	}
	return out
}

func wanted(typ string, want []string) bool {
	if len(want) == 0 || slices.Contains(want, allTypes) {
		return true
	}
	typ = dn.Fold(typ)
	return slices.ContainsFunc(want, func(w string) bool { return dn.Fold(w) == typ })
}
