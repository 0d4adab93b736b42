package msg

import (
	"burgess/api"
	"burgess/ber"
)

const maxAliases = 3

// fields is items of just these tags, in order.
func fields(b []byte, tags ...byte) ([]ber.Item, bool) {
	l, e := ber.All(b)
	if e != api.OK || len(l) != len(tags) {
		return nil, false
	}
	for i, it := range l {
		if it.Tag != tags[i] {
			return nil, false
		}
	}
	return l, true
}

// number is an item's number, if it is from 0 to most.
func number(it ber.Item, most int) (int, bool) {
	n, e := ber.FromInt(it.Body)
	if e != api.OK || n < 0 || n > most {
		return 0, false
	}
	return n, true
}

// Decode is the way back.
func Decode(b []byte) (api.Request, api.Errno) {
	tag, body, rest, e := ber.Next(b)
	if e != api.OK {
		return api.Request{}, e
	}
	if tag != tagSeq || len(rest) > 0 {
		return api.Request{}, api.ErrForm
	}
	r, ok := message(body)
	if !ok || !Is(r) {
		return api.Request{}, api.ErrForm
	}
	return r, api.OK
}

// message takes a number, an operation, and maybe controls.
func message(b []byte) (api.Request, bool) {
	l, e := ber.All(b)
	if e != api.OK || len(l) < 2 || len(l) > 3 || l[0].Tag != tagInt || len(l) == 3 && l[2].Tag != tagExtra {
		return api.Request{}, false
	}
	op := l[1]
	r := api.Request{Kind: int(op.Tag & numbers)}
	n, ok := number(l[0], maxNum)
	if !ok || op.Tag != opTag(r.Kind) {
		return api.Request{}, false
	}
	r.Num = n
	return r, operation(&r, op.Body)
}

// operation takes what an operation's Kind names, and tells whether it is all there.
func operation(r *api.Request, b []byte) bool {
	switch r.Kind {
	case api.OpBind:
		return takeBind(r, b)
	case api.OpUnbind:
		return len(b) == 0
	case api.OpSearch:
		return takeSearch(r, b)
	case api.OpModify:
		return takeModify(r, b)
	case api.OpAdd:
		l, ok := fields(b, tagText, tagSeq)
		if !ok {
			return false
		}
		r.DN = string(l[0].Body)
		r.Attrs, ok = attrsOf(l[1].Body)
		return ok
	case api.OpDelete:
		r.DN = string(b)
		return true
	case api.OpRename:
		return takeRename(r, b)
	case api.OpCompare:
		return takeCompare(r, b)
	case api.OpAbandon:
		n, ok := number(ber.Item{Body: b}, maxNum)
		r.Which = n
		return ok
	}
	return false
}

func takeBind(r *api.Request, b []byte) bool {
	l, ok := fields(b, tagInt, tagText, tagPass)
	if !ok {
		return false
	}
	r.DN, r.Pass = string(l[1].Body), string(l[2].Body)
	n, ok := number(l[0], version)
	return ok && n == version
}

func takeSearch(r *api.Request, b []byte) bool {
	l, e := ber.All(b)
	if e != api.OK || len(l) != 8 {
		return false
	}
	for i, tag := range []byte{tagText, tagEnum, tagEnum, tagInt, tagInt, tagBool, l[6].Tag, tagSeq} {
		if l[i].Tag != tag {
			return false
		}
	}
	var ok [4]bool
	r.DN = string(l[0].Body)
	r.Scope, ok[0] = number(l[1], api.ScopeSub)
	_, ok[1] = number(l[2], maxAliases)
	r.Limit, ok[2] = number(l[3], maxNum)
	_, ok[3] = number(l[4], maxNum)
	if _, e := ber.FromBool(l[5].Body); e != api.OK || ok != [4]bool{true, true, true, true} {
		return false
	}
	var is, are bool
	r.Filter, is = filterOf(l[6], 1)
	r.Want, are = textsOf(l[7].Body)
	return is && are
}

func takeModify(r *api.Request, b []byte) bool {
	l, ok := fields(b, tagText, tagSeq)
	if !ok {
		return false
	}
	r.DN = string(l[0].Body)
	mods, e := ber.All(l[1].Body)
	if e != api.OK {
		return false
	}
	for _, it := range mods {
		parts, ok := fields(it.Body, tagEnum, tagSeq)
		if !ok || it.Tag != tagSeq {
			return false
		}
		kind, ok := number(parts[0], api.ModReplace)
		a, too := attrOf(parts[1])
		if !ok || !too {
			return false
		}
		r.Mods = append(r.Mods, api.Mod{Kind: kind, Type: a.Type, Vals: a.Vals})
	}
	return true
}

func takeRename(r *api.Request, b []byte) bool {
	l, ok := fields(b, tagText, tagText, tagBool)
	if !ok {
		if l, ok = fields(b, tagText, tagText, tagBool, tagUp); !ok {
			return false
		}
		r.Above, r.Up = true, string(l[3].Body)
	}
	r.DN, r.Rdn = string(l[0].Body), string(l[1].Body)
	gone, e := ber.FromBool(l[2].Body)
	r.Keep = !gone
	return e == api.OK
}

func takeCompare(r *api.Request, b []byte) bool {
	l, ok := fields(b, tagText, tagSeq)
	if !ok {
		return false
	}
	r.DN = string(l[0].Body)
	parts, ok := fields(l[1].Body, tagText, tagText)
	if !ok {
		return false
	}
	r.Ava = api.Ava{Type: string(parts[0].Body), Val: string(parts[1].Body)}
	return true
}

// textsOf is texts under one tag.
func textsOf(b []byte) ([]string, bool) {
	l, e := ber.All(b)
	if e != api.OK {
		return nil, false
	}
	var out []string
	for _, it := range l {
		if it.Tag != tagText {
			return nil, false
		}
		out = append(out, string(it.Body))
	}
	return out, true
}

// attrOf is a type and its values.
func attrOf(it ber.Item) (api.Attr, bool) {
	l, ok := fields(it.Body, tagText, tagSet)
	if !ok || it.Tag != tagSeq {
		return api.Attr{}, false
	}
	vals, ok := textsOf(l[1].Body)
	return api.Attr{Type: string(l[0].Body), Vals: vals}, ok
}

func attrsOf(b []byte) ([]api.Attr, bool) {
	l, e := ber.All(b)
	if e != api.OK {
		return nil, false
	}
	var out []api.Attr
	for _, it := range l {
		a, ok := attrOf(it)
		if !ok {
			return nil, false
		}
		out = append(out, a)
	}
	return out, true
}
