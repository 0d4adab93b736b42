package msg

import (
	"burgess/api"
	"burgess/ber"
)

// Numbers of filters, and of the pieces of one.
const (
	numAnd     = 0
	numOr      = 1
	numNot     = 2
	numEqual   = 3
	numSub     = 4
	numGreater = 5
	numLess    = 6
	numPresent = 7
	numApprox  = 8 // counts as equal
	tagFirst   = ofPart | 0
	tagBetween = ofPart | 1
	tagLast    = ofPart | 2
)

// filterBytes is a filter that may be as bytes: its number is its Kind.
func filterBytes(f api.Filter) []byte {
	tag := ofPart | withIn | byte(f.Kind)
	typ := text(tagText, f.Type)
	switch f.Kind {
	case api.FilterPresent:
		return text(tag&^withIn, f.Type)
	case api.FilterSub:
		return ber.Tag(tag, typ, ber.Tag(tagSeq, pieces(f.Subs)...))
	case api.FilterEqual, api.FilterGreater, api.FilterLess:
		return ber.Tag(tag, typ, text(tagText, f.Val))
	}
	var kids [][]byte
	for _, kid := range f.Kids {
		kids = append(kids, filterBytes(kid))
	}
	return ber.Tag(tag, kids...)
}

// pieces is what a value is to have, each with its tag; empty ends do not stand there.
func pieces(subs []string) [][]byte {
	var parts [][]byte
	end := len(subs) - 1
	for i, s := range subs {
		switch {
		case i > 0 && i < end:
			parts = append(parts, text(tagBetween, s))
		case s == "":
		case i == 0:
			parts = append(parts, text(tagFirst, s))
		default:
			parts = append(parts, text(tagLast, s))
		}
	}
	return parts
}

// filterOf is the way back, of a filter that stands so deep.
func filterOf(it ber.Item, deep int) (api.Filter, bool) {
	if deep > api.MaxDeep || it.Tag&classes != ofPart {
		return api.Filter{}, false
	}
	kind := int(it.Tag & numbers)
	if kind == numPresent {
		return api.Filter{Kind: api.FilterPresent, Type: string(it.Body)}, it.Tag&withIn == 0
	}
	if it.Tag&withIn == 0 {
		return api.Filter{}, false
	}
	switch kind {
	case numAnd, numOr, numNot:
		return kidsOf(kind, it.Body, deep)
	case numEqual, numGreater, numLess, numApprox:
		l, ok := fields(it.Body, tagText, tagText)
		if !ok {
			return api.Filter{}, false
		}
		if kind == numApprox {
			kind = api.FilterEqual
		}
		return api.Filter{Kind: kind, Type: string(l[0].Body), Val: string(l[1].Body)}, true
	case numSub:
		return subOf(it.Body)
	}
	return api.Filter{}, false
}

func kidsOf(kind int, b []byte, deep int) (api.Filter, bool) {
	l, e := ber.All(b)
	if e != api.OK {
		return api.Filter{}, false
	}
	f := api.Filter{Kind: kind}
	for _, it := range l {
		kid, ok := filterOf(it, deep+1)
		if !ok {
			return api.Filter{}, false
		}
		f.Kids = append(f.Kids, kid)
	}
	return f, true
}

func subOf(b []byte) (api.Filter, bool) {
	l, ok := fields(b, tagText, tagSeq)
	if !ok {
		return api.Filter{}, false
	}
	subs, ok := subsOf(l[1].Body)
	return api.Filter{Kind: api.FilterSub, Type: string(l[0].Body), Subs: subs}, ok
}

// subsOf is pieces, with both ends, even where they are empty.
func subsOf(b []byte) ([]string, bool) {
	l, e := ber.All(b)
	if e != api.OK {
		return nil, false
	}
	subs := []string{""}
	last := ""
	ended := false
	for _, it := range l {
		s := string(it.Body)
		switch {
		case (it.Tag == tagFirst || it.Tag == tagLast) && s == "": // as if it were not there
		case ended:
			return nil, false
		case it.Tag == tagFirst && len(subs) == 1 && subs[0] == "":
			subs[0] = s
		case it.Tag == tagBetween:
			subs = append(subs, s)
		case it.Tag == tagLast:
			last, ended = s, true
		default:
			return nil, false
		}
	}
	return append(subs, last), true
}
