package msg

import (
	"bytes"

	"burgess/api"
	"burgess/ber"
)

const (
	maxCode = 127
	notice  = "1.3.6.1.4.1.1466.20036" // the name of what says that a connection ends
)

// isRes tells whether a response may be.
func isRes(r api.Response) bool {
	if !isNum(r.Num) || r.Code < 0 || r.Code > maxCode {
		return false
	}
	switch r.Kind {
	case api.ResEntry:
		return r.Code == 0
	case api.OpBind + 1, api.ResDone, api.OpModify + 1, api.OpAdd + 1, api.OpDelete + 1, api.OpRename + 1, api.OpCompare + 1, api.ResNotice:
		return r.DN == "" && len(r.Attrs) == 0
	}
	return false
}

// EncodeRes is a response as bytes.
func EncodeRes(r api.Response) ([]byte, api.Errno) {
	if !isRes(r) {
		return nil, api.ErrArg
	}
	b := ber.Tag(tagSeq, num(tagInt, r.Num), ber.Tag(ofOp|withIn|byte(r.Kind), resBody(r)))
	if len(b) > api.MaxMsg {
		return nil, api.ErrLong
	}
	return b, api.OK
}

func resBody(r api.Response) []byte {
	if r.Kind == api.ResEntry {
		return join(text(tagText, r.DN), attrs(r.Attrs))
	}
	b := join(num(tagEnum, int(r.Code)), text(tagText, ""), text(tagText, ""))
	if r.Kind == api.ResNotice {
		b = append(b, text(tagName, notice)...)
	}
	return b
}

// DecodeRes is the way back.
func DecodeRes(b []byte) (api.Response, api.Errno) {
	_, body, _, e := ber.Next(b)
	if e != api.OK {
		return api.Response{}, e
	}
	r, ok := response(body)
	// there is one way only to lay a response: what is laid otherwise is none
	if back, e := EncodeRes(r); !ok || e != api.OK || !bytes.Equal(back, b) {
		return api.Response{}, api.ErrForm
	}
	return r, api.OK
}

// response reads what a response has, as far as it needs to be told what its bytes would be.
func response(b []byte) (api.Response, bool) {
	l, e := ber.All(b)
	if e != api.OK || len(l) != 2 {
		return api.Response{}, false
	}
	n, ok := number(l[0], maxNum)
	if !ok {
		return api.Response{}, false
	}
	r := api.Response{Num: n, Kind: int(l[1].Tag & numbers)}
	parts, e := ber.All(l[1].Body)
	if e != api.OK || len(parts) < 2 {
		return api.Response{}, false
	}
	if r.Kind == api.ResEntry {
		r.DN = string(parts[0].Body)
		r.Attrs, ok = attrsOf(parts[1].Body)
		return r, ok
	}
	code, ok := number(parts[0], maxCode)
	r.Code = api.Code(code)
	return r, ok
}
