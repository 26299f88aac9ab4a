package pdu

import (
	"longeron/api"
	"longeron/num"
)

// The fields, in the order in which they stand in the bytes of every kind that has them: the kinds' orders don't gainsay each other.
const (
	session = iota
	part
	size
	have
	what
	no
	code
	data // behind the numbers, as it is none
	fields
)

// shape tells how many bytes each field has in a message of that kind (those that it hasn't, none), and whether there is such a kind.
func shape(kind int) (widths [fields]int, known bool) {
	switch kind {
	case api.PStatus:
		widths[have] = 2
		fallthrough
	case api.POpen:
		widths[session], widths[part], widths[size] = 2, 1, 2
	case api.PBlock:
		widths[session], widths[no], widths[data] = 2, 1, api.Block
	case api.PNack:
		widths[code] = 1
		fallthrough
	case api.PAck:
		widths[session], widths[what], widths[no] = 2, 1, 1
	case api.PDone:
		fallthrough
	case api.PAbort:
		fallthrough
	case api.PAsk:
		widths[session] = 2
	default:
		return widths, false
	}
	return widths, true
}

// numbersOf answers p's fields but Data, which can't be held against another one by ==.
func numbersOf(p api.Pdu) [data]int {
	return [...]int{
		session: p.Session, part: p.Part, size: p.Size, have: p.Have,
		what: p.What, no: p.No, code: p.Code,
	}
}

// read reads the fields of a message, and leaves to the reader how that ended.
func read(r *num.Reader, kind int, widths [fields]int) api.Pdu {
	var ns [data]int
	for f := range ns {
		if widths[f] > 0 {
			ns[f] = r.Num(widths[f])
		}
	}
	p := api.Pdu{
		Kind: kind, Session: ns[session], Part: ns[part], Size: ns[size], Have: ns[have],
		What: ns[what], No: ns[no], Code: ns[code],
	}
	if widths[data] > 0 {
		p.Data = r.Bytes(widths[data])
	}
	return p
}
