package labels

import "pointcode/api"

// The greatest values of a message's fields.
const (
	lastService  = 15
	lastNetwork  = 3
	lastPriority = 3
	lastSelect   = 15
)

// The first bits of the fields in the first octet of a message, and in the number of its label.
const (
	firstOfPriority = 4
	firstOfNetwork  = 6
	firstOfFrom     = 14
	firstOfSelect   = 28
)

// The octets of a label's number, and those in front of the data.
const (
	labelOctets = 4
	head        = 1 + labelOctets
)

// Check returns the error of a message.
func Check(m api.Message) api.Errno {
	if m.Service > lastService || m.Network > lastNetwork || m.Priority > lastPriority || !isLabel(m.Label) {
		return api.ErrArg
	}
	if len(m.Data) > api.MaxData {
		return api.ErrLimit
	}
	return api.OK
}

// isLabel reports whether the fields of a label are valid.
func isLabel(l api.Label) bool {
	return l.To <= api.MaxPoint && l.From <= api.MaxPoint && l.Select <= lastSelect
}

// Encode returns the octets of a message.
func Encode(m api.Message) ([]byte, api.Errno) {
	if e := Check(m); e != api.OK {
		return nil, e
	}
	out := make([]byte, head+len(m.Data))
	out[0] = m.Service | m.Priority<<firstOfPriority | m.Network<<firstOfNetwork
	n := numberOf(m.Label)
	for i := range labelOctets {
		out[1+i] = byte(n >> (8 * i))
	}
	copy(out[head:], m.Data)
	return out, api.OK
}

// numberOf returns the number of a valid label.
func numberOf(l api.Label) uint32 {
	return uint32(l.To) | uint32(l.From)<<firstOfFrom | uint32(l.Select)<<firstOfSelect
}

// Decode returns the message of octets.
func Decode(b []byte) (api.Message, api.Errno) {
	if len(b) < head {
		return api.Message{}, api.ErrForm
	}
	if len(b) > head+api.MaxData {
		return api.Message{}, api.ErrLimit
	}
	var n uint32
	for i := range labelOctets {
		n |= uint32(b[1+i]) << (8 * i)
	}
	m := api.Message{
		Service:  b[0] & lastService,
		Network:  b[0] >> firstOfNetwork,
		Priority: b[0] >> firstOfPriority & lastPriority,
		Label:    labelOf(n),
		Data:     b[head:],
	}
	return Copy(m), api.OK
}

// labelOf returns the label of a number.
func labelOf(n uint32) api.Label {
	return api.Label{
		To:     api.Point(n & api.MaxPoint),
		From:   api.Point(n >> firstOfFrom & api.MaxPoint),
		Select: uint8(n >> firstOfSelect),
	}
}
