package msg

import (
	"nomenclator/api"
	"nomenclator/label"
)

// mostTold: by so many places, one behind the other, a name may be told.
const mostTold = 16

// A reader goes on through a message's bytes. Once it is wrong it stays so, and what it reads then is of no use: so only who hands the message out need ask.
type reader struct {
	b     []byte
	at    int
	wrong bool
}

// Decode: the message of bytes; ErrMsg: there is none.
func Decode(b []byte) (api.Message, api.Errno) {
	r := &reader{b: b}
	var h header
	for i := range h {
		h[i] = int(r.number(2))
	}
	id, bits, questions, answers, authorities := h[0], h[1], h[2], h[3], h[4]
	if r.wrong || bits&bitsOpcode != 0 || questions != 1 || max(answers, authorities) > api.MaxRecords {
		return api.Message{}, api.ErrMsg
	}
	m := api.Message{
		ID:        id,
		Reply:     bits&bitReply != 0,
		Truncated: bits&bitTruncated != 0,
		Recurse:   bits&bitRecurse != 0,
		Code:      bits & bitsCode,
		Question:  r.question(),
	}
	l := r.records(answers + authorities)
	// By the third index: what is appended to the answers shall not stand in the authorities.
	m.Answer, m.Authority = l[:answers:answers], l[answers:]
	if r.wrong || !All(m) {
		return api.Message{}, api.ErrMsg
	}
	return m, api.OK
}

// take: the next n bytes.
func (r *reader) take(n int) []byte {
	if r.wrong || n > len(r.b)-r.at {
		r.wrong = true
		return nil
	}
	start := r.at
	r.at += n
	return r.b[start:r.at]
}

// number: that of the next bytes, four at most.
func (r *reader) number(size int) uint32 {
	n := uint32(0)
	for _, c := range r.take(size) {
		n = n<<8 | uint32(c)
	}
	return n
}

// name: the name that stands next, in small letters; it goes on behind it, wherever that may be told.
func (r *reader) name() string {
	var l []string
	signs, told, behind := 0, 0, 0
	for !r.wrong {
		at := r.at
		n := int(r.number(1))
		switch {
		case n == 0:
			if told > 0 {
				r.at = behind
			}
			return label.Join(l...)
		case n <= api.MaxLabel:
			x := label.Lower(string(r.take(n)))
			l = append(l, x)
			signs += n + 1
			// A label with a point within would be two in the name's text. And what is too long already need not be read on.
			r.wrong = r.wrong || !label.Right(x) || signs > api.MaxName+1
		case n >= toldBy>>8:
			place := (n<<8 | int(r.number(1))) - toldBy
			if told == 0 {
				behind = r.at
			}
			told++
			r.wrong = r.wrong || told > mostTold || place >= at
			r.at = place
		default:
			r.wrong = true
		}
	}
	return ""
}

// question: what a question has; a record begins likewise.
func (r *reader) question() api.Question {
	q := api.Question{Name: r.name()}
	q.Type = int(r.number(2))
	if r.number(2) != internet {
		r.wrong = true
	}
	return q
}

// records: the next n records.
func (r *reader) records(n int) []api.Record {
	var l []api.Record
	for range n {
		l = append(l, r.record())
	}
	return l
}

// record: the next record.
func (r *reader) record() api.Record {
	q := r.question()
	x := api.Record{Name: q.Name, Type: q.Type}
	x.TTL = int(min(r.number(4), api.MaxTTL))
	size := int(r.number(2))
	switch x.Type {
	case api.NS, api.CNAME, api.PTR:
		end := r.at + size
		x.Text = r.name()
		r.wrong = r.wrong || r.at != end
		return x
	}
	return withData(x, r.take(size))
}

// withData: a record with its address, or else with the raw bytes, as which no address may be (so All refuses it; but none at all leave an AAAA all zero, which may be).
func withData(x api.Record, d []byte) api.Record {
	switch {
	case x.Type == api.A && len(d) == 4:
		x.Addr = v4(d)
	case x.Type == api.AAAA && len(d) == len(x.Addr):
		copy(x.Addr[:], d)
	default:
		x.Data = string(d)
	}
	return x
}
