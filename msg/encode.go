package msg

import (
	"nomenclator/api"
	"nomenclator/label"
)

// A header's numbers: the ID, the bits, how many questions, answers, authorities, and additional records there are.
type header [6]int

// The header's bits that a message tells.
const (
	bitReply     = 1 << 15
	bitsOpcode   = 15 << 11
	bitTruncated = 1 << 9
	bitRecurse   = 1 << 8
	bitsCode     = 15
)

// internet: the only class.
const internet = 1

const (
	places = 1 << 14 // so many of the first places can be told
	toldBy = 3 << 14 // a place with these bits stands for what stands there
)

// A writer has the bytes so far, and where names stand in them, those that can be told by their places alone.
type writer struct {
	b     []byte
	stand map[string]int
}

// Encode: a message's bytes (of one that may be); none of another one.
func Encode(m api.Message) []byte {
	if !All(m) {
		return nil
	}
	w := &writer{stand: map[string]int{}}
	for _, n := range (header{m.ID, bits(m), 1, len(m.Answer), len(m.Authority), 0}) {
		w.two(n)
	}
	w.question(m.Question)
	for _, r := range m.Answer {
		w.record(r)
	}
	for _, r := range m.Authority {
		w.record(r)
	}
	return w.b
}

// bits: the header's bits of a message.
func bits(m api.Message) int {
	n := m.Code
	if m.Reply {
		n |= bitReply
	}
	if m.Truncated {
		n |= bitTruncated
	}
	if m.Recurse {
		n |= bitRecurse
	}
	return n
}

// two writes a number's lowest two bytes.
func (w *writer) two(n int) { w.b = append(w.b, byte(n>>8), byte(n)) }

// name writes a name, its end by the first place where that stands already.
func (w *writer) name(n string) {
	l := label.Split(n)
	for i, x := range l {
		end := label.Join(l[i:]...)
		if at, ok := w.stand[end]; ok {
			w.two(toldBy | at)
			return
		}
		if len(w.b) < places {
			w.stand[end] = len(w.b)
		}
		w.b = append(w.b, byte(len(x)))
		w.b = append(w.b, x...)
	}
	w.b = append(w.b, 0)
}

// question writes what a question has; a record begins likewise.
func (w *writer) question(q api.Question) {
	w.name(q.Name)
	w.two(q.Type)
	w.two(internet)
}

// record writes a record.
func (w *writer) record(r api.Record) {
	w.question(api.Question{Name: r.Name, Type: r.Type})
	w.two(r.TTL >> 16)
	w.two(r.TTL)
	// How long a name gets is known only behind it; one byte holds that: no name and no Data takes more than 255.
	w.two(0)
	start := len(w.b)
	w.data(r)
	w.b[start-1] = byte(len(w.b) - start)
}

// data writes what a record's type has.
func (w *writer) data(r api.Record) {
	from := 0
	switch r.Type {
	case api.A:
		from = start4
		fallthrough
	case api.AAAA:
		w.b = append(w.b, r.Addr[from:]...)
	case api.NS, api.CNAME, api.PTR:
		w.name(r.Text)
	default:
		w.b = append(w.b, r.Data...)
	}
}
