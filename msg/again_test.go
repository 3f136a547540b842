package msg_test

import (
	"math/rand"
	"regexp"
	"strings"
	"testing"

	"nomenclator/api"
	"nomenclator/msg"
)

// refEncode: a message's bytes by the chapter's words: all that stand at places are gone through for each name.
func refEncode(m api.Message) string {
	bits := m.Code
	for bit, is := range map[int]bool{0x8000: m.Reply, 0x200: m.Truncated, 0x100: m.Recurse} {
		if is {
			bits |= bit
		}
	}
	b := head(m.ID, bits, 1, len(m.Answer), len(m.Authority), 0)
	type place struct {
		at   int
		name string
	}
	var stand []place
	first := func(name string) int {
		for _, p := range stand {
			if p.name == name {
				return p.at
			}
		}
		return 1 << 14
	}
	name := func(n string) {
		l := strings.Split(n, ".")
		for i := range l {
			end := strings.Join(l[i:], ".")
			if p := first(end); p < 1<<14 {
				b += at(p)
				return
			}
			stand = append(stand, place{len(b), end})
			b += open(l[i])
		}
		b += "\x00"
	}
	name(m.Question.Name)
	b += two(m.Question.Type) + two(1)
	for _, r := range append(append([]api.Record{}, m.Answer...), m.Authority...) {
		name(r.Name)
		b += two(r.Type) + two(1) + four(r.TTL) + "\x00\x00"
		start := len(b)
		switch r.Type {
		case api.A:
			b += string(r.Addr[12:])
		case api.AAAA:
			b += string(r.Addr[:])
		case api.NS, api.CNAME, api.PTR:
			name(r.Text)
		default:
			b += r.Data
		}
		b = b[:start-2] + two(len(b)-start) + b[start:]
	}
	return b
}

var aLabel = regexp.MustCompile(`^[a-z0-9_]([a-z0-9_-]{0,61}[a-z0-9_])?$`)

// need: refDecode goes no further, where it doesn't hold.
func need(holds bool) {
	if !holds {
		panic("no message")
	}
}

// refName: the labels that stand at a place, how many bytes they take there, and by how many places they are told.
func refName(b []byte, from, deep int) (l []string, size, told int) {
	need(deep <= 300) // a name with more would be too long
	switch n := int(b[from]); {
	case n == 0:
		return nil, 1, 0
	case n < 64:
		x := strings.Map(func(r rune) rune {
			if 'A' <= r && r <= 'Z' {
				return r + 32
			}
			return r
		}, string(b[from+1:from+1+n]))
		need(aLabel.MatchString(x))
		l, size, told = refName(b, from+1+n, deep+1)
		return append([]string{x}, l...), 1 + n + size, told
	default:
		p := n*256 + int(b[from+1]) - 0xc000
		need(n >= 0xc0 && p < from)
		l, _, told = refName(b, p, deep+1)
		need(told < 16)
		return l, 2, told + 1
	}
}

// refDecode: the message of bytes by the chapter's words. What panics (a byte that isn't there) is no message.
func refDecode(b []byte) (m api.Message, ok bool) {
	defer func() {
		if recover() != nil {
			m, ok = api.Message{}, false
		}
	}()
	b = b[:len(b):len(b)] // or else bytes behind the end could be cut out
	from := 0
	number := func(size int) int {
		n := 0
		for _, c := range b[from : from+size] {
			n = n*256 + int(c)
		}
		from += size
		return n
	}
	name := func() string {
		l, size, _ := refName(b, from, 0)
		from += size
		n := strings.Join(l, ".")
		need(len(l) > 0 && len(n) <= 253)
		return n
	}
	m.ID = number(2)
	bits := number(2)
	m.Reply, m.Truncated, m.Recurse, m.Code = bits>>15 == 1, bits>>9&1 == 1, bits>>8&1 == 1, bits&15
	need(bits>>11&15 == 0 && number(2) == 1)
	n, k := number(2), number(2)
	need(n <= 32 && k <= 32)
	number(2)
	m.Question = api.Question{Name: name(), Type: number(2)}
	need(m.Question.Type > 0 && number(2) == 1)
	for i := range n + k {
		r := api.Record{Name: name(), Type: number(2)}
		need(r.Type > 0 && number(2) == 1)
		r.TTL = min(number(4), 1<<20)
		size := number(2)
		end := from + size
		switch {
		case r.Type == 2 || r.Type == 5 || r.Type == 12:
			r.Text = name()
			need(from == end)
		case r.Type == 1:
			need(size == 4)
			r.Addr = api.Addr([]byte("\x00\x00\x00\x00\x00\x00\x00\x00\x00\x00\xff\xff" + string(b[from:end])))
		case r.Type == 28:
			need(size == 16 || size == 0)
			copy(r.Addr[:], b[from:end])
		default:
			need(size < 256)
			r.Data = string(b[from:end])
		}
		from = end
		if i < n {
			m.Answer = append(m.Answer, r)
		} else {
			m.Authority = append(m.Authority, r)
		}
	}
	return m, true
}

// A drawer draws messages; what it draws hangs on its seed alone.
type drawer struct{ *rand.Rand }

func (d drawer) name() string {
	pieces := []string{"a", "b", "www", "_x", "c-d", "0", "xn--p1ai", strings.Repeat("l", 63)}
	n := pieces[d.Intn(len(pieces))]
	for range d.Intn(4) {
		if x := pieces[d.Intn(len(pieces))] + "." + n; len(x) <= 253 {
			n = x
		}
	}
	return n
}

func (d drawer) bytes(n int) string {
	b := make([]byte, n)
	d.Read(b)
	return string(b)
}

func (d drawer) record() api.Record {
	kinds := []int{api.A, api.NS, api.CNAME, api.SOA, api.PTR, api.MX, api.TXT, api.AAAA, api.SRV, 1 + d.Intn(65535)}
	r := api.Record{Name: d.name(), Type: kinds[d.Intn(len(kinds))], TTL: d.Intn(1<<20 + 1)}
	switch r.Type {
	case api.A:
		copy(r.Addr[:], "\x00\x00\x00\x00\x00\x00\x00\x00\x00\x00\xff\xff"+d.bytes(4))
	case api.AAAA:
		copy(r.Addr[:], d.bytes(16))
	case api.NS, api.CNAME, api.PTR:
		r.Text = d.name()
	default:
		r.Data = d.bytes(d.Intn(8) * d.Intn(37))
	}
	return r
}

func (d drawer) records(most int) []api.Record {
	var l []api.Record
	for range d.Intn(most + 1) {
		l = append(l, d.record())
	}
	return l
}

func (d drawer) message(most int) api.Message {
	return api.Message{
		ID: d.Intn(1 << 16), Reply: d.Intn(2) == 0, Truncated: d.Intn(2) == 0, Recurse: d.Intn(2) == 0, Code: d.Intn(16),
		Question: api.Question{Name: d.name(), Type: 1 + d.Intn(65535)},
		Answer:   d.records(most), Authority: d.records(most),
	}
}

// turn changes some of a message's bytes.
func (d drawer) turn(b []byte) []byte {
	edges := []byte{0, 1, 2, 4, 5, 12, 16, 28, 33, 63, 64, 0xbf, 0xc0, 0xc1, 0xff, '-', '.', 'A', 'z', '_'}
	for range 1 + d.Intn(3) {
		i := d.Intn(len(b))
		switch d.Intn(8) {
		case 0:
			b = b[:i+1]
		case 1:
			b = append(b[:i], append([]byte{edges[d.Intn(len(edges))]}, b[i:]...)...)
		case 2:
			if len(b) > 1 {
				b = append(b[:i], b[i+1:]...)
			}
		case 3: // another place
			if i+1 < len(b) {
				b[i], b[i+1] = 0xc0, byte(d.Intn(i+4))
			}
		case 4:
			b[i] ^= 1 << d.Intn(8)
		case 5: // in the header
			b[min(i, d.Intn(12))] = byte(d.Intn(40))
		default:
			b[i] = edges[d.Intn(len(edges))]
		}
	}
	return b
}

// P4.2, and P4.1 of drawn messages.
func TestDrawnMessages(t *testing.T) {
	d := drawer{rand.New(rand.NewSource(4))}
	for i := range 6000 {
		most := 4
		if i%10 == 0 {
			most = 32
		}
		m := d.message(most)
		if !msg.All(m) {
			t.Fatalf("drawn %.900s may not be", told(m))
		}
		wantBytes(t, "a drawn message", m, refEncode(m))
		if t.Failed() {
			t.FailNow()
		}
	}
}

func TestDrawnBytes(t *testing.T) {
	d := drawer{rand.New(rand.NewSource(42))}
	count := map[bool]int{}
	for range 8000 {
		whole := msg.Encode(d.message(3))
		for range 12 {
			b := d.turn(append([]byte{}, whole...))
			m, e := msg.Decode(b)
			want, ok := refDecode(b)
			if (e == api.OK) != ok || !ok && e != api.ErrMsg || !same(m, want) {
				t.Fatalf("Decode of %q: %d, %s, want %v, %s", b, e, told(m), ok, told(want))
			}
			count[ok]++
			if !ok {
				continue
			}
			if !msg.All(m) {
				t.Fatalf("Decode of %q: %s may not be", b, told(m))
			}
			wantBytes(t, "of drawn bytes", m, refEncode(m))
			if t.Failed() {
				t.FailNow()
			}
		}
	}
	if count[true] < 10000 || count[false] < 10000 {
		t.Errorf("messages, and none: %v", count)
	}
}

// P0: any bytes at all.
func TestAnyBytes(t *testing.T) {
	d := drawer{rand.New(rand.NewSource(7))}
	for n := range 300 {
		for _, b := range []string{d.bytes(n), question(d.bytes(n)), asked(n%33, n%31) + d.bytes(n), question(strings.Repeat("\xc0\x0c", n)), question(strings.Repeat("\x00", n))} {
			m, e := msg.Decode([]byte(b))
			if want, ok := refDecode([]byte(b)); (e == api.OK) != ok || !same(m, want) {
				t.Fatalf("Decode of %q: %d, %s", b, e, told(m))
			}
		}
	}
	wantNone(t, "many bytes", asked(32, 32)+strings.Repeat("\x3f", 1<<22))
	wantNone(t, "many bytes", asked(32, 32)+strings.Repeat("\x01a", 1<<21))
	wantNone(t, "many bytes", asked(32, 32)+strings.Repeat("\xc0\x0c", 1<<21))
}

// Of messages whose names are told by up to 16 places Decode gives what Encode was given; of those by 17 none.
func TestTheSameAgainBySoManyPlaces(t *testing.T) {
	for n := 1; n <= 32; n++ {
		_, m := tower(n, "x")
		m.Authority = []api.Record{{Name: "z", Type: api.CNAME, Text: "z.z"}}
		b := string(msg.Encode(m))
		if b != refEncode(m) {
			t.Errorf("Encode of a tower of %d: %q", n, b)
		}
		if n <= 16 {
			wantMessage(t, "a tower", b, m)
		} else {
			wantNone(t, "a tower", b)
		}
	}
}

func TestTheSameAgainAtTheLimits(t *testing.T) {
	long, other := sized("x", 253), sized("y", 253)
	m := api.Message{ID: 65535, Reply: true, Truncated: true, Recurse: true, Code: 15, Question: api.Question{Name: long, Type: 65535}}
	for i := range 32 {
		m.Answer = append(m.Answer, api.Record{Name: other, Type: 65535 - i, TTL: 1 << 20, Data: strings.Repeat("\xc0", 255)})
		m.Authority = append(m.Authority, api.Record{Name: long, Type: api.NS, TTL: i, Text: sized("z"+string([]byte{byte('a' + i%26), byte('a' + i/26)}), 253)})
	}
	wantBytes(t, "a message at the limits", m, refEncode(m))
	if n := len(msg.Encode(m)); n <= 1<<14 {
		t.Errorf("a message at the limits has %d bytes", n)
	}
}

func FuzzDecode(f *testing.F) {
	d := drawer{rand.New(rand.NewSource(1))}
	for range 50 {
		f.Add(msg.Encode(d.message(4)))
	}
	f.Fuzz(func(t *testing.T, b []byte) {
		m, e := msg.Decode(b)
		if want, ok := refDecode(b); (e == api.OK) != ok || !same(m, want) {
			t.Fatalf("Decode of %q: %d, %s", b, e, told(m))
		}
		if e == api.OK && string(msg.Encode(m)) != refEncode(m) {
			t.Fatalf("Encode of %s", told(m))
		}
	})
}
