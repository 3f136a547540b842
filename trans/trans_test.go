package trans_test

import (
	"fmt"
	"math"
	"slices"
	"strings"
	"testing"

	"nomenclator/addr"
	"nomenclator/api"
	"nomenclator/msg"
	"nomenclator/trans"
)

// Bytes are written here by hand, as texts.

func two(n int) string { return string([]byte{byte(n >> 8), byte(n)}) }

// bytesOf: those of a message without records: its ID, the header's bits, the question.
func bytesOf(id, bits int, n string, kind int) string {
	s := two(id) + two(bits) + two(1) + two(0) + two(0) + two(0)
	for _, l := range strings.Split(n, ".") {
		s += string([]byte{byte(len(l))}) + l
	}
	return s + "\x00" + two(kind) + two(1)
}

// long: a name of 253 signs.
var long = strings.Repeat(strings.Repeat("x", 63)+".", 3) + strings.Repeat("y", 61)

// A datagram is what comes: on a link, of a generation, from somebody, to a port.
type datagram struct {
	link, gen int
	from      api.Addr
	port      int
	data      string
}

var server = addr.V4(192, 0, 2, 53)

// asked: a question on its way to a server.
func asked() trans.Trans {
	return trans.Trans{Q: api.Question{Name: "a.b", Type: api.AAAA}, Link: 2, Gen: 7, To: server, ID: 770, Port: 2000, Until: 9}
}

// reply: a reply to asked.
func reply() api.Message {
	return api.Message{ID: 770, Reply: true, Question: api.Question{Name: "a.b", Type: api.AAAA}}
}

// answer: what comes to answer asked by a message.
func answer(m api.Message) datagram {
	return datagram{link: 2, gen: 7, from: server, port: 2000, data: string(msg.Encode(m))}
}

// same: are two messages the same, no list and an empty one counting alike?
func same(a, b api.Message) bool {
	lists := slices.Equal(a.Answer, b.Answer) && slices.Equal(a.Authority, b.Authority)
	a.Answer, a.Authority, b.Answer, b.Authority = nil, nil, nil, nil
	return lists && fmt.Sprintf("%#v", a) == fmt.Sprintf("%#v", b)
}

// short: what a value is, if that isn't too long.
func short(v any) string {
	s := fmt.Sprintf("%#v", v)
	return s[:min(len(s), 500)]
}

// match: Match of a datagram's bytes, which stay as they are.
func match(t *testing.T, x trans.Trans, d datagram) (api.Message, bool) {
	t.Helper()
	b := []byte(d.data)
	m, ok := x.Match(d.link, d.gen, d.from, d.port, b)
	if string(b) != d.data {
		t.Fatalf("Match changed %q to %q", d.data, b)
	}
	return m, ok
}

func wantMatch(t *testing.T, what string, x trans.Trans, d datagram, want api.Message) {
	t.Helper()
	if m, ok := match(t, x, d); !ok || !same(m, want) {
		t.Errorf("%s: Match of %s by %s = %s, %v, not %s, true", what, short(x), short(d), short(m), ok, short(want))
	}
}

func wantNone(t *testing.T, what string, x trans.Trans, d datagram) {
	t.Helper()
	if m, ok := match(t, x, d); ok || !same(m, api.Message{}) {
		t.Errorf("%s: Match of %s by %s = %s, %v, not nothing, false", what, short(x), short(d), short(m), ok)
	}
}

func TestDraw(t *testing.T) {
	for _, x := range []struct{ n, id, port int }{
		{5, 5, 1024}, // the chapter's example
		{0, 0, 1024},
		{1, 1, 1024},
		{0x12345, 0x2345, 1025},
		{0xfffe, 65534, 1024},
		{0xffff, 65535, 1024},
		{0x10000, 0, 1025},
		{0x10001, 1, 1025},
		{0x2ffff, 65535, 1026},
		{64510 << 16, 0, 65534},
		{64511 << 16, 0, 65535},
		{64511<<16 + 0xffff, 65535, 65535},
		{64512 << 16, 0, 1024},
		{64513<<16 + 7, 7, 1025},
		{65535 << 16, 0, 2047},
		{1<<32 - 1, 65535, 2047},
		{1 << 32, 0, 2048},
		{1<<32 + 5, 5, 2048},
		{129023 << 16, 0, 65535},
		{129024 << 16, 0, 1024},
		{1<<31 - 1, 65535, 33791},
		{1 << 31, 0, 33792},
		{math.MaxInt, 65535, 3071},
		// of one below 0 the higher bits are 2^47 or more
		{-1, 65535, 5119},
		{-2, 65534, 5119},
		{-1 << 16, 0, 5119},
		{-1<<16 - 1, 65535, 5118},
		{-2 << 16, 0, 5118},
		{-4096 << 16, 0, 1024},
		{-4097 << 16, 0, 65535},
		{-1 << 31, 0, 36864},
		{-1 << 32, 0, 4096},
		{math.MinInt, 0, 3072},
		{math.MinInt + 1, 1, 3072},
	} {
		if id, port := trans.Draw(x.n); id != x.id || port != x.port {
			t.Errorf("Draw(%d) = %d, %d, not %d, %d", x.n, id, port, x.id, x.port)
		}
	}
}

// Each number and each port from 1024 on comes of some draw, and no other one.
func TestDrawReachesAll(t *testing.T) {
	ids, ports := map[int]bool{}, map[int]bool{}
	for i := range 1 << 16 {
		for _, n := range []int{i * 65537, -i * 65537} {
			id, port := trans.Draw(n)
			if id < 0 || id > 65535 || port < 1024 || port > 65535 {
				t.Fatalf("Draw(%d) = %d, %d", n, id, port)
			}
			ids[id], ports[port] = true, true
		}
	}
	if len(ids) != 65536 || len(ports) != 64512 {
		t.Errorf("%d numbers, %d ports", len(ids), len(ports))
	}
}

func wantSend(t *testing.T, what string, x trans.Trans, bits int) {
	t.Helper()
	given := x
	want := api.Send{Link: x.Link, To: x.To, Port: x.Port, Stream: x.Stream}
	data := bytesOf(x.ID, bits, x.Q.Name, x.Q.Type)
	got := x.Send()
	if string(got.Data) != data {
		t.Errorf("%s: Send of %s: bytes %q, not %q", what, short(x), got.Data, data)
	}
	if got.Link != want.Link || got.To != want.To || got.Port != want.Port || got.Stream != want.Stream {
		t.Errorf("%s: Send of %s = %s, not %s", what, short(x), short(got), short(want))
	}
	if x != given {
		t.Errorf("%s: Send changed %s to %s", what, short(given), short(x))
	}
}

func TestSend(t *testing.T) {
	for _, stream := range []bool{false, true} {
		x := asked()
		x.Stream = stream
		wantSend(t, "to a server", x, 0x0100)
		x.Group = true
		wantSend(t, "to neighbours", x, 0)
	}
}

// Each field by itself, all of them being other ones.
func TestSendFields(t *testing.T) {
	for _, id := range []int{0, 1, 255, 256, 0x1234, 65534, 65535} {
		x := asked()
		x.ID = id
		wantSend(t, "an ID", x, 0x0100)
	}
	for _, n := range []string{"a", "b.a", "_x._y.b", "xn--bcher-kva.de", strings.Repeat("x", 63), long} {
		for _, kind := range []int{1, 2, 5, 6, 12, 15, 16, 28, 33, 255, 256, 65535} {
			x := asked()
			x.Q = api.Question{Name: n, Type: kind}
			wantSend(t, "a question", x, 0x0100)
		}
	}
	for _, n := range []int{0, 1, 3, 4, -1, 1 << 32, math.MaxInt, math.MinInt} {
		x := asked()
		x.Link, x.Gen, x.Port, x.Until = n, n+1, n+2, n+3
		wantSend(t, "any numbers", x, 0x0100)
	}
	for i := range 16 {
		x := asked()
		x.To = api.Addr{}
		x.To[i] = 255
		wantSend(t, "to an address", x, 0x0100)
	}
	wantSend(t, "all else zero", trans.Trans{Q: api.Question{Name: "a", Type: 1}}, 0x0100)
}

// Of what may be no message there are no bytes that are one (4 says none); all else is as always.
func TestSendOfWhatMayNotBe(t *testing.T) {
	for _, x := range []trans.Trans{
		{},
		{ID: -1, Q: api.Question{Name: "a", Type: 1}, Link: 3, To: server, Port: 9},
		{ID: 65536, Q: api.Question{Name: "a", Type: 1}, Stream: true},
		{Q: api.Question{Name: "a", Type: 0}, Group: true},
		{Q: api.Question{Name: "a", Type: 65536}},
		{Q: api.Question{Name: "a", Type: math.MinInt}},
		{Q: api.Question{Name: "A", Type: 1}},
		{Q: api.Question{Name: "a.", Type: 1}},
		{Q: api.Question{Name: "\xff", Type: 1}},
		{Q: api.Question{Name: long + "y", Type: 1}},
		{Q: api.Question{Name: strings.Repeat("a.", 1<<20), Type: 1}},
	} {
		s := x.Send()
		if _, e := msg.Decode(s.Data); e != api.ErrMsg {
			t.Errorf("Send of %s: the message %q", short(x), s.Data)
		}
		if s.Link != x.Link || s.To != x.To || s.Port != x.Port || s.Stream != x.Stream {
			t.Errorf("Send of %s = %s", short(x), short(s))
		}
	}
}

func TestSendAnswersNewBytes(t *testing.T) {
	x := asked()
	first := x.Send().Data
	clear(first)
	_ = append(first[:1], "xyz"...)
	wantSend(t, "behind a change of its last answer", x, 0x0100)
}

// rich: a reply to asked with all that a reply may have beside.
func rich() api.Message {
	m := reply()
	m.Truncated, m.Recurse, m.Code = true, true, 3
	m.Answer = []api.Record{{Name: "a.b", Type: api.CNAME, TTL: 3, Text: "c"}, {Name: "c", Type: api.AAAA, TTL: 1 << 20, Addr: api.Addr{0: 32, 15: 1}}}
	m.Authority = []api.Record{{Name: "b", Type: api.SOA, TTL: 8, Data: "so"}}
	return m
}

func TestMatch(t *testing.T) {
	wantMatch(t, "a reply", asked(), answer(reply()), reply())
	wantMatch(t, "with records", asked(), answer(rich()), rich())
	x, d := asked(), answer(reply())
	d.data = bytesOf(770, 0x8000, "a.b", 28)
	wantMatch(t, "of bytes by hand", x, d, reply())
	d.data = bytesOf(770, 0x8000, "A.b", 28)
	wantMatch(t, "capitals are small ones in a message", x, d, reply())
	d.data = bytesOf(770, 0x8000, "a.b", 28) + "\xff\x00"
	wantMatch(t, "what stands behind a message", x, d, reply())
}

// What a reply has beside its ID and question is all the same.
func TestMatchOfAnyReply(t *testing.T) {
	for code := range 16 {
		for bits := range 4 {
			m := rich()
			m.Code, m.Truncated, m.Recurse = code, bits&1 == 1, bits&2 == 2
			wantMatch(t, "code and bits", asked(), answer(m), m)
		}
	}
	m := reply()
	for range api.MaxRecords {
		m.Answer = append(m.Answer, api.Record{Name: "z", Type: api.TXT, Data: strings.Repeat("-", 255)})
		m.Authority = append(m.Authority, api.Record{Name: "y", Type: api.NS, Text: long})
		wantMatch(t, "records", asked(), answer(m), m)
	}
}

// Neither a stream nor how long it waits is of weight.
func TestMatchByStreamAndTime(t *testing.T) {
	for _, until := range []int{0, 1, -1, math.MaxInt, math.MinInt} {
		for _, stream := range []bool{false, true} {
			x := asked()
			x.Stream, x.Until = stream, until
			wantMatch(t, "stream, time", x, answer(rich()), rich())
		}
	}
}

// near: numbers other than n.
func near(n int) []int {
	return []int{n + 1, n - 1, -n, n + 256, n + 1<<16, n - 1<<16, n + 1<<32, n - 1<<32, n ^ math.MinInt, ^n, n << 8, math.MaxInt}
}

func TestMatchOnItsLink(t *testing.T) {
	for _, group := range []bool{false, true} {
		x := asked()
		x.Group = group
		d := answer(rich())
		for _, n := range append(near(2), 0, 3) {
			d.link = n
			wantNone(t, "another link", x, d)
		}
		d = answer(rich())
		for _, n := range append(near(7), 0) {
			d.gen = n
			wantNone(t, "another generation", x, d)
		}
		d = answer(rich())
		for _, n := range append(near(2000), 0, 53, 5355) {
			d.port = n
			wantNone(t, "another port", x, d)
		}
		d = answer(rich())
		d.link, d.gen = 7, 2
		wantNone(t, "link and generation changed about", x, d)
		d = answer(rich())
		d.gen, d.port = 2000, 7
		wantNone(t, "generation and port changed about", x, d)
	}
}

// Numbers that no link, generation or port has are just held against each other.
func TestMatchOfAnyNumbers(t *testing.T) {
	for _, n := range []int{0, -1, 4, 65536, 1 << 32, math.MaxInt, math.MinInt} {
		x, d := asked(), answer(rich())
		x.Link, d.link = n, n
		wantMatch(t, "a link", x, d, rich())
		x, d = asked(), answer(rich())
		x.Gen, d.gen = n, n
		wantMatch(t, "a generation", x, d, rich())
		x, d = asked(), answer(rich())
		x.Port, d.port = n, n
		wantMatch(t, "a port", x, d, rich())
	}
}

// others: addresses beside one: each byte turned, and those that look like it.
func others(a api.Addr) []api.Addr {
	l := []api.Addr{{}, addr.V4(224, 0, 0, 252)}
	copy(l[0][12:], a[12:]) // IPv4's bytes without what makes them such an address
	for i := range a {
		for _, turn := range []byte{1, 128, 255} {
			b := a
			b[i] ^= turn
			l = append(l, b)
		}
	}
	return l
}

func TestMatchFromItsServer(t *testing.T) {
	for _, to := range []api.Addr{server, {}, {0: 32, 15: 1}, addr.V4(224, 0, 0, 252)} {
		x, d := asked(), answer(rich())
		x.To, d.from = to, to
		wantMatch(t, "from the server", x, d, rich())
		for _, from := range others(to) {
			if from == to {
				continue
			}
			for _, stream := range []bool{false, true} {
				x.Stream, x.Group, d.from = stream, false, from
				wantNone(t, "from another one", x, d)
				x.Group = true
				wantMatch(t, "from any neighbour", x, d, rich())
			}
		}
	}
}

func TestMatchOfNoReply(t *testing.T) {
	for _, group := range []bool{false, true} {
		x := asked()
		x.Group = group
		m := rich()
		m.Reply = false
		wantNone(t, "no reply", x, answer(m))
		d := answer(m)
		d.data = string(x.Send().Data)
		wantNone(t, "the question itself", x, d)
		d.data = bytesOf(770, 0x7fff&^0x7800, "a.b", 28)
		wantNone(t, "all bits but that of a reply", x, d)
	}
}

func TestMatchByItsID(t *testing.T) {
	for _, id := range []int{0, 1, 255, 256, 770, 65535} {
		x := asked()
		x.ID = id
		for _, n := range []int{0, 1, 2, 254, 255, 256, 257, 515, 769, 770, 771, 32768 ^ id, 255 - id&255, 65280, 65534, 65535} {
			m := rich()
			m.ID = n
			if n == id {
				wantMatch(t, "its ID", x, answer(m), m)
			} else {
				wantNone(t, "another ID", x, answer(m))
			}
		}
	}
}

func TestMatchByItsQuestion(t *testing.T) {
	names := []string{"a", "b", "a.b", "b.a", "a.b.c", "c.a.b", "ab", "a-b", "_a.b", "a.b_", "a.xn--b", long, long[:252], "z" + long[1:]}
	kinds := []int{1, 2, 5, 6, 12, 15, 16, 27, 28, 29, 33, 255, 256, 28 + 256, 28 << 8, 65535}
	for _, n := range names {
		for _, kind := range kinds {
			x := asked()
			x.Q = api.Question{Name: n, Type: kind}
			for _, other := range names {
				for _, k := range kinds {
					m := rich()
					m.Question = api.Question{Name: other, Type: k}
					if m.Question == x.Q {
						wantMatch(t, "its question", x, answer(m), m)
					} else {
						wantNone(t, "another question", x, answer(m))
					}
				}
			}
		}
	}
}

// The question of a record's name, or one that a place behind tells, is none of its own.
func TestMatchByItsQuestionAlone(t *testing.T) {
	m := rich()
	m.Question.Name = "c"
	m.Answer = []api.Record{{Name: "a.b", Type: api.AAAA, TTL: 9}}
	wantNone(t, "the records are for its name", asked(), answer(m))
	m = rich()
	m.Answer = []api.Record{{Name: "x", Type: api.AAAA, TTL: 9}}
	wantMatch(t, "the records are for another name", asked(), answer(m), m)
}

// Bytes that are no message, by all kinds of questions.
func TestMatchOfNoMessage(t *testing.T) {
	whole := string(msg.Encode(rich()))
	bad := []string{"", "\x00", strings.Repeat("\x00", 12), strings.Repeat("\xff", 600), strings.Repeat("\xc0\x0c", 3000)}
	for n := range len(whole) {
		bad = append(bad, whole[:n])
	}
	question := bytesOf(770, 0x8000, "a.b", 28)
	bad = append(bad,
		question[:2]+"\x88\x00"+question[4:],                         // an opcode
		question[:4]+two(0)+question[6:],                             // no question
		question[:4]+two(2)+question[6:]+"\x01a\x00\x00\x01\x00\x01", // two
		question[:6]+two(33)+question[8:],
		question[:len(question)-1]+"\x03",
		bytesOf(770, 0x8000, "a.-b", 28),
		bytesOf(770, 0x8000, "a.b", 0),
	)
	for _, data := range bad {
		for _, group := range []bool{false, true} {
			x, d := asked(), answer(reply())
			x.Group, d.data = group, data
			wantNone(t, "no message", x, d)
			wantNone(t, "no message, nothing asked", trans.Trans{Group: group}, datagram{data: data})
		}
	}
	if _, ok := (trans.Trans{}).Match(0, 0, api.Addr{}, 0, nil); ok {
		t.Error("nil is an answer to nothing")
	}
}

// A question that no message may have is answered by none.
func TestMatchOfWhatMayNotBe(t *testing.T) {
	for _, x := range []struct {
		id   int
		name string
		kind int
	}{
		{770 + 1<<16, "a.b", 28}, {770 - 1<<16, "a.b", 28}, {770 + 1<<32, "a.b", 28}, {-770, "a.b", 28},
		{770, "a.b", 28 + 1<<16}, {770, "a.b", 28 - 1<<16}, {770, "a.b", 0}, {770, "a.b", -28},
		{770, "A.b", 28}, {770, "a.B", 28}, {770, "a.b.", 28}, {770, ".a.b", 28}, {770, "", 28}, {770, ".", 28}, {770, "a\x00b", 28},
	} {
		y := asked()
		y.ID, y.Q = x.id, api.Question{Name: x.name, Type: x.kind}
		wantNone(t, "what may not be", y, answer(rich()))
		d := answer(rich())
		d.data = bytesOf(x.id, 0x8000, x.name, x.kind)
		wantNone(t, "what may not be, by its own bytes", y, d)
	}
}

// What is answered has no memory of the bytes, nor of another answer.
func TestMatchAnswersNewMemory(t *testing.T) {
	x, b := asked(), msg.Encode(rich())
	first, _ := x.Match(2, 7, server, 2000, b)
	second, _ := x.Match(2, 7, server, 2000, b)
	clear(b)
	first.Answer[0].Name = "1"
	_ = append(first.Answer[:1], api.Record{}, api.Record{}, api.Record{})
	first.Authority[0].Name = "2"
	if !same(second, rich()) {
		t.Errorf("%s, not %s", short(second), short(rich()))
	}
}

// By a draw's number and port, and by a question's own bytes turned into a reply.
func TestThereAndBack(t *testing.T) {
	for _, n := range []int{0, 5, -1, 65537, 1 << 40, math.MinInt} {
		for _, group := range []bool{false, true} {
			x := asked()
			x.Group = group
			x.ID, x.Port = trans.Draw(n)
			s := x.Send()
			m, e := msg.Decode(s.Data)
			if e != api.OK || m.Recurse == group {
				t.Fatalf("Send of %s: %s, %d", short(x), short(m), e)
			}
			wantNone(t, "not turned", x, datagram{s.Link, x.Gen, s.To, s.Port, string(s.Data)})
			m.Reply = true
			wantMatch(t, "turned", x, datagram{s.Link, x.Gen, s.To, s.Port, string(msg.Encode(m))}, m)
			next := x
			next.ID, next.Port = trans.Draw(n + 65537)
			wantNone(t, "the next draw's", next, datagram{s.Link, x.Gen, s.To, s.Port, string(msg.Encode(m))})
		}
	}
}
