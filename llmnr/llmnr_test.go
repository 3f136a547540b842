package llmnr_test

import (
	"fmt"
	"slices"
	"strings"
	"testing"

	"nomenclator/addr"
	"nomenclator/api"
	"nomenclator/llmnr"
	"nomenclator/msg"
)

// Bytes are written here by hand, as texts.

func two(n int) string { return string([]byte{byte(n >> 8), byte(n)}) }

func head(id, bits, questions, answers, authorities, additional int) string {
	return two(id) + two(bits) + two(questions) + two(answers) + two(authorities) + two(additional)
}

// whole: a name, told by no place.
func whole(n string) string {
	s := ""
	for _, l := range strings.Split(n, ".") {
		s += string([]byte{byte(len(l))}) + l
	}
	return s + "\x00"
}

// question: the bytes of one.
func question(n string, kind int) string {
	return head(7, 0, 1, 0, 0, 0) + whole(n) + two(kind) + two(1)
}

// reply: the bytes of a reply to a question for own, with these addresses' bytes.
func reply(id int, own string, kind int, addrs ...string) string {
	s := head(id, 0x8000, 1, len(addrs), 0, 0) + whole(own) + two(kind) + two(1)
	for _, a := range addrs {
		s += "\xc0\x0c" + two(kind) + two(1) + "\x00\x00\x00\x1e" + two(len(a)) + a
	}
	return s
}

// long: a label as long as may be.
var long = strings.Repeat("x", 63)

var (
	four  = addr.V4(192, 0, 2, 1)
	other = addr.V4(10, 0, 0, 255)
	six   = api.Addr{0: 0x20, 1: 1, 2: 0xd, 3: 0xb8, 15: 1}
	near  = api.Addr{0: 0xfe, 1: 0x80, 15: 2}
)

// Addresses' bytes in a record.
var (
	bytesFour  = "\xc0\x00\x02\x01"
	bytesOther = "\x0a\x00\x00\xff"
	bytesSix   = "\x20\x01\x0d\xb8" + strings.Repeat("\x00", 11) + "\x01"
	bytesNear  = "\xfe\x80" + strings.Repeat("\x00", 13) + "\x02"
)

// at: local addresses.
func at(addrs ...api.Addr) []api.Local {
	var l []api.Local
	for _, a := range addrs {
		l = append(l, api.Local{Addr: a})
	}
	return l
}

// answer: Answer, that changes nothing of what is handed in.
func answer(t *testing.T, own string, l []api.Local, b string) ([]byte, bool) {
	t.Helper()
	given, locals := []byte(b), slices.Clone(l)
	got, ok := llmnr.Answer(own, locals, given)
	if string(given) != b || !slices.Equal(locals, l) {
		t.Fatalf("Answer(%q, %v, %.400q) changed what it was given", own, l, b)
	}
	return got, ok
}

func wantAnswer(t *testing.T, what, own string, l []api.Local, b, want string) {
	t.Helper()
	if got, ok := answer(t, own, l, b); !ok || string(got) != want {
		t.Errorf("%s: Answer(%q, %v, %.400q) = %q, %v, not %q, true", what, own, l, b, got, ok, want)
	}
}

func wantNone(t *testing.T, what, own string, l []api.Local, b string) {
	t.Helper()
	if got, ok := answer(t, own, l, b); ok || len(got) > 0 {
		t.Errorf("%s: Answer(%q, %v, %.400q) = %q, %v, not nothing, false", what, own, l, b, got, ok)
	}
}

func TestGroupPortTTL(t *testing.T) {
	want := api.Addr{10: 255, 11: 255, 12: 224, 15: 252}
	if g := llmnr.Group(); g != want || addr.Print(g) != "224.0.0.252" {
		t.Errorf("Group() = %v", g)
	}
	if llmnr.Port != 5355 || llmnr.TTL != 30 {
		t.Errorf("Port %d, TTL %d", llmnr.Port, llmnr.TTL)
	}
}

// The chapter's example: asked for TXT, a reply without records.
func TestExample(t *testing.T) {
	wantAnswer(t, "the example", "me", at(four, six), question("me", api.TXT), reply(7, "me", api.TXT))
}

func TestAnswer(t *testing.T) {
	all := at(four, six, other, near)
	for _, x := range []struct {
		what  string
		l     []api.Local
		kind  int
		addrs []string
	}{
		{"one", at(four), api.A, []string{bytesFour}},
		{"one", at(six), api.AAAA, []string{bytesSix}},
		{"none at all", nil, api.A, nil},
		{"none at all", nil, api.AAAA, nil},
		{"an empty list", []api.Local{}, api.A, nil},
		{"none of IPv4", at(six, near), api.A, nil},
		{"none of IPv6", at(four, other), api.AAAA, nil},
		{"some of both", all, api.A, []string{bytesFour, bytesOther}},
		{"some of both", all, api.AAAA, []string{bytesSix, bytesNear}},
		{"in order", at(near, other, six, four), api.A, []string{bytesOther, bytesFour}},
		{"in order", at(near, other, six, four), api.AAAA, []string{bytesNear, bytesSix}},
		{"each, though the same", at(four, other, four), api.A, []string{bytesFour, bytesOther, bytesFour}},
		{"each, though the same", at(six, six), api.AAAA, []string{bytesSix, bytesSix}},
	} {
		wantAnswer(t, x.what, "me", x.l, question("me", x.kind), reply(7, "me", x.kind, x.addrs...))
	}
}

// What a local address is beside is of no weight.
func TestAnswerOfAllLocals(t *testing.T) {
	l := []api.Local{{Addr: four, Deprecated: true}, {Addr: other, Home: true}, {Addr: six, Deprecated: true, Home: true}, {Addr: near}}
	wantAnswer(t, "of IPv4", "me", l, question("me", api.A), reply(7, "me", api.A, bytesFour, bytesOther))
	wantAnswer(t, "of IPv6", "me", l, question("me", api.AAAA), reply(7, "me", api.AAAA, bytesSix, bytesNear))
}

// Addresses that look like IPv4, or like the group, are of the type that layer 5 says.
func TestAnswerByTheirKinds(t *testing.T) {
	l := []api.Addr{{}, {15: 1}, {12: 192, 14: 2, 15: 1}, {10: 255, 12: 1}, {11: 255, 12: 1}, llmnr.Group(), addr.V4(0, 0, 0, 0), addr.V4(127, 0, 0, 1), addr.V4(255, 255, 255, 255)}
	for i := range four {
		for _, turn := range []byte{1, 128, 255} {
			a := four
			a[i] ^= turn
			l = append(l, a)
		}
	}
	for _, a := range l {
		if strings.HasPrefix(string(a[:]), strings.Repeat("\x00", 10)+"\xff\xff") {
			wantAnswer(t, "IPv4", "me", at(a), question("me", api.A), reply(7, "me", api.A, string(a[12:])))
			wantAnswer(t, "IPv4", "me", at(a), question("me", api.AAAA), reply(7, "me", api.AAAA))
			continue
		}
		wantAnswer(t, "IPv6", "me", at(a), question("me", api.AAAA), reply(7, "me", api.AAAA, string(a[:])))
		wantAnswer(t, "IPv6", "me", at(a), question("me", api.A), reply(7, "me", api.A))
	}
}

// Of all types but A and AAAA there are no records.
func TestAnswerOfOtherTypes(t *testing.T) {
	for kind := 1; kind <= 65535; kind++ {
		if kind != api.A && kind != api.AAAA {
			wantAnswer(t, "another type", "me", at(four, six), question("me", kind), reply(7, "me", kind))
		}
	}
}

// As many as a link has, and as many as a message may have.
func TestAnswerOfMany(t *testing.T) {
	var fours, sixes []string
	var l []api.Local
	for n := range api.MaxRecords {
		fours = append(fours, "\x0a\x00\x01"+string([]byte{byte(n)}))
		sixes = append(sixes, bytesSix[:15]+string([]byte{byte(n)}))
		l = append(l, api.Local{Addr: addr.V4(10, 0, 1, byte(n))}, api.Local{Addr: api.Addr([]byte(sixes[n]))})
		if n < 2 || n == api.MaxAddrs-1 || n >= api.MaxRecords-2 {
			wantAnswer(t, "many", "me", l, question("me", api.A), reply(7, "me", api.A, fours...))
			wantAnswer(t, "many", "me", l, question("me", api.AAAA), reply(7, "me", api.AAAA, sixes...))
			wantAnswer(t, "many of others", "me", l, question("me", api.PTR), reply(7, "me", api.PTR))
		}
	}
}

// More than a message may have: it ends, and no bytes are a message.
func TestAnswerOfTooMany(t *testing.T) {
	for _, n := range []int{33, 34, 256, 1 << 16, 1 << 20} {
		b, _ := answer(t, "me", slices.Repeat(at(four), n), question("me", api.A))
		if m, e := msg.Decode(b); e == api.OK {
			t.Errorf("%d addresses: a message of %d", n, len(m.Answer))
		}
		wantAnswer(t, "too many of others", "me", slices.Repeat(at(four), n), question("me", api.AAAA), reply(7, "me", api.AAAA))
	}
}

func TestAnswerByItsID(t *testing.T) {
	q := question("me", api.A)
	for id := range 1 << 16 {
		wantAnswer(t, "an ID", "me", at(four), two(id)+q[2:], reply(id, "me", api.A, bytesFour))
	}
}

// Of a question's bits that of a reply alone is of weight, and an opcode; the reply has none of them.
func TestAnswerByItsBits(t *testing.T) {
	q := question("me", api.A)
	for bits := range 1 << 16 {
		b := q[:2] + two(bits) + q[4:]
		if bits&0xf800 != 0 {
			wantNone(t, "a reply, or an opcode", "me", at(four), b)
		} else {
			wantAnswer(t, "bits", "me", at(four), b, reply(7, "me", api.A, bytesFour))
		}
	}
}

// What a question has beside isn't told again.
func TestAnswerOfAQuestionWithMore(t *testing.T) {
	record := "\xc0\x0c" + two(1) + two(1) + "\x00\x00\x00\x09" + two(4) + bytesOther
	want := reply(7, "me", api.A, bytesFour)
	tail := question("me", api.A)[12:]
	wantAnswer(t, "an answer", "me", at(four), head(7, 0, 1, 1, 0, 0)+tail+record, want)
	wantAnswer(t, "an authority", "me", at(four), head(7, 0, 1, 0, 1, 0)+tail+record, want)
	wantAnswer(t, "so many of both", "me", at(four), head(7, 0, 1, 32, 32, 0)+tail+strings.Repeat(record, 64), want)
	wantAnswer(t, "an additional one", "me", at(four), head(7, 0, 1, 0, 0, 1)+tail+record, want)
	wantAnswer(t, "bytes behind it", "me", at(four), head(7, 0, 1, 0, 0, 0)+tail+"\xff\x00", want)
}

// Any label may be one's own; its capitals in a question are small ones in the message.
func TestAnswerByOwn(t *testing.T) {
	for _, own := range []string{"a", "z", "0", "_", "me", "a-b", "_a_", "9-9", "xn--bcher-kva", "xn--a", long, "localhost"} {
		wantAnswer(t, "own", own, at(four), question(own, api.A), reply(7, own, api.A, bytesFour))
		wantAnswer(t, "capitals", own, at(six), question(strings.ToUpper(own), api.AAAA), reply(7, own, api.AAAA, bytesSix))
		wantAnswer(t, "no addresses", own, nil, question(own, api.MX), reply(7, own, api.MX))
	}
}

func TestAnswerOfAnotherName(t *testing.T) {
	owns := []string{"me", "m", "e", "em", "mee", "me_", "me-2", "xn--me", "you", long, "y" + long[1:], long[1:]}
	asked := append(slices.Clone(owns), "me.me", "me.local", "a.me", "m.e", "1.2.0.192.in-addr.arpa", strings.Repeat("me.", 83)+"me")
	for _, own := range owns {
		for _, n := range asked {
			for _, kind := range []int{api.A, api.AAAA, api.PTR, api.TXT} {
				if n != own {
					wantNone(t, "another name", own, at(four, six), question(n, kind))
				}
			}
		}
	}
}

// The name of a record, or one that stands elsewhere in the bytes, isn't asked for.
func TestAnswerByTheQuestionAlone(t *testing.T) {
	record := whole("me") + two(1) + two(1) + "\x00\x00\x00\x09" + two(4) + bytesOther
	wantNone(t, "a record's name", "me", at(four), head(7, 0, 1, 1, 0, 0)+question("you", api.A)[12:]+record)
	wantNone(t, "a name behind it", "me", at(four), question("you", api.A)+question("me", api.A)[12:])
	wantAnswer(t, "a record's name is another one", "you", at(four), head(7, 0, 1, 1, 0, 0)+question("you", api.A)[12:]+record, reply(7, "you", api.A, bytesFour))
}

// A host without a name answers nobody.
func TestAnswerWithoutOwn(t *testing.T) {
	for _, l := range [][]api.Local{nil, at(four, six)} {
		for _, n := range []string{"a", "me", "me.local", "_", "0", long} {
			for _, kind := range []int{api.A, api.AAAA, api.TXT} {
				wantNone(t, "no own", "", l, question(n, kind))
			}
		}
		wantNone(t, "no own, no name", "", l, head(7, 0, 1, 0, 0, 0)+"\x00"+two(1)+two(1))
		wantNone(t, "no own, a reply", "", l, reply(7, "me", api.A))
		wantNone(t, "no own, nothing", "", l, "")
	}
}

func TestAnswerOfAReply(t *testing.T) {
	for _, kind := range []int{api.A, api.AAAA, api.TXT} {
		wantNone(t, "a reply", "me", at(four, six), reply(7, "me", kind))
		own, ok := answer(t, "me", at(four, six), question("me", kind))
		if !ok {
			t.Fatalf("no answer of type %d", kind)
		}
		wantNone(t, "one's own answer", "me", at(four, six), string(own))
	}
}

// Bytes that are no message.
func TestAnswerOfNoMessage(t *testing.T) {
	q := question("me", api.A)
	bad := []string{
		"\x00", "me", strings.Repeat("\x00", 12), strings.Repeat("\xff", 600), strings.Repeat("\xc0\x0c", 3000), strings.Repeat("\x02me", 1<<20),
		q[:4] + two(0) + q[6:],                          // no question
		q[:4] + two(2) + q[6:] + q[12:],                 // two
		q[:6] + two(1) + q[8:],                          // an answer that isn't there
		q[:6] + two(33) + q[8:] + strings.Repeat(q, 33), // too many
		q[:len(q)-2] + two(0), q[:len(q)-2] + two(3),    // other classes
		q[:len(q)-2] + "\x80\x01", q[:len(q)-2] + two(255), // and more of them
		question("me", 0),
		question("-me", api.A), question("me-", api.A), question("m e", api.A), question("m\x00e", api.A), question("m\xfce", api.A),
		question("me.", api.A), question(".me", api.A), question("", api.A),
		head(7, 0, 1, 0, 0, 0) + "\x05me.me\x00" + two(1) + two(1), // a point within a label
		head(7, 0, 1, 0, 0, 0) + "\xc0\x0c" + two(1) + two(1),      // a name told by its own place
		head(7, 0, 1, 0, 0, 0) + "\x40" + long + "x\x00" + two(1) + two(1),
		question(strings.Repeat("me.", 84)+"me", api.A),
	}
	for n := range q {
		bad = append(bad, q[:n])
	}
	for _, b := range bad {
		for _, own := range []string{"me", "", "a", long} {
			wantNone(t, "no message", own, at(four, six), b)
		}
	}
	if b, ok := llmnr.Answer("me", nil, nil); ok || len(b) > 0 {
		t.Errorf("nil is answered: %q", b)
	}
}

// Texts that are no labels: it ends, and nothing that goes out says another name.
func TestAnswerOfNoLabel(t *testing.T) {
	for _, own := range []string{".", "a.", ".a", "-a", "a-", "a b", "\x00", "\xff", "ü", "me\x00", " me", "me ", strings.Repeat("x", 64), strings.Repeat("x", 1<<20)} {
		for _, n := range []string{"me", "a", "a.b", long} {
			wantNone(t, "no label", own, at(four, six), question(n, api.A))
		}
	}
}

// What is answered has no memory of what was handed in, nor of another answer.
func TestAnswerIsNewMemory(t *testing.T) {
	b, l := []byte(question("me", api.A)), at(four, other)
	want := reply(7, "me", api.A, bytesFour, bytesOther)
	first, _ := llmnr.Answer("me", l, b)
	second, _ := llmnr.Answer("me", l, b)
	clear(first)
	_ = append(first[:1], "xyz"...)
	if string(b) != question("me", api.A) || !slices.Equal(l, at(four, other)) {
		t.Error("a change of an answer changed what was handed in")
	}
	clear(b)
	clear(l)
	if string(second) != want {
		t.Errorf("behind changes: %q, not %q", second, want)
	}
	wantAnswer(t, "once more", "me", at(four, other), question("me", api.A), want)
}

// As a message it says what the chapter says.
func TestAnswerAsAMessage(t *testing.T) {
	b, _ := answer(t, "me", at(six, four), question("ME", api.A))
	m, e := msg.Decode(b)
	want := api.Message{
		ID: 7, Reply: true, Question: api.Question{Name: "me", Type: api.A},
		Answer: []api.Record{{Name: "me", Type: api.A, TTL: 30, Addr: four}},
	}
	if e != api.OK || fmt.Sprintf("%+v", m) != fmt.Sprintf("%+v", want) {
		t.Errorf("the answer says %+v, %d, not %+v", m, e, want)
	}
}
