package msg_test

import (
	"fmt"
	"slices"
	"strings"
	"testing"

	"nomenclator/api"
	"nomenclator/msg"
)

// Bytes are written here by hand, as texts.

func two(n int) string { return string([]byte{byte(n >> 8), byte(n)}) }

func four(n int) string { return two(n>>16) + two(n) }

func head(id, bits, questions, answers, authorities, additional int) string {
	return two(id) + two(bits) + two(questions) + two(answers) + two(authorities) + two(additional)
}

// at: what stands for a name's end by a place.
func at(place int) string { return two(0xc000 + place) }

// open: a name's labels, without its end.
func open(n string) string {
	s := ""
	for _, l := range strings.Split(n, ".") {
		s += string([]byte{byte(len(l))}) + l
	}
	return s
}

// whole: a name that no place tells.
func whole(n string) string { return open(n) + "\x00" }

// rec: a record of class 1; its name and its data are bytes.
func rec(name string, kind, ttl int, data string) string {
	return name + two(kind) + two(1) + four(ttl) + two(len(data)) + data
}

// asked: the beginning of a reply: the question for a, type A, whose name stands at 12, its end at 14.
func asked(answers, authorities int) string {
	return head(7, 0x8000, 1, answers, authorities, 0) + whole("a") + two(api.A) + two(1)
}

// behindAsked: there is the first record of asked.
const behindAsked = 19

// ask: the message of asked, with these.
func ask(answer, authority []api.Record) api.Message {
	return api.Message{ID: 7, Reply: true, Question: api.Question{Name: "a", Type: api.A}, Answer: answer, Authority: authority}
}

// sized: a name of so many signs, whose labels all begin with mark (so that of two marks no end is the same).
func sized(mark string, signs int) string {
	var l []string
	next := func(n int) { l = append(l, (mark + strings.Repeat("x", 63))[:n]) }
	for signs > 64 {
		next(63)
		signs -= 64
	}
	if signs == 64 { // a label and a point would leave no sign for another one
		next(31)
		signs -= 32
	}
	next(signs)
	return strings.Join(l, ".")
}

// same: are two messages the same, no list and an empty one counting alike?
func same(a, b api.Message) bool {
	return slices.Equal(a.Answer, b.Answer) && slices.Equal(a.Authority, b.Authority) && bare(a) == bare(b)
}

// bare: all of a message but its lists.
func bare(m api.Message) string {
	m.Answer, m.Authority = nil, nil
	return told(m)
}

func told(m api.Message) string { return fmt.Sprintf("%+v", m) }

// wantMessage: Decode of bytes is that message.
func wantMessage(t *testing.T, what, b string, want api.Message) {
	t.Helper()
	if got, e := msg.Decode([]byte(b)); e != api.OK || !same(got, want) {
		t.Errorf("%s: Decode of %.400q: %d, %.400s, want %.400s", what, b, e, told(got), told(want))
	}
}

// wantNone: there is no message of bytes.
func wantNone(t *testing.T, what, b string) {
	t.Helper()
	got, e := msg.Decode([]byte(b))
	if e != api.ErrMsg || !same(got, api.Message{}) || len(got.Answer)+len(got.Authority) > 0 {
		t.Errorf("%s: Decode of %.400q: %d, %.400s, want an error alone", what, b, e, told(got))
	}
}

// wantBytes: Encode of a message is these bytes, and changes nothing in it; and Decode of them is the message again.
func wantBytes(t *testing.T, what string, m api.Message, want string) {
	t.Helper()
	given := m
	given.Answer, given.Authority = slices.Clone(m.Answer), slices.Clone(m.Authority)
	if got := string(msg.Encode(m)); got != want {
		i := 0
		for i < min(len(got), len(want)) && got[i] == want[i] {
			i++
		}
		t.Errorf("%s: Encode of %.400s: from byte %d on %.400q, want %.400q", what, told(m), i, got[i:], want[i:])
	}
	if !same(m, given) {
		t.Errorf("%s: Encode changed %.400s to %.400s", what, told(given), told(m))
	}
	wantMessage(t, what, want, m)
}
