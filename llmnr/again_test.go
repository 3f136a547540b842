package llmnr_test

// The chapter's words once more, told in another way, and held against Answer, for drawn questions and datagrams.

import (
	"math/rand/v2"
	"slices"
	"strings"
	"testing"

	"nomenclator/addr"
	"nomenclator/api"
	"nomenclator/llmnr"
	"nomenclator/msg"
)

var draws = rand.New(rand.NewPCG(14, 1))

// some: one of a list; mostly the first one.
func some[T any](l ...T) T {
	if draws.IntN(3) > 0 {
		return l[0]
	}
	return l[draws.IntN(len(l))]
}

func someBool() bool { return draws.IntN(2) == 0 }

// answerAgain: Answer, said again: what speaks against an answer first, then an address's text telling its type.
func answerAgain(own string, l []api.Local, m api.Message, is bool) (string, bool) {
	for _, against := range []bool{!is, m.Reply, len(own) == 0, strings.Compare(own, m.Question.Name) != 0} {
		if against {
			return "", false
		}
	}
	var addrs []string
	for _, x := range l {
		bytes := string(x.Addr[:])
		switch text := addr.Print(x.Addr); {
		case m.Question.Type == 1 && !strings.Contains(text, ":"):
			addrs = append(addrs, bytes[12:])
		case m.Question.Type == 28 && strings.Contains(text, ":"):
			addrs = append(addrs, bytes)
		}
	}
	return reply(m.ID, own, m.Question.Type, addrs...), true
}

func someLocals() []api.Local {
	var l []api.Local
	for range draws.IntN(1 + some(api.MaxAddrs, api.MaxRecords)) {
		a := addr.V4(byte(draws.IntN(256)), 0, 255, byte(draws.IntN(4)))
		if someBool() {
			a[some(0, 5, 9, 10, 11)] ^= 1 << draws.IntN(8)
		}
		l = append(l, api.Local{Addr: a, Deprecated: someBool(), Home: someBool()})
	}
	return l
}

func someRecords() []api.Record {
	var l []api.Record
	for range draws.IntN(3) {
		l = append(l, some(
			api.Record{Name: "me", Type: api.AAAA, TTL: 3, Addr: api.Addr{0: 32, 15: byte(draws.IntN(256))}},
			api.Record{Name: "you", Type: api.CNAME, TTL: draws.IntN(99), Text: "me"},
			api.Record{Name: "me", Type: api.TXT, Data: "\xc0\x0c"},
		))
	}
	return l
}

func someMessage() api.Message {
	return api.Message{
		ID: draws.IntN(1 << 16), Reply: some(false, true), Truncated: someBool(), Recurse: someBool(), Code: draws.IntN(16),
		Question: api.Question{Name: some("me", "you", "a.me", "me.a", long), Type: some(1, 28, 28, 16, 255, 257, 1+draws.IntN(65535))},
		Answer:   someRecords(), Authority: someRecords(),
	}
}

func TestAnswerAgain(t *testing.T) {
	count := map[bool]int{}
	records := 0
	for range 200000 {
		own, l, m := some("me", "you", "", long, "m"), someLocals(), someMessage()
		b := msg.Encode(m)
		is := draws.IntN(8) > 0
		if !is {
			b = b[:draws.IntN(len(b))]
		}
		want, wanted := answerAgain(own, l, m, is)
		got, ok := answer(t, own, l, string(b))
		if ok != wanted || string(got) != want {
			t.Fatalf("Answer(%q, %v, %q) = %q, %v, not %q, %v", own, l, b, got, ok, want, wanted)
		}
		count[ok]++
		if ok {
			read, _ := msg.Decode(got)
			records += len(read.Answer)
		}
	}
	if count[true] < 20000 || count[false] < 20000 || records < 20000 {
		t.Errorf("the drawn questions test too little: %v, %d", count, records)
	}
}

// Bytes as they may come from anybody: Answer ends, and answers what layer 4 reads, or nothing.
func TestAnswerOfAnyBytes(t *testing.T) {
	taken := 0
	for range 200000 {
		m := someMessage()
		b := msg.Encode(m)
		for range 1 + draws.IntN(3) {
			b[draws.IntN(len(b))] = byte(some(draws.IntN(256), 0, 1, 0xc0, 0xff, 12, 'M', 'E'))
		}
		b = append(b[:some(len(b), draws.IntN(len(b)+1))], strings.Repeat("\x00", draws.IntN(3))...)
		own, l := some("me", "", "you", "a"), someLocals()
		read, e := msg.Decode(b)
		want, wanted := answerAgain(own, l, read, e == api.OK)
		got, ok := answer(t, own, l, string(b))
		if ok != wanted || string(got) != want {
			t.Fatalf("Answer(%q, %v, %q) = %q, %v, not %q, %v", own, l, b, got, ok, want, wanted)
		}
		if ok {
			taken++
		}
	}
	if taken < 5000 {
		t.Errorf("the drawn bytes test too little: %d", taken)
	}
}

func FuzzAnswer(f *testing.F) {
	for range 30 {
		f.Add("me", msg.Encode(someMessage()))
	}
	l := at(four, six, other, near)
	f.Fuzz(func(t *testing.T, own string, b []byte) {
		read, e := msg.Decode(b)
		want, wanted := answerAgain(own, l, read, e == api.OK)
		got, ok := llmnr.Answer(own, slices.Clone(l), b)
		if ok != wanted || string(got) != want {
			t.Fatalf("Answer(%q, %q) = %q, %v, not %q, %v", own, b, got, ok, want, wanted)
		}
	})
}
