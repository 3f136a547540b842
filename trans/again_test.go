package trans_test

// The chapter's words once more, told in another way, and held against the calls, for drawn questions and datagrams.

import (
	"fmt"
	"math/big"
	"math/rand/v2"
	"strings"
	"testing"

	"nomenclator/addr"
	"nomenclator/api"
	"nomenclator/msg"
	"nomenclator/trans"
)

var draws = rand.New(rand.NewPCG(13, 1))

// drawAgain: Draw, said again by numbers without bounds: one below 0 is 2^64 more without its sign.
func drawAgain(n int) (int, int) {
	all := big.NewInt(int64(n))
	if n < 0 {
		all.Add(all, new(big.Int).Lsh(big.NewInt(1), 64))
	}
	higher, lowest := new(big.Int).DivMod(all, big.NewInt(65536), new(big.Int))
	left := new(big.Int).Mod(higher, big.NewInt(65536-1024))
	return int(lowest.Int64()), 1024 + int(left.Int64())
}

func TestDrawAgain(t *testing.T) {
	for i := range 300000 {
		n := int(draws.Uint64()) >> draws.IntN(64)
		if i%3 == 0 {
			n = (1<<draws.IntN(63))*(1-2*draws.IntN(2)) + draws.IntN(5) - 2
		}
		id, port := trans.Draw(n)
		if wantID, wantPort := drawAgain(n); id != wantID || port != wantPort {
			t.Fatalf("Draw(%d) = %d, %d, not %d, %d", n, id, port, wantID, wantPort)
		}
	}
}

// some: one of a list; mostly the first one.
func some[T any](l ...T) T {
	if draws.IntN(4) > 0 {
		return l[0]
	}
	return l[draws.IntN(len(l))]
}

func someBool() bool { return draws.IntN(2) == 0 }

var (
	someAddrs = []api.Addr{addr.V4(192, 0, 2, 53), addr.V4(192, 0, 2, 54), addr.V4(224, 0, 0, 252), {}, {0: 32}}
	someNames = []string{"a", "b", "a.b", "www.a.b", "xn--a", long}
	someKinds = []int{28, 1, 12, 16, 65535}
)

func someQuestion() api.Question {
	return api.Question{Name: some(someNames...), Type: some(someKinds...)}
}

func someTrans() trans.Trans {
	return trans.Trans{
		Q: someQuestion(), Link: some(1, 0, 2, 3), Gen: some(1, 2, 258), To: some(someAddrs...), ID: some(5, 6, 0, 65535),
		Port: some(1024, 1025, 65535), Stream: someBool(), Group: someBool(), Until: draws.IntN(9),
	}
}

func someRecords() []api.Record {
	var l []api.Record
	for range draws.IntN(4) {
		l = append(l, some(
			api.Record{Name: "a", Type: api.AAAA, TTL: 3, Addr: api.Addr{0: 32, 15: byte(draws.IntN(256))}},
			api.Record{Name: "a", Type: api.CNAME, TTL: draws.IntN(99), Text: some(someNames...)},
			api.Record{Name: some(someNames...), Type: api.TXT, Data: "\xc0\x0c"},
		))
	}
	return l
}

// someMessage: and its bytes; false: they are changed so that they are none.
func someMessage() (api.Message, []byte, bool) {
	m := api.Message{
		ID: some(5, 6, 0, 65535), Reply: some(true, false), Truncated: someBool(), Recurse: someBool(), Code: some(0, 3, 15),
		Question: someQuestion(), Answer: someRecords(), Authority: someRecords(),
	}
	b := msg.Encode(m)
	switch draws.IntN(12) {
	case 0:
		return m, b[:draws.IntN(len(b))], false
	case 1:
		b[2] |= 8 << draws.IntN(4) // an opcode
		return m, b, false
	}
	return m, b, true
}

// told: all that a question and its answer have in common, as one text.
func told(link, gen int, who string, port int, reply bool, id int, q api.Question) string {
	return fmt.Sprint(link, gen, who, port, reply, id, q.Type, q.Name)
}

func TestMatchAgain(t *testing.T) {
	yes, byGroup, broken := 0, 0, 0
	for range 400000 {
		x := someTrans()
		m, b, is := someMessage()
		link, gen, from, port := some(1, 0, 2, 3), some(1, 2, 258), some(someAddrs...), some(1024, 1025, 65535)
		to, who := addr.Print(x.To), addr.Print(from)
		if x.Group {
			to, who = "anybody", "anybody"
		}
		want := is && told(x.Link, x.Gen, to, x.Port, true, x.ID, x.Q) == told(link, gen, who, port, m.Reply, m.ID, m.Question)
		got, ok := x.Match(link, gen, from, port, b)
		if !want {
			m = api.Message{}
		}
		if ok != want || !same(got, m) {
			t.Fatalf("Match of %s on %d, %d, from %v, to %d, by %q = %s, %v, not %s, %v", short(x), link, gen, from, port, b, short(got), ok, short(m), want)
		}
		switch {
		case want && from != x.To:
			byGroup++
		case want:
			yes++
		case !is:
			broken++
		}
	}
	if yes < 5000 || byGroup < 1000 || broken < 30000 {
		t.Fatalf("the drawn datagrams test too little: %d, %d, %d", yes, byGroup, broken)
	}
}

func TestSendAgain(t *testing.T) {
	for range 50000 {
		x := someTrans()
		s := x.Send()
		m, e := msg.Decode(s.Data)
		want := api.Message{ID: x.ID, Question: x.Q, Recurse: true}
		if x.Group {
			want.Recurse = false
		}
		if e != api.OK || !same(m, want) || string(msg.Encode(want)) != string(s.Data) {
			t.Fatalf("Send of %s: %s, not %s", short(x), short(m), short(want))
		}
		if fmt.Sprint(s.Link, s.To, s.Port, s.Stream) != fmt.Sprint(x.Link, x.To, x.Port, x.Stream) {
			t.Fatalf("Send of %s = %s", short(x), short(s))
		}
	}
}

// Bytes as they may come from anybody: Match ends, and answers what layer 4 reads, or nothing.
func TestMatchOfAnyBytes(t *testing.T) {
	whole := string(msg.Encode(rich()))
	taken := 0
	for range 200000 {
		b := []byte(whole)
		for range 1 + draws.IntN(3) {
			b[draws.IntN(len(b))] = byte(some(draws.IntN(256), 0, 0xc0, 0xff, 12, 'A'))
		}
		b = append(b[:draws.IntN(len(b)+1)], strings.Repeat("\x00", draws.IntN(3))...)
		if someBool() {
			b = b[:min(len(b), draws.IntN(40))]
		}
		x := asked()
		x.Group = someBool()
		m, ok := x.Match(2, 7, server, 2000, b)
		read, e := msg.Decode(b)
		want := e == api.OK && fmt.Sprint(read.Reply, read.ID, read.Question) == "true 770 {a.b 28}"
		if !want {
			read = api.Message{}
		}
		if ok != want || !same(m, read) {
			t.Fatalf("Match by %q = %s, %v, not %s, %v", b, short(m), ok, short(read), want)
		}
		if ok {
			taken++
		}
	}
	if taken < 100 {
		t.Fatalf("the drawn bytes test too little: %d", taken)
	}
}
