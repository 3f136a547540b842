package chase_test

// The chapter's words once more, told in another way, and held against Of, for all small ways of CNAMEs and for drawn messages.

import (
	"fmt"
	"math/rand/v2"
	"slices"
	"testing"

	"nomenclator/api"
	"nomenclator/chase"
	"nomenclator/msg"
)

var draws = rand.New(rand.NewPCG(15, 1))

func some[T any](l ...T) T { return l[draws.IntN(len(l))] }

// A place is a name that a message leads to, and the least TTL of the CNAMEs that led there.
type place struct {
	name string
	ttl  int
}

// places: where the CNAMEs lead, from the question's name on, up to eight of them.
func places(m api.Message) []place {
	leads := map[string]api.Record{}
	for _, r := range slices.Backward(m.Answer) {
		if r.Type == 5 {
			leads[r.Name] = r
		}
	}
	l := []place{{m.Question.Name, 1 << 40}}
	for len(l) < 9 {
		last := l[len(l)-1]
		r, ok := leads[last.name]
		if !ok {
			return l
		}
		l = append(l, place{r.Text, min(last.ttl, r.TTL)})
	}
	return l
}

// ofAgain: Of, said again: first where the CNAMEs lead, then the first place, but a ninth one, that has what is asked for.
func ofAgain(m api.Message) chase.Finding {
	switch m.Code {
	case 0, 3:
	default:
		return chase.Finding{Outcome: api.TryAgain}
	}
	has := map[api.Question][]api.Record{}
	for _, r := range m.Answer {
		q := api.Question{Name: r.Name, Type: r.Type}
		has[q] = append(has[q], r)
	}
	l := places(m)
	for _, p := range l[:min(len(l), 8)] {
		if all := has[api.Question{Name: p.name, Type: m.Question.Type}]; all != nil {
			ttls := []int{p.ttl}
			for _, r := range all {
				ttls = append(ttls, r.TTL)
			}
			return chase.Finding{Outcome: api.Success, Records: all, TTL: slices.Min(ttls)}
		}
	}
	if last := l[len(l)-1]; m.Code == 0 && last.name != m.Question.Name {
		return chase.Finding{Next: last.name, TTL: last.ttl}
	}
	f := chase.Finding{Outcome: map[int]int{0: api.NoData, 3: api.NotFound}[m.Code]}
	for _, r := range slices.Backward(m.Authority) {
		if r.Type == 6 {
			f.TTL = r.TTL
		}
	}
	return f
}

// kind: of which kind a finding is.
func kind(f chase.Finding) string {
	if f.Outcome == 0 {
		return "next"
	}
	return fmt.Sprint(f.Outcome)
}

// enough: was each kind of finding there so often?
func enough(t *testing.T, seen map[string]int, least int, kinds ...string) {
	t.Helper()
	for _, k := range kinds {
		if seen[k] < least {
			t.Errorf("the messages test %s too little: %v", k, seen)
		}
	}
}

// All ways of CNAMEs of four names, each with a host or without one.
func TestAllWays(t *testing.T) {
	const names = "abcd"
	seen := map[string]int{}
	for ways := range 5 * 5 * 5 * 5 {
		for hosts := range 16 {
			var l []api.Record
			for i, rest := 0, ways; i < len(names); i, rest = i+1, rest/5 {
				if rest%5 > 0 {
					l = append(l, alias(names[i:i+1], 10+(7*i+3)%5, names[rest%5-1:rest%5]))
				}
				if hosts>>i&1 > 0 {
					l = append(l, host(names[i:i+1], 8+(5*i+2)%9, byte(i)))
				}
			}
			for _, code := range []int{0, 3} {
				m := coded(code, l...)
				m.Authority = list(server("z", 1), zone("z", 77))
				want := ofAgain(m)
				check(t, "a way", m, want)
				seen[kind(want)]++
			}
		}
	}
	enough(t, seen, 500, "next", "1", "2", "5")
}

func someName() string { return some("a", "b", "c", "d", "e", "f", "a.b", "aa", "a") }

func someTTL() int { return some(0, 1, draws.IntN(99), draws.IntN(9999), api.MaxTTL) }

func someRecord() api.Record {
	n := someName()
	switch draws.IntN(8) {
	case 0, 1:
		return host(n, someTTL(), byte(draws.IntN(4)))
	case 2:
		return six(n, someTTL())
	case 3:
		return some(zone(n, someTTL()), server(n, someTTL()), text(n, someTTL(), "x"))
	default:
		return alias(n, someTTL(), someName())
	}
}

func someRecords(most int) []api.Record {
	var l []api.Record
	for range draws.IntN(1 + some(most, 3)) {
		l = append(l, someRecord())
	}
	return l
}

// someWay: CNAMEs one behind the other, mostly without a round, with something at its end and here and there, all mixed.
func someWay() []api.Record {
	l := way('a', draws.IntN(11))
	for i := range l {
		l[i].TTL = someTTL()
	}
	end := string(rune('a' + len(l)))
	for range draws.IntN(4) {
		l = append(l, some(host(end, someTTL(), 1), host(end, someTTL(), 2), six(end, someTTL()), someRecord()))
	}
	draws.Shuffle(len(l), func(i, j int) { l[i], l[j] = l[j], l[i] })
	return l
}

func someMessage() api.Message {
	m := api.Message{
		ID: draws.IntN(1 << 16), Reply: draws.IntN(2) == 0, Truncated: draws.IntN(2) == 0, Recurse: draws.IntN(2) == 0,
		Code:     some(0, 0, 0, 0, 3, 3, draws.IntN(16)),
		Question: api.Question{Name: some("a", "a", "a", someName()), Type: some(1, 1, 1, 28, 5, 16, 6, 2, 255, 1+draws.IntN(65535))},
		Answer:   someRecords(api.MaxRecords), Authority: someRecords(api.MaxRecords),
	}
	if draws.IntN(2) == 0 {
		m.Answer = someWay()
	}
	return m
}

func TestDrawnMessages(t *testing.T) {
	seen := map[string]int{}
	for range 200000 {
		m := someMessage()
		want := ofAgain(m)
		check(t, "a drawn message", m, want)
		seen[kind(want)]++
		if p := places(m); len(p) > 8 {
			seen["far "+kind(want)]++
		}
	}
	enough(t, seen, 5000, "next", "1", "2", "4", "5")
	enough(t, seen, 1000, "far next", "far 1", "far 2", "far 5")
}

func FuzzOf(f *testing.F) {
	for range 30 {
		f.Add(msg.Encode(someMessage()))
	}
	f.Fuzz(func(t *testing.T, b []byte) {
		m, e := msg.Decode(b)
		if e == api.OK {
			check(t, "a message of bytes", m, ofAgain(m))
		}
	})
}
