package daemon_test

// Links that change, what their caches keep, and names that lead to others.

import (
	"reflect"
	"slices"
	"strconv"
	"strings"
	"testing"

	"nomenclator/addr"
	"nomenclator/api"
	"nomenclator/conf"
	"nomenclator/daemon"
	"nomenclator/order"
)

// A link that is set, or removed, while it is waited for: the next one is asked, at once.
func TestLinkGoes(t *testing.T) {
	for _, c := range []struct {
		what string
		does func(b *bench, want ...string)
	}{
		{"set as it was", func(b *bench, want ...string) { b.Helper(); b.set(0, to(one), want...) }},
		{"set otherwise", func(b *bench, want ...string) { b.Helper(); b.set(0, api.Link{}, want...) }},
		{"removed", func(b *bench, want ...string) { b.Helper(); b.remove(0, want...) }},
	} {
		b := setUp(t, to(one), to(two))
		b.load("options timeout:2 attempts:1", "", "dns")
		b.ask("a", "link 0 to 192.0.2.51 0:1024 a")
		e := b.event(b.reply(host("a", 9, 1)))
		b.ask("b", "link 0 to 192.0.2.51 0:1024 b")
		b.ticks(1)
		c.does(b, "link 1 to 192.0.2.52 0:1024 a", "link 1 to 192.0.2.52 1:1025 b")
		var dead []string
		if _, ok := b.Get(0); !ok {
			dead = []string{"error 12"}
		}
		b.do(e, dead...) // of a generation that lives no more
		if b.Busy() != 2 {
			t.Errorf("%s: %d lookups wait", c.what, b.Busy())
		}
		b.ticks(1)
		b.ticks(1, "done 1 a error 11 0/0late", "done 1 b error 11 0/0late")
	}
}

// An event with an error changes nothing.
func TestLinkErrors(t *testing.T) {
	b := setUp(t, to(one))
	b.load("options timeout:2 attempts:1", "", "dns")
	b.ask("a", "link 0 to 192.0.2.51 0:1024 a")
	b.set(0, api.Link{Domains: []string{"A"}}, "error 13")
	b.set(0, api.Link{Servers: []api.Addr{one, one, one, one}}, "error 13")
	for _, i := range []int{-1, 4, 1 << 40, -1 << 63} {
		b.set(i, to(one), "error 12")
		b.remove(i, "error 12")
		b.do(api.Event{Kind: api.Flush, Link: i}, "error 12")
	}
	b.remove(1, "error 12")
	b.do(api.Event{Kind: api.Flush, Link: 1}, "error 12")
	for _, kind := range []int{-1, 7, 8, 1 << 40, -1 << 63} {
		b.do(api.Event{Kind: kind, Name: "a", Type: 1}, "error 13")
	}
	if b.Now() != 0 || b.Busy() != 1 {
		t.Errorf("at %d %d wait", b.Now(), b.Busy())
	}
	b.gram(b.reply(host("a", 9, 1)), "done 1 a (a=1@9) 0/0yes")
	b.remove(0)
	b.remove(0, "error 12")
}

// Other links' coming and going is looked at ahead of each sending.
func TestWayGoes(t *testing.T) {
	b := setUp(t, to(one), to(two))
	b.load("options timeout:2 attempts:2", "", "dns")
	nearer := forDomains(three, "a")
	b.ask("a", "link 0 to 192.0.2.51 0:1024 a")
	b.set(2, nearer)
	b.ticks(2, "done 1 a error 12 0/0away") // neither the first one's next try, nor the other one
	b.remove(2)

	b.ask("a", "link 0 to 192.0.2.51 0:1024 a")
	b.set(2, nearer)
	b.remove(2)
	b.ticks(2, "link 0 to 192.0.2.51 0:1024 a") // it has it again
	b.set(2, nearer)
	b.ticks(2, "done 1 a error 11 0/0late") // behind the last try nobody looks
	b.remove(2)

	b.ask("a", "link 0 to 192.0.2.51 0:1024 a")
	b.set(2, nearer)
	b.gram(b.reply(host("a", 1, 1)), "done 1 a (a=1@1) 0/0yes") // what was asked may be answered
	b.ask("a", "link 2 to 192.0.2.53 0:1024 a")
	b.gram(b.code(3), "done 1 a error 9 0/0no")
	b.remove(2)
	b.ask("a", "done 1 a (a=1@1) 0/0yes")

	b.ask("b", "link 0 to 192.0.2.51 0:1024 b")
	b.set(2, forDomains(three, "b"))
	b.gram(b.code(2), "done 1 b error 12 0/0away")
}

// A cache isn't asked of a link that the name's way hasn't any more.
func TestWayGoesAheadOfItsCache(t *testing.T) {
	b := setUp(t, to(one), to(two))
	b.load("", "", "dns")
	b.Cache(1).Put(0, api.Question{Name: "a", Type: api.A}, api.Success, []api.Record{host("a", 9, 7)}, 9)
	b.ask("a", "link 0 to 192.0.2.51 0:1024 a")
	b.gram(b.code(3), "done 1 a (a=7@9) 0/0yes")
	b.Cache(0).Clear()
	b.ask("a", "link 0 to 192.0.2.51 0:1024 a")
	b.set(2, forDomains(three, "a"))
	b.gram(b.code(3), "done 1 a error 9 0/0no")
}

// Neighbours' ways are looked at likewise: one link that speaks no more.
func TestNeighboursGo(t *testing.T) {
	b := setUp(t, speaks(), speaks(), speaks())
	b.load("", "", "llmnr")
	b.ask("a", "link 0 to all 0:1024 a")
	b.set(1, to(one))
	b.remove(2)
	b.set(2, speaks())
	b.gram(b.code(3), "link 2 to all 0:1024 a")
	b.remove(2, "done 1 a error 9 0/0no")
}

// The table's own calls may change links, too: who waits finds it when it goes on.
func TestTableItself(t *testing.T) {
	for _, does := range []func(b *bench){
		func(b *bench) { b.Set(0, to(three)) },
		func(b *bench) { b.Set(0, api.Link{}) },
		func(b *bench) { b.Remove(0) },
	} {
		b := setUp(t, to(one, two), to(two))
		b.load("options timeout:2 attempts:1", "", "dns")
		b.ask("a", "link 0 to 192.0.2.51 0:1024 a")
		e := b.event(b.reply(host("a", 9, 1)))
		does(b)
		if s := b.Do(e); len(s.Dones) > 0 {
			t.Errorf("an answer of a generation that lives no more: %v", lines(s))
		}
		b.ticks(2, "link 1 to 192.0.2.52 0:1024 a")
		b.Remove(1)
		b.ticks(2, "done 1 a error 12 0/0away")
	}
	b := setUp(t)
	if b.Set(3, to(one)) != api.OK {
		t.Fatal("a link can't be set by the table's own call")
	}
	b.ask("a", "link 3 to 192.0.2.51 0:1024 a")
}

func TestCache(t *testing.T) {
	b := setUp(t, to(one), to(two))
	b.load("options timeout:30 attempts:1", "", "dns")
	b.ask("a", "link 0 to 192.0.2.51 0:1024 a")
	b.gram(b.reply(host("a", 10, 1), host("a", 4, 2)), "done 1 a (a=1@10 a=2@4) 0/0yes")
	b.ticks(3)
	b.ask("A.", "done 1 a (a=1@7 a=2@1) 0/0yes")
	b.do(api.Event{Kind: api.Ask, ID: 1, Name: "a", Type: api.AAAA}, "link 0 to 192.0.2.51 0:1024 a type 28") // another question
	b.gram(b.code(0, soa("a", 6)), "link 1 to 192.0.2.52 0:1024 a type 28")
	b.gram(b.code(3, soa("a", 5)), "done 1 a error 10 0/0empty")
	b.do(api.Event{Kind: api.Ask, ID: 1, Name: "a", Type: api.AAAA}, "done 1 a error 10 0/0empty") // each link's by its own
	b.ticks(1)
	b.ask("a", "link 0 to 192.0.2.51 0:1024 a")
	b.ticks(4)
	b.do(api.Event{Kind: api.Ask, ID: 1, Name: "a", Type: api.AAAA}, "link 1 to 192.0.2.52 0:1024 a type 28")
}

// How long an outcome counts is what its message says.
func TestCacheCounts(t *testing.T) {
	for _, c := range []struct {
		what              string
		code              int
		answer, authority []api.Record
		counts            int
		done              string
	}{
		{"an address", 0, []api.Record{host("a", 3, 1)}, nil, 3, "(a=1@3) 0/0yes"},
		{"one that doesn't count", 0, []api.Record{host("a", 0, 1)}, nil, 0, "(a=1@0) 0/0yes"},
		{"the least of several", 0, []api.Record{host("a", 7, 1), host("a", 2, 1), host("a", 5, 1)}, nil, 2, "(a=1@7 a=1@2 a=1@5) 0/0yes"},
		{"a CNAME's, too", 0, []api.Record{alias("a", 4, "b"), host("b", 9, 1)}, nil, 4, "(b=1@9) 0/0yes"},
		{"no such name", 3, nil, []api.Record{soa("a", 5)}, 5, "error 9 0/0no"},
		{"no such name, and nothing tells how long", 3, nil, nil, 0, "error 9 0/0no"},
		{"nothing of that type", 0, nil, []api.Record{soa("a", 6), soa("a", 1)}, 6, "error 10 0/0empty"},
		{"nothing of that type, and nothing tells how long", 0, nil, nil, 0, "error 10 0/0empty"},
		{"a name that leads where there is none", 3, []api.Record{alias("a", 4, "b")}, []api.Record{soa("b", 8)}, 8, "error 9 0/0no"},
	} {
		b := setUp(t, to(one))
		b.load("", "", "dns")
		b.ask("a", "link 0 to 192.0.2.51 0:1024 a")
		m := b.reply(c.answer...)
		m.Code, m.Authority = c.code, c.authority
		b.gram(m, "done 1 a "+c.done)
		for range c.counts {
			if s := b.Do(api.Event{Kind: api.Ask, Name: "a", Type: api.A}); len(s.Dones) != 1 || len(s.Sends) != 0 {
				t.Errorf("%s: asked again at %d: %v", c.what, b.Now(), lines(s))
			}
			b.ticks(1)
		}
		b.ask("a", "link 0 to 192.0.2.51 0:1024 a")
	}
}

// A link keeps what neighbours said, and what servers said, alike.
func TestCacheOfNeighbours(t *testing.T) {
	l := to(one)
	l.LLMNR = true
	b := setUp(t, l)
	b.load("", "", "llmnr")
	b.ask("a", "link 0 to all 0:1024 a")
	b.gram(b.reply(host("a", 9, 1)), "done 1 a (a=1@9) 0/0yes")
	b.load("", "", "dns")
	b.ask("a", "done 1 a (a=1@9) 0/0yes")
	b.ask("b", "link 0 to 192.0.2.51 0:1024 b")
	b.gram(b.code(3, soa("b", 7)), "done 1 b error 9 0/0no")
	b.load("", "", "llmnr")
	b.ask("b", "done 1 b error 9 0/0no")
	b.ask("c", "link 0 to all 0:1024 c")
	b.ticks(5, "done 1 c error 9 0/0no") // that nobody answered isn't kept
	b.ask("c", "link 0 to all 0:1024 c")
}

// No cache has more than it may.
func TestCacheIsFull(t *testing.T) {
	b := setUp(t, to(one))
	b.load("", "", "dns")
	for i := range api.MaxCache + 5 {
		n := "x" + strconv.Itoa(i)
		b.ask(n, "link 0 to 192.0.2.51 0:1024 "+n)
		b.gram(b.reply(host(n, 100+i, 1)), "done 1 "+n+" ("+n+"=1@"+strconv.Itoa(100+i)+") 0/0yes")
	}
	if b.Cache(0).Len() != api.MaxCache {
		t.Errorf("the cache has %d", b.Cache(0).Len())
	}
	b.ask("x4", "link 0 to 192.0.2.51 0:1024 x4")
	b.ask("x5", "done 1 x5 (x5=1@105) 0/0yes")
}

func TestFlush(t *testing.T) {
	b := setUp(t, to(one), to(two))
	b.load("", "", "dns")
	keep := func(i int, n string) {
		b.Cache(i).Put(b.Now(), api.Question{Name: n, Type: api.A}, api.Success, []api.Record{host(n, 9, 1)}, 9)
	}
	keep(0, "a")
	keep(0, "b")
	keep(1, "c")
	b.do(api.Event{Kind: api.Flush, Link: 0})
	if b.Cache(0).Len() != 0 || b.Cache(1).Len() != 1 {
		t.Errorf("behind a Flush of link 0: %d, %d", b.Cache(0).Len(), b.Cache(1).Len())
	}
	b.ask("a", "link 0 to 192.0.2.51 0:1024 a")
	b.do(api.Event{Kind: api.Flush, Link: 0}) // who waits waits on
	b.gram(b.reply(host("a", 9, 2)), "done 1 a (a=2@9) 0/0yes")
	b.set(0, to(one)) // a new generation knows nothing
	b.ask("a", "link 0 to 192.0.2.51 0:1024 a")
	b.do(api.Event{Kind: api.Flush, Link: 1})
	if b.Cache(1).Len() != 0 {
		t.Error("a Flush of link 1 empties nothing")
	}
}

// A name that an answer leads to is asked for by its own way, all anew.
func TestFollow(t *testing.T) {
	b := setUp(t, to(one), to(two), forDomains(three, "c"), forDomains(far, "c"))
	b.load("", "", "dns")
	b.ask("a", "link 0 to 192.0.2.51 0:1024 a")
	b.gram(b.reply(alias("a", 9, "b.c")), "link 2 to 192.0.2.53 0:1024 b.c")
	b.gram(b.reply(host("b.c", 5, 1)), "done 1 a (b.c=1@5) 0/0yes")
	b.ask("a", "link 0 to 192.0.2.51 0:1024 a") // that a leads there isn't kept
	b.gram(b.reply(alias("a", 9, "b.c")), "done 1 a (b.c=1@5) 0/0yes")
	b.ask("b.c", "done 1 b.c (b.c=1@5) 0/0yes")

	// Its links are the whole outcome: neither those ahead, nor those behind, of the name that led there.
	b.ask("d", "link 0 to 192.0.2.51 0:1024 d")
	b.gram(b.code(0), "link 1 to 192.0.2.52 0:1024 d")
	b.gram(b.reply(alias("d", 9, "d.c")), "link 2 to 192.0.2.53 0:1024 d.c")
	b.gram(b.code(3), "link 3 to 198.51.100.1 0:1024 d.c")
	b.gram(b.code(3), "done 1 d error 9 0/0no")
	b.ask("e", "link 0 to 192.0.2.51 0:1024 e")
	b.gram(b.reply(alias("e", 9, "e.c")), "link 2 to 192.0.2.53 0:1024 e.c")
	b.remove(3)
	b.gram(b.code(3), "done 1 e error 9 0/0no")

	b.ask("g", "link 0 to 192.0.2.51 0:1024 g")
	b.remove(2)
	b.set(2, api.Link{Domains: []string{"c"}})
	b.gram(b.reply(alias("g", 9, "g.c")), "done 1 g error 12 0/0away") // no way leads there
}

// A name may be led to while others are tried, too: cut off, and by faults.
func TestFollowTries(t *testing.T) {
	b := setUp(t, to(one, two))
	b.load("options timeout:2 attempts:1", "", "dns")
	b.ask("a", "link 0 to 192.0.2.51 0:1024 a")
	b.gram(b.code(2), "link 0 to 192.0.2.52 0:1024 a")
	b.gram(b.cut(), "link 0 to 192.0.2.52 0:1024 a stream")
	b.gram(b.cut(alias("a", 9, "b")), "link 0 to 192.0.2.51 0:1024 b")
	b.gram(b.cut(), "link 0 to 192.0.2.51 0:1024 b stream")
	b.ticks(2, "link 0 to 192.0.2.52 0:1024 b")
	b.ticks(2, "done 1 a error 11 0/0late")
}

// lead: the questions for the names from one on are answered by the next name each.
func (b *bench) lead(from, to int) {
	b.Helper()
	for i := from; i < to; i++ {
		n, next := "n"+strconv.Itoa(i), "n"+strconv.Itoa(i+1)
		out := sent(b.last)
		b.gram(b.reply(alias(n, 9, next)), strings.Replace(out, " "+n, " "+next, 1))
	}
}

// Up to eight names, one behind the other.
func TestFollowFar(t *testing.T) {
	b := setUp(t, to(one), to(one))
	b.load("search x\noptions ndots:0", "", "dns dns")
	b.ask("n0.", "link 0 to 192.0.2.51 0:1024 n0")
	b.lead(0, 8)
	b.gram(b.reply(host("n8", 9, 1)), "done 1 n0 (n8=1@9) 0/0yes")
	b.Cache(0).Clear()

	// One more is as if nobody had answered: the next link is asked for the eighth name.
	b.ask("n0", "link 0 to 192.0.2.51 0:1024 n0")
	b.lead(0, 8)
	b.gram(b.reply(alias("n8", 9, "n9")), "link 1 to 192.0.2.51 0:1024 n8")
	b.gram(b.reply(alias("n8", 9, "n9")), "link 0 to 192.0.2.51 0:1024 n0.x")
	// They are counted for each candidate, and each source, anew.
	b.gram(b.reply(alias("n0.x", 9, "n1")), "link 0 to 192.0.2.51 0:1024 n1")
	b.lead(1, 8)
	b.gram(b.code(3), "link 1 to 192.0.2.51 0:1024 n8")
	b.gram(b.code(3), "link 0 to 192.0.2.51 0:1024 n0")
	b.lead(0, 8)
	b.gram(b.reply(alias("n8", 9, "n9")), "link 1 to 192.0.2.51 0:1024 n8")
	b.gram(b.reply(host("n8", 9, 2)), "done 1 n0 (n8=2@9) 0/0late 0/1no 1/0yes")
}

// Names that go round come to an end.
func TestFollowRound(t *testing.T) {
	b := setUp(t, to(one))
	b.load("", "", "dns")
	b.ask("a", "link 0 to 192.0.2.51 0:1024 a")
	for range 4 {
		b.gram(b.reply(alias("a", 9, "b")), "link 0 to 192.0.2.51 0:1024 b")
		b.gram(b.reply(alias("b", 9, "a")), "link 0 to 192.0.2.51 0:1024 a")
	}
	b.gram(b.reply(alias("a", 9, "b")), "done 1 a error 11 0/0late")

	// Those that one message tells count as one.
	var l []api.Record
	for i := range 8 {
		l = append(l, alias("n"+strconv.Itoa(i), 9, "n"+strconv.Itoa(i+1)))
	}
	b.ask("n0", "link 0 to 192.0.2.51 0:1024 n0")
	b.gram(b.reply(l...), "link 0 to 192.0.2.51 0:1024 n8")
	b.gram(b.reply(host("n8", 9, 1)), "done 1 n0 (n8=1@9) 0/0yes")
}

// A name that isn't as it goes out isn't asked for: the next link is.
func TestFollowWrong(t *testing.T) {
	b := setUp(t, to(one), to(two))
	b.load("", "", "dns")
	for _, n := range []string{"xn--a", "a.xn--99999", "xn--xn--a"} {
		b.ask("a", "link 0 to 192.0.2.51 0:1024 a")
		b.gram(b.reply(alias("a", 9, n)), "link 1 to 192.0.2.52 0:1024 a")
		b.gram(b.code(3), "done 1 a error 11 0/0late")
	}
	b.ask("a", "link 0 to 192.0.2.51 0:1024 a")
	b.gram(b.reply(alias("a", 9, "xn--bcher-kva")), "link 0 to 192.0.2.51 0:1024 xn--bcher-kva")
}

// What neighbours lead to is asked of neighbours; of a name with a point there are none.
func TestFollowNeighbours(t *testing.T) {
	l := to(one)
	l.LLMNR = true
	b := setUp(t, speaks(), l)
	b.load("", "", "llmnr")
	b.ask("a", "link 0 to all 0:1024 a")
	b.gram(b.reply(alias("a", 9, "b")), "link 0 to all 0:1024 b")
	b.ticks(5, "link 1 to all 0:1024 b")
	b.gram(b.reply(alias("b", 9, "a.c")), "done 1 a error 12 0/0away")
}

// Addresses stand in order, over all links' local addresses; the outcome tells them as they came.
func TestReplyOrder(t *testing.T) {
	at := func(s string) api.Record { return api.Record{Name: "a", Type: api.A, TTL: 9, Addr: parsed(t, s)} }
	l := []api.Record{at("198.51.100.1"), at("192.0.2.7"), at("198.51.100.2")}
	other := to(two)
	other.Domains = []string{"x"}
	b := setUp(t, to(one), other)
	b.load("", "198.51.100.1 f\n192.0.2.7 f", "files dns")
	b.ask("a", "link 0 to 192.0.2.51 0:1024 a")
	b.gram(b.reply(l...), "done 1 a (a=198.51.100.1@9 a=7@9 a=198.51.100.2@9) 0/0no 1/0yes")
	other.Locals = []api.Local{{Addr: v4(9)}}
	b.set(1, other)
	s := b.Do(api.Event{Kind: api.Ask, ID: 1, Name: "a", Type: api.A})
	if got := lines(s); !slices.Equal(got, []string{"done 1 a (a=7@9 a=198.51.100.1@9 a=198.51.100.2@9) 0/0no 1/0yes"}) {
		t.Errorf("by another link's local address: %v", got)
	}
	if got := s.Dones[0].Trace[1].Records; !slices.Equal(got, l) {
		t.Errorf("the source's outcome is %v", got)
	}
	b.ask("f", "done 1 f (f=7@0 f=198.51.100.1@0) 0/0yes")
	b.remove(1)
	b.ask("f", "done 1 f (f=198.51.100.1@0 f=7@0) 0/0yes")
}

// A lookup has the configuration, hosts, and order of its beginning.
func TestReload(t *testing.T) {
	b := setUp(t, to(one), speaks())
	b.load("search x\noptions timeout:2 attempts:2", "192.0.2.1 a.x", "dns files")
	b.ask("a", "link 0 to 192.0.2.51 0:1024 a.x")
	b.load("options timeout:9 attempts:1", "192.0.2.2 a", "llmnr")
	b.ticks(2, "link 0 to 192.0.2.51 0:1024 a.x")
	b.gram(b.code(3), "link 0 to 192.0.2.51 0:1024 a")
	b.ticks(2, "link 0 to 192.0.2.51 0:1024 a")
	b.ticks(2, "done 1 a.x (a.x=1@0) 0/0no 0/1late 1/0yes")
	b.ask("a", "link 1 to all 0:1024 a")
	b.ticks(9, "done 1 a error 9 0/0no")
}

// A text with an error changes nothing of all three.
func TestReloadErrors(t *testing.T) {
	b := setUp(t)
	b.load("search x", "192.0.2.1 a.x", "files")
	for _, c := range []struct {
		conf, order string
		want        string
	}{
		{"nis", "", "error 6"},
		{"search a..b", "", "error 1"},
		{"nameserver 1.2.3", "", "error 5"},
		{"search a b c d e f g", "", "error 2"},
		{"\nsearch xn--a\nnis", "", "error 3"},
		{"", "nis", "error 6"},
		{"", "dns dns dns dns dns", "error 2"},
		{"search a..b", "nis", "error 1"}, // the configuration's is the first
		{"nis", "dns dns dns dns dns", "error 6"},
	} {
		b.load(c.conf, "192.0.2.2 a", c.order, c.want)
		b.ask("a", "done 1 a.x (a.x=1@0) 0/0yes")
	}
	b.load("", "no line tells anything\n::1", "files")
	b.ask("a", "done 1 a error 9 0/0no")
}

func TestBound(t *testing.T) {
	for _, c := range []struct {
		timeout, attempts, sources, cands, want int
	}{
		{1, 1, 1, 1, 217},
		{5, 2, 3, 1, 6481},
		{30, 5, 4, 7, 907201},
		{2, 3, 1, 1, 1297},
		{1, 1, 0, 1, 1},
		{1, 1, 1, 0, 1},
		{0, 2, 3, 4, 1},
		{1, 1, 1, -1, -215},
	} {
		got := daemon.Bound(api.Conf{Timeout: c.timeout, Attempts: c.attempts}, make([]api.Source, c.sources), c.cands)
		if got != c.want {
			t.Errorf("Bound of %+v = %d", c, got)
		}
	}
	if got := daemon.Bound(conf.Default(), order.Default(), 2); got != 12961 {
		t.Errorf("Bound as empty texts tell, of two candidates = %d", got)
	}
	daemon.Bound(api.Conf{Timeout: -1 << 63, Attempts: 1<<63 - 1}, nil, -1<<63)
}

// The slowest lookup takes no longer: each try is cut off as late as it may be, the stream then fails, and the last one of each name leads on.
func TestSlowest(t *testing.T) {
	text, line := "search x\noptions timeout:3 attempts:2", "dns dns dns dns"
	l := to(one, two, three)
	b := setUp(t, l, l, l, l)
	b.load(text, "", line)
	const tries = 4 * 3 * 2 // of a name
	s := b.Do(api.Event{Kind: api.Ask, ID: 1, Name: "a", Type: api.A})
	names, streams, since := 0, 0, 0
	for len(s.Dones) == 0 {
		if len(s.Sends) > 0 {
			b.last, since = s.Sends[0], 0
			if b.last.Stream {
				streams++
			} else if n := b.reply().Question.Name; streams%tries == 0 && !strings.HasPrefix(n, "n") {
				names = 0
			}
		}
		m := b.cut()
		switch leads := streams > 0 && streams%tries == 0 && names < api.MaxChase; {
		case since == 2 && !b.last.Stream:
			s = b.Do(b.event(m))
			since = 0
		case since == 2 && leads:
			names++
			s = b.Do(b.event(b.reply(alias(m.Question.Name, 9, "n"+strconv.Itoa(names)))))
			since = 0
		default:
			s = b.Do(api.Event{Kind: api.Tick})
			since++
		}
	}
	c, err := conf.Parse(text)
	o, e := order.Parse(line)
	if err != nil || e != api.OK {
		t.Fatal(err, e)
	}
	// Each of its names has all of the tries, two times two ticks and one more each.
	if bound := daemon.Bound(c, o, 2); b.Now() > bound || b.Now() < bound*3/4 {
		t.Errorf("the slowest lookup took %d ticks, and Bound is %d", b.Now(), bound)
	}
}

// What is handed in isn't kept, and what is handed out isn't either.
func TestMemory(t *testing.T) {
	l := api.Link{Domains: []string{"."}, Servers: []api.Addr{one}, Locals: []api.Local{{Addr: v4(9)}}, LLMNR: true}
	b := setUp(t, l)
	b.load("", "192.0.2.1 box", "files [SUCCESS=continue] dns")
	l.Domains[0], l.Servers[0], l.Locals[0].Addr = "x", two, far
	b.ask("a", "link 0 to 192.0.2.51 0:1024 a")
	e := b.event(b.reply(host("a", 9, 1)))
	given := slices.Clone(e.Data)
	s := b.Do(e)
	if !slices.Equal(e.Data, given) {
		t.Error("Do changes a datagram")
	}
	clear(e.Data)
	d := s.Dones[0]
	if !slices.Equal(d.Records, []api.Record{host("a", 9, 1)}) || !slices.Equal(d.Trace[1].Records, d.Records) {
		t.Fatalf("the reply is %v", d)
	}
	d.Records[0].TTL = 77
	if d.Trace[1].Records[0].TTL != 9 {
		t.Error("a reply's records are those of its trace")
	}
	d.Trace[1].Records[0].TTL = 66
	b.ask("a", "done 1 a (a=1@9) 0/0no 1/0yes")
	s = b.Do(api.Event{Kind: api.Ask, ID: 1, Name: "box", Type: api.A})
	clear(s.Sends[0].Data)
	b.ticks(5, "link 0 to 192.0.2.51 0:1024 box")
	b.ticks(5, "done 1 box error 11 0/0yes 1/0late")
	b.do(neighbour(0, "me", api.A), "link 0 to 198.51.100.1 7:0 me reply (me=9@30)")
}

// Two daemons have nothing in common.
func TestTwoDaemons(t *testing.T) {
	b, other := setUp(t, to(one)), setUp(t)
	b.ask("a", "link 0 to 192.0.2.51 0:1024 a")
	b.ticks(1)
	other.ask("a", "done 1 a error 12 0/0no 1/0away 2/0away")
	if other.Now() != 0 || other.Looks() != 0 {
		t.Error("a daemon hangs on another one")
	}
}

// The same events have the same outcome.
func TestSameEvents(t *testing.T) {
	var first []api.Step
	for i := range 3 {
		d := daemon.New("me")
		var steps []api.Step
		for _, e := range []api.Event{
			{Kind: api.SetUp, Set: to(one, two)},
			{Kind: api.SetUp, Link: 1, Set: speaks(v4(9))},
			{Kind: api.Ask, ID: 1, Name: "a", Type: api.A, Draw: 7},
			{Kind: api.Ask, ID: 2, Name: addr.Print(one), Type: api.PTR, Draw: 8},
			{Kind: api.Tick}, {Kind: api.Tick}, {Kind: api.Tick}, {Kind: api.Tick}, {Kind: api.Tick, Draw: 9},
			{Kind: api.Remove, Draw: 10},
			neighbour(1, "me", api.A),
		} {
			steps = append(steps, d.Do(e))
		}
		if i == 0 {
			first = steps
		} else if !reflect.DeepEqual(steps, first) {
			t.Errorf("once more: %v, not %v", steps, first)
		}
	}
}
