package daemon_test

import (
	"math"
	"reflect"
	"strings"
	"testing"

	"nomenclator/addr"
	"nomenclator/api"
	"nomenclator/daemon"
	"nomenclator/llmnr"
	"nomenclator/msg"
)

// The document's ten examples of the whole.
func TestExamples(t *testing.T) {
	b := setUp(t, to(one), to(two))
	b.load("search corp\noptions timeout:2 attempts:2", "192.0.2.1 box", "files dns")

	b.ask("box", "done 1 box (box=1@0) 0/0no 0/1yes") // a name of the hosts text

	b.ask("a..b", "done 1 a..b error 1") // one that may not be

	b.ask("a", "link 0 to 192.0.2.51 0:1024 a.corp") // a.corp is asked first
	b.gram(b.code(3), "link 1 to 192.0.2.52 0:1024 a.corp")
	b.gram(b.code(3), "link 0 to 192.0.2.51 0:1024 a") // then a

	m := b.reply(host("a", 9, 7)) // an answer with another number: nothing
	m.ID++
	b.gram(m)

	b.gram(b.cut(), "link 0 to 192.0.2.51 0:1024 a stream") // cut off: by a stream

	b.gram(b.reply(alias("a", 5, "c")), "link 0 to 192.0.2.51 0:1024 c") // a CNAME without its address
	b.gram(b.reply(host("c", 9, 7)), "done 1 a (c=7@9) 0/0no 0/1no 1/0no 1/1yes")

	b.ask("c.", "done 1 c (c=7@9) 0/0no 1/0yes") // asked again while it counts

	b.ask("b.", "link 0 to 192.0.2.51 0:1024 b")
	b.remove(0, "link 1 to 192.0.2.52 0:1024 b")   // a link goes: on the next one
	b.remove(1, "done 1 b error 12 0/0no 1/0away") // or ErrLink

	b.set(0, to(one))
	b.ask("b.", "link 0 to 192.0.2.51 0:1024 b") // nobody answers
	b.ticks(2, "link 0 to 192.0.2.51 0:1024 b")
	b.ticks(2, "done 1 b error 11 0/0no 1/0late")

	for range 8 { // a ninth lookup
		b.ask("x.", "link 0 to 192.0.2.51 0:1024 x")
	}
	b.ask("X.", "done 1 X. error 7")
	if b.Looks() != 8 {
		t.Errorf("%d lookups are on their way", b.Looks())
	}
}

// As empty texts tell: no hosts, no search domains, Dots 1, Timeout 5, Attempts 2, files dns llmnr.
func TestNew(t *testing.T) {
	b := setUp(t)
	if b.Now() != 0 || b.Looks() != 0 || b.Busy() != 0 {
		t.Errorf("at first: %d, %d, %d", b.Now(), b.Looks(), b.Busy())
	}
	for i := range api.MaxLinks {
		if _, ok := b.Get(i); ok {
			t.Errorf("link %d lives at first", i)
		}
	}
	b.ask("a", "done 1 a error 12 0/0no 1/0away 2/0away")
	l := to(one)
	l.LLMNR = true
	b.set(0, l)
	b.ask("a", "link 0 to 192.0.2.51 0:1024 a")
	b.ticks(5, "link 0 to 192.0.2.51 0:1024 a")
	b.ticks(5, "link 0 to all 0:1024 a")
	b.ticks(5, "done 1 a error 9 0/0no 1/0late 2/0no")
	if b.Now() != 15 || b.Looks() != 0 || b.Busy() != 0 {
		t.Errorf("at last: %d, %d, %d", b.Now(), b.Looks(), b.Busy())
	}
}

// A host's own name, by what it answers neighbours.
func TestOwn(t *testing.T) {
	for _, c := range []struct{ own, asked, want string }{
		{"me", "me", "me"},
		{"Me", "me", "me"},
		{"me.", "me", "me"},
		{"bücher", "xn--bcher-kva", "xn--bcher-kva"},
		{"_x", "_x", "_x"},
		{"me", "you", ""},
		{"me", "me.corp", ""},
		{"me.corp", "me.corp", ""},
		{"me.corp", "me", ""},
		{"", "me", ""},
		{".", "me", ""},
		{"-me", "me", ""},
		{"m e", "me", ""},
		{"xn--a", "xn--a", ""},
		{strings.Repeat("m", 63), strings.Repeat("m", 63), strings.Repeat("m", 63)},
		{strings.Repeat("m", 64), "me", ""},
	} {
		b := &bench{T: t, Daemon: daemon.New(c.own)}
		b.set(0, speaks(v4(9)))
		var want []string
		if c.want != "" {
			want = []string{"link 0 to 198.51.100.1 7:0 " + c.want + " reply (" + c.want + "=9@30)"}
		}
		b.do(neighbour(0, c.asked, api.A), want...)
	}
}

// neighbour: a neighbour's question comes on a link.
func neighbour(i int, n string, kind int) api.Event {
	m := api.Message{ID: 7, Question: api.Question{Name: n, Type: kind}}
	return api.Event{Kind: api.Gram, Link: i, From: far, Port: llmnr.Port, Data: msg.Encode(m)}
}

func TestNeighbours(t *testing.T) {
	six := parsed(t, "2001:db8::9")
	b := setUp(t, speaks(v4(9), six, v4(8)), speaks(v4(7)), to(one))
	b.do(neighbour(0, "me", api.A), "link 0 to 198.51.100.1 7:0 me reply (me=9@30 me=8@30)") // the link's own ones alone
	b.do(neighbour(0, "me", api.AAAA), "link 0 to 198.51.100.1 7:0 me type 28 reply (me=2001:db8::9@30)")
	b.do(neighbour(0, "me", api.TXT), "link 0 to 198.51.100.1 7:0 me type 16 reply ()")
	b.do(neighbour(1, "me", api.A), "link 1 to 198.51.100.1 7:0 me reply (me=7@30)")
	b.do(neighbour(2, "me", api.A)) // a link that doesn't speak it
	b.do(neighbour(0, "you", api.A))
	b.do(neighbour(3, "me", api.A), "error 12")

	for draw, port := range map[int]string{0: "0", 1: "1", 65535: "65535", 65536: "0", 0x12345: "9029", -1: "65535", -65536: "0", math.MinInt: "0", math.MaxInt: "65535"} {
		e := neighbour(1, "me", api.A)
		e.Draw = draw
		b.do(e, "link 1 to 198.51.100.1 7:"+port+" me reply (me=7@30)")
	}
	for _, port := range []int{5354, 5356, 53, 0, -1, 1024, 5355 + 65536} {
		e := neighbour(1, "me", api.A)
		e.Port = port
		b.do(e)
	}
	for _, data := range [][]byte{nil, {}, []byte("me"), msg.Encode(api.Message{ID: 7, Reply: true, Question: api.Question{Name: "me", Type: api.A}})} {
		e := neighbour(1, "me", api.A)
		e.Data = data
		b.do(e)
	}
	if b.Looks() != 0 {
		t.Error("a neighbour's question is a lookup")
	}
}

// An answer that comes to the neighbours' port is the lookup's: it drew that port.
func TestAnswerOnTheNeighboursPort(t *testing.T) {
	l := speaks(v4(9))
	l.Domains, l.Servers = []string{"."}, []api.Addr{one}
	b := setUp(t, l)
	b.load("", "", "dns")
	b.do(api.Event{Kind: api.Ask, ID: 1, Name: "me", Type: api.A, Draw: (5355-1024)<<16 | 7}, "link 0 to 192.0.2.51 7:5355 me")
	answer := b.event(b.reply(host("me", 5, 1)))
	b.do(neighbour(0, "me", api.A), "link 0 to 198.51.100.1 7:0 me reply (me=9@30)")
	b.do(answer, "done 1 me (me=1@5) 0/0yes")
	b.do(answer) // a reply is no question
}

func TestAskErrors(t *testing.T) {
	b := setUp(t, to(one))
	long := strings.Repeat("x", 64)
	for _, c := range []struct {
		name string
		kind int
		want string
	}{
		{"", 1, "done 1  error 1"},
		{".", 1, "done 1 . error 1"},
		{"A..b", 1, "done 1 A..b error 1"},
		{"-a", 1, "done 1 -a error 1"},
		{"a b", 1, "done 1 a b error 1"},
		{"\xff", 1, "done 1 \xff error 1"},
		{long, 1, "done 1 " + long + " error 1"},
		{"xn--a", 1, "done 1 xn--a error 3"},
		{strings.Repeat("a.", 128) + "a", 1, "done 1 " + strings.Repeat("a.", 128) + "a error 2"},
		{"a", 0, "done 1 a error 13"},
		{"A.", -1, "done 1 A. error 13"},
		{"a", 65536, "done 1 a error 13"},
		{"a", 65537, "done 1 a error 13"},
		{"a", math.MinInt, "done 1 a error 13"},
		{"a..b", 0, "done 1 a..b error 1"}, // the name's is named first
	} {
		b.do(api.Event{Kind: api.Ask, ID: 1, Name: c.name, Type: c.kind}, c.want)
	}
	for i := range api.MaxLookups {
		b.ask("a", "link 0 to 192.0.2.51 0:1024 a")
		if b.Looks() != i+1 {
			t.Errorf("%d lookups are on their way, not %d", b.Looks(), i+1)
		}
	}
	b.ask("A", "done 1 A error 7")
	b.do(api.Event{Kind: api.Ask, ID: 1, Name: "A", Type: 0}, "done 1 A error 13") // each of them ahead of ErrBusy
	b.do(api.Event{Kind: api.Ask, ID: 1, Name: "-A", Type: 1}, "done 1 -A error 1")
	b.load("", "192.0.2.1 box", "files")
	b.ask("box", "done 1 box error 7") // not even one that needn't wait
	b.load("", "", "")
	b.gram(b.reply(host("a", 9, 1)), "done 1 a (a=1@9) 0/0no 1/0yes")
	b.ask("b", "link 0 to 192.0.2.51 0:1024 b") // now there is room for one
	b.ask("b", "done 1 b error 7")
}

func TestAskTypes(t *testing.T) {
	b := setUp(t, to(one))
	b.do(api.Event{Kind: api.Ask, ID: -5, Name: "a", Type: 65535}, "link 0 to 192.0.2.51 0:1024 a type 65535")
	b.gram(b.reply(api.Record{Name: "a", Type: 65535, TTL: 3, Data: "x"}), "done -5 a (a=x@3) 0/0no 1/0yes")
	b.do(api.Event{Kind: api.Ask, ID: 1 << 40, Name: "a", Type: api.CNAME}, "link 0 to 192.0.2.51 0:1024 a type 5")
	b.gram(b.reply(alias("a", 4, "b")), "done 1099511627776 a (a=b@4) 0/0no 1/0yes")
}

// Names of an address are asked for by its Reverse, without search domains.
func TestAskAddress(t *testing.T) {
	b := setUp(t, to(one))
	b.load("search corp\noptions ndots:9", "192.0.2.1 box www\n2001:db8::1 six", "files dns")
	ptr := func(n string) api.Event { return api.Event{Kind: api.Ask, ID: 1, Name: n, Type: api.PTR} }
	back := addr.Reverse(parsed(t, "2001:db8::1"))
	b.do(ptr("192.0.2.1"), "done 1 1.2.0.192.in-addr.arpa (1.2.0.192.in-addr.arpa=box@0) 0/0yes")
	b.do(ptr("2001:db8::1"), "done 1 "+back+" ("+back+"=six@0) 0/0yes")
	b.do(ptr("192.0.2.2"), "link 0 to 192.0.2.51 0:1024 2.2.0.192.in-addr.arpa type 12")
	b.gram(b.code(3), "done 1 2.2.0.192.in-addr.arpa error 9 0/0no 1/0no")
	// What isn't an address's text, or isn't asked by PTR, is a name like others.
	b.do(ptr("192.0.2.01"), "link 0 to 192.0.2.51 0:1024 192.0.2.01.corp type 12")
	b.ask("192.0.2.1", "link 0 to 192.0.2.51 0:1024 192.0.2.1.corp")
	b.ask("2001:db8::1", "done 1 2001:db8::1 error 1")
	b.do(ptr("1.2.0.192.in-addr.arpa"), "done 1 1.2.0.192.in-addr.arpa (1.2.0.192.in-addr.arpa=box@0) 0/0no 0/1yes")
	b.do(ptr("1.2.0.192.in-addr.arpa."), "done 1 1.2.0.192.in-addr.arpa (1.2.0.192.in-addr.arpa=box@0) 0/0yes")
}

func TestFiles(t *testing.T) {
	b := setUp(t)
	b.load("", "192.0.2.1 box www\n192.0.2.2 box\n::1 six", "files")
	b.ask("Box", "done 1 box (box=1@0 box=2@0) 0/0yes")
	b.ask("www.", "done 1 www (www=1@0) 0/0yes")
	b.ask("six", "done 1 six error 10 0/0empty")
	b.ask("none", "done 1 none error 9 0/0no")
	b.do(api.Event{Kind: api.Ask, ID: 2, Name: "six", Type: api.AAAA}, "done 2 six (six=::1@0) 0/0yes")
	b.load("", "", "files [NOTFOUND=return] dns")
	b.ask("box", "done 1 box error 9 0/0no")
	b.load("", "192.0.2.1 box", "files [NOTFOUND=return] dns")
	b.do(api.Event{Kind: api.Ask, ID: 2, Name: "box", Type: api.AAAA}, "done 2 box error 10 0/0empty") // counts as NOTFOUND
}

// The candidates of each source, in order, up to the first Success; the reply's name is the one that has records, or else the first.
func TestCandidates(t *testing.T) {
	b := setUp(t, to(one))
	b.load("search corp net\noptions ndots:1", "192.0.2.1 a.net", "files dns")
	b.ask("A", "done 1 a.net (a.net=1@0) 0/0no 0/1yes")
	b.ask("b", "link 0 to 192.0.2.51 0:1024 b.corp")
	b.gram(b.code(3), "link 0 to 192.0.2.51 0:1024 b.net")
	b.gram(b.reply(), "link 0 to 192.0.2.51 0:1024 b")
	b.gram(b.code(3), "done 1 b.corp error 10 0/0no 0/1no 0/2no 1/0no 1/1empty 1/2no")
	b.ask("b.c", "link 0 to 192.0.2.51 0:1024 b.c")
	b.gram(b.code(3), "link 0 to 192.0.2.51 0:1024 b.c.corp")
	b.gram(b.reply(host("b.c.corp", 7, 3)), "done 1 b.c.corp (b.c.corp=3@7) 0/0no 0/1no 0/2no 1/0no 1/1yes")
	b.ask("b.c.", "link 0 to 192.0.2.51 0:1024 b.c")
	b.gram(b.code(3), "done 1 b.c error 9 0/0no 1/0no")
}

// Sources end the lookup by their actions; what it came to is the last one's outcome.
func TestOrder(t *testing.T) {
	l := to(one)
	l.LLMNR = true
	for _, c := range []struct {
		line string
		want [][]string // what the Ask does, and then answers that there is no such name
	}{
		{"dns", [][]string{{"link 0 to 192.0.2.51 0:1024 a"}, {"done 1 a error 9 0/0no"}}},
		{"dns files", [][]string{{"link 0 to 192.0.2.51 0:1024 a"}, {"done 1 a (a=1@0) 0/0no 1/0yes"}}},
		{"dns [NOTFOUND=return] files", [][]string{{"link 0 to 192.0.2.51 0:1024 a"}, {"done 1 a error 9 0/0no"}}},
		{"files dns", [][]string{{"done 1 a (a=1@0) 0/0yes"}}},
		{"files [SUCCESS=continue] dns", [][]string{{"link 0 to 192.0.2.51 0:1024 a"}, {"done 1 a error 9 0/0yes 1/0no"}}},
		{"llmnr dns", [][]string{{"link 0 to all 0:1024 a"}, {"link 0 to 192.0.2.51 0:1024 a"}, {"done 1 a error 9 0/0no 1/0no"}}},
		{"dns dns", [][]string{{"link 0 to 192.0.2.51 0:1024 a"}, {"link 0 to 192.0.2.51 0:1024 a"}, {"done 1 a error 9 0/0no 1/0no"}}},
	} {
		b := setUp(t, l)
		b.load("", "192.0.2.1 a", c.line)
		b.ask("a", c.want[0]...)
		for _, want := range c.want[1:] {
			b.gram(b.code(3), want...)
		}
		if b.Looks() != 0 {
			t.Errorf("%s: there are more questions", c.line)
		}
	}
}

// All links of Route are asked, one behind the other, up to a Success; of the others the one that tells most.
func TestLinks(t *testing.T) {
	for _, c := range []struct {
		codes []int // -1: an address; -2: no link; -3: nobody answers
		want  string
	}{
		{[]int{-1}, "(a=1@9) 0/0yes"},
		{[]int{3, -1}, "(a=1@9) 0/0yes"},
		{[]int{3, 3, 3, -1}, "(a=1@9) 0/0yes"},
		{[]int{-3, 3, -1}, "(a=1@9) 0/0yes"},
		{[]int{3, 3, 3, 3}, "error 9 0/0no"},
		{[]int{3, 0, 3, 3}, "error 10 0/0empty"},
		{[]int{3, 0, -3, 3}, "error 11 0/0late"},
		{[]int{-3, 0, 3, 3}, "error 11 0/0late"},
		{[]int{-2, 3, -2, -2}, "error 9 0/0no"},
		{[]int{-2, -2, -2, -2}, "error 12 0/0away"},
		{[]int{2, 3, 0, 5}, "error 11 0/0late"},
	} {
		b := setUp(t, to(one), to(one), to(one), to(one))
		b.load("options timeout:1 attempts:1", "", "dns")
		b.ask("a", "link 0 to 192.0.2.51 0:1024 a")
		for i, code := range c.codes {
			want := "done 1 a " + c.want
			if i < len(c.codes)-1 {
				want = "link " + string(rune('1'+i)) + " to 192.0.2.51 0:1024 a"
			}
			switch code {
			case -1:
				b.gram(b.reply(host("a", 9, 1)), want)
			case -2:
				b.remove(i, want)
			case -3:
				b.ticks(1, want)
			default:
				b.gram(b.code(code), want)
			}
		}
	}
}

// The links of the longest domain alone; and of a name without any those that are default.
func TestRoute(t *testing.T) {
	l := to(three)
	l.Domains, l.Default = nil, true
	b := setUp(t, forDomains(one, "corp", "a.net"), forDomains(two, "b.corp", "net"), l)
	b.load("", "", "dns")
	for n, want := range map[string]string{
		"x.corp.": "link 0 to 192.0.2.51", "b.corp.": "link 1 to 192.0.2.52", "x.b.corp.": "link 1 to 192.0.2.52",
		"a.net.": "link 0 to 192.0.2.51", "b.net.": "link 1 to 192.0.2.52", "a.org.": "link 2 to 192.0.2.53",
	} {
		b.do(api.Event{Kind: api.Ask, ID: 1, Name: n, Type: api.A}, want+" 0:1024 "+strings.TrimSuffix(n, "."))
	}
	b.set(3, api.Link{Domains: []string{"x.corp"}}) // without servers
	b.ask("x.corp.", "done 1 x.corp error 12 0/0away")
}

// So many times, each server, one behind the other, each for Timeout ticks.
func TestTries(t *testing.T) {
	b := setUp(t, to(one, two, one))
	b.load("options timeout:3 attempts:2", "", "dns")
	b.ask("a", "link 0 to 192.0.2.51 0:1024 a")
	b.ticks(3, "link 0 to 192.0.2.52 0:1024 a")
	b.ticks(3, "link 0 to 192.0.2.51 0:1024 a")
	b.ticks(3, "link 0 to 192.0.2.51 0:1024 a")
	b.ticks(3, "link 0 to 192.0.2.52 0:1024 a")
	b.ticks(3, "link 0 to 192.0.2.51 0:1024 a")
	b.ticks(3, "done 1 a error 11 0/0late")
	if b.Now() != 18 {
		t.Errorf("the time is %d", b.Now())
	}
}

// An answer that tells of a fault is as none: the next server at once.
func TestFaultyAnswers(t *testing.T) {
	b := setUp(t, to(one, two))
	b.load("options timeout:9 attempts:2", "", "dns")
	b.ask("a", "link 0 to 192.0.2.51 0:1024 a")
	b.gram(b.code(2), "link 0 to 192.0.2.52 0:1024 a")
	b.ticks(8)
	b.gram(b.code(5), "link 0 to 192.0.2.51 0:1024 a")
	b.ticks(9, "link 0 to 192.0.2.52 0:1024 a") // it waits all of its time again
	b.gram(b.code(1), "done 1 a error 11 0/0late")
	b.ask("a", "link 0 to 192.0.2.51 0:1024 a") // nor is it kept
	b.gram(b.code(4), "link 0 to 192.0.2.52 0:1024 a")
	m := b.reply(host("a", 5, 1))
	m.Code = 2
	b.gram(m, "link 0 to 192.0.2.51 0:1024 a")
	b.gram(b.reply(host("a", 5, 1)), "done 1 a (a=1@5) 0/0yes")
}

// The event's Draw, and 65537 more for each question that goes out in it.
func TestDraws(t *testing.T) {
	b := setUp(t, to(one), to(two))
	b.load("options timeout:2 attempts:1", "", "dns")
	ask := func(n string, draw int, want string) {
		b.do(api.Event{Kind: api.Ask, ID: 1, Name: n, Type: api.A, Draw: draw}, want)
	}
	ask("a", 0x30007, "link 0 to 192.0.2.51 7:1027 a")
	ask("b", -1, "link 0 to 192.0.2.51 65535:5119 b") // without a sign
	ask("c", 0xffff, "link 0 to 192.0.2.51 65535:1024 c")
	ask("d", math.MaxInt, "link 0 to 192.0.2.51 65535:3071 d")
	b.ticks(1)
	b.do(api.Event{Kind: api.Tick, Draw: 0x1ffff},
		"link 1 to 192.0.2.52 65535:1025 a", "link 1 to 192.0.2.52 0:1027 b", "link 1 to 192.0.2.52 1:1028 c", "link 1 to 192.0.2.52 2:1029 d")
	b.do(api.Event{Kind: api.Remove, Link: 1, Draw: 5}, "done 1 a error 11 0/0late", "done 1 b error 11 0/0late", "done 1 c error 11 0/0late", "done 1 d error 11 0/0late")
	ask("a", 6, "link 0 to 192.0.2.51 6:1024 a")
	e := b.event(b.code(2))
	b.set(1, to(two))
	e.Draw = 0x50004
	b.do(e, "done 1 a error 11 0/0late") // a link that wasn't there when it was asked for isn't asked
	ask("a", 6, "link 0 to 192.0.2.51 6:1024 a")
	e.Draw = 0x50004
	b.do(e, "link 1 to 192.0.2.52 4:1029 a")
	b.do(api.Event{Kind: api.SetUp, Link: 1, Set: to(two), Draw: 1}, "done 1 a error 11 0/0late")
}

// Draws of one event are counted over all of its lookups, whatever ended between.
func TestDrawsOfManyLookups(t *testing.T) {
	b := setUp(t, to(one))
	b.load("search b c d\noptions timeout:1 attempts:1", "", "dns")
	for i := range 3 {
		b.do(api.Event{Kind: api.Ask, ID: i, Name: "a", Type: api.A, Draw: 9}, "link 0 to 192.0.2.51 9:1024 a.b")
	}
	b.do(api.Event{Kind: api.SetUp, Link: 0, Set: to(two), Draw: 0x10002},
		"link 0 to 192.0.2.52 2:1025 a.c", "link 0 to 192.0.2.52 3:1026 a.c", "link 0 to 192.0.2.52 4:1027 a.c")
	b.ticks(1, "link 0 to 192.0.2.52 0:1024 a.d", "link 0 to 192.0.2.52 1:1025 a.d", "link 0 to 192.0.2.52 2:1026 a.d")
}

// Those whose time is over go on in the order in which they began, whenever they sent.
func TestTickOrder(t *testing.T) {
	b := setUp(t, to(one, two))
	b.load("options timeout:3 attempts:1", "", "dns")
	b.do(api.Event{Kind: api.Ask, ID: 1, Name: "a", Type: api.A}, "link 0 to 192.0.2.51 0:1024 a")
	first := b.last
	b.do(api.Event{Kind: api.Ask, ID: 2, Name: "b", Type: api.A}, "link 0 to 192.0.2.51 0:1024 b")
	b.ticks(1)
	b.do(api.Event{Kind: api.Ask, ID: 3, Name: "c", Type: api.A}, "link 0 to 192.0.2.51 0:1024 c")
	b.last = first
	b.gram(b.code(2), "link 0 to 192.0.2.52 0:1024 a") // it waits from now on
	b.ticks(2, "link 0 to 192.0.2.52 0:1024 b")
	b.ticks(1, "link 0 to 192.0.2.52 0:1024 c", "done 1 a error 11 0/0late")
	b.ticks(2, "done 2 b error 11 0/0late")
	b.ticks(1, "done 3 c error 11 0/0late")
}

// What comes otherwise than its answer changes nothing.
func TestOtherGrams(t *testing.T) {
	b := setUp(t, to(one, two), to(one))
	b.load("", "", "dns")
	b.do(api.Event{Kind: api.Ask, ID: 1, Name: "a", Type: api.A, Draw: 0x20005}, "link 0 to 192.0.2.51 5:1026 a")
	good := b.event(b.reply(host("a", 9, 1)))
	b.ticks(4)
	for what, change := range map[string]func(e *api.Event, m *api.Message){
		"another link":                func(e *api.Event, m *api.Message) { e.Link = 1 },
		"another server of the link":  func(e *api.Event, m *api.Message) { e.From = two },
		"another one":                 func(e *api.Event, m *api.Message) { e.From = far },
		"another port":                func(e *api.Event, m *api.Message) { e.Port++ },
		"port 53":                     func(e *api.Event, m *api.Message) { e.Port = 53 },
		"another number":              func(e *api.Event, m *api.Message) { m.ID-- },
		"a question":                  func(e *api.Event, m *api.Message) { m.Reply = false },
		"another name's answer":       func(e *api.Event, m *api.Message) { m.Question.Name = "b" },
		"another type's answer":       func(e *api.Event, m *api.Message) { m.Question.Type = api.AAAA },
		"a cut one of another number": func(e *api.Event, m *api.Message) { m.ID, m.Truncated = 0, true },
	} {
		m := b.reply(host("a", 9, 1))
		e := good
		change(&e, &m)
		e.Data = msg.Encode(m)
		if s := b.Do(e); !reflect.DeepEqual(s, api.Step{}) {
			t.Errorf("%s: %v", what, lines(s))
		}
	}
	for _, data := range [][]byte{nil, {0}, good.Data[:len(good.Data)-1], good.Data[1:]} {
		e := good
		e.Data = data
		b.do(e)
	}
	for _, i := range []int{2, 3, 4, -1, math.MaxInt, math.MinInt} {
		e := good
		e.Link = i
		b.do(e, "error 12")
	}
	if b.Cache(0).Len()+b.Cache(1).Len() > 0 {
		t.Error("a cache keeps what answers no question")
	}
	b.do(good, "done 1 a (a=1@9) 0/0yes")
	b.do(good) // nobody waits for it any more
}

// An answer from behind the time, of a try that is over, is none.
func TestLateAnswer(t *testing.T) {
	b := setUp(t, to(one))
	b.load("options timeout:2 attempts:2", "", "dns")
	b.do(api.Event{Kind: api.Ask, ID: 1, Name: "a", Type: api.A, Draw: 5}, "link 0 to 192.0.2.51 5:1024 a")
	e := b.event(b.reply(host("a", 9, 1)))
	b.ticks(2, "link 0 to 192.0.2.51 0:1024 a")
	b.do(e)
	b.gram(b.reply(host("a", 9, 2)), "done 1 a (a=2@9) 0/0yes")
}

// Of several lookups with one question, the first one takes the answer; the others wait on.
func TestFirstLookup(t *testing.T) {
	b := setUp(t, to(one))
	b.load("options timeout:2 attempts:1", "", "dns")
	for i := range 3 {
		b.do(api.Event{Kind: api.Ask, ID: i, Name: "a", Type: api.A, Draw: 5}, "link 0 to 192.0.2.51 5:1024 a")
	}
	e := b.event(b.reply(host("a", 9, 1)))
	b.do(e, "done 0 a (a=1@9) 0/0yes")
	if b.Looks() != 2 || b.Busy() != 2 {
		t.Errorf("%d, %d", b.Looks(), b.Busy())
	}
	b.do(e, "done 1 a (a=1@9) 0/0yes")
	b.ticks(2, "done 2 a error 11 0/0late")
}

// An answer that is cut off: the same question, to the same server, by a stream, by a new number and port, for all of its time.
func TestStream(t *testing.T) {
	b := setUp(t, to(one, two), to(three))
	b.load("options timeout:2 attempts:1", "", "dns")
	cut := func(m api.Message, want ...string) {
		e := b.event(m)
		e.Draw = 0x10006
		b.do(e, want...)
	}
	b.ask("a", "link 0 to 192.0.2.51 0:1024 a")
	b.ticks(1)
	cut(b.cut(host("a", 9, 1)), "link 0 to 192.0.2.51 6:1025 a stream")
	b.ticks(1)
	b.gram(b.cut(host("a", 9, 1)), "done 1 a (a=1@9) 0/0yes") // cut off once more: as it is

	b.ask("b", "link 0 to 192.0.2.51 0:1024 b")
	cut(b.cut(), "link 0 to 192.0.2.51 6:1025 b stream")
	b.ticks(2, "link 0 to 192.0.2.52 0:1024 b") // nobody answers: the next server, not by a stream
	m := b.cut()
	m.Code = 2
	cut(m, "link 0 to 192.0.2.52 6:1025 b stream") // cut off stands ahead of what it says
	b.gram(b.code(2), "link 1 to 192.0.2.53 0:1024 b")
	m = b.cut()
	m.Code = 3
	cut(m, "link 1 to 192.0.2.53 6:1025 b stream")
	m = b.cut()
	m.Code = 3
	b.gram(m, "done 1 b error 11 0/0late")

	b.ask("c", "link 0 to 192.0.2.51 0:1024 c")
	b.set(2, api.Link{Domains: []string{"c"}})
	cut(b.cut(), "done 1 c error 12 0/0away") // ahead of that it is looked whether there is a way yet
}

// Neighbours' answers are never asked for by a stream.
func TestNeighboursCut(t *testing.T) {
	b := setUp(t, speaks())
	b.load("", "", "llmnr")
	b.ask("a", "link 0 to all 0:1024 a")
	b.gram(b.cut(host("a", 9, 1)), "done 1 a (a=1@9) 0/0yes")
	b.ask("b", "link 0 to all 0:1024 b")
	b.gram(b.cut(), "done 1 b error 10 0/0empty")
}

func TestAskNeighbours(t *testing.T) {
	b := setUp(t, speaks(), to(one), speaks())
	b.load("search corp\noptions timeout:3 attempts:5", "", "llmnr")
	b.ask("a.", "link 0 to all 0:1024 a")
	b.ticks(3, "link 2 to all 0:1024 a") // once, however many attempts there are
	b.ticks(3, "done 1 a error 9 0/0no")
	b.ask("a", "link 0 to all 0:1024 a") // a.corp has a point
	b.gram(b.code(2), "link 2 to all 0:1024 a")
	b.last.To = far // anybody answers
	b.gram(b.reply(host("a", 9, 1)), "done 1 a (a=1@9) 0/0away 0/1yes")
	b.ask("a", "link 0 to all 0:1024 a") // it was kept by the link that it came on alone
	b.gram(b.code(3), "done 1 a (a=1@9) 0/0away 0/1yes")
}
