package script_test

// The chapter's words once more, the other way round: each item says which bytes of the event it is made of, whether they
// are there or not. And events as bytes, of which Decode must tell these events.

import (
	"math/big"
	"math/rand/v2"
	"reflect"
	"testing"

	"nomenclator/addr"
	"nomenclator/api"
	"nomenclator/daemon"
	"nomenclator/msg"
	"nomenclator/script"
)

var draws = rand.New(rand.NewPCG(18, 1))

func some[T any](l ...T) T { return l[draws.IntN(len(l))] }

// A tape has places without end; at the first few of them there is a byte.
type tape struct {
	b  []byte
	at int
}

// there: is there a byte at a place?
func (p *tape) there(at int) bool { return at < len(p.b) }

// slot: the bytes that are there of the next n places.
func (p *tape) slot(n int) []byte {
	var l []byte
	for at := p.at; at < p.at+n; at++ {
		if p.there(at) {
			l = append(l, p.b[at])
		}
	}
	p.at += n
	return l
}

func (p *tape) number(n int) int { return int(new(big.Int).SetBytes(p.slot(n)).Int64()) }

func (p *tape) text() string {
	n := p.number(1)
	return string(p.slot(n))
}

func (p *tape) addr() api.Addr { return api.Addr(append(p.slot(16), make([]byte, 16)...)[:16]) }

// bit, and two bits, of a byte.
func bit(x, i int) bool { return x/(1<<i)%2 == 1 }
func pair(x, i int) int { return x / (1 << i) % 4 }

// again: Decode, said again.
func again(b []byte) []api.Event {
	var all []api.Event
	for p := (&tape{b: b}); p.there(p.at); {
		first := p.number(1)
		e := api.Event{Kind: first % 8, Link: first / 8 % 8, Draw: first / 64}
		switch e.Kind {
		case 1:
			e.ID, e.Type, e.Draw, e.Name = p.number(1), p.number(2), p.number(4), p.text()
		case 2:
			e.From, e.Port, e.Draw = p.addr(), p.number(2), p.number(4)
			n := p.number(2)
			e.Data = p.slot(n)
		case 3:
			e.Set = setAgain(p)
		case 6:
			e.Conf, e.Hosts, e.Order = p.text(), p.text(), p.text()
		}
		all = append(all, e)
	}
	return all
}

func setAgain(p *tape) api.Link {
	x := p.number(1)
	l := api.Link{Default: bit(x, 0), LLMNR: bit(x, 1)}
	for range pair(x, 2) {
		if there, s := p.there(p.at), p.text(); there {
			l.Domains = append(l.Domains, s)
		}
	}
	for range pair(x, 4) {
		if there, a := p.there(p.at), p.addr(); there {
			l.Servers = append(l.Servers, a)
		}
	}
	for range pair(x, 6) {
		if there, a := p.there(p.at), p.addr(); there {
			l.Locals = append(l.Locals, api.Local{Addr: a})
		}
	}
	return l
}

func same(t testing.TB, what string, b []byte) []api.Event {
	t.Helper()
	want := again(b)
	check(t, what, b, want...)
	return want
}

// All lists of up to two bytes, and of three and more of some bytes.
func TestAllShort(t *testing.T) {
	for x := range 256 {
		same(t, "one byte", list(x))
		for y := range 256 {
			same(t, "two bytes", list(x, y))
		}
	}
	few := []int{0, 1, 2, 3, 6, 7, 0x41, 0x82, 0xdb, 255}
	for n := 3; n <= 6; n++ {
		for i := range pow(len(few), n) {
			b := make([]byte, 0, n)
			for ; len(b) < n; i /= len(few) {
				b = append(b, byte(few[i%len(few)]))
			}
			if n > 5 && b[0]&7 != 3 && b[0]&7 != 6 {
				continue
			}
			same(t, "few bytes", b)
		}
	}
}

func pow(x, n int) int {
	y := 1
	for range n {
		y *= x
	}
	return y
}

// Any drawn bytes; small numbers more often, so that texts end.
func TestDrawnBytes(t *testing.T) {
	var kinds [8]int
	for range 60000 {
		b := make([]byte, draws.IntN(some(8, 40, 400)))
		most := some(4, 8, 64, 256)
		for i := range b {
			b[i] = byte(draws.IntN(most))
		}
		for _, e := range same(t, "drawn bytes", b) {
			kinds[e.Kind]++
		}
	}
	for k, n := range kinds {
		if n < 10000 {
			t.Errorf("the bytes test kind %d too little: %d", k, n)
		}
	}
}

// An event as bytes.
func encode(e api.Event) []byte {
	first := e.Kind | e.Link<<3
	switch e.Kind {
	case api.Ask:
		return list(first|some(0, 1, 2, 3)<<6, e.ID, e.Type>>8, e.Type, e.Draw>>24, e.Draw>>16, e.Draw>>8, e.Draw, text(e.Name))
	case api.Gram:
		n := len(e.Data)
		return list(first|some(0, 1, 2, 3)<<6, e.From, e.Port>>8, e.Port, e.Draw>>24, e.Draw>>16, e.Draw>>8, e.Draw, n>>8, n, e.Data)
	case api.SetUp:
		s := e.Set
		bits := len(s.Domains)<<2 | len(s.Servers)<<4 | len(s.Locals)<<6
		if s.Default {
			bits |= 1
		}
		if s.LLMNR {
			bits |= 2
		}
		b := list(first|e.Draw<<6, bits)
		for _, d := range s.Domains {
			b = append(b, text(d)...)
		}
		for _, a := range s.Servers {
			b = append(b, a[:]...)
		}
		for _, l := range s.Locals {
			b = append(b, l.Addr[:]...)
		}
		return b
	case api.Reload:
		return list(first|e.Draw<<6, text(e.Conf), text(e.Hosts), text(e.Order))
	}
	return list(first | e.Draw<<6)
}

func text(s string) []byte { return list(len(s), s) }

func someText() string {
	b := make([]byte, some(0, 1, 2, draws.IntN(20), draws.IntN(256)))
	for i := range b {
		b[i] = byte(draws.IntN(256))
	}
	return string(b)
}

func someAddr() api.Addr {
	var a api.Addr
	for i := range a {
		a[i] = byte(draws.IntN(256))
	}
	return some(a, a, one, two, api.Addr{})
}

func upTo3[T any](one func() T) []T {
	var l []T
	for range draws.IntN(4) {
		l = append(l, one())
	}
	return l
}

func someEvent() api.Event {
	e := head(draws.IntN(8), draws.IntN(8), draws.IntN(4))
	switch e.Kind {
	case api.Ask:
		e.ID, e.Type, e.Draw, e.Name = draws.IntN(256), draws.IntN(65536), draws.IntN(1<<32), someText()
	case api.Gram:
		e.From, e.Port, e.Draw = someAddr(), draws.IntN(65536), draws.IntN(1<<32)
		e.Data = make([]byte, draws.IntN(some(4, 40, 1000)))
		for i := range e.Data {
			e.Data[i] = byte(draws.IntN(256))
		}
	case api.SetUp:
		e.Set = api.Link{
			Default: some(true, false), LLMNR: some(true, false),
			Domains: upTo3(someText), Servers: upTo3(someAddr), Locals: locals(upTo3(someAddr)...),
		}
	case api.Reload:
		e.Conf, e.Hosts, e.Order = someText(), someText(), someText()
	}
	return e
}

// Drawn events, of their bytes; and of as many of these as are left.
func TestDrawnEvents(t *testing.T) {
	for range 4000 {
		var l []api.Event
		var b []byte
		for range 1 + draws.IntN(6) {
			e := someEvent()
			l, b = append(l, e), append(b, encode(e)...)
		}
		check(t, "drawn events", b, l...)
		for range 8 {
			same(t, "drawn events, cut off", b[:draws.IntN(len(b)+1)])
		}
		whole := l[:len(l)-1]
		cut := b[:len(b)-1]
		if got := decode(t, cut); !reflect.DeepEqual(plain(got[:len(whole)]), plain(whole)) {
			t.Fatalf("the events ahead of one that is cut off:\n%+v\nnot\n%+v", got, whole)
		}
	}
}

// Each place of each kind of event, cut off there.
func TestEachCut(t *testing.T) {
	for range 300 {
		b := encode(someEvent())
		for n := range len(b) + 1 {
			same(t, "cut off", b[:n])
		}
	}
}

// live: an event that a daemon has something to do with.
func live() api.Event {
	names := []string{"a", "b.", "me", "box", "a.corp", "a..b", "", "192.0.2.1"}
	e := api.Event{Kind: draws.IntN(8), Link: draws.IntN(5)}
	switch e.Kind {
	case api.Ask:
		e.ID, e.Type, e.Draw, e.Name = draws.IntN(256), some(1, 28, 12, 0), draws.IntN(3), some(names...)
	case api.Gram:
		q := api.Question{Name: some("a", "b", "me", "a.corp"), Type: some(1, 28)}
		m := api.Message{ID: draws.IntN(3), Reply: some(true, false), Code: some(0, 0, 3, 2), Question: q}
		e.From, e.Port, e.Draw = some(one, two), some(1024, 5355), draws.IntN(3)
		e.Data = msg.Encode(m)
	case api.SetUp:
		e.Set = api.Link{Default: true, LLMNR: some(true, false), Servers: []api.Addr{one, two}, Locals: locals(addr.V4(192, 0, 2, 9))}
	case api.Reload:
		e.Conf = some("", "search corp\noptions timeout:1", "?")
		e.Hosts, e.Order = "192.0.2.1 box\n", some("", "files dns", "nis")
	}
	return e
}

// Any bytes are events: a daemon takes them, and answers each Ask no more than once.
func TestDaemonTakesThem(t *testing.T) {
	dones := 0
	for range 600 {
		var b []byte
		for range 60 {
			b = append(b, encode(live())...)
		}
		for range draws.IntN(4) {
			b[draws.IntN(len(b))] = byte(draws.IntN(256))
		}
		d, asked := daemon.New("me"), 0
		for _, e := range script.Decode(b) {
			if e.Kind == api.Ask {
				asked++
			}
			step := d.Do(e)
			asked -= len(step.Dones)
			dones += len(step.Dones)
			if asked != d.Looks() || asked > api.MaxLookups {
				t.Fatalf("event %+v of % x: %d have no reply yet, %d are on their way", e, b, asked, d.Looks())
			}
		}
	}
	if dones < 1000 {
		t.Errorf("the events test a daemon too little: %d", dones)
	}
}

func FuzzDecode(f *testing.F) {
	for range 30 {
		f.Add(encode(someEvent()))
	}
	f.Fuzz(func(t *testing.T, b []byte) {
		same(t, "any bytes", b)
	})
}
