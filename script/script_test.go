package script_test

import (
	"bytes"
	"reflect"
	"slices"
	"strings"
	"testing"

	"nomenclator/api"
	"nomenclator/script"
)

// decode: Decode, and that it leaves alone what it is handed.
func decode(t testing.TB, b []byte) []api.Event {
	t.Helper()
	before := bytes.Clone(b)
	l := script.Decode(b)
	if !bytes.Equal(b, before) {
		t.Fatalf("Decode of % x has changed it: % x", before, b)
	}
	return l
}

// plain: the same events, but that lists without anything are nil.
func plain(l []api.Event) []api.Event {
	var all []api.Event
	for _, e := range l {
		e.Data = slices.Concat(e.Data)
		e.Set.Domains = slices.Concat(e.Set.Domains)
		e.Set.Servers = slices.Concat(e.Set.Servers)
		e.Set.Locals = slices.Concat(e.Set.Locals)
		all = append(all, e)
	}
	return all
}

// check: Decode of b must be these events.
func check(t testing.TB, what string, b []byte, want ...api.Event) {
	t.Helper()
	if got := decode(t, b); !reflect.DeepEqual(plain(got), plain(want)) {
		t.Fatalf("%s: Decode of % x:\n%+v\nnot\n%+v", what, b, got, want)
	}
}

// list: bytes of numbers, texts and bytes.
func list(parts ...any) []byte {
	var b []byte
	for _, p := range parts {
		switch p := p.(type) {
		case int:
			b = append(b, byte(p))
		case string:
			b = append(b, p...)
		case []byte:
			b = append(b, p...)
		case api.Addr:
			b = append(b, p[:]...)
		}
	}
	return b
}

// some addresses: no two bytes of one are the same.
var one, two, three = counted(0x10), counted(0x40), counted(0x70)

func counted(from byte) api.Addr {
	var a api.Addr
	for i := range a {
		a[i] = from + byte(i)
	}
	return a
}

// head: of a byte, what all events have.
func head(kind, link, draw int) api.Event { return api.Event{Kind: kind, Link: link, Draw: draw} }

func locals(l ...api.Addr) []api.Local {
	var all []api.Local
	for _, a := range l {
		all = append(all, api.Local{Addr: a})
	}
	return all
}

func TestExamples(t *testing.T) {
	check(t, "one 0", []byte{0}, api.Event{Kind: api.Tick})
	check(t, "no bytes", nil)
	check(t, "an empty list", []byte{})
	check(t, "three 0", []byte{0, 0, 0}, api.Event{}, api.Event{}, api.Event{})
}

// The first byte alone, of all kinds, links and draws; those that have a Draw of their own haven't it any more.
func TestFirstByte(t *testing.T) {
	for kind := range 8 {
		for on := range 8 {
			for draw := range 4 {
				e := head(kind, on, draw)
				if kind == api.Ask || kind == api.Gram {
					e.Draw = 0
				}
				check(t, "a first byte", list(kind+on*8+draw*64), e)
			}
		}
	}
}

// What isn't Ask, Gram, SetUp or Reload is told by one byte: the next one is another event.
func TestShort(t *testing.T) {
	for _, kind := range []int{api.Tick, api.Remove, api.Flush, 7} {
		for _, next := range []int{0, 4, 5, 7, 0x78, 0xff, 0x84} {
			want := head(next&7, next>>3&7, next>>6)
			check(t, "two of a byte", list(kind+8, next), head(kind, 1, 0), want)
			check(t, "three of a byte", list(next, kind+64, next), want, head(kind, 0, 1), want)
		}
	}
}

func TestAsk(t *testing.T) {
	ask := func(id, kind, draw int, n string) api.Event {
		return api.Event{Kind: api.Ask, ID: id, Type: kind, Draw: draw, Name: n}
	}
	check(t, "an Ask", list(1, 9, 0, 28, 0, 0, 1, 2, 3, "a.b"), ask(9, 28, 258, "a.b"))
	check(t, "numbers' places", list(1, 1, 2, 3, 4, 5, 6, 7, 1, "x"), ask(1, 0x203, 0x4050607, "x"))
	check(t, "the greatest numbers", list(1, 255, 255, 255, 255, 255, 255, 255, 0), ask(255, 65535, 1<<32-1, ""))
	check(t, "zeros", list(1, 0, 0, 0, 0, 0, 0, 0, 0), ask(0, 0, 0, ""))
	check(t, "signs that no name has", list(1, 1, 0, 1, 0, 0, 0, 0, 5, 0, 255, " .\n"), ask(1, 1, 0, "\x00\xff .\n"))
	long := strings.Repeat("long.", 51)
	check(t, "the longest name", list(1, 1, 0, 1, 0, 0, 0, 0, 255, long, 0), ask(1, 1, 0, long), api.Event{})
	for n := range 256 {
		check(t, "a name of n signs, and a Remove", list(1, 1, 0, 1, 0, 0, 0, 0, n, long[:n], 4), ask(1, 1, 0, long[:n]), head(4, 0, 0))
	}

	e := ask(1, 2, 3, "a")
	e.Link = 5
	check(t, "its own Draw, not the first byte's", list(1+5*8+3*64, 1, 0, 2, 0, 0, 0, 3, 1, "a"), e)
	e.Draw = 0
	check(t, "its own Draw of 0", list(1+5*8+3*64, 1, 0, 2, 0, 0, 0, 0, 1, "a"), e)
}

func TestGram(t *testing.T) {
	gram := func(from api.Addr, port, draw int, data string) api.Event {
		return api.Event{Kind: api.Gram, From: from, Port: port, Draw: draw, Data: []byte(data)}
	}
	check(t, "a Gram", list(2, one, 0x14, 0xe9, 0, 0, 1, 2, 0, 3, "abc"), gram(one, 5353, 258, "abc"))
	check(t, "numbers' places", list(2, two, 1, 2, 3, 4, 5, 6, 0, 1, "x"), gram(two, 0x102, 0x3040506, "x"))
	check(t, "the greatest numbers", list(2, one, 255, 255, 255, 255, 255, 255, 0, 0), gram(one, 65535, 1<<32-1, ""))
	check(t, "zeros", list(2, api.Addr{}, 0, 0, 0, 0, 0, 0, 0, 0), gram(api.Addr{}, 0, 0, ""))
	check(t, "any bytes", list(2, one, 0, 0, 0, 0, 0, 0, 0, 4, 0, 255, 2, 1), gram(one, 0, 0, "\x00\xff\x02\x01"))
	for _, n := range []int{1, 255, 256, 257, 512, 65535} {
		data := strings.Repeat("d", n)
		check(t, "so many bytes, and a Flush", list(2, one, 0, 1, 0, 0, 0, 2, n>>8, n&255, data, 5), gram(one, 1, 2, data), head(5, 0, 0))
	}
	e := gram(one, 1, 2, "a")
	e.Link = 7
	check(t, "its own Draw, not the first byte's", list(2+7*8+3*64, one, 0, 1, 0, 0, 0, 2, 0, 1, "a"), e)
}

func TestSetUp(t *testing.T) {
	set := func(l api.Link) api.Event { return api.Event{Kind: api.SetUp, Set: l} }
	check(t, "nothing", list(3, 0), set(api.Link{}))
	check(t, "Default", list(3, 1), set(api.Link{Default: true}))
	check(t, "LLMNR", list(3, 2), set(api.Link{LLMNR: true}))
	check(t, "both", list(3, 3), set(api.Link{Default: true, LLMNR: true}))
	check(t, "a domain", list(3, 1<<2, 4, "corp"), set(api.Link{Domains: []string{"corp"}}))
	check(t, "two, the first of them empty", list(3, 2<<2, 0, 1, "."), set(api.Link{Domains: []string{"", "."}}))
	check(t, "three, the last of them empty", list(3, 3<<2, 1, "a", 2, "B.", 0), set(api.Link{Domains: []string{"a", "B.", ""}}))
	check(t, "a server", list(3, 1<<4, one), set(api.Link{Servers: []api.Addr{one}}))
	check(t, "two servers", list(3, 2<<4, two, one), set(api.Link{Servers: []api.Addr{two, one}}))
	check(t, "three servers", list(3, 3<<4, one, one, two), set(api.Link{Servers: []api.Addr{one, one, two}}))
	check(t, "a local", list(3, 1<<6, one), set(api.Link{Locals: locals(one)}))
	check(t, "two locals", list(3, 2<<6, one, two), set(api.Link{Locals: locals(one, two)}))
	check(t, "three locals", list(3, 3<<6, two, one, two), set(api.Link{Locals: locals(two, one, two)}))

	all := api.Link{Default: true, LLMNR: true, Domains: []string{"a", "b", "c"}, Servers: []api.Addr{one, two, three}, Locals: locals(three, two, one)}
	b := list(3, 255, 1, "a", 1, "b", 1, "c", one, two, three, three, two, one)
	check(t, "everything", b, set(all))
	e := set(all)
	e.Link, e.Draw = 6, 2
	b[0] = 3 + 6*8 + 2*64
	check(t, "everything, with a Link and a Draw, and a Tick", append(b, 64), e, head(0, 0, 1))
	check(t, "of each another number", list(3, 0x6d, 0, 1, "b", 1, "c", one, two, three), set(api.Link{
		Default: true, Domains: []string{"", "b", "c"}, Servers: []api.Addr{one, two}, Locals: locals(three),
	}))
}

func TestReload(t *testing.T) {
	load := func(conf, hosts, order string) api.Event {
		return api.Event{Kind: api.Reload, Conf: conf, Hosts: hosts, Order: order}
	}
	check(t, "three texts", list(6, 1, "c", 2, "ho", 3, "ord"), load("c", "ho", "ord"))
	check(t, "empty ones", list(6, 0, 0, 0, 0), load("", "", ""), api.Event{})
	check(t, "an empty Conf", list(6, 0, 1, "h", 1, "o"), load("", "h", "o"))
	check(t, "empty Hosts", list(6, 1, "c", 0, 1, "o"), load("c", "", "o"))
	check(t, "an empty Order", list(6, 1, "c", 1, "h", 0), load("c", "h", ""))
	long := strings.Repeat("x", 255)
	check(t, "the longest ones", list(6, 255, long, 255, long, 255, long, 7), load(long, long, long), head(7, 0, 0))
	e := load("search a\n", "::1 b\n", "dns")
	e.Link, e.Draw = 3, 1
	check(t, "lines, with a Link and a Draw", list(6+3*8+64, 9, "search a\n", 6, "::1 b\n", 3, "dns"), e)
}

// Cut off within a number: it is that of the bytes that are there, as they stand.
func TestCutNumbers(t *testing.T) {
	check(t, "an Ask's Type", list(1, 9, 28), api.Event{Kind: api.Ask, ID: 9, Type: 28})
	check(t, "its Draw, of one", list(1, 9, 0, 1, 5), api.Event{Kind: api.Ask, ID: 9, Type: 1, Draw: 5})
	check(t, "its Draw, of two", list(1, 9, 0, 1, 5, 6), api.Event{Kind: api.Ask, ID: 9, Type: 1, Draw: 0x506})
	check(t, "its Draw, of three", list(1, 9, 0, 1, 5, 6, 7), api.Event{Kind: api.Ask, ID: 9, Type: 1, Draw: 0x50607})
	check(t, "its Draw, of none", list(1+3*64, 9, 0, 1), api.Event{Kind: api.Ask, ID: 9, Type: 1})
	check(t, "a Gram's Port", list(2, one, 53), api.Event{Kind: api.Gram, From: one, Port: 53})
	check(t, "its Draw", list(2, one, 0, 53, 1, 2), api.Event{Kind: api.Gram, From: one, Port: 53, Draw: 258})
	check(t, "its Draw, of none", list(2+64, one, 0, 53), api.Event{Kind: api.Gram, From: one, Port: 53})
	check(t, "how many bytes", list(2, one, 0, 53, 0, 0, 0, 1, 4), api.Event{Kind: api.Gram, From: one, Port: 53, Draw: 1})
}

// Cut off within a text or bytes: they are those that are there.
func TestCutTexts(t *testing.T) {
	for n := range 4 {
		for _, told := range []int{4, 5, 200, 255} {
			s := "name"[:n]
			check(t, "a Name", list(1, 0, 0, 0, 0, 0, 0, 0, told, s), api.Event{Kind: api.Ask, Name: s})
			check(t, "a Conf", list(6, told, s), api.Event{Kind: api.Reload, Conf: s})
			check(t, "Hosts", list(6, 0, told, s), api.Event{Kind: api.Reload, Hosts: s})
			check(t, "an Order", list(6, 0, 0, told, s), api.Event{Kind: api.Reload, Order: s})
			check(t, "Data", list(2, one, 0, 0, 0, 0, 0, 0, 0, told, s), api.Event{Kind: api.Gram, From: one, Data: []byte(s)})
			check(t, "more Data", list(2, one, 0, 0, 0, 0, 0, 0, told, 0, s), api.Event{Kind: api.Gram, From: one, Data: []byte(s)})
			check(t, "a domain", list(3, 1<<2, told, s), api.Event{Kind: api.SetUp, Set: api.Link{Domains: []string{s}}})
		}
	}
}

// Cut off within an address: its other bytes are 0.
func TestCutAddrs(t *testing.T) {
	for n := 1; n < len(one); n++ {
		var a api.Addr
		copy(a[:n], one[:n])
		check(t, "From", list(2, one[:n]), api.Event{Kind: api.Gram, From: a})
		check(t, "a server", list(3, 1<<4, one[:n]), api.Event{Kind: api.SetUp, Set: api.Link{Servers: []api.Addr{a}}})
		check(t, "the second server", list(3, 2<<4, two, one[:n]), api.Event{Kind: api.SetUp, Set: api.Link{Servers: []api.Addr{two, a}}})
		check(t, "a local", list(3, 1<<6, one[:n]), api.Event{Kind: api.SetUp, Set: api.Link{Locals: locals(a)}})
		check(t, "the second local", list(3, 2<<6, two, one[:n]), api.Event{Kind: api.SetUp, Set: api.Link{Locals: locals(two, a)}})
	}
}

// A domain, server or local of which nothing is there is left out.
func TestCutLists(t *testing.T) {
	set := func(l api.Link) api.Event { return api.Event{Kind: api.SetUp, Set: l} }
	check(t, "not a byte behind the first one", list(3), set(api.Link{}))
	check(t, "the byte of bits alone", list(3, 255), set(api.Link{Default: true, LLMNR: true}))
	check(t, "one domain of three", list(3, 3<<2, 1, "."), set(api.Link{Domains: []string{"."}}))
	check(t, "two of three", list(3, 0xfc, 1, ".", 0), set(api.Link{Domains: []string{".", ""}}))
	check(t, "one server of three", list(3, 3<<4, one), set(api.Link{Servers: []api.Addr{one}}))
	check(t, "no server of two", list(3, 0xa4, 1, "."), set(api.Link{Domains: []string{"."}}))
	check(t, "one local of three", list(3, 3<<6, one), set(api.Link{Locals: locals(one)}))
	check(t, "no local of one", list(3, 0x50, one), set(api.Link{Servers: []api.Addr{one}}))
}

// A text or bytes that aren't whole end it all: nothing of them is another event.
func TestGreedy(t *testing.T) {
	check(t, "a Name over Ticks", list(1, 0, 0, 0, 0, 0, 0, 0, 9, 0, 0, 0), api.Event{Kind: api.Ask, Name: "\x00\x00\x00"})
	check(t, "a Conf over all", list(6, 99, 1, 2, 3, 4, 5), api.Event{Kind: api.Reload, Conf: "\x01\x02\x03\x04\x05"})
}

// Events in a row are those of each, in order; what is whole doesn't change by what comes behind it.
func TestRow(t *testing.T) {
	all := [][]byte{
		list(0x40), list(4 + 3*8), list(5), list(7 + 7*8),
		list(1, 9, 0, 28, 0, 0, 1, 2, 3, "a.b"),
		list(2, one, 0, 53, 0, 0, 0, 1, 0, 2, "xy"),
		list(3, 0x57, 4, "corp", one, two),
		list(6, 1, "c", 1, "h", 1, "o"),
	}
	for _, a := range all {
		for _, b := range all {
			for _, c := range all {
				for n := range len(c) + 1 {
					check(t, "a row", list(a, b, c[:n]), slices.Concat(decode(t, a), decode(t, b), decode(t, c[:n]))...)
				}
			}
		}
	}
	check(t, "none left out", bytes.Repeat([]byte{0x84}, 5000), slices.Repeat([]api.Event{head(4, 0, 2)}, 5000)...)
}

// What is answered is new memory: it stays as it is when the bytes change, and so do they, and other events.
func TestNewMemory(t *testing.T) {
	gram := list(2, one, 0, 53, 0, 0, 0, 1, 0, 2, "xy")
	set := list(3, 0x57, 4, "corp", one, two)
	b := list(1, 9, 0, 28, 0, 0, 1, 2, 3, "a.b", gram, set, gram, set, 6, 1, "c", 1, "h", 1, "o")
	before, want := bytes.Clone(b), plain(decode(t, b))
	l := script.Decode(b)
	for i := range b {
		b[i] ^= 255
	}
	if !reflect.DeepEqual(plain(l), want) {
		t.Error("events change with the bytes that they were told by")
	}
	copy(b, before)
	again := script.Decode(b)
	for _, i := range []int{1, 2} {
		spoil(&l[i])
	}
	if !bytes.Equal(b, before) {
		t.Error("the bytes change with an event")
	}
	if !reflect.DeepEqual(plain(l[3:]), want[3:]) {
		t.Error("an event changes with another one")
	}
	if !reflect.DeepEqual(plain(again), want) {
		t.Error("another answer's events change with an event")
	}
	check(t, "the same bytes once more", before, want...)
}

// spoil changes all of an event's lists, and what stands behind them in memory.
func spoil(e *api.Event) {
	e.Data = append(e.Data, "more"...)
	e.Set.Domains = append(e.Set.Domains, "more")
	e.Set.Servers = append(e.Set.Servers, three)
	e.Set.Locals = append(e.Set.Locals, locals(three)...)
	for i := range e.Data {
		e.Data[i] = 0xee
	}
	for i := range e.Set.Domains {
		e.Set.Domains[i] = "other"
	}
	for i := range e.Set.Servers {
		e.Set.Servers[i] = three
	}
	for i := range e.Set.Locals {
		e.Set.Locals[i].Addr = three
	}
}
