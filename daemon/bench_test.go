package daemon_test

// What the tests tell events with, and read steps by.

import (
	"slices"
	"strconv"
	"strings"
	"testing"

	"nomenclator/addr"
	"nomenclator/api"
	"nomenclator/daemon"
	"nomenclator/llmnr"
	"nomenclator/msg"
)

func v4(last byte) api.Addr { return addr.V4(192, 0, 2, last) }

func parsed(t *testing.T, s string) api.Addr {
	t.Helper()
	a, e := addr.Parse(s)
	if e != api.OK {
		t.Fatalf("an address of the tests is wrong: %s", s)
	}
	return a
}

// Servers and others that are there in the tests.
var one, two, three, far = v4(51), v4(52), v4(53), addr.V4(198, 51, 100, 1)

// host: an A record.
func host(n string, ttl int, last byte) api.Record {
	return api.Record{Name: n, Type: api.A, TTL: ttl, Addr: v4(last)}
}

func alias(n string, ttl int, to string) api.Record {
	return api.Record{Name: n, Type: api.CNAME, TTL: ttl, Text: to}
}

func soa(n string, ttl int) api.Record {
	return api.Record{Name: n, Type: api.SOA, TTL: ttl, Data: "soa"}
}

// to: a link to servers for all names.
func to(servers ...api.Addr) api.Link {
	return api.Link{Domains: []string{"."}, Servers: servers}
}

// for domains: a link to a server for these.
func forDomains(server api.Addr, domains ...string) api.Link {
	return api.Link{Domains: domains, Servers: []api.Addr{server}}
}

// speaks: a link on which neighbours are asked.
func speaks(locals ...api.Addr) api.Link {
	l := api.Link{LLMNR: true}
	for _, a := range locals {
		l.Locals = append(l.Locals, api.Local{Addr: a})
	}
	return l
}

// A bench has a daemon, and what went out of it last.
type bench struct {
	*testing.T
	*daemon.Daemon
	last api.Send
}

// setUp: a bench of a host named me, with links from 0 on.
func setUp(t *testing.T, links ...api.Link) *bench {
	t.Helper()
	b := &bench{T: t, Daemon: daemon.New("me")}
	for i, l := range links {
		b.set(i, l)
	}
	return b
}

// do: an event; the step must be these lines.
func (b *bench) do(e api.Event, want ...string) {
	b.Helper()
	s := b.Do(e)
	if len(s.Sends) > 0 {
		b.last = s.Sends[len(s.Sends)-1]
	}
	if got := lines(s); !slices.Equal(got, want) {
		b.Fatalf("at %d, event %+v:\n\t%s\nnot\n\t%s", b.Now(), e, strings.Join(got, "\n\t"), strings.Join(want, "\n\t"))
	}
	if b.Busy() != b.Looks() {
		b.Fatalf("%d lookups are on their way, and %d wait", b.Looks(), b.Busy())
	}
}

func (b *bench) set(i int, l api.Link, want ...string) {
	b.Helper()
	b.do(api.Event{Kind: api.SetUp, Link: i, Set: l}, want...)
}

func (b *bench) remove(i int, want ...string) {
	b.Helper()
	b.do(api.Event{Kind: api.Remove, Link: i}, want...)
}

func (b *bench) load(confText, hostsText, orderText string, want ...string) {
	b.Helper()
	b.do(api.Event{Kind: api.Reload, Conf: confText, Hosts: hostsText, Order: orderText}, want...)
}

// ask: a name's address is asked for by 1.
func (b *bench) ask(n string, want ...string) {
	b.Helper()
	b.do(api.Event{Kind: api.Ask, ID: 1, Name: n, Type: api.A}, want...)
}

// ticks: so many, of which just the last one does something.
func (b *bench) ticks(n int, want ...string) {
	b.Helper()
	for range n - 1 {
		b.do(api.Event{Kind: api.Tick})
	}
	b.do(api.Event{Kind: api.Tick}, want...)
}

// reply: the message that answers what went out last, with answers.
func (b *bench) reply(answer ...api.Record) api.Message {
	b.Helper()
	m, e := msg.Decode(b.last.Data)
	if e != api.OK || m.Reply {
		b.Fatalf("there is no question to answer: %v", b.last)
	}
	m.Reply, m.Recurse, m.Answer = true, false, answer
	return m
}

// code: the same with an error's number.
func (b *bench) code(n int, authority ...api.Record) api.Message {
	b.Helper()
	m := b.reply()
	m.Code, m.Authority = n, authority
	return m
}

// cut: the same, cut off.
func (b *bench) cut(answer ...api.Record) api.Message {
	b.Helper()
	m := b.reply(answer...)
	m.Truncated = true
	return m
}

// gram: a message comes the way that what went out last went.
func (b *bench) gram(m api.Message, want ...string) {
	b.Helper()
	b.do(b.event(m), want...)
}

// event: that message's coming.
func (b *bench) event(m api.Message) api.Event {
	return api.Event{Kind: api.Gram, Link: b.last.Link, From: b.last.To, Port: b.last.Port, Data: msg.Encode(m)}
}

// lines: what a step says, in short lines.
func lines(s api.Step) []string {
	var l []string
	if s.Err != api.OK {
		l = append(l, "error "+strconv.Itoa(int(s.Err)))
	}
	for _, x := range s.Sends {
		l = append(l, sent(x))
	}
	for _, x := range s.Dones {
		l = append(l, done(x))
	}
	return l
}

// sent: a datagram: on which link, to whom (neighbours: to all), number and port, question.
func sent(x api.Send) string {
	m, e := msg.Decode(x.Data)
	if e != api.OK {
		return "bytes that are no message"
	}
	w := []string{"link", strconv.Itoa(x.Link), "to", addr.Print(x.To)}
	if x.To == llmnr.Group() {
		w[3] = "all"
	}
	w = append(w, strconv.Itoa(m.ID)+":"+strconv.Itoa(x.Port), m.Question.Name)
	if m.Question.Type != api.A {
		w = append(w, "type", strconv.Itoa(m.Question.Type))
	}
	// A server is asked to go on asking, neighbours aren't.
	if !m.Reply && m.Recurse == (x.To == llmnr.Group()) {
		w = append(w, "recursion?")
	}
	if x.Stream {
		w = append(w, "stream")
	}
	if m.Reply {
		w = append(w, "reply", records(m.Answer))
	}
	return strings.Join(w, " ")
}

// done: a reply: for whom, the name, records or an error, and what each source came to for each candidate.
func done(x api.Done) string {
	w := []string{"done", strconv.Itoa(x.ID), x.Name}
	if x.Err != api.OK {
		w = append(w, "error", strconv.Itoa(int(x.Err)))
	}
	if len(x.Records) > 0 {
		w = append(w, records(x.Records))
	}
	for _, o := range x.Trace {
		w = append(w, strconv.Itoa(o.Source)+"/"+strconv.Itoa(o.Cand)+kindOf(o))
	}
	return strings.Join(w, " ")
}

// kindOf: an outcome's kind as a word; records stand just with those that there are.
func kindOf(o api.Outcome) string {
	w := "?"
	switch o.Kind {
	case api.Success:
		w = "yes"
	case api.NotFound:
		w = "no"
	case api.Unavail:
		w = "away"
	case api.TryAgain:
		w = "late"
	case api.NoData:
		w = "empty"
	}
	if (o.Kind == api.Success) != (len(o.Records) > 0) {
		w += "?"
	}
	return w
}

// records: each its TTL, and last of its address, or its text, or data.
func records(l []api.Record) string {
	w := []string{}
	for _, r := range l {
		what := r.Text + r.Data
		if r.Type == api.A || r.Type == api.AAAA {
			what = addr.Print(r.Addr)
		}
		w = append(w, r.Name+"="+strings.TrimPrefix(what, "192.0.2.")+"@"+strconv.Itoa(r.TTL))
	}
	return "(" + strings.Join(w, " ") + ")"
}
