package daemon_test

// The document's promises of the whole, held against what a daemon did, by nothing but the events and the steps.

import (
	"slices"
	"testing"

	"nomenclator/addr"
	"nomenclator/api"
	"nomenclator/cand"
	"nomenclator/conf"
	"nomenclator/daemon"
	"nomenclator/hosts"
	"nomenclator/llmnr"
	"nomenclator/msg"
	"nomenclator/name"
	"nomenclator/order"
	"nomenclator/rank"
	"nomenclator/resolve"
)

// A begun lookup is one that hasn't its reply yet.
type begun struct {
	at    int
	conf  api.Conf
	hosts []api.Host
	order []api.Source
	cands []string
	kind  int
}

// A taken datagram.
type taken struct {
	at, link, gen int
	records       []api.Record
}

// A proof follows a daemon, and tells where it breaks a promise.
type proof struct {
	*testing.T
	d     *daemon.Daemon
	told  begun // what the texts tell
	looks map[int]begun
	out   []api.Send // questions that went out, of late
	taken []taken
}

func newProof(t *testing.T, d *daemon.Daemon) *proof {
	return &proof{T: t, d: d, told: begun{conf: conf.Default(), order: order.Default()}, looks: map[int]begun{}}
}

// step: an event did that.
func (p *proof) step(e api.Event, s api.Step) {
	p.Helper()
	if s.Err != api.OK && len(s.Sends)+len(s.Dones) > 0 {
		p.Fatalf("beside an error: %v", lines(s))
	}
	switch {
	case e.Kind == api.Reload && s.Err == api.OK:
		p.told.conf, _ = conf.Parse(e.Conf)
		p.told.order, _ = order.Parse(e.Order)
		p.told.hosts = hosts.Parse(e.Hosts)
	case e.Kind == api.Ask:
		p.ask(e)
	case e.Kind == api.Gram && s.Err == api.OK:
		p.gram(e, s)
	}
	for _, x := range s.Sends {
		p.send(e, x)
	}
	for _, x := range s.Dones {
		p.done(e, x)
	}
	if p.d.Looks() != len(p.looks) || p.d.Looks() > api.MaxLookups {
		p.Fatalf("%d lookups are on their way, and %d should be", p.d.Looks(), len(p.looks))
	}
	for i := range api.MaxLinks {
		if p.d.Cache(i).Len() > api.MaxCache {
			p.Fatalf("link %d's cache has %d", i, p.d.Cache(i).Len())
		}
	}
	for id, l := range p.looks {
		if bound := daemon.Bound(l.conf, l.order, len(l.cands)); p.d.Now()-l.at > bound {
			p.Fatalf("%d has no reply behind %d ticks", id, bound)
		}
	}
}

func (p *proof) ask(e api.Event) {
	l := p.told
	l.at, l.kind = p.d.Now(), e.Type
	n := e.Name
	if a, err := addr.Parse(n); err == api.OK && e.Type == api.PTR {
		n = addr.Reverse(a) + "."
	}
	l.cands, _ = cand.List(l.conf, n)
	p.looks[e.ID] = l
}

// gram: what a question that went out may have been answered by.
func (p *proof) gram(e api.Event, s api.Step) {
	m, err := msg.Decode(e.Data)
	fits := err == api.OK && m.Reply && slices.ContainsFunc(p.out, func(x api.Send) bool {
		q, _ := msg.Decode(x.Data)
		return q.ID == m.ID && q.Question == m.Question && x.Link == e.Link && x.Port == e.Port && (x.To == e.From || x.To == llmnr.Group())
	})
	if fits {
		on, _ := p.d.Get(e.Link)
		p.taken = append(p.taken, taken{p.d.Now(), e.Link, on.Gen, m.Answer})
		return
	}
	for _, x := range s.Sends { // else but an own answer goes out
		if q, _ := msg.Decode(x.Data); !q.Reply {
			p.Fatalf("what answers nothing makes a question go out: %v", lines(s))
		}
	}
	if len(s.Dones) > 0 {
		p.Fatalf("what answers nothing makes a reply: %v", lines(s))
	}
}

// send: P2 and P5.
func (p *proof) send(e api.Event, x api.Send) {
	m, err := msg.Decode(x.Data)
	if err != api.OK {
		p.Fatalf("bytes that are no message go out: %v", x)
	}
	if m.Reply {
		if on, _ := p.d.Get(x.Link); e.Kind != api.Gram || !on.LLMNR || m.Question.Name != "me" {
			p.Fatalf("that is no own answer: %v", sent(x))
		}
		return
	}
	p.out = append(p.out, x)
	n := m.Question.Name
	if out, err := name.ToASCII(n); err != api.OK || out != n {
		p.Fatalf("a name goes out that may not: %q", n)
	}
	on, _ := p.d.Get(x.Link)
	ways := p.d.Route(n)
	servers := on.Servers
	if x.To == llmnr.Group() {
		ways, servers = p.d.Neighbours(n), []api.Addr{x.To}
	}
	if !slices.Contains(ways, x.Link) || !slices.Contains(servers, x.To) {
		p.Fatalf("that is no way: %s; of %q there are %v", sent(x), n, ways)
	}
}

// done: P1, P3, P4, P6.
func (p *proof) done(e api.Event, x api.Done) {
	l, ok := p.looks[x.ID]
	if !ok {
		p.Fatalf("nobody asked, or it was answered: %s", done(x))
	}
	delete(p.looks, x.ID)
	if len(x.Trace) == 0 {
		if e.Kind != api.Ask || e.ID != x.ID || e.Name != x.Name || x.Err == api.OK || len(x.Records) > 0 {
			p.Fatalf("a reply without any outcome: %s", done(x))
		}
		return
	}
	o, over := resolve.Resolve(l.order, len(l.cands), x.Trace...)
	if !over || resolve.Number(resolve.Error("", o)) != x.Err {
		p.Fatalf("the outcomes come to %v, %v, and the reply is %s", o, over, done(x))
	}
	if x.Err != api.OK {
		if len(x.Records) > 0 || x.Name != l.cands[0] {
			p.Fatalf("with an error: %s", done(x))
		}
		return
	}
	if x.Name != l.cands[o.Cand] || !slices.Equal(x.Records, rank.Sort(p.d.Locals(), o.Records)) {
		p.Fatalf("the records that were found, %v, are told as %s", o.Records, done(x))
	}
	for _, r := range x.Records {
		if !p.fresh(r, l) {
			p.Fatalf("at %d, where does %v come from, in %s?", p.d.Now(), r, done(x))
		}
	}
}

// fresh: was it in the hosts text, or did it come, no longer ago than it counts, on a link of a generation that lives?
func (p *proof) fresh(r api.Record, l begun) bool {
	if found, _ := hosts.Find(l.hosts, r.Name, l.kind); slices.Contains(found, r) {
		return true
	}
	return slices.ContainsFunc(p.taken, func(x taken) bool {
		on, lives := p.d.Get(x.link)
		ago := p.d.Now() - x.at
		came := r
		came.TTL += ago
		return lives && on.Gen == x.gen && (ago == 0 || ago < came.TTL) && slices.Contains(x.records, came)
	})
}
