package daemon_test

// The chapter's words once more, told in another way: each lookup is a course that goes from its beginning to its reply, and
// stops where it waits. They are held against the daemon for drawn events.

import (
	"fmt"
	"iter"
	"math/rand/v2"
	"slices"
	"strings"
	"testing"

	"nomenclator/addr"
	"nomenclator/api"
	"nomenclator/cand"
	"nomenclator/chase"
	"nomenclator/conf"
	"nomenclator/daemon"
	"nomenclator/hosts"
	"nomenclator/link"
	"nomenclator/llmnr"
	"nomenclator/msg"
	"nomenclator/name"
	"nomenclator/order"
	"nomenclator/rank"
	"nomenclator/trans"
)

// A world is a daemon, said again.
type world struct {
	*link.Table
	own     string
	now     int
	conf    api.Conf
	hosts   []api.Host
	order   []api.Source
	courses []*course
	draw    int // of the event
	step    api.Step
}

// Why a course goes on.
type reason int

const (
	late reason = iota
	gone
	answered
)

// A course is a lookup.
type course struct {
	world // as it was at its beginning, but for the table
	in    *world
	id    int
	kind  int
	cands []string
	trace []api.Outcome

	pause  func(struct{}) bool
	goesOn func() (struct{}, bool)
	over   bool
	waits  trans.Trans
	why    reason
	by     api.Message
}

func newWorld(own string) *world {
	w := &world{Table: link.New(), conf: conf.Default(), order: order.Default()}
	if n, e := name.ToASCII(own); e == api.OK && !strings.Contains(n, ".") {
		w.own = n
	}
	return w
}

func (w *world) do(e api.Event) api.Step {
	w.draw, w.step = e.Draw, api.Step{}
	w.step.Err = w.happen(e)
	w.courses = slices.DeleteFunc(w.courses, func(c *course) bool { return c.over })
	return w.step
}

func (w *world) happen(e api.Event) api.Errno {
	on, lives := w.Get(e.Link)
	switch e.Kind {
	case api.Tick:
		w.now++
		w.each(late, func(c *course) bool { return c.waits.Until == w.now })
	case api.Ask:
		w.ask(e)
	case api.Gram:
		if !lives {
			return api.ErrLink
		}
		for _, c := range w.courses {
			if m, ok := c.waits.Match(e.Link, on.Gen, e.From, e.Port, e.Data); ok {
				c.by = m
				c.run(answered)
				return 0
			}
		}
		if b, ok := llmnr.Answer(w.own, on.Locals, e.Data); ok && on.LLMNR && e.Port == 5355 {
			w.step.Sends = append(w.step.Sends, api.Send{Link: e.Link, To: e.From, Port: int(uint16(e.Draw)), Data: b})
		}
	case api.SetUp, api.Remove:
		does := func() api.Errno { return w.Set(e.Link, e.Set) }
		if e.Kind == api.Remove {
			does = func() api.Errno { return w.Remove(e.Link) }
		}
		if err := does(); err != 0 {
			return err
		}
		w.each(gone, func(c *course) bool { return c.waits.Link == e.Link })
	case api.Flush:
		if !lives {
			return api.ErrLink
		}
		w.Cache(e.Link).Clear()
	case api.Reload:
		return w.reload(e)
	default:
		return api.ErrArg
	}
	return 0
}

// each: the courses of which that holds go on.
func (w *world) each(why reason, holds func(c *course) bool) {
	for _, c := range w.courses {
		if holds(c) {
			c.run(why)
		}
	}
}

func (w *world) reload(e api.Event) api.Errno {
	c, err := conf.Parse(e.Conf)
	if err != nil {
		return err.(*conf.Fault).Err.(api.Errno)
	}
	o, n := order.Parse(e.Order)
	if n == 0 {
		w.conf, w.hosts, w.order = c, hosts.Parse(e.Hosts), o
	}
	return n
}

func (w *world) ask(e api.Event) {
	n := e.Name
	if a, err := addr.Parse(n); err == 0 && e.Type == api.PTR {
		n = addr.Reverse(a) + "."
	}
	cands, err := cand.List(w.conf, n)
	if err == 0 && (e.Type <= 0 || e.Type >= 65536) {
		err = api.ErrArg
	}
	if err == 0 && len(w.courses) >= 8 {
		err = api.ErrBusy
	}
	if err != 0 {
		w.step.Dones = append(w.step.Dones, api.Done{ID: e.ID, Err: err, Name: e.Name})
		return
	}
	c := &course{world: *w, in: w, id: e.ID, kind: e.Type, cands: cands}
	c.goesOn, _ = iter.Pull(func(yield func(struct{}) bool) {
		c.pause = yield
		c.live()
	})
	w.courses = append(w.courses, c)
	c.run(late)
}

// run: it goes on till it waits, or is over.
func (c *course) run(why reason) {
	c.why = why
	_, waits := c.goesOn()
	c.over = !waits
}

// live: from its beginning to its reply.
func (c *course) live() {
	var came api.Outcome
	for i, s := range c.order {
		var of []api.Outcome
		for j, n := range c.cands {
			o := c.source(s.Kind, n)
			o.Source, o.Cand = i, j
			of = append(of, o)
			if o.Kind == api.Success {
				break
			}
		}
		c.trace = append(c.trace, of...)
		came = most(of)
		ends := s.Return[came.Kind%api.NoData]
		if came.Kind == api.NoData {
			ends = s.Return[api.NotFound]
		}
		if ends {
			break
		}
	}
	d := api.Done{ID: c.id, Name: c.cands[0], Trace: c.trace}
	switch came.Kind {
	case api.Success:
		d.Name, d.Records = c.cands[came.Cand], rank.Sort(c.in.Locals(), came.Records)
	case api.NotFound:
		d.Err = api.ErrNone
	case api.NoData:
		d.Err = api.ErrData
	case api.Unavail:
		d.Err = api.ErrLink
	default:
		d.Err = api.ErrTime
	}
	c.in.step.Dones = append(c.in.step.Dones, d)
}

// most: the first one of those that tell most.
func most(l []api.Outcome) api.Outcome {
	for _, kind := range []int{api.Success, api.TryAgain, api.NoData, api.NotFound, api.Unavail} {
		if i := slices.IndexFunc(l, func(o api.Outcome) bool { return o.Kind == kind }); i >= 0 {
			return l[i]
		}
	}
	return api.Outcome{}
}

func (c *course) source(kind int, n string) api.Outcome {
	if kind == api.Files {
		l, there := hosts.Find(c.hosts, n, c.kind)
		switch {
		case !there:
			return api.Outcome{Kind: api.NotFound}
		case len(l) == 0:
			return api.Outcome{Kind: api.NoData}
		}
		return api.Outcome{Kind: api.Success, Records: l}
	}
	for left := 8; ; left-- {
		o, next := c.name(kind, n, left)
		if next == "" {
			return o
		}
		n = next
	}
}

func (c *course) ways(kind int, n string) []int {
	if kind == api.DNS {
		return c.Route(n)
	}
	return c.Neighbours(n)
}

// name: what a name's links come to; or which other name is to be asked for, of so many that may be yet.
func (c *course) name(kind int, n string, left int) (api.Outcome, string) {
	came := []api.Outcome{{Kind: api.Unavail}}
	for _, i := range c.ways(kind, n) {
		o, next := c.link(kind, n, i)
		if next != "" {
			if out, e := name.ToASCII(next); left > 0 && e == 0 && out == next {
				return api.Outcome{}, next
			}
			o = api.Outcome{Kind: api.TryAgain}
		}
		came = append(came, o)
		if o.Kind == api.Success {
			break
		}
	}
	return most(came), ""
}

// link: what one link comes to, or to which name it leads.
func (c *course) link(kind int, n string, i int) (api.Outcome, string) {
	away := api.Outcome{Kind: api.Unavail}
	q := api.Question{Name: n, Type: c.kind}
	if !slices.Contains(c.ways(kind, n), i) {
		return away, ""
	}
	if k, l := c.Cache(i).Get(c.in.now, q); k != 0 {
		return api.Outcome{Kind: k, Records: l}, ""
	}
	on, _ := c.Get(i)
	to := slices.Repeat(on.Servers, c.conf.Attempts)
	if kind == api.LLMNR {
		to = []api.Addr{addr.V4(224, 0, 0, 252)}
	}
	for _, a := range to {
		for _, stream := range []bool{false, true} {
			if !slices.Contains(c.ways(kind, n), i) {
				return away, ""
			}
			c.send(trans.Trans{Q: q, Link: i, Gen: on.Gen, To: a, Stream: stream, Group: kind == api.LLMNR})
			if c.why == gone {
				return away, ""
			}
			if c.why == late {
				break
			}
			if c.by.Truncated && kind == api.DNS && !stream {
				continue
			}
			f := chase.Of(c.by)
			if f.Next != "" {
				return away, f.Next
			}
			if f.Outcome == api.TryAgain {
				break
			}
			c.Cache(i).Put(c.in.now, q, f.Outcome, f.Records, f.TTL)
			return api.Outcome{Kind: f.Outcome, Records: f.Records}, ""
		}
	}
	if kind == api.LLMNR {
		return api.Outcome{Kind: api.NotFound}, ""
	}
	return api.Outcome{Kind: api.TryAgain}, ""
}

// send: a question goes out, and is waited for.
func (c *course) send(t trans.Trans) {
	draw := c.in.draw
	for range c.in.step.Sends {
		draw += 65537
	}
	t.ID, t.Port = trans.Draw(draw)
	t.Until = c.in.now + c.conf.Timeout
	c.waits = t
	c.in.step.Sends = append(c.in.step.Sends, t.Send())
	c.pause(struct{}{})
}

// A drawer draws events.
type drawer struct {
	*rand.Rand
	sent []api.Send // what went out of late, neighbours' answers too
	ids  int
}

func pick[T any](d *drawer, l ...T) T { return l[d.IntN(len(l))] }

// rarely: once in so many times.
func (d *drawer) rarely(n int) bool { return d.IntN(n) == 0 }

var names = []string{"a", "b", "c", "a.corp", "b.corp", "a.net", "x.b.corp"}

func (d *drawer) event() api.Event {
	e := api.Event{Link: d.IntN(api.MaxLinks), Draw: d.draw()}
	switch n := d.IntN(100); {
	case n < 25:
		e.Kind = api.Tick
	case n < 45:
		d.ask(&e)
	case n < 85:
		d.gram(&e)
	case n < 92:
		e.Kind, e.Set = api.SetUp, d.link()
	case n < 94:
		e.Kind = api.Remove
	case n < 95:
		e.Kind = api.Flush
	case n < 98:
		d.reload(&e)
	default:
		e.Kind = pick(d, 0, 1, 2, 3, 4, 5, 6, 7, -1)
		e.Link = pick(d, -1, 4, 1<<40, 0, 1)
	}
	return e
}

func (d *drawer) draw() int { return pick(d, 0, 5, int(d.Uint64()), int(d.Uint32()), 0xffff, -1) }

func (d *drawer) ask(e *api.Event) {
	d.ids++
	e.Kind, e.ID, e.Type = api.Ask, d.ids, pick(d, 1, 1, 1, 1, 28, 5, 12)
	e.Name = pick(d, names...)
	if d.rarely(8) {
		e.Name = pick(d, "A.", "b.corp.", "192.0.2.1", "::1", "a..b", "-", "", "bücher", "xn--a", strings.Repeat("a.", 126)+"a", "Box", "1.2.0.192.in-addr.arpa")
	}
	if d.rarely(50) {
		e.Type = pick(d, 0, -1, 65535, 65536)
	}
}

func (d *drawer) link() api.Link {
	l := api.Link{Default: d.rarely(3), LLMNR: d.rarely(2)}
	for range d.IntN(3) {
		l.Domains = append(l.Domains, pick(d, ".", ".", "corp", "b.corp", "net", "a", "B"))
	}
	for range d.IntN(4) {
		l.Servers = append(l.Servers, pick(d, one, two, three))
	}
	for range d.IntN(3) {
		l.Locals = append(l.Locals, api.Local{Addr: pick(d, v4(9), far, api.Addr{0: 0x20, 15: 9}), Home: d.rarely(2), Deprecated: d.rarely(2)})
	}
	return l
}

func (d *drawer) reload(e *api.Event) {
	e.Kind = api.Reload
	e.Conf = pick(d, "", "search corp net", "search corp\noptions timeout:1 attempts:1", "options ndots:2 timeout:3 attempts:1\nsearch corp b.corp", "nis", "search -")
	e.Hosts = pick(d, "", "192.0.2.1 box a\n198.51.100.1 a", "::1 b a.net", "192.0.2.3 c")
	e.Order = pick(d, "", "", "dns", "llmnr dns", "files [SUCCESS=continue NOTFOUND=return] dns [UNAVAIL=return] llmnr", "dns [TRYAGAIN=return] dns", "dns dns dns dns dns", "nis")
}

func (d *drawer) addr(kind int) api.Addr {
	if kind == api.A {
		return pick(d, v4(1), v4(2), v4(200), far)
	}
	return pick(d, api.Addr{0: 0x20, 15: 9}, api.Addr{0: 0xfe, 1: 0x80, 15: 1}, api.Addr{15: 1})
}

// record: one of a name, of a type.
func (d *drawer) record(n string, kind int) api.Record {
	r := api.Record{Name: n, Type: kind, TTL: d.IntN(7)}
	switch kind {
	case api.A, api.AAAA:
		r.Addr = d.addr(kind)
	case api.NS, api.CNAME, api.PTR:
		r.Text = pick(d, append(names, "a", "b", "c", "xn--a")...)
	default:
		r.Data = "x"
	}
	return r
}

// gram: mostly an answer to what went out of late.
func (d *drawer) gram(e *api.Event) {
	e.Kind = api.Gram
	if len(d.sent) == 0 || d.rarely(10) {
		q := api.Question{Name: pick(d, "me", "me", "a"), Type: pick(d, 1, 28, 16)}
		e.From, e.Port = pick(d, one, far), pick(d, 5355, 5355, 5355, 1024)
		e.Data = msg.Encode(api.Message{ID: d.IntN(65536), Reply: d.rarely(9), Question: q})
		return
	}
	x := d.sent[len(d.sent)-1-min(d.IntN(len(d.sent)), d.IntN(9))]
	m, _ := msg.Decode(x.Data)
	m.Reply = true
	d.answer(&m)
	e.Link, e.From, e.Port = x.Link, x.To, x.Port
	if x.To == llmnr.Group() {
		e.From = pick(d, one, far)
	}
	d.spoil(e, &m)
	e.Data = msg.Encode(m)
	if d.rarely(60) {
		e.Data = e.Data[:d.IntN(len(e.Data))]
	}
}

// answer: what a message says.
func (d *drawer) answer(m *api.Message) {
	q := m.Question
	m.Truncated = d.rarely(6)
	m.Code = pick(d, 0, 0, 0, 0, 3, 3, 2, 5)
	for n := q.Name; m.Code == 0 && d.rarely(2) || d.rarely(6); {
		r := d.record(n, api.CNAME)
		m.Answer = append(m.Answer, r)
		n = r.Text
		if d.rarely(3) {
			m.Answer = append(m.Answer, d.record(n, q.Type))
		}
		if len(m.Answer) > 12 {
			break
		}
	}
	if m.Code == 0 && d.rarely(2) {
		for range 1 + d.IntN(4) {
			m.Answer = append(m.Answer, d.record(q.Name, q.Type))
		}
	}
	if d.rarely(2) {
		m.Authority = append(m.Authority, d.record("corp", pick(d, api.SOA, api.SOA, api.NS)), d.record("a", api.SOA))
	}
}

// spoil: rarely something of an answer is wrong.
func (d *drawer) spoil(e *api.Event, m *api.Message) {
	if !d.rarely(8) {
		return
	}
	switch d.IntN(7) {
	case 0:
		m.ID = d.IntN(65536)
	case 1:
		m.Reply = false
	case 2:
		m.Question.Name = pick(d, names...)
	case 3:
		m.Question.Type = pick(d, 1, 28)
	case 4:
		e.Link = d.IntN(5)
	case 5:
		e.From = pick(d, one, two, three, far)
	case 6:
		e.Port = pick(d, 1024, 1025, 5355, e.Port+1)
	}
}

// A pair is a daemon, and it said again, that take the same events.
type pair struct {
	*proof
	w *world
}

// do: an event; both must do the same.
func (p *pair) do(e api.Event) api.Step {
	p.Helper()
	got, want := p.d.Do(e), p.w.do(e)
	if text := fmt.Sprint(got); text != fmt.Sprint(want) {
		p.Fatalf("event %+v:\n%v\n%v\nby the words:\n%v\n%v", e, lines(got), text, lines(want), want)
	}
	if d := p.d; d.Now() != p.w.now || d.Looks() != len(p.w.courses) || d.Busy() != len(p.w.courses) {
		p.Fatalf("event %+v: %d, %d, %d, not %d, %d", e, d.Now(), d.Looks(), d.Busy(), p.w.now, len(p.w.courses))
	}
	p.step(e, got)
	return got
}

// sameCaches: do the links know the same?
func (p *pair) sameCaches() {
	p.Helper()
	for i := range api.MaxLinks {
		if p.d.Cache(i).Len() != p.w.Cache(i).Len() {
			p.Fatalf("link %d knows %d, not %d", i, p.d.Cache(i).Len(), p.w.Cache(i).Len())
		}
		for _, n := range names {
			q := api.Question{Name: n, Type: api.A}
			k, l := p.d.Cache(i).Get(p.w.now, q)
			if wantK, want := p.w.Cache(i).Get(p.w.now, q); k != wantK || !slices.Equal(l, want) {
				p.Fatalf("link %d knows of %s %d, %v, not %d, %v", i, n, k, l, wantK, want)
			}
		}
	}
}

// Drawn events: the daemon does what the words say, and keeps the promises.
func TestDrawnEvents(t *testing.T) {
	seen := map[string]int{}
	for seed := range uint64(1500) {
		t.Run(fmt.Sprint(seed), func(t *testing.T) { drawnEvents(t, seed, seen) })
	}
	for what, least := range map[string]int{
		"error 12": 500, "error 13": 500, "error 6": 100, "stream": 500, "all": 5000, "reply": 500, "type 28": 1000,
		"yes": 10000, "no": 10000, "away": 10000, "late": 5000, "empty": 5000, "done error 7": 100, "done error 1": 500,
		"done error 9": 1000, "done error 10": 1000, "done error 11": 1000, "done error 12": 1000,
	} {
		if seen[what] < least {
			t.Errorf("the events test %q too little: %d of %d", what, seen[what], least)
		}
	}
}

func drawnEvents(t *testing.T, seed uint64, seen map[string]int) {
	r := &drawer{Rand: rand.New(rand.NewPCG(17, seed))}
	p := &pair{newProof(t, daemon.New("Me")), newWorld("Me")}
	for i := range api.MaxLinks {
		p.do(api.Event{Kind: api.SetUp, Link: i, Set: r.link()})
	}
	for range 300 {
		s := p.do(r.event())
		r.sent = append(r.sent, s.Sends...)
		tally(seen, s)
	}
	p.sameCaches()
	for p.d.Looks() > 0 { // the proof knows how long that may go on
		p.do(api.Event{Kind: api.Tick})
	}
}

// tally counts what a step has.
func tally(seen map[string]int, s api.Step) {
	if s.Err != 0 {
		seen["error "+fmt.Sprint(int(s.Err))]++
	}
	for _, x := range s.Sends {
		out := sent(x) + " "
		for _, what := range []string{"stream", "all", "reply", "type 28"} {
			if strings.Contains(out, " "+what+" ") {
				seen[what]++
			}
		}
	}
	for _, x := range s.Dones {
		seen["done error "+fmt.Sprint(int(x.Err))]++
		for _, o := range x.Trace {
			seen[kindOf(o)]++
		}
	}
}
