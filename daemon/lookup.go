package daemon

import (
	"slices"

	"nomenclator/api"
	"nomenclator/chase"
	"nomenclator/hosts"
	"nomenclator/llmnr"
	"nomenclator/name"
	"nomenclator/rank"
	"nomenclator/resolve"
	"nomenclator/trans"
)

// A lookup asks its fold's sources for its candidates. Between two events it waits for an answer.
type lookup struct {
	*resolve.Fold
	texts // those of its beginning
	id    int
	kind  int // the records' type
	cands []string
	trace []api.Outcome

	// Of the source that is asked for a candidate.
	begun  bool
	came   api.Outcome // what its links came to so far; of files all
	group  bool        // all neighbours are asked, not servers
	way    func(name string) []int
	asked  api.Question // for the candidate, or the name that it led to
	chased int          // so many names, one behind the other, led to that
	links  []int        // those to be asked, the one that is asked ahead

	// Of the link that is asked.
	tries int
	waits bool
	trans trans.Trans // what it waits for
}

// over: has it its reply?
func (l *lookup) over() bool {
	_, _, asks := l.At()
	return !asks
}

// goOn: a lookup goes on till it waits for an answer, or has its reply.
func (r *run) goOn(l *lookup) {
	for src, cand, asks := l.At(); asks; src, cand, asks = l.At() {
		if !l.begun {
			r.askSource(l, l.Kind(src), l.cands[cand])
		}
		for len(l.links) > 0 && !l.waits {
			r.askLink(l)
		}
		if l.waits {
			return
		}
		l.note(src, cand)
	}
	r.reply(l)
}

// askSource: a source is asked for a candidate.
func (r *run) askSource(l *lookup, source int, candidate string) {
	l.begun, l.chased = true, 0
	switch source {
	case api.Files:
		l.came = find(l.hosts, candidate, l.kind)
	case api.DNS:
		l.group, l.way = false, r.Route
		l.ask(candidate)
	case api.LLMNR:
		l.group, l.way = true, r.Neighbours
		l.ask(candidate)
	}
}

// find: what hosts come to.
func find(l []api.Host, n string, kind int) api.Outcome {
	records, there := hosts.Find(l, n, kind)
	switch {
	case len(records) > 0:
		return api.Outcome{Kind: api.Success, Records: records}
	case there:
		return api.Outcome{Kind: api.NoData}
	}
	return api.Outcome{Kind: api.NotFound}
}

// ask: a name's links are to be asked, all anew.
func (l *lookup) ask(n string) {
	l.asked = api.Question{Name: n, Type: l.kind}
	l.links = l.way(n)
	l.came = api.Outcome{Kind: api.Unavail}
}

// note: what the source came to for the candidate.
func (l *lookup) note(src, cand int) {
	o := l.came
	o.Source, o.Cand = src, cand
	l.trace = append(l.trace, o)
	l.Note(o)
	l.begun = false
}

// reply: a lookup's, when it is over.
func (r *run) reply(l *lookup) {
	o := l.Reply()
	done := api.Done{ID: l.id, Name: l.cands[0], Trace: l.trace}
	if o.Kind == api.Success {
		done.Name = l.cands[o.Cand]
		done.Records = rank.Sort(r.Locals(), o.Records)
	}
	done.Err = resolve.Number(resolve.Error(done.Name, o))
	r.Dones = append(r.Dones, done)
}

// askLink: the next link is asked: its cache, or else somebody on it.
func (r *run) askLink(l *lookup) {
	if !l.passes() {
		l.settle(api.Unavail)
		return
	}
	if kind, records := r.Cache(l.links[0]).Get(r.now, l.asked); kind != 0 {
		l.settle(kind, records...)
		return
	}
	l.tries = 0
	r.try(l)
}

// passes: does the name's way have the link yet?
func (l *lookup) passes() bool { return slices.Contains(l.way(l.asked.Name), l.links[0]) }

// settle: what the link came to.
func (l *lookup) settle(kind int, records ...api.Record) {
	l.came = resolve.Both(l.came, api.Outcome{Kind: kind, Records: records})
	l.links = l.links[1:]
	if kind == api.Success {
		l.links = nil
	}
}

// try: the question goes out for the next time; or nobody answered.
func (r *run) try(l *lookup) {
	if l.group {
		r.tryGroup(l)
		return
	}
	on, _ := r.Get(l.links[0])
	if l.tries >= len(on.Servers)*l.conf.Attempts {
		l.settle(api.TryAgain)
		return
	}
	to := on.Servers[l.tries%len(on.Servers)]
	l.tries++
	r.send(l, to, false)
}

func (r *run) tryGroup(l *lookup) {
	if l.tries == 1 {
		l.settle(api.NotFound)
		return
	}
	l.tries++
	r.send(l, llmnr.Group(), false)
}

// moreDraw: the draw of each question that goes out in an event is so much more than that of the one ahead: by one the number, by one the port.
const moreDraw = 1<<16 + 1

// send: the question goes out, and is waited for; unless its way hasn't the link any more.
func (r *run) send(l *lookup, to api.Addr, stream bool) {
	if !l.passes() {
		l.settle(api.Unavail)
		return
	}
	on, _ := r.Get(l.links[0])
	id, port := trans.Draw(r.draw + moreDraw*len(r.Sends))
	l.trans = trans.Trans{
		Q:      l.asked,
		Link:   l.links[0],
		Gen:    on.Gen,
		To:     to,
		ID:     id,
		Port:   port,
		Stream: stream,
		Group:  l.group,
		Until:  r.now + l.conf.Timeout,
	}
	l.waits = true
	r.Sends = append(r.Sends, l.trans.Send())
}

// late: nobody answered in time.
func (r *run) late(l *lookup) {
	l.waits = false
	// The table may have been changed by its own calls, without an event.
	if on, ok := r.Get(l.trans.Link); !ok || on.Gen != l.trans.Gen {
		l.settle(api.Unavail)
		return
	}
	r.try(l)
}

// answered: a message answers the question.
func (r *run) answered(l *lookup, m api.Message) {
	l.waits = false
	t := l.trans
	if m.Truncated && !t.Stream && !t.Group {
		r.send(l, t.To, true)
		return
	}
	f := chase.Of(m)
	switch f.Outcome {
	case api.TryAgain:
		r.try(l)
	case 0:
		l.follow(f.Next)
	default:
		r.Cache(t.Link).Put(r.now, t.Q, f.Outcome, f.Records, f.TTL)
		l.settle(f.Outcome, f.Records...)
	}
}

// follow: the name led to another one, which is asked for; unless too many did, or it may not be.
func (l *lookup) follow(next string) {
	n, e := name.ToASCII(next)
	if l.chased == api.MaxChase || e != api.OK || n != next {
		l.settle(api.TryAgain)
		return
	}
	l.chased++
	l.ask(next)
}
