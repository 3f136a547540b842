package cache_test

// The chapter's words once more, told in another way, and held against the calls, for all short runs of calls and drawn ones.

import (
	"math"
	"math/big"
	"math/rand/v2"
	"slices"
	"testing"

	"nomenclator/api"
	"nomenclator/cache"
)

var draws = rand.New(rand.NewPCG(9, 1))

// A model has each question's last outcome, by unbounded numbers; turn tells which one was put when.
type model struct {
	size, turn int
	of         map[api.Question]known
}

type known struct {
	turn     int
	outcome  int
	records  []api.Record
	from, to *big.Int
}

func num(n int) *big.Int { return big.NewInt(int64(n)) }

// over: does it count no more?
func (k known) over(now int) bool { return k.to.Cmp(num(now)) <= 0 }

// before: is it the one that goes, of two?
func (k known) before(other known) bool {
	if c := k.to.Cmp(other.to); c != 0 {
		return c < 0
	}
	return k.turn < other.turn
}

func newModel(size int) *model {
	return &model{size: max(0, min(16, size)), of: map[api.Question]known{}}
}

func (m *model) expire(now int) {
	for q, k := range m.of {
		if k.over(now) {
			delete(m.of, q)
		}
	}
}

func (m *model) put(now int, q api.Question, outcome int, l []api.Record, ttl int) {
	if m.size == 0 || ttl <= 0 {
		return
	}
	m.expire(now)
	delete(m.of, q)
	if len(m.of) == m.size {
		var goes api.Question
		for other, k := range m.of {
			if least, ok := m.of[goes]; !ok || k.before(least) {
				goes = other
			}
		}
		delete(m.of, goes)
	}
	m.turn++
	to := new(big.Int).Add(num(now), num(min(1048576, ttl)))
	m.of[q] = known{turn: m.turn, outcome: outcome, records: slices.Clone(l), from: num(now), to: to}
}

func (m *model) get(now int, q api.Question) (int, []api.Record) {
	k, ok := m.of[q]
	if !ok || k.over(now) {
		return 0, nil
	}
	l := slices.Clone(k.records)
	for i := range l {
		rest := new(big.Int).Add(num(l[i].TTL), k.from)
		rest.Sub(rest, num(now))
		switch {
		case rest.Sign() < 0:
			l[i].TTL = 0
		case rest.IsInt64():
			l[i].TTL = int(rest.Int64())
		default:
			l[i].TTL = math.MaxInt
		}
	}
	return k.outcome, l
}

// A call of a run.
type call struct {
	what byte // P, E or C
	now  int
	q    api.Question
	out  int
	l    []api.Record
	ttl  int
}

func (x call) do(c *cache.Cache, m *model) {
	switch x.what {
	case 'P':
		c.Put(x.now, x.q, x.out, x.l, x.ttl)
		m.put(x.now, x.q, x.out, x.l, x.ttl)
	case 'E':
		c.Expire(x.now)
		m.expire(x.now)
	case 'C':
		c.Clear()
		clear(m.of)
	}
}

// wantSame: the cache tells at these times of these questions what the model tells.
func wantSame(t *testing.T, c *cache.Cache, m *model, run []call, times []int, questions ...api.Question) {
	t.Helper()
	if c.Len() != len(m.of) {
		t.Fatalf("Len() = %d, not %d, behind %+v", c.Len(), len(m.of), run)
	}
	for _, q := range questions {
		for _, now := range times {
			k, l := c.Get(now, q)
			if want, wantL := m.get(now, q); k != want || !slices.Equal(l, wantL) {
				t.Fatalf("Get(%d, %v) = %d, %v, not %d, %v, behind %+v", now, q, k, l, want, wantL, run)
			}
		}
	}
}

var three = []api.Question{ask("a"), ask("b"), ask("c")}

// allRuns: each run of so many calls, in a cache of so many entries, each call at the time of the one before it, or one behind.
func allRuns(t *testing.T, size, length int, ttls ...int) int {
	t.Helper()
	n := 0
	var grow func(run []call, now int)
	grow = func(run []call, now int) {
		if len(run) == length {
			n++
			c, m := cache.New(size), newModel(size)
			for _, x := range run {
				x.do(c, m)
			}
			wantSame(t, c, m, run, []int{now, now + 1, now + 2}, three...)
			return
		}
		for then := now; then <= now+1; then++ {
			for i, q := range three {
				for _, ttl := range ttls {
					grow(append(run, call{what: 'P', now: then, q: q, out: 1 + (now+i)%5, l: []api.Record{rec(q.Name, 1+i)}, ttl: ttl}), then)
				}
			}
			grow(append(run, call{what: 'E', now: then}), then)
		}
		grow(append(run, call{what: 'C'}), now)
	}
	grow(nil, 0)
	return n
}

func TestAllShortRuns(t *testing.T) {
	n := 0
	for size := range 4 {
		for length := range 4 {
			n += allRuns(t, size, length, 0, 1, 2, 3)
		}
	}
	n += allRuns(t, 2, 4, 1, 2, 3)
	if n < 200000 {
		t.Fatalf("the short runs test too little: %d", n)
	}
}

func oneOf(l ...int) int { return l[draws.IntN(len(l))] }

// someRecords: up to three.
func someRecords(n string) []api.Record {
	var l []api.Record
	for range draws.IntN(4) {
		l = append(l, rec(n, oneOf(0, 1, 2, draws.IntN(30), draws.IntN(30), 1<<20, -1, math.MinInt, math.MaxInt)))
	}
	return l
}

// someCall: nearly always a Put, of one of so many names.
func someCall(now, names int) call {
	n := string(rune('a' + draws.IntN(names)))
	x := call{what: "PPPPPPPPPPPPPPPPEE"[draws.IntN(18)], now: now, q: api.Question{Name: n, Type: oneOf(api.A, api.A, api.AAAA)}}
	if draws.IntN(200) == 0 {
		x.what = 'C'
	}
	x.out, x.l = draws.IntN(6)+1, someRecords(n)
	x.ttl = oneOf(draws.IntN(10), draws.IntN(40), draws.IntN(40), 5, 1<<20-1, 1<<20, 1<<20+1, 0, -1, math.MaxInt, math.MinInt)
	return x
}

// drawnRun: calls at the times that a clock tells.
func drawnRun(t *testing.T, size, names, length int, clock func() int) {
	t.Helper()
	c, m := cache.New(size), newModel(size)
	var questions []api.Question
	for i := range names {
		n := string(rune('a' + i))
		questions = append(questions, ask(n), api.Question{Name: n, Type: api.AAAA})
	}
	var run []call
	for range length {
		run = append(run, someCall(clock(), names))
		x := run[len(run)-1]
		x.do(c, m)
		wantSame(t, c, m, run, []int{x.now, x.now + draws.IntN(9), clock()}, questions...)
	}
}

func TestDrawnRuns(t *testing.T) {
	for range 400 {
		now := draws.IntN(1 << 30)
		drawnRun(t, draws.IntN(20)-1, 1+draws.IntN(26), 100, func() int {
			now += oneOf(0, 0, 0, 1, 1, 2, 9)
			return now
		})
	}
}

// A time may go back, and be great: what the words say of it is the same.
func TestDrawnRunsAtAnyTimes(t *testing.T) {
	for range 200 {
		drawnRun(t, draws.IntN(20)-1, 1+draws.IntN(12), 100, func() int { return draws.IntN(50) })
		drawnRun(t, draws.IntN(20)-1, 1+draws.IntN(12), 100, func() int {
			return oneOf(0, draws.IntN(9), draws.IntN(1<<21), 1<<62, math.MaxInt-1<<20-draws.IntN(9), math.MaxInt-100-draws.IntN(90))
		})
	}
}
