package resolve_test

// The chapter's words once more, told in another way, and held against the calls, for all short runs and for drawn ones.

import (
	"errors"
	"math/rand/v2"
	"slices"
	"testing"

	"nomenclator/api"
	"nomenclator/resolve"
)

var draws = rand.New(rand.NewPCG(16, 1))

func some[T any](l ...T) T { return l[draws.IntN(len(l))] }

// ofAll: what outcomes come to, the whole list at once: the first one of the first kind that is among them.
func ofAll(l []api.Outcome) api.Outcome {
	for _, kind := range []int{1, 4, 5, 2, 3} {
		i := slices.IndexFunc(l, func(o api.Outcome) bool { return o.Kind == kind })
		if i >= 0 {
			return l[i]
		}
	}
	return l[0]
}

// A told is all that the words say of a fold that was told some outcomes.
type told struct {
	reply     api.Outcome
	src, cand int  // which are asked for
	over      bool // it is over
	left      int  // so many outcomes were told behind its end
}

// tell: what an order and so many candidates come to, said again: source by source, each taking off the list what it asks for.
func tell(order []api.Source, cands int, l []api.Outcome) told {
	x := told{reply: api.Outcome{Kind: api.Unavail}}
	if cands < 1 {
		order = nil
	}
	for src, s := range order {
		mine := slices.Clone(l[:min(cands, len(l))])
		if i := slices.IndexFunc(mine, func(o api.Outcome) bool { return o.Kind == api.Success }); i >= 0 {
			mine = mine[:i+1]
		}
		l = l[len(mine):]
		for cand := range mine {
			mine[cand].Source, mine[cand].Cand = src, cand
		}
		if len(mine) > 0 {
			x.reply = ofAll(mine)
		}
		if len(mine) < cands && (len(mine) == 0 || x.reply.Kind != api.Success) {
			x.src, x.cand = src, len(mine)
			return x
		}
		counts := x.reply.Kind
		if counts == api.NoData {
			counts = api.NotFound
		}
		if s.Return[counts] {
			break
		}
	}
	x.over, x.left = true, len(l)
	return x
}

// held: are the calls as the words say, for an order, so many candidates, and outcomes?
func held(t *testing.T, order []api.Source, cands int, l []api.Outcome) told {
	t.Helper()
	want := tell(order, cands, l)
	got, ok := resolve.Resolve(order, cands, l...)
	if !same(got, want.reply) || ok != (want.over && want.left == 0) {
		t.Fatalf("Resolve(%v, %d, %v) = %v, %v; by the words %+v", order, cands, l, got, ok, want)
	}
	f := resolve.New(order, cands)
	for i, s := range order {
		if f.Kind(i) != s.Kind {
			t.Fatalf("Kind(%d) of %v = %d", i, order, f.Kind(i))
		}
	}
	for _, o := range l {
		f.Note(o)
	}
	src, cand, ok := f.At()
	if src != want.src || cand != want.cand || ok == want.over || !same(f.Reply(), want.reply) {
		t.Fatalf("a fold of %v, %d, %v asks for %d, %d, %v, and came to %v; by the words %+v", order, cands, l, src, cand, ok, f.Reply(), want)
	}
	return want
}

// A tally of runs: those that were over with their last outcome, those that weren't, and those that were ahead of it.
type tally struct{ over, early, late int }

func (x *tally) count(run told) {
	switch {
	case !run.over:
		x.early++
	case run.left > 0:
		x.late++
	default:
		x.over++
	}
}

// enough: was each kind of run there so often?
func (x *tally) enough(t *testing.T, least int) {
	t.Helper()
	if min(x.over, x.early, x.late) < least {
		t.Errorf("the runs test too little: %+v", *x)
	}
}

// numbered: outcomes of kinds, each with a record of its own.
func numbered(kinds []int) []api.Outcome {
	var l []api.Outcome
	for i, k := range kinds {
		l = append(l, api.Outcome{Source: 7, Cand: -i, Kind: k, Records: list(host(byte(i)))})
	}
	return l
}

// runs: all runs of kinds up to a length.
func runs(most int, each func(kinds []int)) {
	kinds := make([]int, 0, most)
	var further func()
	further = func() {
		each(kinds)
		if len(kinds) == most {
			return
		}
		for k := api.Success; k <= api.NoData; k++ {
			kinds = append(kinds, k)
			further()
			kinds = kinds[:len(kinds)-1]
		}
	}
	further()
}

// source: one that returns by the outcomes whose bits are in a number.
func source(kind, bits int) api.Source {
	s := api.Source{Kind: kind}
	for o := api.Success; o <= api.TryAgain; o++ {
		s.Return[o] = bits>>(o-1)&1 > 0
	}
	return s
}

// All two sources with all actions, up to two candidates, and all runs of outcomes, too short and too long ones among them.
func TestAllRuns(t *testing.T) {
	var seen tally
	for bits := range 16 * 16 {
		order := []api.Source{source(api.DNS, bits%16), source(api.Files, bits/16)}
		for cands := range 3 {
			runs(2*cands+1-cands/2, func(kinds []int) {
				seen.count(held(t, order, cands, numbered(kinds)))
			})
		}
	}
	seen.enough(t, 10000)
}

func TestDrawnRuns(t *testing.T) {
	var seen tally
	for range 200000 {
		var order []api.Source
		for range draws.IntN(api.MaxSources + 2) {
			order = append(order, source(1+draws.IntN(3), some(1, 0, draws.IntN(16))))
		}
		// Few of Success and of what returns, so that some get far.
		kinds := make([]int, draws.IntN(some(4, 30)))
		for i := range kinds {
			kinds[i] = some(2, 3, 4, 5, some(1, 2, 3, 4, 5))
		}
		seen.count(held(t, order, draws.IntN(api.MaxSearch+3)-1, numbered(kinds)))
	}
	seen.enough(t, 5000)
}

// Both is the same as the whole list's, in whatever way it is put together.
func TestBothOfRuns(t *testing.T) {
	runs(5, func(kinds []int) {
		if len(kinds) == 0 {
			return
		}
		l := numbered(kinds)
		left, right := l[0], l[len(l)-1]
		for i := 1; i < len(l); i++ {
			left = resolve.Both(left, l[i])
			right = resolve.Both(l[len(l)-1-i], right)
		}
		if want := ofAll(l); !same(left, want) || !same(right, want) {
			t.Fatalf("Both, over %v: %v and %v, not %v", kinds, left, right, want)
		}
	})
}

// someError: one of few kinds, and others within it.
func someError(deep int) error {
	if deep == 0 || draws.IntN(6) == 0 {
		return some[error](nil, errors.New("x"), number(3), api.Errno(draws.IntN(20)), says{7}, plain{}, denies{})
	}
	switch draws.IntN(6) {
	case 0:
		return &resolve.Why{Name: "a", Err: someError(deep - 1)}
	case 1:
		return around{someError(deep - 1)}
	case 2:
		return denies{someError(deep - 1)}
	case 3:
		return some[error](
			insists{says{api.Errno(draws.IntN(20))}, around{someError(deep - 1)}},
			saysAll{draws.IntN(2) == 0, says{8}, several{[]error{someError(deep - 1), someError(deep - 1)}}},
		)
	}
	var l []error
	for range draws.IntN(5) {
		l = append(l, someError(deep-1))
	}
	if draws.IntN(2) == 0 {
		return errors.Join(l...)
	}
	return several{l}
}

// Number is what errors.As of the library finds.
func TestDrawnErrors(t *testing.T) {
	seen := map[api.Errno]int{}
	for range 200000 {
		err := someError(draws.IntN(6))
		want := api.ErrArg
		var n api.Errno
		switch {
		case err == nil:
			want = api.OK
		case errors.As(err, &n):
			want = n
		}
		if got := resolve.Number(err); got != want {
			t.Fatalf("Number(%#v) = %d, not %d", err, got, want)
		}
		seen[want]++
	}
	for n := range api.Errno(20) {
		if seen[n] < 200 {
			t.Errorf("the errors test %d too little: %v", n, seen)
		}
	}
}
