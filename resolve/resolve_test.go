package resolve_test

import (
	"errors"
	"fmt"
	"io"
	"reflect"
	"slices"
	"testing"

	"nomenclator/addr"
	"nomenclator/api"
	"nomenclator/conf"
	"nomenclator/order"
	"nomenclator/resolve"
)

// host: an A record.
func host(last byte) api.Record {
	return api.Record{Name: "a", Type: api.A, TTL: int(last), Addr: addr.V4(192, 0, 2, last)}
}

func list(l ...api.Record) []api.Record { return l }

// of: an outcome of a kind, with records.
func of(kind int, l ...api.Record) api.Outcome { return api.Outcome{Kind: kind, Records: l} }

// at: an outcome of a source, for a candidate.
func at(src, cand, kind int, l ...api.Record) api.Outcome {
	return api.Outcome{Source: src, Cand: cand, Kind: kind, Records: l}
}

// outcomes: without records.
func outcomes(kinds ...int) []api.Outcome {
	var l []api.Outcome
	for _, k := range kinds {
		l = append(l, of(k))
	}
	return l
}

// same: are two outcomes alike? Lists without anything are.
func same(a, b api.Outcome) bool {
	if len(a.Records) == 0 && len(b.Records) == 0 {
		a.Records, b.Records = nil, nil
	}
	return reflect.DeepEqual(a, b)
}

// line: the sources of a line.
func line(t *testing.T, s string) []api.Source {
	t.Helper()
	l, e := order.Parse(s)
	if e != api.OK {
		t.Fatalf("a line of the tests is wrong: %s", s)
	}
	return l
}

func TestBoth(t *testing.T) {
	// The ones that tell more ahead.
	kinds := []int{api.Success, api.TryAgain, api.NoData, api.NotFound, api.Unavail}
	for i, a := range kinds {
		for j, b := range kinds {
			x, y := at(1, 2, a, host(1)), at(0, 3, b, host(2))
			want := x
			if j < i {
				want = y
			}
			if got := resolve.Both(x, y); !same(got, want) {
				t.Errorf("Both(%v, %v) = %v, not %v", x, y, got, want)
			}
		}
	}
}

// Others tell less than all that there are, and like ones of them are the first one.
func TestBothOfOthers(t *testing.T) {
	for _, other := range []int{0, 6, 7, -1, 1 << 40, -1 << 63} {
		for kind := api.Success; kind <= api.NoData; kind++ {
			x, y := at(1, 2, other), at(0, 3, kind)
			if got := resolve.Both(x, y); !same(got, y) {
				t.Errorf("Both(%v, %v) = %v", x, y, got)
			}
			if got := resolve.Both(y, x); !same(got, y) {
				t.Errorf("Both(%v, %v) = %v", y, x, got)
			}
		}
		x, y := at(1, 2, other), at(0, 3, other)
		if got := resolve.Both(x, y); !same(got, x) {
			t.Errorf("Both(%v, %v) = %v", x, y, got)
		}
	}
}

func TestBothIsNewMemory(t *testing.T) {
	for _, c := range [][2]int{{api.Success, api.Success}, {api.NotFound, api.Success}, {api.NoData, api.NotFound}, {api.NotFound, api.NoData}} {
		x, y := of(c[0], host(1)), of(c[1], host(2))
		got := resolve.Both(x, y)
		got.Records[0] = host(9)
		if x.Records[0] != host(1) || y.Records[0] != host(2) {
			t.Errorf("Both of kinds %v gives records that were handed in", c)
		}
	}
}

// A step: what a fold asks for, and what it is told then.
type step struct {
	src, cand int
	o         api.Outcome
}

func TestFold(t *testing.T) {
	const s, n, u, a, d = api.Success, api.NotFound, api.Unavail, api.TryAgain, api.NoData
	for _, c := range []struct {
		what  string
		line  string
		cands int
		steps []step
		want  api.Outcome
	}{
		{"the chapter's example", "files dns", 1, []step{{0, 0, of(n)}, {1, 0, of(s, host(1))}}, at(1, 0, s, host(1))},
		{"the first one has it", "files dns", 2, []step{{0, 0, of(s, host(1))}}, at(0, 0, s, host(1))},
		{"the second candidate has it", "files dns", 2, []step{{0, 0, of(n)}, {0, 1, of(s, host(1))}}, at(0, 1, s, host(1))},
		{"all candidates of a source ahead of the next one", "files dns", 3, []step{{0, 0, of(n)}, {0, 1, of(n)}, {0, 2, of(n)}, {1, 0, of(s)}}, at(1, 0, s)},
		{"no more candidates behind a Success, though it goes on", "files [SUCCESS=continue] dns", 3, []step{{0, 0, of(n)}, {0, 1, of(s, host(1))}, {1, 0, of(n)}, {1, 1, of(s, host(2))}}, at(1, 1, s, host(2))},
		{"the last source's outcome, whatever was found ahead", "files [SUCCESS=continue] dns", 1, []step{{0, 0, of(s, host(1))}, {1, 0, of(n)}}, at(1, 0, n)},
		{"nor is what tells more of a source ahead", "files dns", 1, []step{{0, 0, of(a)}, {1, 0, of(u)}}, at(1, 0, u)},
		{"of all candidates the one that tells more", "dns", 4, []step{{0, 0, of(u)}, {0, 1, of(d)}, {0, 2, of(a)}, {0, 3, of(n)}}, at(0, 2, a)},
		{"the first one of like ones", "dns", 3, []step{{0, 0, of(u)}, {0, 1, of(n)}, {0, 2, of(n)}}, at(0, 1, n)},
		{"nothing of a source ahead is in the next one's", "files dns", 2, []step{{0, 0, of(a)}, {0, 1, of(d)}, {1, 0, of(u)}, {1, 1, of(u)}}, at(1, 0, u)},
		{"NOTFOUND returns", "files [NOTFOUND=return] dns", 1, []step{{0, 0, of(n)}}, at(0, 0, n)},
		{"NoData counts as NotFound", "files [NOTFOUND=return] dns", 1, []step{{0, 0, of(d)}}, at(0, 0, d)},
		{"and not as TryAgain or Unavail", "files [TRYAGAIN=return UNAVAIL=return] dns", 1, []step{{0, 0, of(d)}, {1, 0, of(d)}}, at(1, 0, d)},
		{"UNAVAIL returns", "files [UNAVAIL=return] dns", 1, []step{{0, 0, of(u)}}, at(0, 0, u)},
		{"TRYAGAIN returns", "files [TRYAGAIN=return] dns", 1, []step{{0, 0, of(a)}}, at(0, 0, a)},
		{"another one returns", "files [!NOTFOUND=return] dns", 1, []step{{0, 0, of(n)}, {1, 0, of(n)}}, at(1, 0, n)},
		{"a source returns by its outcome, not by a candidate's", "dns [NOTFOUND=return] llmnr", 2, []step{{0, 0, of(n)}, {0, 1, of(a)}, {1, 0, of(u)}, {1, 1, of(u)}}, at(1, 0, u)},
		{"and behind all of its candidates", "dns [NOTFOUND=return] llmnr", 2, []step{{0, 0, of(n)}, {0, 1, of(u)}}, at(0, 0, n)},
		{"each source by its own actions", "files dns [NOTFOUND=return] llmnr", 1, []step{{0, 0, of(n)}, {1, 0, of(n)}}, at(1, 0, n)},
		{"all are asked", "", 1, []step{{0, 0, of(n)}, {1, 0, of(u)}, {2, 0, of(d)}}, at(2, 0, d)},
		{"a source more than once", "dns dns", 1, []step{{0, 0, of(a)}, {1, 0, of(s)}}, at(1, 0, s)},
		{"Source and Cand of the outcome that is handed in are of no weight", "files dns", 2, []step{{0, 0, at(7, 8, n)}, {0, 1, at(-1, -1, d)}, {1, 0, at(0, 1, u)}, {1, 1, at(9, 9, s)}}, at(1, 1, s)},
	} {
		f := resolve.New(line(t, c.line), c.cands)
		for i, x := range c.steps {
			src, cand, ok := f.At()
			if src != x.src || cand != x.cand || !ok {
				t.Errorf("%s: step %d is for %d, %d, %v", c.what, i, src, cand, ok)
			}
			f.Note(x.o)
		}
		checkOver(t, c.what, f, c.want)
		f.Note(of(api.Success, host(7)))
		checkOver(t, c.what+", and told one more", f, c.want)
	}
}

func checkOver(t *testing.T, what string, f *resolve.Fold, want api.Outcome) {
	t.Helper()
	if src, cand, ok := f.At(); ok || src != 0 || cand != 0 {
		t.Errorf("%s: At() = %d, %d, %v", what, src, cand, ok)
	}
	if got := f.Reply(); !same(got, want) {
		t.Errorf("%s: Reply() = %v, not %v", what, got, want)
	}
}

// Reply is what it came to so far, where it isn't over.
func TestReplyOnTheWay(t *testing.T) {
	f := resolve.New(line(t, "files dns"), 2)
	for i, c := range []struct {
		next, want api.Outcome
	}{
		{of(api.NotFound), of(api.Unavail)},
		{of(api.NoData), at(0, 0, api.NotFound)},
		{of(api.Unavail), at(0, 1, api.NoData)}, // the next source has none yet
		{of(api.TryAgain), at(1, 0, api.Unavail)},
	} {
		if got := f.Reply(); !same(got, c.want) {
			t.Errorf("Reply() ahead of outcome %d = %v, not %v", i, got, c.want)
		}
		f.Note(c.next)
	}
	checkOver(t, "behind all", f, at(1, 1, api.TryAgain))
}

func TestNothingToAsk(t *testing.T) {
	two := line(t, "files dns")
	for _, c := range []struct {
		order []api.Source
		cands int
	}{{nil, 1}, {[]api.Source{}, 3}, {two, 0}, {two, -1}, {two, -1 << 63}, {nil, 0}, {nil, -5}} {
		f := resolve.New(c.order, c.cands)
		checkOver(t, "nothing to ask", f, of(api.Unavail))
		f.Note(of(api.Success, host(1)))
		checkOver(t, "nothing to ask, and told one", f, of(api.Unavail))
		if o, ok := resolve.Resolve(c.order, c.cands); !same(o, of(api.Unavail)) || !ok {
			t.Errorf("Resolve of nothing to ask = %v, %v", o, ok)
		}
		if o, ok := resolve.Resolve(c.order, c.cands, of(api.Success)); !same(o, of(api.Unavail)) || ok {
			t.Errorf("Resolve of nothing to ask, and one outcome = %v, %v", o, ok)
		}
	}
}

func TestManyCandidates(t *testing.T) {
	f := resolve.New(line(t, "dns llmnr"), 1<<62)
	for i := range 1000 {
		if src, cand, ok := f.At(); src != 0 || cand != i || !ok {
			t.Fatalf("At() = %d, %d, %v, not 0, %d, true", src, cand, ok, i)
		}
		f.Note(of(api.NotFound))
	}
	f.Note(of(api.Success))
	checkOver(t, "many candidates", f, at(0, 1000, api.Success))
}

func TestKind(t *testing.T) {
	f := resolve.New(line(t, "llmnr files dns files"), 1)
	for i, want := range []int{api.LLMNR, api.Files, api.DNS, api.Files} {
		if got := f.Kind(i); got != want {
			t.Errorf("Kind(%d) = %d, not %d", i, got, want)
		}
	}
	// Of one that there isn't nothing is said but that it ends.
	for _, i := range []int{-1, 4, 1 << 40, -1 << 63} {
		f.Kind(i)
	}
	f.Note(of(api.Success))
	if f.Kind(3) != api.Files {
		t.Error("Kind of a fold that is over")
	}
}

// Outcomes of kinds that there aren't end, too.
func TestOtherKinds(t *testing.T) {
	all := [5]bool{true, true, true, true, true}
	for _, kind := range []int{-1 << 63, -1, 0, 6, 1 << 62} {
		for _, o := range [][]api.Source{{{Kind: 2, Return: all}, {Kind: 9}}, {{}, {}}} {
			f := resolve.New(o, 2)
			for range 9 {
				f.Note(of(kind))
			}
			if _, _, ok := f.At(); ok {
				t.Errorf("a fold of two sources goes on behind nine outcomes of kind %d", kind)
			}
		}
	}
}

// A fold keeps nothing of what it is handed, and hands out nothing of its own.
func TestFoldIsItsOwn(t *testing.T) {
	o := line(t, "files dns")
	f := resolve.New(o, 1)
	o[0] = api.Source{Kind: api.LLMNR, Return: [5]bool{api.NotFound: true}}
	if f.Kind(0) != api.Files {
		t.Error("New keeps the order that is handed in")
	}
	f.Note(of(api.NotFound))
	if src, _, ok := f.At(); src != 1 || !ok {
		t.Error("New keeps the actions that are handed in")
	}
	l := list(host(1))
	f.Note(of(api.Success, l...))
	l[0] = host(9)
	got := f.Reply()
	if got.Records[0] != host(1) {
		t.Error("Note keeps the records that are handed in")
	}
	got.Records[0] = host(8)
	if f.Reply().Records[0] != host(1) {
		t.Error("Reply hands out what is kept")
	}
}

// Nor does the second candidate's outcome share its records.
func TestLaterOutcomeIsItsOwn(t *testing.T) {
	f := resolve.New(line(t, "dns"), 3)
	l, m := list(host(1)), list(host(2))
	f.Note(of(api.NotFound, l...))
	f.Note(of(api.NoData, m...))
	f.Note(of(api.Unavail))
	l[0], m[0] = host(9), host(9)
	checkOver(t, "records that were changed", f, at(0, 1, api.NoData, host(2)))
	g, h := resolve.New(line(t, "dns"), 1), resolve.New(line(t, "dns"), 1)
	g.Note(of(api.Success))
	if _, _, ok := h.At(); !ok {
		t.Error("a fold hangs on another one")
	}
}

func TestResolve(t *testing.T) {
	const s, n, u, a, d = api.Success, api.NotFound, api.Unavail, api.TryAgain, api.NoData
	for _, c := range []struct {
		what  string
		line  string
		cands int
		kinds []int
		want  api.Outcome
		ok    bool
	}{
		{"the chapter's example", "files dns", 1, []int{n, s}, at(1, 0, s), true},
		{"over with the last one, early", "files dns", 2, []int{s}, at(0, 0, s), true},
		{"over behind all", "files dns", 2, []int{n, d, u, a}, at(1, 1, a), true},
		{"over by an action", "files dns [NOTFOUND=return] llmnr", 1, []int{n, d}, at(1, 0, d), true},
		{"none yet", "files dns", 2, nil, at(0, 0, u), false},
		{"too few", "files dns", 2, []int{n}, at(0, 0, n), false},
		{"too few, a source's all", "files dns", 2, []int{n, d}, at(0, 1, d), false},
		{"too few by one", "files dns", 2, []int{n, d, u}, at(1, 0, u), false},
		{"too many by one", "files dns", 2, []int{n, d, u, a, s}, at(1, 1, a), false},
		{"too many behind a Success", "files dns", 2, []int{n, s, n}, at(0, 1, s), false},
		{"too many behind an action", "files [TRYAGAIN=return]", 1, []int{a, s, s}, at(0, 0, a), false},
	} {
		if got, ok := resolve.Resolve(line(t, c.line), c.cands, outcomes(c.kinds...)...); !same(got, c.want) || ok != c.ok {
			t.Errorf("%s: %v, %v, not %v, %v", c.what, got, ok, c.want, c.ok)
		}
	}
}

func TestResolveLeavesWhatItWasGiven(t *testing.T) {
	o, l := line(t, "files dns"), []api.Outcome{at(5, 6, api.NotFound, host(1)), at(7, 8, api.Success, host(2))}
	got, _ := resolve.Resolve(o, 1, l...)
	got.Records[0] = host(9)
	if !same(l[0], at(5, 6, api.NotFound, host(1))) || !same(l[1], at(7, 8, api.Success, host(2))) || !reflect.DeepEqual(o, line(t, "files dns")) {
		t.Errorf("Resolve changed %v or %v", o, l)
	}
}

func TestError(t *testing.T) {
	for _, c := range []struct {
		kind int
		want api.Errno
		text string
	}{
		{api.NotFound, api.ErrNone, "a.b: nomenclator: error 9"},
		{api.NoData, api.ErrData, "a.b: nomenclator: error 10"},
		{api.Unavail, api.ErrLink, "a.b: nomenclator: error 12"},
		{api.TryAgain, api.ErrTime, "a.b: nomenclator: error 11"},
		{0, api.ErrTime, "a.b: nomenclator: error 11"},
		{6, api.ErrTime, "a.b: nomenclator: error 11"},
		{-1, api.ErrTime, "a.b: nomenclator: error 11"},
	} {
		err := resolve.Error("a.b", at(1, 2, c.kind, host(1)))
		var w *resolve.Why
		if !errors.As(err, &w) || w.Name != "a.b" || w.Err != error(c.want) || w.Unwrap() != error(c.want) || err != error(w) {
			t.Errorf("Error of kind %d is %v", c.kind, err)
			continue
		}
		if err.Error() != c.text {
			t.Errorf("Error of kind %d has the text %q", c.kind, err.Error())
		}
		if !errors.Is(err, c.want) || resolve.Number(err) != c.want {
			t.Errorf("Error of kind %d isn't found: %v", c.kind, err)
		}
	}
	if err := resolve.Error("a", of(api.Success, host(1))); err != nil {
		t.Errorf("Error of Success is %v", err)
	}
	if err := resolve.Error("a", of(api.Success)); err != nil {
		t.Errorf("Error of Success without records is %v", err)
	}
	if s := resolve.Error("", of(api.NotFound)).Error(); s != ": nomenclator: error 9" {
		t.Errorf("Error of no name has the text %q", s)
	}
	if resolve.Error("a", of(api.NotFound)) == resolve.Error("a", of(api.NotFound)) {
		t.Error("two errors are one in memory")
	}
}

// A Why may be put together by hand.
func TestWhy(t *testing.T) {
	other := errors.New("x: y")
	for _, c := range []struct {
		w    *resolve.Why
		text string
	}{
		{&resolve.Why{Name: "a", Err: other}, "a: x: y"},
		{&resolve.Why{Name: "b", Err: &resolve.Why{Name: "a", Err: other}}, "b: a: x: y"},
		{&resolve.Why{Name: "bücher.de", Err: api.ErrTime}, "bücher.de: nomenclator: error 11"},
	} {
		if s := c.w.Error(); s != c.text {
			t.Errorf("Error() = %q, not %q", s, c.text)
		}
		if !errors.Is(c.w, c.w.Err) || c.w.Unwrap() != c.w.Err {
			t.Errorf("%v isn't around its error", c.w)
		}
	}
	empty := &resolve.Why{Name: "a"}
	if empty.Unwrap() != nil {
		t.Error("a Why without an error is around one")
	}
	// What they tell isn't said, but it ends.
	_ = empty.Error()
	_ = (&resolve.Why{Name: "a", Err: panics{}}).Error()
	_ = (&resolve.Why{Name: "a", Err: (*resolve.Why)(nil)}).Error()
}

// Errors of all kinds that there may be.
type (
	panics  struct{}              // whatever it is asked
	plain   struct{ l []error }   // that can't be held against another one
	says    struct{ n api.Errno } // it says which number it is
	denies  struct{ err error }   // it says that it is none, and is around one
	insists struct {              // it says which number it is, and is around one
		says
		around
	}
	saysAll struct { // it says whether it is a number, and is around more than one
		is bool
		says
		several
	}
	around  struct{ err error }       // one
	several struct{ l []error }       // more than one
	number  int                       // a number of another type
	round   struct{ to error }        // itself, by a pointer
	rounds  struct{ times, with int } // itself, so many times
)

func (panics) Error() string   { panic("no text") }
func (panics) Unwrap() error   { panic("nothing within") }
func (plain) Error() string    { return "" }
func (says) Error() string     { return "" }
func (denies) Error() string   { return "" }
func (around) Error() string   { return "" }
func (several) Error() string  { return "" }
func (number) Error() string   { return "" }
func (*round) Error() string   { return "" }
func (rounds) Error() string   { return "" }
func (x denies) Unwrap() error { return x.err }
func (x around) Unwrap() error { return x.err }
func (x *round) Unwrap() error { return x.to }
func (x several) Unwrap() []error {
	return x.l
}

func (x rounds) Unwrap() []error {
	l := make([]error, x.times)
	for i := range l {
		l[i] = x
	}
	return l
}

func (insists) Error() string { return "" }
func (saysAll) Error() string { return "" }
func (x saysAll) As(target any) bool {
	return x.is && x.says.As(target)
}

func (x says) As(target any) bool {
	p, ok := target.(*api.Errno)
	if ok {
		*p = x.n
	}
	return ok
}

func (denies) As(target any) bool {
	*target.(*api.Errno) = 99
	return false
}

func TestNumber(t *testing.T) {
	_, fault := conf.Parse("search a..b")
	other := errors.New("x")
	for _, c := range []struct {
		what string
		err  error
		want api.Errno
	}{
		{"no error", nil, api.OK},
		{"a number", api.ErrBusy, api.ErrBusy},
		{"the number of no error", api.OK, api.OK},
		{"a number that has no name", api.Errno(-77), -77},
		{"a Why", &resolve.Why{Name: "a", Err: api.ErrNone}, api.ErrNone},
		{"a Why around one", &resolve.Why{Name: "a", Err: &resolve.Why{Name: "b", Err: api.ErrData}}, api.ErrData},
		{"a Why around nothing", &resolve.Why{Name: "a"}, api.ErrArg},
		{"a Why around another error", &resolve.Why{Name: "a", Err: other}, api.ErrArg},
		{"a Fault", fault, api.ErrName},
		{"another error", other, api.ErrArg},
		{"another one of the library", io.EOF, api.ErrArg},
		{"a number of another type", number(3), api.ErrArg},
		{"one that is wrapped by a text", fmt.Errorf("x: %w", api.ErrPuny), api.ErrPuny},
		{"two, the first one's", fmt.Errorf("%w: %w", api.ErrLong, api.ErrPuny), api.ErrLong},
		{"joined ones, the first one that has one", errors.Join(other, around{other}, around{api.ErrLine}, api.ErrMsg), api.ErrLine},
		{"joined ones within joined ones", errors.Join(errors.Join(other, errors.Join(other, api.ErrAddr)), api.ErrMsg), api.ErrAddr},
		{"joined ones without", errors.Join(other, io.EOF), api.ErrArg},
		{"nothing among several", several{[]error{nil, nil, api.ErrChase, nil}}, api.ErrChase},
		{"several, but none", several{}, api.ErrArg},
		{"around nothing", around{}, api.ErrArg},
		{"one that can't be held against another", around{plain{[]error{other}}}, api.ErrArg},
		{"several that can't", several{[]error{plain{}, several{}, api.ErrTime}}, api.ErrTime},
		{"one that says so", says{api.ErrLink}, api.ErrLink},
		{"one that says so, within", around{several{[]error{other, says{api.ErrLink}, api.ErrMsg}}}, api.ErrLink},
		{"one that says that it is none", denies{other}, api.ErrArg},
		{"one that says that it is none, and is around one", denies{around{api.ErrMsg}}, api.ErrMsg},
		{"one that says so, and is around one", insists{says{api.ErrLink}, around{api.ErrMsg}}, api.ErrLink},
		{"one that says so, and is around several", saysAll{true, says{api.ErrLink}, several{[]error{api.ErrMsg}}}, api.ErrLink},
		{"one that says that it is none, and is around several", saysAll{false, says{}, several{[]error{nil, api.ErrMsg}}}, api.ErrMsg},
	} {
		if got := resolve.Number(c.err); got != c.want {
			t.Errorf("%s: Number = %d, not %d", c.what, got, c.want)
		}
	}
}

// What is asked may change nothing.
func TestNumberLeavesLists(t *testing.T) {
	l := []error{io.EOF, around{io.EOF}, api.ErrMsg}
	if resolve.Number(several{l}) != api.ErrMsg || l[0] != io.EOF || l[1] != error(around{io.EOF}) || l[2] != error(api.ErrMsg) {
		t.Errorf("Number changed %v", l)
	}
}

// Errors that panic have no number.
func TestNumberOfPanics(t *testing.T) {
	for _, err := range []error{panics{}, around{panics{}}, several{[]error{panics{}, api.ErrMsg}}, (*resolve.Why)(nil)} {
		if got := resolve.Number(err); got != api.ErrArg {
			t.Errorf("Number(%T) = %d", err, got)
		}
	}
}

// A vast one is of many, the first of them itself.
type vast struct{ n int }

func (*vast) Error() string { return "" }
func (x *vast) Unwrap() []error {
	l := make([]error, x.n)
	l[0] = x
	return l
}

// Nor have those that go round: errors.As wouldn't end.
func TestNumberEnds(t *testing.T) {
	one, ring := &round{}, make([]error, 2)
	one.to = around{one}
	ring[0], ring[1] = several{ring}, api.ErrMsg
	for what, err := range map[string]error{
		"an error around itself, and a number": several{[]error{one, api.ErrMsg}},
		"errors among which they are":          several{ring},
		"an error of one that is always anew":  rounds{times: 1},
		"an error of many, the first itself":   &vast{n: 1 << 22},
	} {
		t.Run(what, func(t *testing.T) {
			t.Parallel() // each takes some seconds
			if got := resolve.Number(err); got != api.ErrArg {
				t.Errorf("Number = %d", got)
			}
		})
	}
}

// A countdown is around one that is nearer the end, where there is a number.
type countdown struct{ left int }

func (countdown) Error() string { return "" }
func (x countdown) Unwrap() error {
	if x.left == 0 {
		return api.ErrLong
	}
	return countdown{left: x.left - 1}
}

// However deep a number is, and among however many others, it is found.
func TestNumberFar(t *testing.T) {
	other := errors.New("x")
	wrapped, joined, one, alike := error(api.ErrTime), error(api.ErrTime), error(api.ErrTime), other
	for range 1<<22 + 1 {
		wrapped = &resolve.Why{Name: "a", Err: wrapped}
	}
	for range 1 << 20 {
		joined = several{[]error{joined, other}}
		one = several{[]error{one}}
	}
	for range 24 {
		alike = several{[]error{alike, alike}}
	}
	wide := make([]error, 1<<24+1)
	for i := range wide {
		wide[i] = other
	}
	last := slices.Clone(wide)
	wide[0], last[1<<24] = api.ErrTime, api.ErrTime
	for _, c := range []struct {
		what string
		err  error
		want api.Errno
	}{
		{"deep within others", wrapped, api.ErrTime},
		{"very deep within others", countdown{left: 1 << 26}, api.ErrLong},
		{"first of many", several{wide}, api.ErrTime},
		{"first of many, joined", errors.Join(wide...), api.ErrTime},
		{"last of many", several{last}, api.ErrTime},
		{"deep within lists", joined, api.ErrTime},
		{"deep within lists of one", one, api.ErrTime},
		{"behind lists that are asked again and again", several{[]error{alike, api.ErrTime}}, api.ErrTime},
		{"behind many lists", several{append(slices.Repeat([]error{several{wide[1:]}}, 9), several{[]error{several{last}}})}, api.ErrTime},
		{"nowhere", several{[]error{alike, several{wide[1:]}}}, api.ErrArg},
	} {
		if got := resolve.Number(c.err); got != c.want {
			t.Errorf("%s: Number = %d, not %d", c.what, got, c.want)
		}
	}
}
