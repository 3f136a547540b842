package link_test

// The chapter's words once more, told in another way, and held against the calls, for all tables of a few kinds of links,
// and for drawn runs of calls.

import (
	"maps"
	"math/rand/v2"
	"slices"
	"strings"
	"testing"

	"nomenclator/api"
	"nomenclator/link"
)

var draws = rand.New(rand.NewPCG(11, 1))

// A model has the links that live, and how often one was set.
type model struct {
	of  map[int]api.Link
	set int
}

// may: Right, said again, of domains of ASCII without xn--.
func may(l api.Link) bool {
	for _, d := range l.Domains {
		if d == "." {
			continue
		}
		for _, x := range strings.Split(d, ".") {
			if x == "" || len(x) > 63 || strings.Trim(x, "abcdefghijklmnopqrstuvwxyz0123456789-_") != "" || strings.Trim(x, "-") != x {
				return false
			}
		}
		if len(d) >= 254 {
			return false
		}
	}
	return len(l.Domains) < 5 && len(l.Servers) < 4 && len(l.Locals) < 5
}

func (m *model) doSet(i int, l api.Link) api.Errno {
	switch {
	case i < 0 || i > 3:
		return api.ErrLink
	case !may(l):
		return api.ErrArg
	}
	m.set++
	l.Live, l.Gen = true, m.set
	m.of[i] = l
	return api.OK
}

func (m *model) doRemove(i int) api.Errno {
	if _, ok := m.of[i]; !ok {
		return api.ErrLink
	}
	delete(m.of, i)
	return api.OK
}

// numbers: of the links that live, and are so, in order.
func (m *model) numbers(so func(l api.Link) bool) []int {
	var l []int
	for _, i := range slices.Sorted(maps.Keys(m.of)) {
		if so(m.of[i]) {
			l = append(l, i)
		}
	}
	return l
}

// route: Route, said again: the name itself, then what stands behind each of its points, then the point: the first of these
// that is a domain of any link tells which ones.
func (m *model) route(n string) []int {
	rest, more := strings.ToLower(n), true
	for more {
		if l, ok := m.owners(rest); ok {
			return l
		}
		_, rest, more = strings.Cut(rest, ".")
	}
	if l, ok := m.owners("."); ok {
		return l
	}
	return m.numbers(func(l api.Link) bool { return l.Default && l.Servers != nil })
}

// owners: the links with servers that have a domain; false: no link has it.
func (m *model) owners(domain string) ([]int, bool) {
	has := func(l api.Link) bool { return domain != "" && slices.Contains(l.Domains, domain) }
	all := m.numbers(has)
	return m.numbers(func(l api.Link) bool { return has(l) && l.Servers != nil }), len(all) > 0
}

func (m *model) neighbours(n string) []int {
	return m.numbers(func(l api.Link) bool { return l.LLMNR && len(strings.Split(n, ".")) == 1 })
}

// wantSame: a table tells what the model tells, of all links and these names.
func wantSame(t *testing.T, n *link.Table, m *model, names []string) {
	t.Helper()
	var locals []api.Local
	for i := -1; i < 6; i++ {
		want, lives := m.of[i]
		got, ok := n.Get(i)
		if ok != lives || !same(got, want) {
			t.Fatalf("Get(%d) = %+v, %v, not %+v, %v", i, got, ok, want, lives)
		}
		if (n.Cache(i) != nil) != lives {
			t.Fatalf("Cache(%d) = %v, but it lives: %v", i, n.Cache(i), lives)
		}
		locals = append(locals, want.Locals...)
	}
	wantLocals(t, n, locals...)
	for _, to := range names {
		if got, want := n.Route(to), m.route(to); !slices.Equal(got, want) {
			t.Fatalf("Route(%q) = %v, not %v, of %+v", to, got, want, m.of)
		}
		if got, want := n.Neighbours(to), m.neighbours(to); !slices.Equal(got, want) {
			t.Fatalf("Neighbours(%q) = %v, not %v, of %+v", to, got, want, m.of)
		}
	}
}

// kinds: links of all domains that tell of names of two labels, and of nothing, in all ways.
func kinds() []api.Link {
	var l []api.Link
	for _, d := range []string{"", ".", "b", "a.b", "b a.b", ". c", "c.b a"} {
		for _, rest := range []string{"", "servers", "default", "servers default", "servers default llmnr"} {
			l = append(l, of(d+"|"+rest))
		}
	}
	return l
}

// Each three of these, at three of the four places.
func TestAllTables(t *testing.T) {
	names := []string{"a", "b", "B", "a.b", "x.a.b", "x.b", "c.b", "ab", "x", "c", "", ".", "b.", "a.B", "b.a"}
	l := kinds()
	for x := range l {
		for y := range l {
			for z := range l {
				n, m := link.New(), &model{of: map[int]api.Link{}}
				without := (x + y + z) % 4
				for i, k := range []int{x, y, z} {
					place := (without + 1 + i) % 4
					n.Set(place, l[k])
					m.doSet(place, l[k])
				}
				wantSame(t, n, m, names)
			}
		}
	}
}

var someLabels = []string{"a", "b", "c", "ab", "corp", "x-y", "_z"}

// someName: of up to four labels.
func someName() string {
	var l []string
	for range 1 + draws.IntN(4) {
		l = append(l, someLabels[draws.IntN(1+draws.IntN(len(someLabels)))])
	}
	return strings.Join(l, ".")
}

// wrong: texts that are no domains.
var wrong = []string{"", "..", "A", "a.", ".a", "a..b", "-a", "a-", "a b", "a.B", "*", "a,b", strings.Repeat("a", 64), long(62)}

func someDomain() string {
	switch draws.IntN(40) {
	case 0:
		return wrong[draws.IntN(len(wrong))]
	case 1, 2, 3, 4:
		return "."
	}
	return someName()
}

// upTo: from 0 to n, and now and then one more.
func upTo(n int) int {
	if draws.IntN(60) == 0 {
		return n + 1
	}
	return draws.IntN(n + 1)
}

func someLink() api.Link {
	l := api.Link{Live: draws.IntN(2) == 0, Gen: draws.IntN(9), Default: draws.IntN(2) == 0, LLMNR: draws.IntN(2) == 0}
	for range upTo(4) {
		l.Domains = append(l.Domains, someDomain())
	}
	for range upTo(3) {
		l.Servers = append(l.Servers, api.Addr{15: byte(draws.Uint32())})
	}
	for range upTo(4) {
		l.Locals = append(l.Locals, api.Local{Addr: api.Addr{15: byte(draws.Uint32())}, Deprecated: draws.IntN(2) == 0, Home: draws.IntN(2) == 0})
	}
	return l
}

// someNames: those that a link's domains tell of, and others.
func someNames(m *model) []string {
	l := []string{someName(), strings.ToUpper(someName()), someName() + ".", "." + someName(), wrong[draws.IntN(len(wrong))]}
	for i := range 4 {
		for _, d := range m.of[i].Domains {
			l = append(l, d, someName()+"."+d, "x"+d)
		}
	}
	return l
}

func TestDrawnRuns(t *testing.T) {
	ok := 0
	for range 400 {
		n, m := link.New(), &model{of: map[int]api.Link{}}
		for range 60 {
			i := draws.IntN(4)
			if draws.IntN(20) == 0 {
				i = draws.IntN(9) - 3
			}
			if draws.IntN(4) == 0 {
				wantErr(t, "Remove", n.Remove(i), m.doRemove(i))
			} else {
				l := someLink()
				if link.Right(l) != may(l) {
					t.Fatalf("Right(%+v) = %v", l, !may(l))
				}
				want := m.doSet(i, l)
				wantErr(t, "Set", n.Set(i, l), want)
				if want == api.OK {
					ok++
				}
			}
			wantSame(t, n, m, someNames(m))
		}
	}
	if ok < 10000 {
		t.Fatalf("the drawn runs test too little: %d", ok)
	}
}
