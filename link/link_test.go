package link_test

import (
	"math"
	"reflect"
	"slices"
	"strconv"
	"strings"
	"testing"

	"nomenclator/addr"
	"nomenclator/api"
	"nomenclator/cache"
	"nomenclator/link"
)

var server = addr.V4(192, 0, 2, 53)

// of: a link of a text: servers, default and llmnr stand behind a bar; ahead of it its domains.
func of(text string) api.Link {
	domains, rest, _ := strings.Cut(text, "|")
	words := strings.Fields(rest)
	l := api.Link{
		Domains: strings.Fields(domains),
		Default: slices.Contains(words, "default"),
		LLMNR:   slices.Contains(words, "llmnr"),
	}
	if slices.Contains(words, "servers") {
		l.Servers = []api.Addr{server}
	}
	return l
}

// tableOf: links that live from 0 on; of an empty text none lives.
func tableOf(t *testing.T, texts ...string) *link.Table {
	t.Helper()
	n := link.New()
	for i, s := range texts {
		if s != "" {
			wantErr(t, "Set", n.Set(i, of(s)), api.OK)
		}
	}
	return n
}

func local(last byte) api.Local { return api.Local{Addr: addr.V4(192, 0, 2, last), Home: last%2 == 1} }

func wantErr(t *testing.T, what string, got, want api.Errno) {
	t.Helper()
	if got != want {
		t.Fatalf("%s: %v, not %v", what, got, want)
	}
}

// same: are two links the same, empty lists being none?
func same(a, b api.Link) bool {
	return slices.Equal(a.Domains, b.Domains) && slices.Equal(a.Servers, b.Servers) && slices.Equal(a.Locals, b.Locals) &&
		a.Live == b.Live && a.Gen == b.Gen && a.Default == b.Default && a.LLMNR == b.LLMNR
}

// wantLink: a link lives, and is so, of that generation.
func wantLink(t *testing.T, n *link.Table, i int, l api.Link, gen int) {
	t.Helper()
	l.Live, l.Gen = true, gen
	if got, ok := n.Get(i); !ok || !same(got, l) {
		t.Fatalf("Get(%d) = %+v, %v, not %+v, true", i, got, ok, l)
	}
	if n.Cache(i) == nil {
		t.Fatalf("Cache(%d) = nil", i)
	}
}

func wantDead(t *testing.T, n *link.Table, numbers ...int) {
	t.Helper()
	for _, i := range numbers {
		if l, ok := n.Get(i); ok || !reflect.DeepEqual(l, api.Link{}) {
			t.Fatalf("Get(%d) = %+v, %v, not nothing, false", i, l, ok)
		}
		if c := n.Cache(i); c != nil {
			t.Fatalf("Cache(%d) = %v, not nil", i, c)
		}
	}
}

func wantLocals(t *testing.T, n *link.Table, want ...api.Local) {
	t.Helper()
	if got := n.Locals(); !slices.Equal(got, want) {
		t.Fatalf("Locals() = %v, not %v", got, want)
	}
}

func wantRoute(t *testing.T, n *link.Table, to string, want ...int) {
	t.Helper()
	if got := n.Route(to); !slices.Equal(got, want) {
		t.Fatalf("Route(%q) = %v, not %v", to, got, want)
	}
}

func wantNeighbours(t *testing.T, n *link.Table, to string, want ...int) {
	t.Helper()
	if got := n.Neighbours(to); !slices.Equal(got, want) {
		t.Fatalf("Neighbours(%q) = %v, not %v", to, got, want)
	}
}

// outside: numbers that no link has.
var outside = []int{-1, -2, -4, 4, 5, 8, 256, 1 << 32, 1<<32 + 1, -1 << 32, math.MaxInt, math.MinInt}

func TestNew(t *testing.T) {
	n := link.New()
	wantDead(t, n, 0, 1, 2, 3)
	wantDead(t, n, outside...)
	wantLocals(t, n)
	for _, to := range []string{"", ".", "a", "a.b", "A", "é"} {
		wantRoute(t, n, to)
		wantNeighbours(t, n, to)
	}
	for i := range 4 {
		wantErr(t, "Remove", n.Remove(i), api.ErrLink)
	}
	// each has its own
	other := link.New()
	wantErr(t, "Set", n.Set(2, of("corp|servers")), api.OK)
	wantDead(t, other, 0, 1, 2, 3)
	wantErr(t, "Set", other.Set(2, of("net|servers")), api.OK)
	wantLink(t, n, 2, of("corp|servers"), 1)
	wantLink(t, other, 2, of("net|servers"), 1)
}

// domains: so many that may be.
func domains(n int) []string {
	var l []string
	for i := range n {
		l = append(l, "d"+strconv.Itoa(i))
	}
	return l
}

// long: a name of 63, 63, 63 and so many signs, with the points between.
func long(n int) string {
	x := strings.Repeat("x", 63)
	return x + "." + x + "." + x + "." + strings.Repeat("y", n)
}

// wants: which links may be set so.
var wants = []struct {
	what string
	l    api.Link
	want bool
}{
	{"nothing", api.Link{}, true},
	{"empty lists", api.Link{Domains: []string{}, Servers: []api.Addr{}, Locals: []api.Local{}}, true},
	{"all that is neither a list", api.Link{Live: true, Gen: 7, Default: true, LLMNR: true}, true},
	{"a generation below 0", api.Link{Gen: math.MinInt}, true},
	{"the greatest generation", api.Link{Gen: math.MaxInt}, true},

	{"1 domain", api.Link{Domains: domains(1)}, true},
	{"4 domains", api.Link{Domains: domains(4)}, true},
	{"5 domains", api.Link{Domains: domains(5)}, false},
	{"100 domains", api.Link{Domains: domains(100)}, false},
	{"4 points", api.Link{Domains: []string{".", ".", ".", "."}}, true},
	{"5 points", api.Link{Domains: []string{".", ".", ".", ".", "."}}, false},
	{"3 servers", api.Link{Servers: make([]api.Addr, 3)}, true},
	{"4 servers", api.Link{Servers: make([]api.Addr, 4)}, false},
	{"5 servers", api.Link{Servers: make([]api.Addr, 5)}, false},
	{"100 servers", api.Link{Servers: make([]api.Addr, 100)}, false},
	{"4 locals", api.Link{Locals: make([]api.Local, 4)}, true},
	{"5 locals", api.Link{Locals: make([]api.Local, 5)}, false},
	{"100 locals", api.Link{Locals: make([]api.Local, 100)}, false},
	{"all lists full", api.Link{Domains: domains(4), Servers: make([]api.Addr, 3), Locals: make([]api.Local, 4)}, true},
	{"all full, but domains", api.Link{Domains: domains(5), Servers: make([]api.Addr, 3), Locals: make([]api.Local, 4)}, false},
	{"all full, but servers", api.Link{Domains: domains(4), Servers: make([]api.Addr, 4), Locals: make([]api.Local, 4)}, false},
	{"all full, but locals", api.Link{Domains: domains(4), Servers: make([]api.Addr, 3), Locals: make([]api.Local, 5)}, false},

	{"a point", of("."), true},
	{"labels", of("corp a.corp _a-b.c_ 0"), true},
	{"the same twice", of("corp corp"), true},
	{"Punycode", of("xn--bcher-kva.de"), true},
	{"253 signs", api.Link{Domains: []string{long(61)}}, true},
	{"254 signs", api.Link{Domains: []string{long(62)}}, false},
	{"a label of 63", api.Link{Domains: []string{strings.Repeat("x", 63)}}, true},
	{"a label of 64", api.Link{Domains: []string{strings.Repeat("x", 64)}}, false},
	{"an empty text", api.Link{Domains: []string{""}}, false},
	{"two points", of(".."), false},
	{"a point at its end", of("corp."), false},
	{"a point at its beginning", of(".corp"), false},
	{"an empty label", of("a..corp"), false},
	{"a capital", of("X"), false},
	{"a capital further on", of("a.corP"), false},
	{"beyond ASCII", of("bücher.de"), false},
	{"capitals of Punycode", of("xn--bcher-KVA.de"), false},
	{"no Punycode", of("xn--a"), false},
	{"Punycode of ASCII", of("xn--a-"), false},
	{"a - at its beginning", of("-a"), false},
	{"a - at its end", of("a-"), false},
	{"a *", of("*"), false},
	{"a blank", api.Link{Domains: []string{" "}}, false},
	{"a blank behind", api.Link{Domains: []string{"corp "}}, false},
	{"no UTF-8", api.Link{Domains: []string{"\xff"}}, false},
	{"a zero byte", api.Link{Domains: []string{"a\x00"}}, false},
	{"the first one of four", of("X b c d"), false},
	{"the second one of four", of("a X c d"), false},
	{"the last one of four", of("a b c X"), false},
	{"behind a point", of(". X"), false},
	{"ahead of a point", of("X ."), false},
	{"an empty one behind another", api.Link{Domains: []string{"a", ""}}, false},
}

func TestRight(t *testing.T) {
	for _, c := range wants {
		if got := link.Right(c.l); got != c.want {
			t.Errorf("%s: Right = %v, not %v", c.what, got, c.want)
		}
	}
}

func TestSet(t *testing.T) {
	for _, c := range wants {
		for i := range 4 {
			n := link.New()
			if !c.want {
				wantErr(t, c.what, n.Set(i, c.l), api.ErrArg)
				wantDead(t, n, 0, 1, 2, 3)
				continue
			}
			wantErr(t, c.what, n.Set(i, c.l), api.OK)
			for k := range 4 {
				if k == i {
					wantLink(t, n, i, c.l, 1)
				} else {
					wantDead(t, n, k)
				}
			}
		}
		// there is no such one: whatever it is
		for _, i := range outside {
			n := link.New()
			wantErr(t, c.what, n.Set(i, c.l), api.ErrLink)
			wantDead(t, n, 0, 1, 2, 3)
			wantDead(t, n, i)
		}
	}
}

// full: a link that has all that one can have.
func full() api.Link {
	return api.Link{
		Live:    false,
		Gen:     99,
		Domains: []string{"corp", ".", "a.corp", "net"},
		Default: true,
		LLMNR:   true,
		Servers: []api.Addr{server, addr.V4(192, 0, 2, 54), {15: 1}},
		Locals:  []api.Local{local(1), local(2), {Addr: api.Addr{15: 1}, Deprecated: true}, local(4)},
	}
}

// It is as it was set last, whole.
func TestSetAnew(t *testing.T) {
	n := link.New()
	wantErr(t, "Set", n.Set(1, full()), api.OK)
	wantLink(t, n, 1, full(), 1)
	wantErr(t, "Set", n.Set(1, api.Link{}), api.OK)
	wantLink(t, n, 1, api.Link{}, 2)
	wantRoute(t, n, "a.corp")
	wantNeighbours(t, n, "a")
	wantLocals(t, n)
	wantErr(t, "Set", n.Set(1, full()), api.OK)
	wantLink(t, n, 1, full(), 3)
	wantRoute(t, n, "a.corp", 1)
	wantNeighbours(t, n, "a", 1)
	wantLocals(t, n, full().Locals...)
}

// A generation is one more than the last one that any link had, gone ones too.
func TestGen(t *testing.T) {
	n := link.New()
	wantErr(t, "Set", n.Set(3, of("a")), api.OK)
	wantErr(t, "Set", n.Set(0, of("b")), api.OK)
	wantErr(t, "Set", n.Set(1, of("c")), api.OK)
	wantLink(t, n, 3, of("a"), 1)
	wantLink(t, n, 0, of("b"), 2)
	wantLink(t, n, 1, of("c"), 3)
	wantErr(t, "Set", n.Set(3, of("a")), api.OK)
	wantLink(t, n, 3, of("a"), 4)
	// an error makes none
	wantErr(t, "Set", n.Set(4, of("d")), api.ErrLink)
	wantErr(t, "Set", n.Set(-1, of("d")), api.ErrLink)
	wantErr(t, "Set", n.Set(2, of("D")), api.ErrArg)
	wantErr(t, "Set", n.Set(3, of("D")), api.ErrArg)
	wantErr(t, "Remove", n.Remove(2), api.ErrLink)
	wantErr(t, "Set", n.Set(2, of("d")), api.OK)
	wantLink(t, n, 2, of("d"), 5)
	// the last one goes, and then all
	wantErr(t, "Remove", n.Remove(2), api.OK)
	wantErr(t, "Set", n.Set(2, of("e")), api.OK)
	wantLink(t, n, 2, of("e"), 6)
	for i := range 4 {
		wantErr(t, "Remove", n.Remove(i), api.OK)
	}
	wantErr(t, "Set", n.Set(0, of("f")), api.OK)
	wantLink(t, n, 0, of("f"), 7)
	// what is told with it tells nothing
	for i, gen := range []int{0, 1, 7, 100, -1, math.MaxInt, math.MinInt} {
		l := of("g")
		l.Gen, l.Live = gen, i%2 == 0
		wantErr(t, "Set", n.Set(i%4, l), api.OK)
		wantLink(t, n, i%4, l, 8+i)
	}
}

// What answers an error changes nothing.
func TestErrorsChangeNothing(t *testing.T) {
	n := link.New()
	wantErr(t, "Set", n.Set(1, full()), api.OK)
	wantErr(t, "Set", n.Set(2, of("org|servers")), api.OK)
	c := n.Cache(1)
	put(c, "a")
	for _, i := range outside {
		wantErr(t, "Set", n.Set(i, of("x|servers default llmnr")), api.ErrLink)
		wantErr(t, "Remove", n.Remove(i), api.ErrLink)
	}
	for i := range 4 {
		wantErr(t, "Set", n.Set(i, of("x. x|servers default llmnr")), api.ErrArg)
	}
	wantErr(t, "Remove", n.Remove(0), api.ErrLink)
	wantErr(t, "Remove", n.Remove(3), api.ErrLink)
	wantDead(t, n, 0, 3)
	wantLink(t, n, 1, full(), 1)
	wantLink(t, n, 2, of("org|servers"), 2)
	wantLocals(t, n, full().Locals...)
	wantRoute(t, n, "x", 1)
	wantNeighbours(t, n, "x", 1)
	if n.Cache(1) != c || c.Len() != 1 {
		t.Fatalf("the cache is another one, or has %d entries", n.Cache(1).Len())
	}
}

func put(c *cache.Cache, n string) {
	c.Put(0, api.Question{Name: n, Type: api.A}, api.NoData, nil, 9)
}

func wantLen(t *testing.T, c *cache.Cache, want int) {
	t.Helper()
	if got := c.Len(); got != want {
		t.Fatalf("Len() = %d, not %d", got, want)
	}
}

func TestCache(t *testing.T) {
	n := tableOf(t, "a", "b", "", "d")
	for i, want := range []int{16, 16, 0, 16} {
		wantLen(t, n.Cache(i), 0)
		for k := range 20 {
			put(n.Cache(i), strconv.Itoa(k))
			wantLen(t, n.Cache(i), min(k+1, want))
		}
	}
	// set anew it is a new one; that of the others stays, and so does the old one
	old, other := n.Cache(1), n.Cache(3)
	wantErr(t, "Set", n.Set(1, of("b")), api.OK)
	wantLen(t, n.Cache(1), 0)
	wantLen(t, n.Cache(0), 16)
	wantLen(t, old, 16)
	put(n.Cache(1), "x")
	wantLen(t, n.Cache(1), 1)
	old.Clear()
	wantLen(t, n.Cache(1), 1)
	if n.Cache(3) != other || n.Cache(1) == old {
		t.Fatal("the cache of another link")
	}
	// gone with the link
	wantErr(t, "Remove", n.Remove(1), api.OK)
	if n.Cache(1) != nil {
		t.Fatal("a link that doesn't live has a cache")
	}
	wantErr(t, "Set", n.Set(1, of("b")), api.OK)
	wantLen(t, n.Cache(1), 0)
	for _, i := range outside {
		if n.Cache(i) != nil {
			t.Fatalf("Cache(%d) isn't nil", i)
		}
	}
}

// What one call puts there, the next one tells.
func TestCacheIsKept(t *testing.T) {
	n := tableOf(t, "", "", "c")
	q := api.Question{Name: "a.c", Type: api.A}
	l := []api.Record{{Name: "a.c", Type: api.A, TTL: 10, Addr: server}}
	n.Cache(2).Put(5, q, api.Success, l, 10)
	if k, got := n.Cache(2).Get(5, q); k != api.Success || !slices.Equal(got, l) {
		t.Fatalf("Get = %d, %v", k, got)
	}
	wantErr(t, "Set", n.Set(0, of("c")), api.OK)
	wantErr(t, "Remove", n.Remove(0), api.OK)
	wantLen(t, n.Cache(2), 1)
}

func TestRemove(t *testing.T) {
	const text = "corp|servers default llmnr"
	for gone := range 4 {
		n := tableOf(t, text, text, text, text)
		wantErr(t, "Remove", n.Remove(gone), api.OK)
		wantDead(t, n, gone)
		rest := slices.DeleteFunc([]int{0, 1, 2, 3}, func(i int) bool { return i == gone })
		for _, i := range rest {
			wantLink(t, n, i, of(text), i+1)
		}
		wantRoute(t, n, "a.corp", rest...)
		wantRoute(t, n, "a", rest...)
		wantNeighbours(t, n, "a", rest...)
		wantErr(t, "Remove", n.Remove(gone), api.ErrLink)
		wantDead(t, n, gone)
	}
	// a link that is all zeros lives, too
	n := link.New()
	wantErr(t, "Set", n.Set(0, api.Link{}), api.OK)
	wantErr(t, "Remove", n.Remove(0), api.OK)
	wantErr(t, "Remove", n.Remove(0), api.ErrLink)
}

func TestLocals(t *testing.T) {
	n := link.New()
	with := func(l ...api.Local) api.Link { return api.Link{Locals: l} }
	wantErr(t, "Set", n.Set(3, with(local(9))), api.OK)
	wantErr(t, "Set", n.Set(0, with(local(7), local(3))), api.OK)
	wantLocals(t, n, local(7), local(3), local(9))
	wantErr(t, "Set", n.Set(1, with()), api.OK)
	wantErr(t, "Set", n.Set(2, with(local(9), local(8), local(7), local(7))), api.OK)
	wantLocals(t, n, local(7), local(3), local(9), local(8), local(7), local(7), local(9))
	wantErr(t, "Remove", n.Remove(0), api.OK)
	wantLocals(t, n, local(9), local(8), local(7), local(7), local(9))
	wantErr(t, "Set", n.Set(2, with(api.Local{Addr: api.Addr{15: 1}, Deprecated: true})), api.OK)
	wantLocals(t, n, api.Local{Addr: api.Addr{15: 1}, Deprecated: true}, local(9))
	wantErr(t, "Remove", n.Remove(2), api.OK)
	wantErr(t, "Remove", n.Remove(3), api.OK)
	wantLocals(t, n)
	// all that may be
	for i := range 4 {
		wantErr(t, "Set", n.Set(i, full()), api.OK)
	}
	wantLocals(t, n, slices.Repeat(full().Locals, 4)...)
}

func TestRoute(t *testing.T) {
	for _, c := range []struct {
		what  string
		links []string
		to    string
		want  []int
	}{
		{"the chapter's example", []string{"corp|servers", ".|servers"}, "a.corp", []int{0}},
		{"the chapter's example, another name", []string{"corp|servers", ".|servers"}, "a.net", []int{1}},
		{"the domain itself", []string{"corp|servers", ".|servers"}, "corp", []int{0}},
		{"a part of a label", []string{"corp|servers", ".|servers"}, "acorp", []int{1}},
		{"a part of a label, no other", []string{"corp|servers", "net|servers"}, "x.acorp", nil},
		{"above the domain", []string{"a.corp|servers"}, "corp", nil},
		{"the domain ahead", []string{"corp|servers"}, "corp.a", nil},
		{"capitals", []string{"corp|servers", ".|servers"}, "A.CORP", []int{0}},
		{"a point at its end is one more label", []string{"corp|servers", ".|servers"}, "a.corp.", []int{1}},
		{"beyond ASCII, as it is read", []string{"xn--bcher-kva|servers", ".|servers"}, "a.bücher", []int{1}},
		{"beyond ASCII, as it goes out", []string{"xn--bcher-kva|servers", ".|servers"}, "a.xn--bcher-kva", []int{0}},
		{"an empty name", []string{"corp|servers default", ".|servers"}, "", []int{1}},
		{"a point", []string{"corp|servers default", ".|servers"}, ".", []int{1}},
		{"a name that may not be", []string{"corp|servers", ".|servers"}, "\xff..corp", []int{0}},

		{"the greatest", []string{"corp|servers", "a.corp|servers", ".|servers", "b.a.corp|servers"}, "c.b.a.corp", []int{3}},
		{"the greatest but one", []string{"corp|servers", "a.corp|servers", ".|servers", "b.a.corp|servers"}, "c.a.corp", []int{1}},
		{"the least but one", []string{"corp|servers", "a.corp|servers", ".|servers", "b.a.corp|servers"}, "c.corp", []int{0}},
		{"the least", []string{"corp|servers", "a.corp|servers", ".|servers", "b.a.corp|servers"}, "c.net", []int{2}},
		{"a domain of one sign beside the point", []string{".|servers", "c|servers"}, "a.c", []int{1}},
		{"longer by signs, but not the name's", []string{"a.b.c|servers", "bbbbbbbbbbbb.c|servers"}, "x.a.b.c", []int{0}},
		{"longer, but another one", []string{"b.net|servers", "corp|servers"}, "b.corp", []int{1}},
		{"the greatest is a link's second one", []string{"net a.corp|servers", "corp|servers"}, "a.corp", []int{0}},
		{"the greatest is a link's first one", []string{"a.corp corp|servers", "corp|servers"}, "a.corp", []int{0}},
		{"the greatest is a link's last one", []string{"corp|servers", ". x corp a.corp|servers"}, "a.corp", []int{1}},
		{"one of a link's, not the greatest", []string{"corp net|servers", "a.corp|servers"}, "b.corp", []int{0}},
		{"one longer, but of another name", []string{". a.b.c|servers", "corp|servers"}, "a.corp", []int{1}},

		{"two have it", []string{"corp|servers", ".|servers", "corp|servers"}, "a.corp", []int{0, 2}},
		{"two have it, one of them twice", []string{"corp|servers", "", "corp corp|servers"}, "a.corp", []int{0, 2}},
		{"two have it beside others", []string{". corp|servers", "corp a.net|servers", "net|servers"}, "a.corp", []int{0, 1}},
		{"all have it", []string{"corp|servers", "corp|servers", "corp|servers", "corp|servers"}, "a.corp", []int{0, 1, 2, 3}},
		{"all have the point", []string{".|servers", ".|servers", ".|servers", ".|servers"}, "a.corp", []int{0, 1, 2, 3}},

		{"one without servers has it", []string{"corp|", ".|servers"}, "a.corp", nil},
		{"one without servers has it, beside defaults", []string{"corp|default", ".|servers default", "|servers default"}, "a.corp", nil},
		{"one without servers has the point", []string{".|", "|servers default"}, "a.corp", nil},
		{"one without servers has it, as one with servers", []string{"corp|", "corp|servers"}, "a.corp", []int{1}},
		{"one without servers has a lesser one", []string{".|", "corp|servers"}, "a.corp", []int{1}},
		{"one without servers, another name", []string{"corp|", ".|servers"}, "a.net", []int{1}},
		{"one without servers, another name, and defaults", []string{"corp|", "|servers default"}, "a.net", []int{1}},

		{"defaults", []string{"corp|servers", "|servers default", "net|servers", "org|servers default"}, "a", []int{1, 3}},
		{"all are default", []string{"|servers default", "|servers default", "|servers default", "|servers default"}, "a", []int{0, 1, 2, 3}},
		{"defaults without servers", []string{"|default", "|servers default", "|default llmnr"}, "a", []int{1}},
		{"no default", []string{"|servers", "corp|servers llmnr"}, "a", nil},
		{"defaults beside one that has it", []string{"corp|servers", "|servers default"}, "a.corp", []int{0}},
		{"defaults beside one that has the point", []string{".|servers", "|servers default"}, "a.corp", []int{0}},
		{"a default that has it", []string{"corp|servers default", "|servers default"}, "a.corp", []int{0}},
		{"a default that has another one", []string{"corp|servers default", "|servers default"}, "a.net", []int{0, 1}},
		{"neighbours are no way", []string{"|llmnr", "corp|llmnr default"}, "a.corp", nil},
	} {
		n := tableOf(t, c.links...)
		t.Run(c.what, func(t *testing.T) { wantRoute(t, n, c.to, c.want...) })
	}
}

// What doesn't live counts nothing.
func TestRouteOfThoseThatLive(t *testing.T) {
	n := tableOf(t, ".|servers", "corp|servers", "a.corp|", "|servers default")
	wantRoute(t, n, "x.a.corp")
	wantErr(t, "Remove", n.Remove(2), api.OK)
	wantRoute(t, n, "x.a.corp", 1)
	wantErr(t, "Remove", n.Remove(1), api.OK)
	wantRoute(t, n, "x.a.corp", 0)
	wantErr(t, "Remove", n.Remove(0), api.OK)
	wantRoute(t, n, "x.a.corp", 3)
	wantErr(t, "Remove", n.Remove(3), api.OK)
	wantRoute(t, n, "x.a.corp")
	wantErr(t, "Set", n.Set(2, of("net|servers default")), api.OK)
	wantRoute(t, n, "x.a.corp", 2)
}

// The greatest name, and the longest domains.
func TestRouteOfLongNames(t *testing.T) {
	n := link.New()
	wantErr(t, "Set", n.Set(0, api.Link{Domains: []string{long(61)}, Servers: make([]api.Addr, 1)}), api.OK)
	wantErr(t, "Set", n.Set(1, api.Link{Domains: []string{strings.Repeat("a.", 126) + "a"}, Servers: make([]api.Addr, 1)}), api.OK)
	wantErr(t, "Set", n.Set(2, of("a|servers")), api.OK)
	wantRoute(t, n, long(61), 0)
	wantRoute(t, n, long(60))
	wantRoute(t, n, strings.Repeat("a.", 126)+"a", 1)
	wantRoute(t, n, strings.Repeat("a.", 125)+"a", 2)
	wantRoute(t, n, strings.Repeat("a.", 100000)+"a", 1)
	wantRoute(t, n, strings.Repeat("a", 1<<20))
	wantRoute(t, n, strings.Repeat(".", 1<<20))
}

func TestNeighbours(t *testing.T) {
	n := tableOf(t, "|llmnr", "corp|servers default", ".|servers llmnr", "corp|llmnr default")
	for _, to := range []string{"a", "A", "corp", "", "xn--bcher-kva", "bücher", "\xff", "-", "a b", strings.Repeat("a", 10000)} {
		wantNeighbours(t, n, to, 0, 2, 3)
	}
	for _, to := range []string{"a.", ".a", ".", "..", "a.corp", "1.2.0.192.in-addr.arpa", strings.Repeat("a", 10000) + "."} {
		wantNeighbours(t, n, to)
	}
	wantErr(t, "Remove", n.Remove(2), api.OK)
	wantNeighbours(t, n, "a", 0, 3)
	wantErr(t, "Set", n.Set(0, of("|servers")), api.OK)
	wantNeighbours(t, n, "a", 3)
	wantErr(t, "Set", n.Set(1, of("|llmnr")), api.OK)
	wantNeighbours(t, n, "a", 1, 3)
}

// spoil: all that a link's lists hold is another thing.
func spoil(l api.Link) {
	for i := range l.Domains {
		l.Domains[i] = "spoilt"
	}
	for i := range l.Servers {
		l.Servers[i] = api.Addr{1}
	}
	for i := range l.Locals {
		l.Locals[i] = api.Local{Deprecated: true}
	}
}

// What is handed in isn't changed and not kept; what is answered is new.
func TestListsAreNew(t *testing.T) {
	n := link.New()
	l := full()
	// with room behind, which is nobody else's
	l.Domains = append(make([]string, 0, 9), l.Domains...)
	l.Servers = append(make([]api.Addr, 0, 9), l.Servers...)
	l.Locals = append(make([]api.Local, 0, 9), l.Locals...)
	link.Right(l)
	wantErr(t, "Set", n.Set(1, l), api.OK)
	if !same(l, full()) {
		t.Fatalf("Set changed what it was handed: %+v", l)
	}
	if behind := l.Locals[:9][4]; behind != (api.Local{}) {
		t.Fatalf("Set wrote behind a list: %v", behind)
	}
	spoil(l)
	wantLink(t, n, 1, full(), 1)
	for range 2 {
		got, _ := n.Get(1)
		spoil(got)
		got.Domains, got.Servers, got.Locals = append(got.Domains[:0], "x"), append(got.Servers[:0], server), append(got.Locals[:0], local(1))
		wantLink(t, n, 1, full(), 1)
		locals := n.Locals()
		clear(locals)
		wantLocals(t, n, full().Locals...)
		route := n.Route("a.corp")
		route[0] = 7
		wantRoute(t, n, "a.corp", 1)
		neighbours := n.Neighbours("a")
		neighbours[0] = 7
		wantNeighbours(t, n, "a", 1)
	}
	// an answer stays as it was
	was, _ := n.Get(1)
	locals, route, neighbours := n.Locals(), n.Route("a.corp"), n.Neighbours("a")
	wantErr(t, "Set", n.Set(1, of("x|servers")), api.OK)
	wantErr(t, "Set", n.Set(0, full()), api.OK)
	want := full()
	want.Live, want.Gen = true, 1
	if !same(was, want) || !slices.Equal(locals, full().Locals) || !slices.Equal(route, []int{1}) || !slices.Equal(neighbours, []int{1}) {
		t.Fatalf("a later Set changed what was answered: %+v, %v, %v, %v", was, locals, route, neighbours)
	}
}

// Of one list set on two links each has its own.
func TestLinksShareNothing(t *testing.T) {
	n := link.New()
	l := full()
	wantErr(t, "Set", n.Set(0, l), api.OK)
	wantErr(t, "Set", n.Set(3, l), api.OK)
	got, _ := n.Get(0)
	spoil(got)
	wantLink(t, n, 3, full(), 2)
	put(n.Cache(0), "a")
	wantLen(t, n.Cache(3), 0)
}

// What asks changes nothing.
func TestAskingChangesNothing(t *testing.T) {
	n := link.New()
	wantErr(t, "Set", n.Set(2, full()), api.OK)
	for range 3 {
		for i := -1; i < 6; i++ {
			n.Get(i)
			n.Cache(i)
		}
		wantRoute(t, n, "a.a.corp", 2)
		wantNeighbours(t, n, "a", 2)
		wantLocals(t, n, full().Locals...)
		wantLink(t, n, 2, full(), 1)
		wantDead(t, n, 0, 1, 3)
	}
}
