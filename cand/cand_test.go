package cand_test

import (
	"math"
	"slices"
	"strconv"
	"strings"
	"testing"

	"nomenclator/api"
	"nomenclator/cand"
	"nomenclator/conf"
	"nomenclator/name"
)

// with: a configuration of so many points and these domains, parted by blanks.
func with(dots int, search string) api.Conf {
	return api.Conf{Dots: dots, Search: strings.Fields(search), Timeout: 5, Attempts: 2}
}

// long: a name of so many signs, 4 at least, of labels as long as they may be.
func long(n int) string {
	s := strings.Repeat(strings.Repeat("a", 63)+".", 4)[:n]
	if strings.HasSuffix(s, ".") {
		s = s[:n-2] + ".a"
	}
	return s
}

func wantList(t *testing.T, c api.Conf, s string, want ...string) {
	t.Helper()
	if got, e := cand.List(c, s); !slices.Equal(got, want) || e != api.OK {
		t.Errorf("List(%d, %+q; %+q) = %+q, %d, not %+q, 0", c.Dots, c.Search, s, got, e, want)
	}
}

func wantErr(t *testing.T, c api.Conf, s string, want api.Errno) {
	t.Helper()
	if got, e := cand.List(c, s); len(got) != 0 || e != want {
		t.Errorf("List(%d, %+q; %+q) = %+q, %d, not none, %d", c.Dots, c.Search, s, got, e, want)
	}
}

func TestExample(t *testing.T) {
	wantList(t, with(1, "b"), "a", "a.b", "a")
}

// From c.Dots points on a name itself comes first, below it last.
func TestDots(t *testing.T) {
	for points := range 20 {
		s := strings.Repeat("a.", points) + "a"
		for dots := range 22 {
			want := []string{s, s + ".x", s + ".y"}
			if points < dots {
				want = []string{s + ".x", s + ".y", s}
			}
			wantList(t, with(dots, "x y"), s, want...)
		}
	}
}

// Any number is held against the points as it is.
func TestDotsOutOfRange(t *testing.T) {
	for _, dots := range []int{-1, -2, -1 << 32, -1<<32 + 1, math.MinInt} {
		wantList(t, with(dots, "x"), "a", "a", "a.x")
		wantList(t, with(dots, "x"), "a.b.c", "a.b.c", "a.b.c.x")
	}
	for _, dots := range []int{16, 256, 1 << 32, 1<<32 + 1, math.MaxInt} {
		wantList(t, with(dots, "x"), "a", "a.x", "a")
		wantList(t, with(dots, "x"), "a.b.c", "a.b.c.x", "a.b.c")
	}
	many := strings.Repeat("a.", 100) + "a"
	wantList(t, with(100, "x"), many, many, many+".x")
	wantList(t, with(101, "x"), many, many+".x", many)
}

func TestSearch(t *testing.T) {
	for _, c := range []struct {
		search, s, want string
	}{
		{"", "a", "a"},
		{"", "a.b", "a.b"},
		{"x", "a", "a.x a"},
		{"x.y z", "a", "a.x.y a.z a"},
		{"z x.y", "a", "a.z a.x.y a"},
		{"f e d c b a", "a", "a.f a.e a.d a.c a.b a.a a"},
		{"a", "a", "a.a a"},
		{"b c.b", "a.c", "a.c a.c.b a.c.c.b"},
		// a name that is under a domain already is tried with it, too
		{"corp", "a.corp", "a.corp a.corp.corp"},
		{"xn--bcher-kva.de", "a", "a.xn--bcher-kva.de a"},
		{"_x-y.0", "_a-b", "_a-b._x-y.0 _a-b"},
	} {
		wantList(t, with(1, c.search), c.s, strings.Fields(c.want)...)
	}
}

// Each name is tried once, at its first place.
func TestOnce(t *testing.T) {
	for _, c := range []struct {
		dots              int
		search, s, wanted string
	}{
		{1, "x x", "a", "a.x a"},
		{0, "x x", "a", "a a.x"},
		{1, "x y x", "a", "a.x a.y a"},
		{1, "y x x", "a", "a.y a.x a"},
		{1, "x y y x x z y", "a", "a.x a.y a.z a"},
		{1, "x x x x x x", "a.b", "a.b a.b.x"},
		{0, "", "a", "a"},
		{1, "", "a", "a"},
		{9, "", "a.b", "a.b"},
	} {
		wantList(t, with(c.dots, c.search), c.s, strings.Fields(c.wanted)...)
	}
}

// As many domains as there are, above MaxSearch too.
func TestManyDomains(t *testing.T) {
	for _, n := range []int{5, 6, 7, 100} {
		var search, want []string
		for i := range n {
			search = append(search, "d"+strconv.Itoa(i))
			want = append(want, "a.d"+strconv.Itoa(i))
		}
		wantList(t, api.Conf{Dots: 1, Search: search}, "a", append(want, "a")...)
	}
}

// Names are tried as they go out.
func TestGoesOut(t *testing.T) {
	for _, c := range [][2]string{
		{"A", "a"},
		{"WWW.Ex-Ample", "www.ex-ample"},
		{"ü", "xn--tda"},
		{"Bücher.DE", "xn--bcher-kva.de"},
		{"XN--BCHER-KVA.de", "xn--bcher-kva.de"},
		{"0", "0"},
		{"1.2.0.192.In-Addr.ARPA", "1.2.0.192.in-addr.arpa"},
	} {
		wantList(t, with(0, "x y"), c[0], c[1], c[1]+".x", c[1]+".y")
		wantList(t, with(9, "x y"), c[0], c[1]+".x", c[1]+".y", c[1])
		wantList(t, with(0, "x y"), c[0]+".", c[1])
	}
}

// One that ends with a point is tried alone, whatever the configuration.
func TestPointAtTheEnd(t *testing.T) {
	for _, s := range []string{"a", "a.b", "a.b.c", "xn--tda", long(253)} {
		for _, dots := range []int{-1, 0, 1, 2, 3, 15, math.MaxInt} {
			for _, search := range []string{"", "x", "x y x", "a b"} {
				wantList(t, with(dots, search), s+".", s)
			}
		}
	}
}

// The name's point and the domain's signs count: 253 may be, 254 are left out.
func TestLong(t *testing.T) {
	if len(long(4)) != 4 || len(long(192)) != 192 || len(long(253)) != 253 {
		t.Fatal("the test is wrong")
	}
	for _, c := range []struct {
		s, search string
		want      []string
	}{
		{long(249), "abc", []string{long(249) + ".abc", long(249)}},
		{long(250), "abc", []string{long(250)}},
		{long(251), "a", []string{long(251) + ".a", long(251)}},
		{long(252), "a", []string{long(252)}},
		{long(253), "a", []string{long(253)}},
		{"a", long(251), []string{"a." + long(251), "a"}},
		{"a", long(252), []string{"a"}},
		{"a", long(253), []string{"a"}},
		{"ab", long(250), []string{"ab." + long(250), "ab"}},
		{"ab", long(251), []string{"ab"}},
		{long(126), long(126), []string{long(126) + "." + long(126), long(126)}},
		{long(126), long(127), []string{long(126)}},
		{long(127), long(126), []string{long(127)}},
		// those ahead of one that is left out stay, and those behind it
		{"a", "x " + long(252) + " y", []string{"a.x", "a.y", "a"}},
		{long(251), "a ab b", []string{long(251) + ".a", long(251) + ".b", long(251)}},
		// signs are those that go out: ü has two bytes as it is read, seven signs then
		{"ü", long(245), []string{"xn--tda." + long(245), "xn--tda"}},
		{"ü", long(246), []string{"xn--tda"}},
	} {
		wantList(t, with(9, c.search), c.s, c.want...)
		last := len(c.want) - 1
		wantList(t, with(0, c.search), c.s, append(c.want[last:], c.want[:last]...)...)
	}
}

func TestErrors(t *testing.T) {
	for _, c := range []struct {
		s    string
		want api.Errno
	}{
		{"", api.ErrName},
		{".", api.ErrName},
		{"..", api.ErrName},
		{"a..", api.ErrName},
		{"a..b", api.ErrName},
		{".a", api.ErrName},
		{"-a", api.ErrName},
		{"a-", api.ErrName},
		{"a-.b.", api.ErrName},
		{"a b", api.ErrName},
		{"*", api.ErrName},
		{"Ü", api.ErrName},
		{"-ü", api.ErrName},
		{"\xff", api.ErrName},
		{"a\x00", api.ErrName},
		{strings.Repeat("a", 64), api.ErrName},
		{"xn--a", api.ErrPuny},
		{"xn--a.b.", api.ErrPuny},
		{"a.XN--0", api.ErrPuny},
		{"xn--a.a..b", api.ErrPuny},
		{"a..b.xn--a", api.ErrName},
		{strings.Repeat("ü", 63), api.ErrLong},
		{long(253) + "a", api.ErrLong},
		{long(252) + ".a", api.ErrLong},
		{long(252) + ".a.", api.ErrLong},
		{strings.Repeat("a.", 127), api.OK},
		{strings.Repeat("a.", 128), api.ErrLong},
		{strings.Repeat(".", 1012), api.ErrName},
		{strings.Repeat(".", 1013), api.ErrLong},
	} {
		for _, dots := range []int{-1, 0, 1, 15} {
			for _, search := range []string{"", "x", "x y"} {
				if c.want == api.OK {
					wantList(t, with(dots, search), c.s, strings.TrimSuffix(c.s, "."))
				} else {
					wantErr(t, with(dots, search), c.s, c.want)
				}
			}
		}
	}
}

// What else the configuration says changes nothing.
func TestOtherFields(t *testing.T) {
	for _, c := range []api.Conf{
		{Dots: 1, Search: []string{"x"}},
		{Dots: 1, Search: []string{"x"}, Timeout: -1, Attempts: -1},
		{Dots: 1, Search: []string{"x"}, Timeout: 31, Attempts: 6, Servers: make([]api.Addr, 4)},
	} {
		wantList(t, c, "a", "a.x", "a")
		wantList(t, c, "a.b", "a.b", "a.b.x")
	}
	wantList(t, api.Conf{}, "a", "a")
}

// By texts of layer 7, and its default.
func TestOfConf(t *testing.T) {
	wantList(t, conf.Default(), "a", "a")
	wantList(t, conf.Default(), "a.b", "a.b")
	c, err := conf.Parse("search Corp Ex.COM. ü\noptions ndots:2")
	if err != nil {
		t.Fatal(err)
	}
	wantList(t, c, "A", "a.corp", "a.ex.com", "a.xn--tda", "a")
	wantList(t, c, "a.b", "a.b.corp", "a.b.ex.com", "a.b.xn--tda", "a.b")
	wantList(t, c, "a.b.c", "a.b.c", "a.b.c.corp", "a.b.c.ex.com", "a.b.c.xn--tda")
}

// The domains are neither changed nor kept, and each list is its own.
func TestMemory(t *testing.T) {
	back := []string{"x", "y", "x", "z", "q"}
	c := api.Conf{Dots: 1, Search: back[:4]}
	first, _ := cand.List(c, "A")
	if !slices.Equal(back, []string{"x", "y", "x", "z", "q"}) {
		t.Fatalf("the domains are %q now", back)
	}
	second, _ := cand.List(c, "A")
	first[0], first[1] = "1", "2"
	_ = append(first[:2], "3", "4", "5")
	back[0], back[3] = "6", "7"
	if want := []string{"a.x", "a.y", "a.z", "a"}; !slices.Equal(second, want) {
		t.Fatalf("%q, not %q", second, want)
	}
	wantList(t, c, "a", "a.6", "a.y", "a.x", "a.7", "a")
	alone, _ := cand.List(c, "a.")
	alone[0] = "8"
	wantList(t, c, "a.", "a")
}

// Domains that no text of layer 7 gives are put behind the point as they are: there is no word of changing or refusing them.
func TestOddDomains(t *testing.T) {
	for _, d := range []string{"X", "-", "a b", "*", "a..b", strings.Repeat("d", 64), "\x00"} {
		wantList(t, api.Conf{Dots: 1, Search: []string{d, "x"}}, "a", "a."+d, "a.x", "a")
	}
	for _, d := range []string{"", ".", "..", "a.", ".a", "\xff", "ü", strings.Repeat("d", 1<<20), strings.Repeat(".", 300)} {
		for _, s := range []string{"a", "a.", "", ".", "\xff"} {
			l, e := cand.List(api.Conf{Dots: 1, Search: []string{d, d}}, s)
			if _, want := name.ToASCII(s); e != want || (e == api.OK) != slices.Contains(l, "a") {
				t.Errorf("List(%q; %q) = %q, %d", d, s, l, e)
			}
		}
	}
}
