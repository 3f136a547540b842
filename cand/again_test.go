package cand_test

// The chapter's words once more, told in another way, and held against the call, for all short names and domains, and for
// drawn ones.

import (
	"math/rand/v2"
	"slices"
	"strings"
	"testing"

	"nomenclator/api"
	"nomenclator/cand"
	"nomenclator/name"
)

// again: List, said again: all that the words name is written down with its place; of like ones the first place counts.
func again(c api.Conf, s string) ([]string, api.Errno) {
	out, e := name.ToASCII(s)
	switch {
	case e != api.OK:
		return nil, e
	case s[len(s)-1] == '.':
		return []string{out}, api.OK
	}
	place := map[string]int{out: len(c.Search) + 1}
	for i := len(c.Search); i >= 1; i-- {
		place[strings.Join([]string{out, c.Search[i-1]}, ".")] = i
	}
	if len(strings.Split(out, "."))-1 >= c.Dots {
		place[out] = 0
	}
	slots := make([]string, len(c.Search)+2)
	for n, i := range place {
		if len(n) < 254 {
			slots[i] = n
		}
	}
	return slices.DeleteFunc(slots, func(n string) bool { return n == "" }), api.OK
}

// wantAgain: the call answers what the words said again answer; it tells how many names that are.
func wantAgain(t *testing.T, c api.Conf, s string) int {
	t.Helper()
	want, wantE := again(c, s)
	if got, e := cand.List(c, s); !slices.Equal(got, want) || e != wantE {
		t.Fatalf("List(%d, %+q; %+q) = %+q, %d, not %+q, %d", c.Dots, c.Search, s, got, e, want, wantE)
	}
	return len(want)
}

// texts: all of up to n signs of an alphabet.
func texts(alphabet string, n int) []string {
	l := []string{""}
	for from := 0; n > 0; n-- {
		for to := len(l); from < to; from++ {
			for _, r := range alphabet {
				l = append(l, l[from]+string(r))
			}
		}
	}
	return l
}

func TestAllShort(t *testing.T) {
	domains := []string{"a", "b", "a.b"}
	lists := [][]string{nil}
	for from := 0; len(lists[from]) < 3; from++ {
		for _, d := range domains {
			lists = append(lists, append(slices.Clip(lists[from]), d))
		}
	}
	if len(lists) != 1+3+9+27 {
		t.Fatalf("the test is wrong: %d", len(lists))
	}
	several := 0
	for _, s := range texts("aB.-ü", 5) {
		for dots := -1; dots < 4; dots++ {
			for _, search := range lists {
				if wantAgain(t, api.Conf{Dots: dots, Search: search}, s) > 1 {
					several++
				}
			}
		}
	}
	if several < 10000 {
		t.Fatalf("the short names test too little: %d", several)
	}
}

var draws = rand.New(rand.NewPCG(12, 1))

// someName: now and then one that may not be; of few labels, or of so many that domains hardly find room.
func someName() string {
	labels := []string{"a", "B", "xn--tda", "ü", "_", "a-b", strings.Repeat("a", 63), strings.Repeat("b", 30)}
	if draws.IntN(10) == 0 {
		labels = append(labels, "", "-a", "xn--a", "Ü", strings.Repeat("a", 64))
	}
	var l []string
	for range 1 + draws.IntN(1+draws.IntN(12)) {
		l = append(l, labels[draws.IntN(len(labels))])
	}
	return strings.Join(l, ".") + strings.Repeat(".", max(0, draws.IntN(8)-6))
}

// someDomains: of lengths about those that are left for them.
func someDomains(left int) []string {
	var l []string
	for range draws.IntN(9) {
		d := long(max(4, min(left+draws.IntN(9)-4, 253)))
		if draws.IntN(2) == 0 {
			d = []string{"x", "y.x", "corp", "xn--tda", "a"}[draws.IntN(5)]
		}
		l = append(l, d)
	}
	return l
}

func TestDrawn(t *testing.T) {
	full, left := 0, 0
	for range 100000 {
		s := someName()
		out, _ := name.ToASCII(s)
		c := api.Conf{Dots: draws.IntN(8) - 1, Search: someDomains(252 - len(out))}
		kept := slices.Clone(c.Search)
		switch n := wantAgain(t, c, s); {
		case n == len(c.Search)+1 && n > 2:
			full++
		case n > 1:
			left++
		}
		if !slices.Equal(c.Search, kept) {
			t.Fatalf("the domains were %q, and are %q", kept, c.Search)
		}
	}
	if full < 10000 || left < 10000 {
		t.Fatalf("the drawn names test too little: %d, %d", full, left)
	}
}
