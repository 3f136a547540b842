package order_test

// The chapter's words once more, told in another way, and held against the calls, for all short lines and drawn ones.

import (
	"math/rand/v2"
	"regexp"
	"slices"
	"strings"
	"testing"

	"nomenclator/api"
	"nomenclator/hosts"
	"nomenclator/order"
)

var draws = rand.New(rand.NewPCG(8, 1))

var (
	kindNames    = []string{"", "files", "dns", "llmnr"}
	outcomeNames = []string{"", "SUCCESS", "NOTFOUND", "UNAVAIL", "TRYAGAIN"}
)

// A line whose words have one blank between, [ and ] too; its sources; and what stands between [ and ].
var (
	wholeLine = regexp.MustCompile(`\A(?: (?:files|dns|llmnr)(?: \[(?: !?(?:SUCCESS|NOTFOUND|UNAVAIL|TRYAGAIN)=(?:return|continue))* \])?)+\z`)
	oneSource = regexp.MustCompile(` (files|dns|llmnr)((?: \[[^\]]*)?)`)
	inside    = regexp.MustCompile(`\[[^\]]*(?:\]|\z)`)
	bracket   = regexp.MustCompile(`[\[\]]`)
)

// spread: a line with a blank ahead of each word.
func spread(line string) string {
	return strings.Join(append([]string{""}, hosts.Words(bracket.ReplaceAllString(line, " $0 "))...), " ")
}

// returns: does a source return by an outcome: by the last of its actions that speaks of it?
func returns(actions []string, outcome string) bool {
	for _, a := range slices.Backward(actions) {
		if a == outcome+"=return" || a[0] == '!' && strings.HasSuffix(a, "=return") && !strings.HasPrefix(a, "!"+outcome+"=") {
			return true
		}
		if a == outcome+"=continue" || a[0] == '!' && strings.HasSuffix(a, "=continue") && !strings.HasPrefix(a, "!"+outcome+"=") {
			return false
		}
	}
	return outcome == "SUCCESS"
}

// parse: Parse, said again: first the errors, then the sources, and of each for each outcome the last action.
func parse(line string) ([]api.Source, api.Errno) {
	line = spread(line)
	if line == "" {
		line = " files dns llmnr"
	}
	many := 0
	for _, w := range strings.Split(inside.ReplaceAllString(line, ""), " ") {
		many += min(1, max(0, slices.Index(kindNames, w)))
	}
	if many > 4 {
		return nil, 2
	}
	if !wholeLine.MatchString(line) {
		return nil, 6
	}
	var l []api.Source
	for _, m := range oneSource.FindAllStringSubmatch(line, -1) {
		s := api.Source{Kind: slices.Index(kindNames, m[1])}
		actions := strings.Fields(strings.TrimPrefix(m[2], " ["))
		for o, name := range outcomeNames {
			s.Return[o] = o > 0 && returns(actions, name)
		}
		l = append(l, s)
	}
	return l, 0
}

// printed: Print, said again: all actions, and those without need left out.
func printed(l []api.Source) string {
	text := ""
	for _, s := range l {
		text += " " + kindNames[s.Kind] + " ["
		for o, name := range outcomeNames[1:] {
			text += " " + name + map[bool]string{true: "=return", false: "=continue"}[s.Return[o+1]]
		}
		text += "]"
	}
	for _, needless := range []string{" SUCCESS=return", " NOTFOUND=continue", " UNAVAIL=continue", " TRYAGAIN=continue", " []"} {
		text = strings.ReplaceAll(text, needless, "")
	}
	return strings.TrimPrefix(strings.ReplaceAll(text, "[ ", "["), " ")
}

// wantLine: what Parse and Print answer of a line; the error, if it has one.
func wantLine(t *testing.T, line string) api.Errno {
	t.Helper()
	l, e := order.Parse(line)
	want, wantE := parse(line)
	if e != wantE || !slices.Equal(l, want) {
		t.Fatalf("Parse(%q) = %v, %v, not %v, %v", line, l, e, want, wantE)
	}
	if e == api.OK {
		wantPrinted(t, l)
	}
	return e
}

func wantPrinted(t *testing.T, l []api.Source) {
	t.Helper()
	s := order.Print(l...)
	if want := printed(l); s != want {
		t.Fatalf("Print(%v) = %q, not %q", l, s, want)
	}
	if again, e := order.Parse(s); e != api.OK || !slices.Equal(again, l) {
		t.Fatalf("Parse(%q) = %v, %v, not %v", s, again, e, l)
	}
}

func TestAllShortLines(t *testing.T) {
	pieces := []string{"files", " dns", "[", "]", " SUCCESS=continue", " !UNAVAIL=return ", "nis", "#"}
	seen := map[api.Errno]int{}
	var grow func(s string, more int)
	grow = func(s string, more int) {
		seen[wantLine(t, s)]++
		if more == 0 {
			return
		}
		for _, p := range pieces {
			grow(s+p, more-1)
		}
	}
	grow("", 6)
	grow("dns dns[] dns dns", 3)
	if len(seen) != 3 || seen[api.OK] == 0 || seen[api.ErrLine] == 0 || seen[api.ErrLong] == 0 {
		t.Fatalf("the short lines test too little: %v", seen)
	}
}

// All lists of up to three actions.
func TestAllActions(t *testing.T) {
	all := []string{""}
	for _, o := range outcomeNames[1:] {
		for _, does := range []string{"=return", "=continue"} {
			all = append(all, o+does, "!"+o+does)
		}
	}
	for _, a := range all {
		for _, b := range all {
			for _, c := range all {
				if e := wantLine(t, "dns ["+a+" "+b+" "+c+"] files"); e != api.OK {
					t.Fatal(a, b, c, e)
				}
			}
		}
	}
}

// All sources, one and two of them.
func TestAllSources(t *testing.T) {
	var all []api.Source
	for kind := 1; kind <= 3; kind++ {
		for bits := range 16 {
			all = append(all, api.Source{Kind: kind, Return: [5]bool{1: bits&1 > 0, 2: bits&2 > 0, 3: bits&4 > 0, 4: bits&8 > 0}})
		}
	}
	for _, a := range all {
		wantPrinted(t, []api.Source{a})
		for _, b := range all {
			wantPrinted(t, []api.Source{a, b})
		}
	}
	for range 2000 {
		var l []api.Source
		for range 3 + draws.IntN(2) {
			l = append(l, all[draws.IntN(len(all))])
		}
		wantPrinted(t, l)
	}
}

func one(of ...string) string { return of[draws.IntN(len(of))] }

// someAction: nearly always one.
func someAction() string {
	if draws.IntN(40) == 0 {
		return one("", "SUCCESS", "!", "=return", "dns", "!!UNAVAIL=return", "NODATA=return", "NOTFOUND=stop")
	}
	return one("", "", "!") + one(outcomeNames[1:]...) + one("=return", "=continue")
}

// someLine: of so many sources.
func someLine(sources int) string {
	var b strings.Builder
	for range sources {
		b.WriteString(one("", "", " ", "\t") + one("files", "dns", "llmnr", "files", "dns", "llmnr", "files", "dns", "llmnr", "nis") + one("", " ", " \t"))
		if draws.IntN(2) == 0 {
			b.WriteString("[" + one("", " "))
			for range draws.IntN(5) {
				b.WriteString(someAction() + one(" ", "\t", "  "))
			}
			b.WriteString("]")
		}
		b.WriteString(one(" ", " ", " ", " ", "\t", "", "[", "]", " # "))
	}
	return b.String()
}

func TestDrawnLines(t *testing.T) {
	seen := map[api.Errno]int{}
	for range 30000 {
		seen[wantLine(t, someLine(draws.IntN(7)))]++
	}
	for _, e := range []api.Errno{api.OK, api.ErrLine, api.ErrLong} {
		if seen[e] < 1000 {
			t.Fatalf("the drawn lines test too little: %v", seen)
		}
	}
}

// changed: a line with a byte or so changed, left out, or added.
func changed(line string) string {
	b := []byte(line)
	for range 1 + draws.IntN(2) {
		i := draws.IntN(len(b) + 1)
		switch {
		case i == len(b) || draws.IntN(3) == 0:
			b = slices.Insert(b, i, byte(draws.IntN(256)))
		case draws.IntN(2) == 0:
			b = slices.Delete(b, i, i+1)
		default:
			b[i] = one(" ", "[", "]", "!", "=", "#", "S", "a")[0]
		}
	}
	return string(b)
}

func TestChangedLines(t *testing.T) {
	for range 30000 {
		wantLine(t, changed(someLine(1+draws.IntN(4))))
	}
}

func FuzzParse(f *testing.F) {
	for range 50 {
		f.Add(someLine(3))
	}
	f.Fuzz(func(t *testing.T, line string) { wantLine(t, line) })
}
