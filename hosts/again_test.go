package hosts_test

// The chapter's words once more, told in another way, and held against the calls, for all short lines and drawn texts.

import (
	"math/rand/v2"
	"net/netip"
	"regexp"
	"slices"
	"strings"
	"testing"

	"nomenclator/addr"
	"nomenclator/api"
	"nomenclator/hosts"
	"nomenclator/name"
)

var source = rand.New(rand.NewPCG(6, 1))

var (
	remark = regexp.MustCompile(`(?s)#.*`)
	word   = regexp.MustCompile(`[^ \t]+`)
)

// words: Words, said again.
func words(line string) []string {
	return word.FindAllString(remark.ReplaceAllString(line, ""), -1)
}

// goOut: the names as they go out; false, if one doesn't, or there are none.
func goOut(l []string) ([]string, bool) {
	var out []string
	for _, s := range l {
		n, err := name.ToASCII(s)
		if err != api.OK {
			return nil, false
		}
		out = append(out, n)
	}
	return out, len(out) > 0
}

// parse: Parse, said again: all lines that tell something, and of these the first 64.
func parse(text string) []api.Host {
	var all []api.Host
	for _, line := range regexp.MustCompile("\n").Split(text, -1) {
		w := words(line)
		if len(w) == 0 {
			continue
		}
		a, err := addr.Parse(w[0])
		if names, ok := goOut(w[1:]); ok && err == api.OK {
			all = append(all, host(a, names...))
		}
	}
	return all[:min(64, len(all))]
}

// printed: Print, said again.
func printed(l []api.Host) string {
	text := ""
	for _, h := range l {
		text += strings.Join(append([]string{netip.AddrFrom16(h.Addr).Unmap().String()}, h.Names...), " ") + "\n"
	}
	return text
}

// find: Find, said again: first the lines that are meant, and then what they tell.
func find(l []api.Host, n string, kind int) ([]api.Record, bool) {
	var ofAddress, ofName []api.Host
	for _, h := range l {
		if addr.Reverse(h.Addr) == n {
			ofAddress = append(ofAddress, h)
		} else if slices.Index(h.Names, n) >= 0 {
			ofName = append(ofName, h)
		}
	}
	var all []api.Record
	switch kind {
	case 12:
		for _, h := range ofAddress {
			all = append(all, api.Record{Name: n, Type: 12, Text: h.Names[0]})
		}
	case 1, 28:
		for _, h := range ofName {
			if netip.AddrFrom16(h.Addr).Is4In6() == (kind == 1) {
				all = append(all, api.Record{Name: n, Type: kind, Addr: h.Addr})
			}
		}
	}
	return all[:min(32, len(all))], len(ofAddress)+len(ofName) > 0
}

func wantWords(t *testing.T, line string) {
	t.Helper()
	if got, want := hosts.Words(line), words(line); !slices.Equal(got, want) {
		t.Fatalf("Words(%q) = %q, not %q", line, got, want)
	}
}

func wantText(t *testing.T, text string) {
	t.Helper()
	l := hosts.Parse(text)
	if want := parse(text); !sameHosts(l, want) {
		t.Fatalf("Parse(%q) = %v, not %v", text, l, want)
	}
	s := hosts.Print(l...)
	if want := printed(l); s != want {
		t.Fatalf("Print(%v) = %q, not %q", l, s, want)
	}
	if again := hosts.Parse(s); !sameHosts(again, l) {
		t.Fatalf("Parse(%q) = %v, not %v", s, again, l)
	}
}

func TestAllShortLines(t *testing.T) {
	const signs = "a1# \t\n\r."
	var grow func(s string, more int)
	grow = func(s string, more int) {
		wantWords(t, s)
		wantText(t, "::1 "+s)
		wantText(t, "::1"+s+" b")
		if more == 0 {
			return
		}
		for _, c := range signs {
			grow(s+string(c), more-1)
		}
	}
	grow("", 5)
}

// The pieces of drawn texts: addresses, names, texts that are neither, and what stands between.
var (
	addresses = []string{"127.0.0.1", "10.0.0.1", "10.0.0.2", "::1", "::", "2001:db8::7", "127.0.0.1", "10.0.0.1", "1.2.3", "a", "::A"}
	names     = []string{
		"a", "b", "a.b", "A", "ü.B.", "a", "b", "localhost", "1.0.0.127.in-addr.arpa", "1.0.0.10.in-addr.arpa", db8Reverse,
		"a", "b", "a.b", "lo", "xn--bcher-kva", "10.0.0.1", "c_d", "e-f", "a", "b", "localhost", "lo", "a..b", "-a", "::1", "\xff",
	}
	between = []string{" ", " ", " ", "\t", "  ", " \t ", " ", " ", " #", "#"}
)

func one(of []string) string { return of[source.IntN(len(of))] }

// someText: of so many lines.
func someText(lines int) string {
	var b strings.Builder
	for range lines {
		if source.IntN(8) == 0 {
			b.WriteString(one(between))
		}
		b.WriteString(one(addresses))
		for range source.IntN(4) {
			b.WriteString(one(between) + one(names))
		}
		b.WriteString(strings.Repeat("\n", min(1, source.IntN(30))))
	}
	return b.String()
}

func TestDrawnTexts(t *testing.T) {
	longest, none := 0, 0
	for range 4000 {
		text := someText(source.IntN(5))
		wantText(t, text)
		for line := range strings.Lines(text) {
			wantWords(t, line)
		}
	}
	for range 300 {
		text := someText(100 + source.IntN(200))
		wantText(t, text)
		longest = max(longest, len(parse(text)))
		if len(parse(someText(2))) == 0 {
			none++
		}
	}
	if longest != 64 || none == 0 {
		t.Fatalf("the drawn texts test too little: %d lines, %d times none", longest, none)
	}
}

func TestDrawnFinds(t *testing.T) {
	asked := slices.Concat(names, []string{"", "c", "xn--tda.b", addr.Reverse(lo6), addr.Reverse(api.Addr{})})
	slices.Sort(asked)
	asked = slices.Compact(asked)
	full, both := 0, 0
	for i := range 300 {
		l := hosts.Parse(someText(source.IntN(20)))
		if i%25 == 0 {
			l = slices.Repeat(hosts.Parse(someText(200)), 8)
		}
		kept := copied(l)
		for _, n := range asked {
			for _, kind := range []int{api.A, api.AAAA, api.PTR, api.CNAME, 0} {
				got, there := hosts.Find(l, n, kind)
				want, wantThere := find(l, n, kind)
				if there != wantThere || !slices.Equal(got, want) {
					t.Fatalf("Find(%v, %q, %d) = %v, %v, not %v, %v", l, n, kind, got, there, want, wantThere)
				}
				if len(got) == 32 {
					full++
				}
				if there && len(got) == 0 {
					both++
				}
			}
			for _, h := range l {
				if got, want := hosts.Has(h.Names, n), slices.Index(h.Names, n) >= 0; got != want {
					t.Fatalf("Has(%q, %q) = %v", h.Names, n, got)
				}
			}
		}
		if !sameHosts(l, kept) {
			t.Fatalf("the lines are %v, and were %v", l, kept)
		}
	}
	if full == 0 || both == 0 {
		t.Fatalf("the drawn lines test too little: %d, %d", full, both)
	}
}

func FuzzParse(f *testing.F) {
	for range 50 {
		f.Add(someText(3))
	}
	f.Fuzz(func(t *testing.T, text string) {
		wantWords(t, text)
		wantText(t, text)
	})
}
