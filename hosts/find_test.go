package hosts_test

import (
	"slices"
	"strings"
	"testing"

	"nomenclator/addr"
	"nomenclator/api"
	"nomenclator/hosts"
)

// of: the record of a name that tells an address.
func of(n string, a api.Addr) api.Record {
	if addr.Is4(a) {
		return api.Record{Name: n, Type: api.A, Addr: a}
	}
	return api.Record{Name: n, Type: api.AAAA, Addr: a}
}

// ptr: the record of an address's name that tells a name.
func ptr(n, text string) api.Record { return api.Record{Name: n, Type: api.PTR, Text: text} }

func wantFound(t *testing.T, l []api.Host, n string, kind int, there bool, want ...api.Record) {
	t.Helper()
	if got, ok := hosts.Find(l, n, kind); ok != there || !slices.Equal(got, want) {
		t.Errorf("Find of %.60q, type %d = %v, %v, not %v, %v", n, kind, got, ok, want, there)
	}
}

// someLines: two addresses of each family, with names in one line and in several.
func someLines() []api.Host {
	return []api.Host{
		host(lo4, "localhost", "lo"),
		host(lo6, "localhost", "lo6"),
		host(addr.V4(10, 0, 0, 1), "gate", "localhost"),
		host(db8, "gate", "six.corp"),
		host(addr.V4(10, 0, 0, 2), "two.corp", "gate", "gate"),
	}
}

func TestFindOfNames(t *testing.T) {
	l := someLines()
	// one line's name, the first one and the last one
	wantFound(t, l, "lo", api.A, true, of("lo", lo4))
	wantFound(t, l, "two.corp", api.A, true, of("two.corp", addr.V4(10, 0, 0, 2)))
	wantFound(t, l, "lo6", api.AAAA, true, of("lo6", lo6))
	wantFound(t, l, "six.corp", api.AAAA, true, of("six.corp", db8))
	// several lines', line by line; a line that has the name twice tells it once
	wantFound(t, l, "localhost", api.A, true, of("localhost", lo4), of("localhost", addr.V4(10, 0, 0, 1)))
	wantFound(t, l, "localhost", api.AAAA, true, of("localhost", lo6))
	wantFound(t, l, "gate", api.A, true, of("gate", addr.V4(10, 0, 0, 1)), of("gate", addr.V4(10, 0, 0, 2)))
	wantFound(t, l, "gate", api.AAAA, true, of("gate", db8))
	// there, but with addresses of the other family alone
	wantFound(t, l, "lo", api.AAAA, true)
	wantFound(t, l, "lo6", api.A, true)
	wantFound(t, l, "six.corp", api.A, true)
	// there, of another type
	for _, kind := range []int{api.PTR, api.NS, api.CNAME, api.SOA, api.MX, api.TXT, api.SRV, 0, -1, 3, 255, 65535, 65536, 65537, 1 << 40} {
		wantFound(t, l, "lo", kind, true)
		wantFound(t, l, "localhost", kind, true)
		wantFound(t, l, "c", kind, false)
	}
	// two lines that are the same
	wantFound(t, []api.Host{host(lo4, "a"), host(lo4, "a")}, "a", api.A, true, of("a", lo4), of("a", lo4))
	// an address that tells nothing is one too
	wantFound(t, []api.Host{host(api.Addr{}, "a")}, "a", api.AAAA, true, of("a", api.Addr{}))
}

func TestFindOfNamesThatAreNotThere(t *testing.T) {
	for _, n := range []string{
		"c", "", ".", " ", "l", "ocalhost", "localhos", "localhostx", "corp", "x.two.corp", "two", "gate.", "LO", "Localhost",
		"lo lo", "localhost lo", "127.0.0.1", "::1", "\x00", "\xff", "lo\x00", "*", "ü", strings.Repeat("a", 1<<16), strings.Repeat("lo.", 1<<16),
		"in-addr.arpa", "1.0.0.127", "0.0.127.in-addr.arpa", "127.0.0.1.in-addr.arpa", "2.0.0.127.in-addr.arpa", "1.0.0.127.in-addr.arpa.",
		"1.0.0.127.IN-ADDR.ARPA", "ip6.arpa", "8.b.d.0.1.0.0.2.ip6.arpa", strings.ToUpper(db8Reverse), "x." + db8Reverse,
	} {
		for _, kind := range []int{api.A, api.AAAA, api.PTR, api.TXT, 0} {
			wantFound(t, someLines(), n, kind, false)
			wantFound(t, nil, n, kind, false)
			wantFound(t, []api.Host{}, n, kind, false)
		}
	}
}

func TestFindOfReverses(t *testing.T) {
	l := someLines()
	wantFound(t, l, "1.0.0.127.in-addr.arpa", api.PTR, true, ptr("1.0.0.127.in-addr.arpa", "localhost"))
	wantFound(t, l, "2.0.0.10.in-addr.arpa", api.PTR, true, ptr("2.0.0.10.in-addr.arpa", "two.corp"))
	wantFound(t, l, db8Reverse, api.PTR, true, ptr(db8Reverse, "gate"))
	// several lines of an address, line by line, of each the first name alone
	many := append(l, host(lo4, "b", "a"), host(lo4, "localhost"))
	wantFound(t, many, "1.0.0.127.in-addr.arpa", api.PTR, true,
		ptr("1.0.0.127.in-addr.arpa", "localhost"), ptr("1.0.0.127.in-addr.arpa", "b"), ptr("1.0.0.127.in-addr.arpa", "localhost"))
	// of another type it is there
	for _, kind := range []int{api.A, api.AAAA, api.NS, api.CNAME, api.TXT, 0, -1} {
		wantFound(t, l, "1.0.0.127.in-addr.arpa", kind, true)
		wantFound(t, l, db8Reverse, kind, true)
	}
}

// A name that is a line's address's Reverse and stands in lines, its own and others.
func TestFindOfNamesThatAreBoth(t *testing.T) {
	const n = "1.0.0.127.in-addr.arpa"
	own := []api.Host{host(lo4, n, "a")}
	wantFound(t, own, n, api.PTR, true, ptr(n, n))
	wantFound(t, own, n, api.A, true)
	wantFound(t, own, n, api.AAAA, true)
	wantFound(t, own, "a", api.A, true, of("a", lo4))

	second := []api.Host{host(lo4, "a", n)}
	wantFound(t, second, n, api.PTR, true, ptr(n, "a"))
	wantFound(t, second, n, api.A, true)

	// a line of another address that has the name counts
	others := []api.Host{host(db8, n), host(lo4, "a", n), host(addr.V4(10, 0, 0, 1), "b", n), host(lo4, "c")}
	wantFound(t, others, n, api.PTR, true, ptr(n, "a"), ptr(n, "c"))
	wantFound(t, others, n, api.A, true, of(n, addr.V4(10, 0, 0, 1)))
	wantFound(t, others, n, api.AAAA, true, of(n, db8))
	wantFound(t, others, n, api.TXT, true)

	six := []api.Host{host(db8, db8Reverse), host(lo6, db8Reverse), host(lo4, db8Reverse)}
	wantFound(t, six, db8Reverse, api.PTR, true, ptr(db8Reverse, db8Reverse))
	wantFound(t, six, db8Reverse, api.AAAA, true, of(db8Reverse, lo6))
	wantFound(t, six, db8Reverse, api.A, true, of(db8Reverse, lo4))

	// a name in lines of other addresses alone is no Reverse of theirs
	wantFound(t, []api.Host{host(db8, "a", n)}, n, api.PTR, true)
}

func TestFindOfManyRecords(t *testing.T) {
	for _, n := range []int{31, 32, 33, 64, 1000} {
		// Each line ahead of the one with the record tells nothing of it, and uses up no place.
		var four, six, reverse []api.Host
		var want4, want6, wantPtr []api.Record
		for i := range n {
			a, b := addr.V4(10, 0, byte(i>>8), byte(i)), api.Addr{0: 0x20, 14: byte(i >> 8), 15: byte(i)}
			four = append(four, host(b, "a"), host(a, "b", "a"))
			six = append(six, host(a, "a"), host(lo4, "c"), host(b, "a"))
			reverse = append(reverse, host(a, "1.0.0.127.in-addr.arpa"), host(lo4, numbered(i).Names[0], "a"))
			if i < 32 {
				want4 = append(want4, of("a", a))
				want6 = append(want6, of("a", b))
				wantPtr = append(wantPtr, ptr("1.0.0.127.in-addr.arpa", numbered(i).Names[0]))
			}
		}
		wantFound(t, four, "a", api.A, true, want4...)
		wantFound(t, six, "a", api.AAAA, true, want6...)
		wantFound(t, reverse, "1.0.0.127.in-addr.arpa", api.PTR, true, wantPtr...)
		// nothing among many lines; and behind many the last one
		wantFound(t, four, "z", api.A, false)
		wantFound(t, append(four, host(lo4, "z")), "z", api.A, true, of("z", lo4))
		wantFound(t, append(four, host(lo4, "z")), "z", api.AAAA, true)
	}
}

// Lines that no text tells may be handed in: nothing panics, and what has a name is told.
func TestLinesMadeByHand(t *testing.T) {
	none := []api.Host{{}, {Addr: lo4}, {Addr: lo6, Names: []string{}}}
	for _, kind := range []int{api.A, api.AAAA, api.PTR, 0} {
		for _, n := range []string{"", "a", "1.0.0.127.in-addr.arpa", addr.Reverse(lo6), addr.Reverse(api.Addr{})} {
			hosts.Find(none, n, kind)
		}
	}
	wantFound(t, none, "a", api.A, false)
	wantFound(t, append(none, host(lo4, "a")), "1.0.0.127.in-addr.arpa", api.PTR, true, ptr("1.0.0.127.in-addr.arpa", "a"))
	hosts.Print(none...)
	wantFound(t, []api.Host{host(lo4, "A B", "\xff")}, "\xff", api.A, true, of("\xff", lo4))
}

// No call changes what is handed in, and what is answered is no part of it.
func TestLinesStayAsTheyAre(t *testing.T) {
	l := append(someLines(), host(lo4, "1.0.0.127.in-addr.arpa", "a"))
	names := slices.Clone(l[0].Names)
	want := copied(l)
	for _, n := range []string{"localhost", "gate", "1.0.0.127.in-addr.arpa", db8Reverse, "c", ""} {
		for _, kind := range []int{api.A, api.AAAA, api.PTR, api.TXT} {
			first, _ := hosts.Find(l, n, kind)
			kept := slices.Clone(first)
			for i := range first {
				first[i] = api.Record{}
			}
			_ = append(first, api.Record{Name: "x"})
			if again, _ := hosts.Find(l, n, kind); !slices.Equal(again, kept) {
				t.Errorf("Find of %q, type %d = %v the next time, not %v", n, kind, again, kept)
			}
		}
	}
	hosts.Print(l...)
	hosts.Has(l[0].Names, "lo")
	hosts.Has(l[0].Names, "none")
	if !sameHosts(l, want) || !slices.Equal(l[0].Names, names) {
		t.Errorf("the lines are %v, and were %v", l, want)
	}
}
