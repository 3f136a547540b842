package rank_test

// The chapter's words once more, by addresses as texts of bits, and held against the calls, for addresses that stand at
// all edges of all beginnings, and drawn ones.

import (
	"encoding/hex"
	"math/rand/v2"
	"slices"
	"strings"
	"testing"

	"nomenclator/api"
	"nomenclator/rank"
)

var draws = rand.New(rand.NewPCG(10, 1))

const (
	mapped = "00000000000000000000ffff" // IPv4's 96 bits, in base 16
	zeros  = "00000000000000000000000000000000"
)

// table: the policy table: its beginnings in base 16.
var table = []struct {
	begin                   string
	bits, precedence, label int
}{
	{zeros[:31] + "1", 128, 50, 0},
	{mapped, 96, 35, 4},
	{zeros[:24], 96, 1, 3},
	{"20010000", 32, 5, 5},
	{"2002", 16, 30, 2},
	{"3ffe", 16, 1, 12},
	{"fec0", 10, 1, 11},
	{"fc", 7, 3, 13},
	{"", 0, 40, 1},
}

// binary: the bits of a number in base 16.
func binary(base16 string) string {
	const halves = "0000000100100011010001010110011110001001101010111100110111101111"
	b := make([]byte, 0, 128)
	for _, half := range base16 {
		i := 4 * strings.IndexRune("0123456789abcdef", half)
		b = append(b, halves[i:i+4]...)
	}
	return string(b)
}

func text(a api.Addr) string { return hex.EncodeToString(a[:]) }

// begins: has an address that beginning?
func begins(a api.Addr, begin string, bits int) bool {
	return strings.HasPrefix(binary(text(a)), binary(begin)[:bits])
}

func four(a api.Addr) bool { return begins(a, mapped, 96) }

// policy: Policy, said again: the table goes from the longest beginning to the shortest.
func policy(a api.Addr) (int, int) {
	for _, row := range table {
		if begins(a, row.begin, row.bits) {
			return row.precedence, row.label
		}
	}
	panic("an address without a row")
}

// scope: Scope, said again.
func scope(a api.Addr) int {
	s := text(a)
	switch {
	case s[:2] == "ff":
		return strings.IndexByte("0123456789abcdef", s[3])
	case begins(a, "fe8", 10), s == zeros[:31]+"1", strings.HasPrefix(s, mapped+"7f"), strings.HasPrefix(s, mapped+"a9fe"):
		return 2
	case begins(a, "fec", 10):
		return 5
	}
	return 14
}

// common: how many first bits two addresses share.
func common(a, b api.Addr) int {
	p, q := binary(text(a)), binary(text(b))
	n := len(p)
	for p[:n] != q[:n] {
		n--
	}
	return n
}

// better: is x better than y to reach an address?
func better(x, y api.Local, to api.Addr) bool {
	if x.Addr != y.Addr && (x.Addr == to || y.Addr == to) {
		return x.Addr == to
	}
	p, q, d := scope(x.Addr), scope(y.Addr), scope(to)
	switch {
	case p < q:
		return p >= d
	case q < p:
		return q < d
	case x.Deprecated != y.Deprecated:
		return y.Deprecated
	case x.Home != y.Home:
		return x.Home
	}
	_, p = policy(x.Addr)
	_, q = policy(y.Addr)
	_, d = policy(to)
	if p != q && (p == d || q == d) {
		return p == d
	}
	return common(x.Addr, to) > common(y.Addr, to)
}

// best: Source, said again: the first one that none is better than.
func best(l []api.Local, to api.Addr) (api.Local, bool) {
	for _, x := range l {
		if four(x.Addr) == four(to) && !slices.ContainsFunc(l, func(y api.Local) bool {
			return four(y.Addr) == four(to) && better(y, x, to)
		}) {
			return x, true
		}
	}
	return api.Local{}, false
}

// key: Key, said again.
func key(l []api.Local, to api.Addr) [8]int {
	var k [8]int
	precedence, label := policy(to)
	if s, ok := best(l, to); ok {
		_, own := policy(s.Addr)
		for i, is := range []bool{true, scope(s.Addr) == scope(to), !s.Deprecated, s.Home, own == label} {
			if is {
				k[i] = 1
			}
		}
		k[7] = common(s.Addr, to)
	}
	k[5], k[6] = precedence, -scope(to)
	return k
}

// greater: is a key greater than another one?
func greater(a, b [8]int) bool {
	for i := range a {
		if a[i] != b[i] {
			return a[i] > b[i]
		}
	}
	return false
}

// sorted: Sort, said again: the first one of the greatest, and the others behind it.
func sorted(l []api.Local, records []api.Record) []api.Record {
	rest, keys := slices.Clone(records), [][8]int{}
	for _, r := range rest {
		keys = append(keys, key(l, r.Addr))
	}
	var out []api.Record
	for len(rest) > 0 {
		first := 0
		for i := range keys {
			if greater(keys[i], keys[first]) {
				first = i
			}
		}
		out = append(out, rest[first])
		rest, keys = slices.Delete(rest, first, first+1), slices.Delete(keys, first, first+1)
	}
	return out
}

// starts: addresses that begin in all ways of which the chapter speaks, with zeros and with ones behind.
func starts() []api.Addr {
	var l []api.Addr
	for _, s := range []string{
		"", zeros[:24], zeros[:31] + "1", mapped, mapped + "0a", mapped + "7f", mapped + "a9fe",
		"2001", "20010000", "20010db8", "2002", "3ffe", "fc", "fd", "fe8", "fec", "ff", "ff02", "ff05", "ff08", "ff0e",
	} {
		for _, behind := range []string{"0", "f"} {
			b, err := hex.DecodeString(s + strings.Repeat(behind, 32-len(s)))
			if err != nil {
				panic(s)
			}
			l = append(l, api.Addr(b))
		}
	}
	return l
}

func flip(a *api.Addr, bit int) { a[bit/8] ^= 128 >> (bit % 8) }

var all = starts()

// someAddr: one that begins in one of those ways, with any bits behind some place.
func someAddr() api.Addr {
	a := all[draws.IntN(len(all))]
	for i := draws.IntN(32); i < len(a); i++ {
		a[i] = byte(draws.Uint32())
	}
	return a
}

// someLocals: local ones, a few of which stand close to an address, or are it.
func someLocals(to api.Addr) []api.Local {
	var l []api.Local
	for range draws.IntN(7) {
		x := api.Local{Addr: someAddr(), Deprecated: draws.IntN(3) == 0, Home: draws.IntN(3) == 0}
		switch draws.IntN(4) {
		case 0:
			x.Addr = to
		case 1:
			x.Addr = to
			flip(&x.Addr, draws.IntN(128))
		}
		l = append(l, x)
	}
	return l
}

func wantAddr(t *testing.T, a api.Addr) {
	t.Helper()
	p, l := rank.Policy(a)
	if wantP, wantL := policy(a); p != wantP || l != wantL {
		t.Fatalf("Policy(%x) = %d, %d, not %d, %d", a, p, l, wantP, wantL)
	}
	if got, want := rank.Scope(a), scope(a); got != want {
		t.Fatalf("Scope(%x) = %d, not %d", a, got, want)
	}
}

func wantKey(t *testing.T, l []api.Local, to api.Addr) {
	t.Helper()
	s, ok := rank.Source(l, to)
	if want, wantOk := best(l, to); s != want || ok != wantOk {
		t.Fatalf("Source(%v, %x) = %v, %v, not %v, %v", l, to, s, ok, want, wantOk)
	}
	if got, want := rank.Key(l, to), key(l, to); got != want {
		t.Fatalf("Key(%v, %x) = %v, not %v", l, to, got, want)
	}
}

// At each beginning, each bit turned, and each two.
func TestAllEdges(t *testing.T) {
	for _, a := range all {
		wantAddr(t, a)
		for one := range 128 {
			b := a
			flip(&b, one)
			wantAddr(t, b)
			for other := one + 1; other < 128; other += 1 + one%5 {
				c := b
				flip(&c, other)
				wantAddr(t, c)
			}
		}
	}
}

func TestAllFirstTwoBytes(t *testing.T) {
	for v := range 1 << 16 {
		wantAddr(t, api.Addr{byte(v >> 8), byte(v), 15: 1})
		wantAddr(t, api.Addr{10: 0xff, 11: 0xff, 12: byte(v >> 8), 13: byte(v)})
	}
}

func TestDrawnAddresses(t *testing.T) {
	for range 20000 {
		wantAddr(t, someAddr())
	}
}

// All twos of such beginnings, with all that they may be beside, to reach each one of them.
func TestAllTwos(t *testing.T) {
	for _, to := range all {
		for i, x := range all {
			y := all[draws.IntN(len(all))]
			for flags := range 16 {
				l := []api.Local{
					{Addr: x, Deprecated: flags&1 > 0, Home: flags&2 > 0},
					{Addr: y, Deprecated: flags&4 > 0, Home: flags&8 > 0},
				}
				if flags == 0 || i%4 == flags%4 {
					wantKey(t, l, to)
				}
			}
		}
	}
}

func TestDrawnLocals(t *testing.T) {
	for range 20000 {
		to := someAddr()
		wantKey(t, someLocals(to), to)
	}
}

func TestDrawnSorts(t *testing.T) {
	for range 3000 {
		var records []api.Record
		for i := range draws.IntN(20) {
			records = append(records, api.Record{TTL: i, Addr: someAddr()})
		}
		l := someLocals(someAddr())
		if got, want := rank.Sort(l, records), sorted(l, records); !slices.Equal(got, want) {
			t.Fatalf("Sort(%v, %v) = %v, not %v", l, records, got, want)
		}
	}
}
