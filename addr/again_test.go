package addr_test

// The chapter's words once more, told in another way, and held against the calls: for all patterns of zeros, all
// numbers, all short texts of the signs that matter, and drawn ones.

import (
	"fmt"
	"math/rand/v2"
	"net/netip"
	"regexp"
	"strings"
	"testing"

	"nomenclator/addr"
	"nomenclator/api"
)

var source = rand.New(rand.NewPCG(5, 1))

// is4, said again.
func is4(a api.Addr) bool {
	return string(a[:12]) == strings.Repeat("\x00", 10)+"\xff\xff"
}

// text: Print, said again: the longest stretch is looked for from eight zeros down, at each place.
func text(a api.Addr) string {
	if is4(a) {
		return fmt.Sprintf("%d.%d.%d.%d", a[12], a[13], a[14], a[15])
	}
	var n []string
	for i := 0; i < 16; i += 2 {
		n = append(n, fmt.Sprintf("%x", 256*int(a[i])+int(a[i+1])))
	}
	for long := 8; long >= 2; long-- {
		for from := 0; from+long <= 8; from++ {
			if strings.Join(n[from:from+long], "") == strings.Repeat("0", long) {
				return strings.Join(n[:from], ":") + "::" + strings.Join(n[from+long:], ":")
			}
		}
	}
	return strings.Join(n, ":")
}

// reverse: Reverse, said again.
func reverse(a api.Addr) string {
	if is4(a) {
		return fmt.Sprintf("%d.%d.%d.%d.in-addr.arpa", a[15], a[14], a[13], a[12])
	}
	name := "ip6.arpa"
	for _, half := range fmt.Sprintf("%x", a[:]) {
		name = string(half) + "." + name
	}
	return name
}

// shared: Shared, said again.
func shared(a, b api.Addr) int {
	p, q := fmt.Sprintf("%08b", a), fmt.Sprintf("%08b", b)
	p, q = strings.Trim(strings.ReplaceAll(p, " ", ""), "[]"), strings.Trim(strings.ReplaceAll(q, " ", ""), "[]")
	for i := range p {
		if p[i] != q[i] {
			return i
		}
	}
	return len(p)
}

var shape = regexp.MustCompile(`^[0-9a-f:.]+$`)

// parse: Parse, said again by the library's reading, which takes more.
func parse(s string) (api.Addr, api.Errno) {
	a, err := netip.ParseAddr(s)
	if err != nil || !shape.MatchString(s) || text(a.As16()) != s {
		return api.Addr{}, api.ErrAddr
	}
	return a.As16(), api.OK
}

func wantAddr(t *testing.T, a api.Addr) {
	t.Helper()
	s := addr.Print(a)
	if want := text(a); s != want {
		t.Fatalf("Print(%v) = %q, not %q", a, s, want)
	}
	if want := netip.AddrFrom16(a).Unmap().String(); s != want {
		t.Fatalf("Print(%v) = %q, but the library says %q", a, s, want)
	}
	if b, err := addr.Parse(s); a != b || err != api.OK {
		t.Fatalf("Parse(%q) = %v, %v, not %v", s, b, err, a)
	}
	if got, want := addr.Is4(a), is4(a); got != want {
		t.Fatalf("Is4(%v) = %v", a, got)
	}
	if got, want := addr.Reverse(a), reverse(a); got != want {
		t.Fatalf("Reverse(%v) = %q, not %q", a, got, want)
	}
}

func wantText(t *testing.T, s string) {
	t.Helper()
	got, err := addr.Parse(s)
	if want, wantErr := parse(s); got != want || err != wantErr {
		t.Fatalf("Parse(%q) = %v, %v, not %v, %v", s, got, err, want, wantErr)
	}
}

// someAddr: one whose numbers are zeros, small ones, or any.
func someAddr() api.Addr {
	var a api.Addr
	for i := 0; i < 16; i += 2 {
		switch source.IntN(4) {
		case 0:
			a[i], a[i+1] = byte(source.Uint32()), byte(source.Uint32())
		case 1:
			a[i+1] = byte(source.Uint32())
		}
	}
	if source.IntN(4) == 0 {
		a = addr.V4(a[3], a[7], a[11], a[15])
	}
	return a
}

func TestAllPatternsOfZeros(t *testing.T) {
	for _, other := range []uint16{1, 0x10, 0x100, 0xffff} {
		for pattern := range 256 {
			n := make([]uint16, 8)
			for i := range n {
				if pattern>>i&1 == 1 {
					n[i] = other
				}
			}
			wantAddr(t, six(n...))
		}
	}
}

func TestAllNumbers(t *testing.T) {
	for v := range 1 << 16 {
		n := []uint16{1, 2, 3, 4, 5, 6, 7, 8}
		n[v%8] = uint16(v)
		wantAddr(t, six(n...))
	}
	for v := range 256 {
		for i := range 4 {
			b := [4]byte{1, 20, 0, 255}
			b[i] = byte(v)
			wantAddr(t, addr.V4(b[0], b[1], b[2], b[3]))
		}
	}
}

// All numbers that Parse might take, with noughts ahead, and beyond what may be.
func TestAllNumbersRead(t *testing.T) {
	for v := range 1100 {
		for _, form := range []string{"%d.2.3.4", "1.%d.3.4", "1.2.%d.4", "1.2.3.%d", "1.2.3.%02d", "%03d.2.3.4", "%x.2.3.4"} {
			wantText(t, fmt.Sprintf(form, v))
		}
	}
	for v := range 1<<16 + 20 {
		for _, form := range []string{"%x::", "::%x", "1:2:3:4:5:6:%x:8", "1::%04x", "%X::1"} {
			wantText(t, fmt.Sprintf(form, v))
		}
	}
}

func TestDrawnAddresses(t *testing.T) {
	for range 50000 {
		wantAddr(t, someAddr())
	}
}

func TestPartingAtEachBit(t *testing.T) {
	for range 200 {
		a := someAddr()
		if got := addr.Shared(a, a); got != 128 {
			t.Fatalf("Shared of %v and itself = %d", a, got)
		}
		for bit := range 128 {
			one := a
			one[bit/8] ^= 128 >> (bit % 8)
			many := one
			for i := bit + 1; i < 128; i++ {
				if source.IntN(2) == 0 {
					many[i/8] ^= 128 >> (i % 8)
				}
			}
			for _, b := range []api.Addr{one, many} {
				if addr.Shared(a, b) != bit || addr.Shared(b, a) != bit || shared(a, b) != bit {
					t.Fatalf("Shared(%v, %v) = %d and %d, not %d", a, b, addr.Shared(a, b), addr.Shared(b, a), bit)
				}
			}
		}
	}
}

func TestSharedOfDrawnOnes(t *testing.T) {
	for range 5000 {
		a, b := someAddr(), someAddr()
		if got, want := addr.Shared(a, b), shared(a, b); got != want {
			t.Fatalf("Shared(%v, %v) = %d, not %d", a, b, got, want)
		}
	}
}

func TestAllShortTexts(t *testing.T) {
	const signs = "01fFg:. "
	var grow func(s string, more int)
	grow = func(s string, more int) {
		wantText(t, s)
		if more == 0 {
			return
		}
		for _, c := range signs {
			grow(s+string(c), more-1)
		}
	}
	grow("", 6)
}

// Texts of eight numbers or so, with : and :: between, of which few are Print of an address.
func TestDrawnTexts(t *testing.T) {
	pieces := []string{"0", "0", "0", "1", "ff", "ffff", "a0", "", "00", "10000", "G", "1.2.3.4"}
	between := []string{":", ":", ":", ":", ":", ":", ":", "::", "::", "."}
	for range 200000 {
		var b strings.Builder
		for i := range 1 + source.IntN(9) {
			if i > 0 {
				b.WriteString(between[source.IntN(len(between))])
			}
			n := len(pieces)
			if source.IntN(2) == 0 {
				n = 7
			}
			b.WriteString(pieces[source.IntN(n)])
		}
		wantText(t, b.String())
		wantText(t, "::"+b.String())
		wantText(t, b.String()+"::")
	}
}

// Texts of addresses with a sign changed, put in, or taken away.
func TestChangedTexts(t *testing.T) {
	const signs = "0123456789abcdefABCDEFgx:.% -+_/\x00\n\xff"
	for range 100000 {
		s := addr.Print(someAddr())
		for range 1 + source.IntN(2) {
			i, c := source.IntN(len(s)), signs[source.IntN(len(signs))]
			switch source.IntN(3) {
			case 0:
				s = s[:i] + string([]byte{c}) + s[i+1:]
			case 1:
				s = s[:i] + string([]byte{c}) + s[i:]
			default:
				s = s[:i] + s[i+1:]
			}
			if s == "" {
				break
			}
		}
		wantText(t, s)
	}
}

func FuzzParse(f *testing.F) {
	for _, c := range printed {
		f.Add(c.text)
	}
	for _, s := range unprinted {
		f.Add(s)
	}
	f.Fuzz(wantText)
}
