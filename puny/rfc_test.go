package puny_test

import (
	"math/big"
	"math/rand"
	"slices"
	"strings"
	"testing"

	"nomenclator/api"
	"nomenclator/puny"
)

// What RFC 3492 writes in its sections 6.1 to 6.3, step by step, with numbers that have no bounds, so that nothing wraps round. Signs and runes have no bounds either: those are looked at behind it.

const rfcSigns = "abcdefghijklmnopqrstuvwxyz0123456789"

func big1(n int) *big.Int { return big.NewInt(int64(n)) }

func rfcAdapt(delta *big.Int, numpoints int, firsttime bool) int {
	d := new(big.Int).Set(delta)
	if firsttime {
		d.Quo(d, big1(700))
	} else {
		d.Quo(d, big1(2))
	}
	d.Add(d, new(big.Int).Quo(d, big1(numpoints)))
	k := 0
	for d.Cmp(big1(455)) > 0 {
		d.Quo(d, big1(35))
		k += 36
	}
	return k + 36*int(d.Int64())/(int(d.Int64())+38)
}

func rfcThreshold(k, bias int) int {
	if k <= bias+1 {
		return 1
	}
	if k >= bias+26 {
		return 26
	}
	return k - bias
}

// rfcDecode: false, if the RFC's procedure fails at s.
func rfcDecode(s string) ([]*big.Int, bool) {
	n, i, bias := big1(128), big1(0), 72
	var output []*big.Int
	if b := strings.LastIndex(s, "-"); b > 0 {
		for _, c := range []byte(s[:b]) {
			if c >= 128 {
				return nil, false
			}
			output = append(output, big1(int(c)))
		}
		s = s[b+1:]
	}
	for len(s) > 0 {
		oldi, w := new(big.Int).Set(i), big1(1)
		for k := 36; ; k += 36 {
			if len(s) == 0 {
				return nil, false
			}
			digit := strings.IndexByte(rfcSigns, strings.ToLower(s[:1])[0])
			if digit < 0 {
				return nil, false
			}
			s = s[1:]
			i.Add(i, new(big.Int).Mul(big1(digit), w))
			t := rfcThreshold(k, bias)
			if digit < t {
				break
			}
			w.Mul(w, big1(36-t))
		}
		count := len(output) + 1
		bias = rfcAdapt(new(big.Int).Sub(i, oldi), count, oldi.Sign() == 0)
		q, r := new(big.Int).QuoRem(i, big1(count), new(big.Int))
		n.Add(n, q)
		output = slices.Insert(output, int(r.Int64()), new(big.Int).Set(n))
		i.Add(r, big1(1))
	}
	return output, true
}

// rfcRunes: the runes of s, if it is the Punycode of some and not too long.
func rfcRunes(s string) ([]rune, bool) {
	output, ok := rfcDecode(s)
	if !ok || len(s) > api.MaxLabel {
		return nil, false
	}
	var l []rune
	for _, n := range output {
		if n.Cmp(big1(0x10ffff)) > 0 || n.Cmp(big1(0xd800)) >= 0 && n.Cmp(big1(0xdfff)) <= 0 {
			return nil, false
		}
		l = append(l, rune(n.Int64()))
	}
	return l, true
}

// rfcEncode: of any length.
func rfcEncode(l []rune) string {
	var output []byte
	for _, c := range l {
		if c < 128 {
			output = append(output, byte(c))
		}
	}
	n, delta, bias, b := 128, 0, 72, len(output)
	h := b
	if b > 0 {
		output = append(output, '-')
	}
	for h < len(l) {
		m := 1 << 30
		for _, c := range l {
			if int(c) >= n && int(c) < m {
				m = int(c)
			}
		}
		delta += (m - n) * (h + 1)
		n = m
		for _, c := range l {
			if int(c) < n {
				delta++
			}
			if int(c) != n {
				continue
			}
			q := delta
			for k := 36; ; k += 36 {
				t := rfcThreshold(k, bias)
				if q < t {
					break
				}
				output = append(output, rfcSigns[t+(q-t)%(36-t)])
				q = (q - t) / (36 - t)
			}
			output = append(output, rfcSigns[q])
			bias = rfcAdapt(big1(delta), h+1, h == b)
			delta = 0
			h++
		}
		delta++
		n++
	}
	return string(output)
}

// checkEncode: is Encode's answer of l the RFC's, and Decode's of that l again?
func checkEncode(t *testing.T, l []rune) {
	t.Helper()
	given := slices.Clone(l)
	want, wantErr := rfcEncode(l), api.OK
	if len(want) > api.MaxLabel {
		want, wantErr = "", api.ErrLong
	}
	p, e := puny.Encode(l)
	if p != want || e != wantErr {
		t.Fatalf("Encode(%x) = %q, %d, want %q, %d", given, p, e, want, wantErr)
	}
	if !slices.Equal(given, l) {
		t.Fatalf("Encode changed %x to %x", given, l)
	}
	if e != api.OK {
		return
	}
	if back, e := puny.Decode(p); e != api.OK || !slices.Equal(back, l) {
		t.Fatalf("Decode(%q) = %x, %d, want %x", p, back, e, l)
	}
}

// checkDecode: is Decode's answer of s the RFC's?
func checkDecode(t *testing.T, s string) bool {
	t.Helper()
	want, ok := rfcRunes(s)
	wantErr := api.OK
	if !ok {
		wantErr = api.ErrPuny
	}
	l, e := puny.Decode(s)
	if e != wantErr || !slices.Equal(l, want) {
		t.Fatalf("Decode(%q) = %x, %d, want %x, %d", s, l, e, want, wantErr)
	}
	if !ok {
		return false
	}
	cut := strings.LastIndex(s, "-") + 1
	if p, e := puny.Encode(l); e != api.OK || p != s[:cut]+strings.ToLower(s[cut:]) {
		t.Fatalf("Encode(%x) = %q, %d, want %q but for capitals", l, p, e, s)
	}
	return true
}

// anyRune: one of all kinds that Encode takes, with those at the edges more often.
func anyRune(r *rand.Rand) rune {
	edges := []rune{0, '-', 'Z', 0x7f, 0x80, 0xd7ff, 0xe000, 0xffff, 0x10000, 0x10fffe, 0x10ffff}
	switch r.Intn(8) {
	case 0:
		return edges[r.Intn(len(edges))]
	case 1, 2:
		return rune(r.Intn(0x80))
	case 3, 4:
		return rune(0x80 + r.Intn(0x400))
	case 5:
		return rune(0x80 + r.Intn(0xd800-0x80))
	case 6:
		return rune(0xe000 + r.Intn(0x2000))
	}
	return rune(0x10000 + r.Intn(0x100000))
}

func TestEncodeAgainstTheRFC(t *testing.T) {
	r := rand.New(rand.NewSource(1))
	for range 20000 {
		l := make([]rune, r.Intn(1+r.Intn(70)))
		few := 1 + r.Intn(1+len(l))
		for i := range l {
			if i < few {
				l[i] = anyRune(r)
			} else {
				l[i] = l[r.Intn(few)]
			}
		}
		checkEncode(t, l)
	}
}

func TestDecodeAgainstTheRFC(t *testing.T) {
	r := rand.New(rand.NewSource(2))
	right := 0
	for range 20000 {
		s := make([]byte, r.Intn(1+r.Intn(66)))
		most := 36
		if r.Intn(4) == 0 { // digits that count little make longer rows that are right
			most = 1 + r.Intn(36)
		}
		for i := range s {
			s[i] = rfcSigns[r.Intn(most)]
			switch r.Intn(150) {
			case 0:
				s[i] = '-'
			case 1:
				s[i] = byte(r.Intn(256))
			case 2, 3, 4, 5:
				s[i] = strings.ToUpper(string(s[i]))[0]
			}
		}
		if checkDecode(t, string(s)) {
			right++
		}
	}
	if right < 2000 || right > 18000 {
		t.Errorf("%d of 20000 texts are right: the test is no good", right)
	}
}

// What Encode answers, with one sign turned, taken out, or put in.
func TestDecodeOfTurnedSignsAgainstTheRFC(t *testing.T) {
	r := rand.New(rand.NewSource(3))
	for range 20000 {
		l := make([]rune, 1+r.Intn(12))
		for i := range l {
			l[i] = anyRune(r)
		}
		s := rfcEncode(l)
		at := r.Intn(len(s))
		with := rfcSigns[r.Intn(36):][:1]
		switch r.Intn(4) {
		case 0:
			s = s[:at] + s[at+1:]
		case 1:
			s = s[:at] + with + s[at:]
		default:
			s = s[:at] + with + s[at+1:]
		}
		checkDecode(t, s)
	}
}

func TestDecodeOfAllShortTexts(t *testing.T) {
	const signs = "aAbBkzZ0189-_!\x00\x7f\x80\xff"
	var all func(s string, more int)
	all = func(s string, more int) {
		checkDecode(t, s)
		for i := range len(signs) {
			if more > 0 {
				all(s+signs[i:i+1], more-1)
			}
		}
	}
	all("", 4)
}
