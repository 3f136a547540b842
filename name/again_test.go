package name_test

import (
	"math/rand"
	"regexp"
	"slices"
	"strings"
	"testing"
	"unicode/utf8"

	"nomenclator/api"
	"nomenclator/label"
	"nomenclator/name"
	"nomenclator/puny"
)

// What the chapter says of a label, by patterns: \w is A to Z, a to z, 0 to 9, _.
var (
	right  = regexp.MustCompile(`^\w([\w-]{0,61}\w)?$`)
	beyond = regexp.MustCompile(`^[\w` + good + `]([\w` + good + `-]*[\w` + good + `])?$`)
	ascii  = regexp.MustCompile(`^[\x00-\x7f]*$`)
)

// refLabel: a label as it goes out, and as it is read.
func refLabel(l string) (out, read string, e api.Errno) {
	l = label.Lower(l)
	if !ascii.MatchString(l) || !utf8.ValidString(l) {
		if !utf8.ValidString(l) || !beyond.MatchString(l) {
			return "", "", api.ErrName
		}
		p, e := puny.Encode([]rune(l))
		if e != api.OK || len(p) > 59 {
			return "", "", api.ErrLong
		}
		return "xn--" + p, l, api.OK
	}
	if !right.MatchString(l) {
		return "", "", api.ErrName
	}
	p, marked := strings.CutPrefix(l, "xn--")
	if !marked {
		return l, l, api.OK
	}
	u, e := puny.Decode(p)
	if e != api.OK || ascii.MatchString(string(u)) || !beyond.MatchString(string(u)) {
		return "", "", api.ErrPuny
	}
	return l, string(u), api.OK
}

// refName: a name as it goes out, and as it is read.
func refName(s string) (out, read string, e api.Errno) {
	if len(s) > 1012 {
		return "", "", api.ErrLong
	}
	if strings.HasSuffix(s, ".") {
		s = s[:len(s)-1]
	}
	var outs, reads []string
	for _, l := range strings.Split(s, ".") {
		o, r, e := refLabel(l)
		if e != api.OK {
			return "", "", e
		}
		outs, reads = append(outs, o), append(reads, r)
	}
	if out = strings.Join(outs, "."); len(out) > 253 {
		return "", "", api.ErrLong
	}
	return out, strings.Join(reads, "."), api.OK
}

// check holds what is answered of s against the chapter's words and P3.2, and answers its error.
func check(t *testing.T, s string) api.Errno {
	t.Helper()
	out, read, e := refName(s)
	wantASCII(t, s, out, e)
	if s == out && e == api.OK {
		wantUnicode(t, s, read, api.OK)
	} else {
		wantUnicode(t, s, "", api.ErrName)
	}
	if got := name.Dots(s); got != len(strings.Split(s, "."))-1 {
		t.Errorf("Dots(%+q) = %d", s, got)
	}
	if e == api.OK {
		checkAgain(t, s)
	}
	if t.Failed() {
		t.FailNow()
	}
	return e
}

// checkAgain: P3.2, of a name that may be.
func checkAgain(t *testing.T, s string) {
	t.Helper()
	out, e1 := name.ToASCII(s)
	read, e2 := name.ToUnicode(out)
	again, e3 := name.ToASCII(read)
	readAgain, e4 := name.ToUnicode(again)
	if e1 != api.OK || e2 != api.OK || e3 != api.OK || e4 != api.OK {
		t.Errorf("of %+q: errors %d, %d, %d, %d", s, e1, e2, e3, e4)
	}
	if again != out || readAgain != read {
		t.Errorf("of %+q: %q, %+q, then %q, %+q", s, out, read, again, readAgain)
	}
}

func TestTheSameAgain(t *testing.T) {
	for _, s := range []string{
		"a", "Ex.COM.", "x_y", "bücher", "BüCHER.de.", "XN--BCHER-KVA", "ς.σ.ß.ss", "привет.ü.a", "xn--ü", "xn--xn---3ra", "XN--Bücher.xn--tda",
		four(x("ü", 57), x("ü", 55)), four(x("x", 63), x("x", 61)) + ".", four("XN--TD"+x("A", 57), "a"), x("џ.", 31), x("a.", 127),
	} {
		checkAgain(t, s)
	}
	// a name that isn't made of xn-- is read as it was written, but for capitals and the point at its end
	for _, s := range []string{"a", "Ex.COM.", "BüCHER.de.", "ς.σ.ß.ss", "xn--ü", four(x("ü", 57), x("ü", 55))} {
		out, _ := name.ToASCII(s)
		wantUnicode(t, out, strings.TrimSuffix(label.Lower(s), "."), api.OK)
	}
}

func TestTwoGoodRunes(t *testing.T) {
	out := map[string]string{}
	for _, a := range good {
		for _, b := range good {
			s := string([]rune{a, b})
			if check(t, s) != api.OK || check(t, s+"x-"+string(a)) != api.OK {
				t.Fatalf("%+q may not be", s)
			}
			n, _ := name.ToASCII(s)
			if out[n] != "" {
				t.Fatalf("%+q and %+q go out as %q", out[n], s, n)
			}
			out[n] = s
		}
	}
}

func TestAllShortNames(t *testing.T) {
	pieces := []string{"a", "Z", "-", "_", ".", "ü", "џ", "Ü", "xn--", "tda", "\xc3", "\xbc"}
	count := map[api.Errno]int{}
	var all func(s string, more int)
	all = func(s string, more int) {
		count[check(t, s)]++
		for _, p := range pieces {
			if more > 0 {
				all(s+p, more-1)
			}
		}
	}
	all("", 4)
	if count[api.OK] < 1000 || count[api.ErrName] < 1000 || count[api.ErrPuny] < 50 {
		t.Errorf("the test is no good: %v", count)
	}
}

// All that can stand behind xn--, of up to four signs: the right ones are just those that labels go out as.
func TestAllShortPunycode(t *testing.T) {
	const signs = "abcdeghkmqtxyz0258_-"
	right := 0
	var all func(s string, more int)
	all = func(s string, more int) {
		if check(t, "xn--"+s) == api.OK {
			right++
		}
		for i := range len(signs) {
			if more > 0 {
				all(s+signs[i:i+1], more-1)
			}
		}
	}
	all("", 4)
	if right < 500 {
		t.Errorf("the test is no good: %d are right", right)
	}
}

// anyLabel: most of them right, or nearly so.
func anyLabel(r *rand.Rand) string {
	g, w := []rune(good), []rune(wrong)
	var l []rune
	for range 1 + r.Intn(1+r.Intn(70)) {
		l = append(l, rune("abcXYZ019_"[r.Intn(10)]))
	}
	for range r.Intn(2) * r.Intn(1+len(l)) {
		l[r.Intn(len(l))] = g[r.Intn(len(g))]
	}
	if r.Intn(3) == 0 {
		l[r.Intn(len(l))] = '-'
	}
	if r.Intn(60) == 0 {
		l[r.Intn(len(l))] = w[r.Intn(len(w))]
	}
	s := string(l)
	switch r.Intn(12) {
	case 0, 1, 2:
		p, _ := puny.Encode(l)
		s = "xn--" + p
	case 3:
		s = "xN--" + s
	}
	if r.Intn(60) == 0 {
		at := r.Intn(len(s))
		s = s[:at] + string([]byte{byte(r.Intn(256))}) + s[at+r.Intn(2):]
	}
	return s
}

func TestAnyNames(t *testing.T) {
	r := rand.New(rand.NewSource(1))
	count := map[api.Errno]int{}
	for range 60000 {
		var l []string
		for range 1 + r.Intn(1+r.Intn(8)) {
			l = append(l, anyLabel(r))
		}
		s := strings.Join(l, ".")
		if r.Intn(4) == 0 {
			s += "."
		}
		e := check(t, s)
		if e == api.OK {
			out, _ := name.ToASCII(s)
			check(t, out)
		}
		count[e]++
	}
	for _, e := range []api.Errno{api.OK, api.ErrName, api.ErrPuny, api.ErrLong} {
		if count[e] < 1000 {
			t.Errorf("the test is no good: %v", count)
		}
	}
}

// P0: any bytes.
func TestAnyBytes(t *testing.T) {
	r := rand.New(rand.NewSource(2))
	for range 20000 {
		b := make([]byte, r.Intn(1+r.Intn(40)))
		for i := range b {
			b[i] = byte(r.Intn(256))
		}
		check(t, string(b))
		check(t, "xn--"+string(b))
	}
	for _, s := range slices.Concat(noUTF8(), []string{"x", ".", "-", "ü", "џ", "中", "xn--", "xn--tda.", "\x00"}) {
		for _, n := range []int{1, 63, 64, 252, 253, 254, 506, 507, 1012, 1013, 1 << 18} {
			check(t, x(s, n))
			check(t, x(s, n)+".")
		}
	}
}
