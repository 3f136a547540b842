package puny_test

import (
	"math"
	"slices"
	"strings"
	"testing"

	"nomenclator/api"
	"nomenclator/puny"
)

// samples: of RFC 3492, section 7.1, those that aren't too long, and some more.
func samples() [][2]string {
	return [][2]string{
		{"", ""},
		{"b\u00fccher", "bcher-kva"},
		{"B\u00fccher", "Bcher-kva"},
		{"m\u00fcnchen", "mnchen-3ya"},
		{"\u00fc", "tda"},
		{"\u0080", "a"},
		{"\u0080\u0080", "aa"},
		{"x\u0080", "x-ba"},
		{"\u0080x", "x-a"},
		{"\u00fc-", "--dha"},
		{"-\u00fc", "--eha"},
		{"a-\u00fc-b", "a--b-1ra"},
		{"\u0644\u064a\u0647\u0645\u0627\u0628\u062a\u0643\u0644\u0645\u0648\u0634\u0639\u0631\u0628\u064a\u061f", "egbpdaj6bu4bxfgehfvwxn"},
		{"\u4ed6\u4eec\u4e3a\u4ec0\u4e48\u4e0d\u8bf4\u4e2d\u6587", "ihqwcrb4cv8a8dqg056pqjye"},
		{"\u4ed6\u5011\u7232\u4ec0\u9ebd\u4e0d\u8aaa\u4e2d\u6587", "ihqwctvzc91f659drss3x8bo0yb"},
		{"Pro\u010dprost\u011bnemluv\u00ed\u010desky", "Proprostnemluvesky-uyb24dma41a"},
		{"\u05dc\u05de\u05d4\u05d4\u05dd\u05e4\u05e9\u05d5\u05d8\u05dc\u05d0\u05de\u05d3\u05d1\u05e8\u05d9\u05dd\u05e2\u05d1\u05e8\u05d9\u05ea", "4dbcagdahymbxekheh6e0a7fei0b"},
		{"\u092f\u0939\u0932\u094b\u0917\u0939\u093f\u0928\u094d\u0926\u0940\u0915\u094d\u092f\u094b\u0902\u0928\u0939\u0940\u0902\u092c\u094b\u0932\u0938\u0915\u0924\u0947\u0939\u0948\u0902", "i1baa7eci9glrd9b2ae1bj0hfcgg6iyaf8o0a1dig0cd"},
		{"\u306a\u305c\u307f\u3093\u306a\u65e5\u672c\u8a9e\u3092\u8a71\u3057\u3066\u304f\u308c\u306a\u3044\u306e\u304b", "n8jok5ay5dzabd5bym9f0cm5685rrjetr6pdxa"},
		{"\u043f\u043e\u0447\u0435\u043c\u0443\u0436\u0435\u043e\u043d\u0438\u043d\u0435\u0433\u043e\u0432\u043e\u0440\u044f\u0442\u043f\u043e\u0440\u0443\u0441\u0441\u043a\u0438", "b1abfaaepdrnnbgefbadotcwatmq2g4l"},
		{"Porqu\u00e9nopuedensimplementehablarenEspa\u00f1ol", "PorqunopuedensimplementehablarenEspaol-fmd56a"},
		{"T\u1ea1isaoh\u1ecdkh\u00f4ngth\u1ec3ch\u1ec9n\u00f3iti\u1ebfngVi\u1ec7t", "TisaohkhngthchnitingVit-kjcr8268qyxafd2f1b9g"},
		{"3\u5e74B\u7d44\u91d1\u516b\u5148\u751f", "3B-ww4c5e180e575a65lsy2b"},
		{"\u5b89\u5ba4\u5948\u7f8e\u6075-with-SUPER-MONKEYS", "-with-SUPER-MONKEYS-pc58ag80a8qai00g7n9n"},
		{"Hello-Another-Way-\u305d\u308c\u305e\u308c\u306e\u5834\u6240", "Hello-Another-Way--fc4qua05auwb3674vfr0b"},
		{"\u3072\u3068\u3064\u5c4b\u6839\u306e\u4e0b2", "2-u9tlzr9756bt3uc0v"},
		{"Maji\u3067Koi\u3059\u308b5\u79d2\u524d", "MajiKoi5-783gue6qz075azm5e"},
		{"\u30d1\u30d5\u30a3\u30fcde\u30eb\u30f3\u30d0", "de-jg4avhby1noc0d"},
		{"\u305d\u306e\u30b9\u30d4\u30fc\u30c9\u3067", "d9juau41awczczp"},
		{"-> $1.00 <-", "-> $1.00 <--"},
	}
}

func TestEncode(t *testing.T) {
	for _, x := range samples() {
		if got, e := puny.Encode([]rune(x[0])); got != x[1] || e != api.OK {
			t.Errorf("Encode of %+q = %q, %d, want %q", x[0], got, e, x[1])
		}
	}
}

func TestDecode(t *testing.T) {
	for _, x := range samples() {
		if got, e := puny.Decode(x[1]); string(got) != x[0] || e != api.OK {
			t.Errorf("Decode(%q) = %+q, %d, want %+q", x[1], string(got), e, x[0])
		}
	}
}

func TestNoRunes(t *testing.T) {
	for _, l := range [][]rune{nil, {}} {
		if got, e := puny.Encode(l); got != "" || e != api.OK {
			t.Errorf("Encode of none = %q, %d", got, e)
		}
	}
	if got, e := puny.Decode(""); len(got) != 0 || e != api.OK {
		t.Errorf("Decode of none = %x, %d", got, e)
	}
}

// A delimiter stands behind runes below 128, though there are no others.
func TestRunesBelow128Alone(t *testing.T) {
	for _, s := range []string{"a", "abc", "ABC", "-", "--", "a-b", "-a", "a-", ".", "a.b", " ", "\x00\x7f", "019", "xn--a"} {
		if got, e := puny.Encode([]rune(s)); got != s+"-" || e != api.OK {
			t.Errorf("Encode of %q = %q, %d", s, got, e)
		}
		if got, e := puny.Decode(s + "-"); string(got) != s || e != api.OK {
			t.Errorf("Decode(%q) = %q, %d", s+"-", string(got), e)
		}
	}
	for c := range rune(128) {
		if got, e := puny.Encode([]rune{c}); got != string(c)+"-" || e != api.OK {
			t.Errorf("Encode of rune %d = %q, %d", c, got, e)
		}
		if got, e := puny.Decode(string(c) + "-"); !slices.Equal(got, []rune{c}) || e != api.OK {
			t.Errorf("Decode of rune %d = %x, %d", c, got, e)
		}
	}
}

// just63: lists whose Punycode has 63 signs, with that.
func just63() [][2]string {
	x := func(n int) string { return strings.Repeat("x", n) }
	return [][2]string{
		{x(62), x(62) + "-"},
		{strings.Repeat("-", 62), strings.Repeat("-", 63)},
		{strings.Repeat("\u0080", 63), strings.Repeat("a", 63)},
		{"\u0080" + x(61), x(61) + "-a"},
		{"\u0080\u0080" + x(60), x(60) + "-aa"},
		{x(59) + "\u0080", x(59) + "-yba"},
		{"\U0010ffff" + x(55), x(55) + "-268302c"},
		{strings.Repeat("\u00fc", 61), "tda" + strings.Repeat("a", 60)},
		{"\u00fc\u00fc" + x(57) + "\t", x(57) + "\t-b8fa"},
	}
}

func TestOf63SignsAnd64(t *testing.T) {
	for _, x := range just63() {
		s, p := x[0], x[1]
		if want := rfcEncode([]rune(s)); p != want || len(p) != api.MaxLabel {
			t.Fatalf("the test is wrong: %+q has the Punycode %q of %d signs, not %q", s, want, len(want), p)
		}
		if got, e := puny.Encode([]rune(s)); got != p || e != api.OK {
			t.Errorf("Encode of %+q = %q, %d, want %q", s, got, e, p)
		}
		if got, e := puny.Decode(p); string(got) != s || e != api.OK {
			t.Errorf("Decode(%q) = %+q, %d, want %+q", p, string(got), e, s)
		}
	}
	x := func(n int) string { return strings.Repeat("x", n) }
	for _, s := range []string{
		x(63),
		x(64),
		strings.Repeat("-", 63),
		strings.Repeat("\u0080", 64),
		"\u0080" + x(62),
		"\u0080" + x(63),
		"\u0080\u0080" + x(61),
		x(60) + "\u0080",
		"\U0010ffff" + x(56),
		strings.Repeat("\u00fc", 62),
		"\uc138\uacc4\uc758\ubaa8\ub4e0\uc0ac\ub78c\ub4e4\uc774\ud55c\uad6d\uc5b4\ub97c\uc774\ud574\ud55c\ub2e4\uba74\uc5bc\ub9c8\ub098\uc88b\uc744\uae4c", // of the RFC
		strings.Repeat("\U0010ffff\u00fc", 31),
	} {
		if got, e := puny.Encode([]rune(s)); got != "" || e != api.ErrLong {
			t.Errorf("Encode of %+q = %q, %d", s, got, e)
		}
		p := rfcEncode([]rune(s))
		if got, e := puny.Decode(p); len(got) != 0 || e != api.ErrPuny {
			t.Errorf("Decode(%q) of %d signs = %+q, %d", p, len(p), string(got), e)
		}
	}
}

func TestLengths(t *testing.T) {
	for n := range 3 * api.MaxLabel {
		checkEncode(t, slices.Repeat([]rune{'x'}, n))
		checkEncode(t, slices.Repeat([]rune{0x80}, n))
		checkEncode(t, slices.Repeat([]rune{0x10ffff, 'x', 0xdf}, n))
		checkDecode(t, strings.Repeat("x", n)+"-")
		checkDecode(t, strings.Repeat("a", n))
		checkDecode(t, strings.Repeat("z", n))
	}
	for _, c := range []rune{'x', 0x80, 0x10ffff} {
		if got, e := puny.Encode(slices.Repeat([]rune{c}, 1<<20)); got != "" || e != api.ErrLong {
			t.Errorf("Encode of very many %x = %.20q, %d", c, got, e)
		}
	}
	for _, s := range []string{"a", "9", "-", "x-", "\xff"} {
		if got, e := puny.Decode(strings.Repeat(s, 1<<20)); len(got) != 0 || e != api.ErrPuny {
			t.Errorf("Decode of very many %q = %d runes, %d", s, len(got), e)
		}
	}
}

// Capitals of the digits count as small letters; those before them stay.
func TestCapitals(t *testing.T) {
	for _, x := range [][2]string{
		{"Bcher-KVA", "B\u00fccher"},
		{"bcher-Kva", "b\u00fccher"},
		{"bcher-kVa", "b\u00fccher"},
		{"BCHER-kvA", "B\u00fcCHER"},
		{"TDA", "\u00fc"},
		{"A", "\u0080"},
		{"b1abfaaepdrnnbgefbaDotcwatmq2g4l", "\u043f\u043e\u0447\u0435\u043c\u0443\u0436\u0435\u043e\u043d\u0438\u043d\u0435\u0433\u043e\u0432\u043e\u0440\u044f\u0442\u043f\u043e\u0440\u0443\u0441\u0441\u043a\u0438"},
	} {
		if got, e := puny.Decode(x[0]); string(got) != x[1] || e != api.OK {
			t.Errorf("Decode(%q) = %+q, %d, want %+q", x[0], string(got), e, x[1])
		}
	}
	for _, x := range samples() {
		cut := strings.LastIndex(x[1], "-") + 1
		p := x[1][:cut] + strings.ToUpper(x[1][cut:])
		if got, e := puny.Decode(p); string(got) != x[0] || e != api.OK {
			t.Errorf("Decode(%q) = %+q, %d, want %+q", p, string(got), e, x[0])
		}
	}
	for c := range 26 {
		small, capital := "b"+string(rune('a'+c))+"a", "B"+string(rune('A'+c))+"A"
		want, wantErr := puny.Decode(small)
		if got, e := puny.Decode(capital); e != wantErr || !slices.Equal(got, want) {
			t.Errorf("Decode(%q) = %x, %d, but Decode(%q) = %x, %d", capital, got, e, small, want, wantErr)
		}
	}
	// runes that are letters without being ASCII have no capitals here
	upper, _ := puny.Encode([]rune("\u00dc"))
	lower, _ := puny.Encode([]rune("\u00fc"))
	if upper == lower {
		t.Errorf("Encode of two runes: %q both times", upper)
	}
}

// Rows of digits that lead to numbers of no rune.
func TestRunesThatMayBeNone(t *testing.T) {
	for _, x := range []struct {
		p    string
		want rune // 0: there is none
	}{
		{"gb9b", 0xd7fe},
		{"hb9b", 0xd7ff},
		{"ib9b", 0}, // D800
		{"q49b", 0}, // DBFF
		{"r49b", 0}, // DC00
		{"zy0c", 0}, // DFFF
		{"0y0c", 0xe000},
		{"cn32g", 0x10fffe},
		{"dn32g", 0x10ffff},
		{"en32g", 0}, // 110000
		{"x-oc4g", 0xd7ff},
		{"x-qc4g", 0},
		{"x-rc4g", 0},
		{"x-po7g", 0},
		{"x-qo7g", 0},
		{"x-ro7g", 0xe000},
		{"x-g023p", 0x10ffff},
		{"x-i023p", 0},
		{"x-j023p", 0},
	} {
		want, wantErr := []rune{x.want}, api.OK
		if x.p[0] == 'x' {
			want = append(want, 'x')
		}
		if x.want == 0 {
			want, wantErr = nil, api.ErrPuny
		}
		if got, e := puny.Decode(x.p); !slices.Equal(got, want) || e != wantErr {
			t.Errorf("Decode(%q) = %x, %d, want %x, %d", x.p, got, e, want, wantErr)
		}
		if x.want == 0 {
			continue
		}
		if got, e := puny.Encode(want); got != x.p || e != api.OK {
			t.Errorf("Encode(%x) = %q, %d, want %q", want, got, e, x.p)
		}
	}
}

// The second of two runes is such a one, the first isn't.
func TestRunesThatMayBeNoneBehindOthers(t *testing.T) {
	for _, x := range []struct {
		first rune
		next  string
		want  rune // 0: there is none
	}{
		{0xd7ff, "a", 0xd7ff},
		{0xd7ff, "ba", 0},
		{0xd7ff, "ca", 0},
		{0x10ffff, "a", 0x10ffff},
		{0x10ffff, "ba", 0},
		{0x10ffff, "ca", 0},
		{0x10fffe, "a", 0x10fffe},
		{0x10fffe, "ba", 0x10ffff},
		{0x10fffe, "ca", 0x10ffff},
		{0x10fffe, "da", 0},
	} {
		p := rfcEncode([]rune{x.first}) + x.next
		got, e := puny.Decode(p)
		if x.want == 0 && (len(got) != 0 || e != api.ErrPuny) {
			t.Errorf("Decode(%q) = %x, %d", p, got, e)
		}
		if x.want != 0 && (e != api.OK || !slices.Contains(got, x.first) || !slices.Contains(got, x.want) || len(got) != 2) {
			t.Errorf("Decode(%q) = %x, %d", p, got, e)
		}
		checkDecode(t, p)
	}
}

func TestEachRuneAlone(t *testing.T) {
	for r := rune(0x80); r <= 0x10ffff; r++ {
		if r == 0xd800 {
			r = 0xe000
		}
		if r > 0x3000 && r < 0xd000 || r > 0xf000 && r < 0x10f000 {
			r += 96
		}
		checkEncode(t, []rune{r})
		checkEncode(t, []rune{'x', r, 0xdf})
	}
}

func TestDecodeOfWhatIsNoPunycode(t *testing.T) {
	for _, s := range []string{
		// none before the delimiter
		"-", "-a", "-tda", "-9",
		// a number without its end
		"k", "b", "9", "z9", "tda9", "tdab9", "a-k", "a-b", "bcher-k", "bcher-kv",
		// signs that are no digits, those beside them in ASCII
		"a-!", "a-/", "a-:", "a-@", "a-[", "a-`", "a-{", "a-_", "a-.", "a- ", "a-\x00", "a-\x7f",
		"b!a", "b/a", "b:a", "b@a", "b[a", "b`a", "b{a", "!", " tda", "tda ", "td a", "tda\n",
		// bytes beyond ASCII
		"\u00fc", "b\u00fccher", "\u00fc-", "\u00fc-tda", "\u0080-", "\u0080-a", "a\u0080-a", "\U0010ffff-a", "a\u00fc-tda", "\xff-", "\x80-a", "a\x80-a", "a-\xff", "a-t\u00fc", "a-\u212aa",
		// numbers too great, and much too great
		"99999999999", "999999a", "x-99999a", "zzzzzzzzzzzzzzzzzzzzzzzzzzzzzzza",
		strings.Repeat("9", 62) + "a",
		strings.Repeat("9", 63),
		"a-" + strings.Repeat("9", 60) + "a",
	} {
		if _, ok := rfcRunes(s); ok {
			t.Fatalf("the test is wrong: %q has runes", s)
		}
		if got, e := puny.Decode(s); len(got) != 0 || e != api.ErrPuny {
			t.Errorf("Decode(%q) = %x, %d", s, got, e)
		}
	}
}

// Numbers that are right if a word of 32 or 64 bits wraps round.
func TestNumbersThatWrapRound(t *testing.T) {
	wrong := 0
	for _, bits := range []int{16, 21, 31, 32, 33, 63, 64, 65, 128} {
		for add := range 300 {
			for _, before := range []string{"", "x-", "xy-", "tda"} {
				s := before + numberPast(bits, add, before)
				if !checkDecode(t, s) {
					wrong++
				}
			}
		}
	}
	if wrong < 300 {
		t.Errorf("only %d texts are wrong: the test is no good", wrong)
	}
}

// numberPast: the digits of 2 to the power of bits, and so much more, as the number behind before.
func numberPast(bits, add int, before string) string {
	bias := 72
	if before == "tda" {
		bias = rfcAdapt(big1(0xfc-0x80), 1, true)
	}
	q := big1(1)
	q.Lsh(q, uint(bits)).Add(q, big1(add))
	var out []byte
	for k := 36; ; k += 36 {
		t := rfcThreshold(k, bias)
		if q.Cmp(big1(t)) < 0 {
			return string(append(out, rfcSigns[q.Int64()]))
		}
		rest := big1(0)
		q.Sub(q, big1(t)).QuoRem(q, big1(36-t), rest)
		out = append(out, rfcSigns[t+int(rest.Int64())])
	}
}

// Each byte, as a digit and before the delimiter.
func TestDecodeOfEachByte(t *testing.T) {
	for c := range 256 {
		s := string([]byte{byte(c)})
		for _, x := range []string{s, s + "a", "t" + s + "a", "x-" + s, "x-" + s + "a", "x-b" + s + "a", s + "-", s + "-a", "a" + s + "-tda"} {
			checkDecode(t, x)
		}
	}
}

func TestListsAreNotShared(t *testing.T) {
	l := make([]rune, 3, 10)
	copy(l, []rune("b\u00fcc"))
	behind := l[:10]
	before := slices.Clone(behind)
	if _, e := puny.Encode(l); e != api.OK || !slices.Equal(behind, before) {
		t.Errorf("Encode changed %x to %x (%d)", before, behind, e)
	}
	for _, s := range []string{"bcher-kva", "abc-", "tda"} {
		first, _ := puny.Decode(s)
		want := slices.Clone(first)
		for i := range first {
			first[i] = 'z'
		}
		_ = append(first[:1], 'y', 'y')
		if second, e := puny.Decode(s); e != api.OK || !slices.Equal(second, want) {
			t.Errorf("Decode(%q) behind a change of its last answer: %x, %d", s, second, e)
		}
	}
}

// P0: no list makes Encode panic or go on for ever; what it answers of numbers that no rune has isn't said.
func TestEncodeOfNumbersThatNoRuneHas(t *testing.T) {
	for _, r := range []rune{-1, math.MinInt32, -0x80, 0xd800, 0xdbff, 0xdc00, 0xdfff, 0x110000, math.MaxInt32} {
		for _, n := range []int{1, 2, 20, 63, 64, 1000} {
			puny.Encode(slices.Repeat([]rune{r}, n))
			puny.Encode(append(slices.Repeat([]rune{'x', 0xfc}, n), r))
			puny.Encode(append([]rune{r, math.MaxInt32, math.MinInt32}, slices.Repeat([]rune{'x', 0xfc}, n)...))
		}
	}
}
