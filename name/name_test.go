package name_test

import (
	"math"
	"strings"
	"testing"
	"unicode"
	"unicode/utf8"

	"nomenclator/api"
	"nomenclator/name"
)

// good: all the runes beyond ASCII that may stand in a label.
const good = "ßàáâãäåæçèéêëìíîïðñòóôõöøùúûüýþÿ" +
	"āăąćĉċčďđēĕėęěĝğġģĥħĩīĭįıĳĵķ" +
	"αβγδεζηθικλμνξοπρςστυφχψω" +
	"абвгдежзийклмнопрстуфхцчшщъыьэюяѐёђѓєѕіїјљњћќѝўџ"

// wrong: runes that may stand in none: those beside the signs and stretches that may, capitals, and others. (No point: that parts labels.)
const wrong = " !,/:@[`{\x00\x1f\x7f\u0080\u00a0ªµºÀÜÞ÷ĀĂĶĸĹĺłœſƀ\u03aeΰΑΩϊόЀАЯѠѡא中あ" +
	"\u0301\u200d\u212a\u2010\u2212\u2024\u3002\uff0e\uff0d\uff41\ufeff\ufffd\uffff\U00010400\U0010ffff"

// noUTF8: bytes that are none, runes that are written too long or have no number, runes that are cut off.
func noUTF8() []string {
	return []string{"\xff", "\xfe", "\x80", "\xa4", "\xbf", "\xc3", "\xd0", "\xe2\x82", "\xf0\x9f\x98", "\xc0\xad", "\xc1\xa1", "\xc0\xae", "\xe0\x83\xa4", "\xed\xa0\x80", "\xed\xbf\xbf", "\xf4\x90\x80\x80", "\xf8\x88\x80\x80\x80", "\xa4\xc3", "\xc3\xc3\xa4"}
}

func x(s string, n int) string { return strings.Repeat(s, n) }

func wantASCII(t *testing.T, s, want string, wantErr api.Errno) {
	t.Helper()
	if got, e := name.ToASCII(s); got != want || e != wantErr {
		t.Errorf("ToASCII(%+q) of %d bytes = %q, %d, want %q, %d", s, len(s), got, e, want, wantErr)
	}
}

func wantUnicode(t *testing.T, s, want string, wantErr api.Errno) {
	t.Helper()
	if got, e := name.ToUnicode(s); got != want || e != wantErr {
		t.Errorf("ToUnicode(%+q) of %d bytes = %+q, %d, want %+q, %d", s, len(s), got, e, want, wantErr)
	}
}

func TestGoodOfEachRune(t *testing.T) {
	if n := utf8.RuneCountInString(good); n != 32+28+25+48 {
		t.Fatalf("the test is wrong: %d runes", n)
	}
	for r := rune(-0x1000); r <= unicode.MaxRune+0x1000; r++ {
		want := utf8.ValidRune(r) && strings.ContainsRune(good, r)
		if got := name.Good(r); got != want {
			t.Errorf("Good(%#x) = %v", r, got)
		}
	}
	for _, r := range []rune{math.MinInt32, math.MinInt32 + 0xe4, -1<<16 + 0xe4, 1<<21 + 0xe4, 1<<24 + 0x101, 1<<30 + 0x3b1, math.MaxInt32} {
		if name.Good(r) {
			t.Errorf("Good(%#x)", r)
		}
	}
}

func TestGoodAtTheEdges(t *testing.T) {
	for _, c := range []struct {
		r    rune
		want bool
	}{
		{0xde, false}, {0xdf, true}, {0xe0, true}, {0xf6, true}, {0xf7, false}, {0xf8, true}, {0xfe, true}, {0xff, true},
		{0x100, false}, {0x101, true}, {0x102, false}, {0x135, true}, {0x136, false}, {0x137, true}, {0x138, false}, {0x139, false},
		{0x3b0, false}, {0x3b1, true}, {0x3b2, true}, {0x3c8, true}, {0x3c9, true}, {0x3ca, false},
		{0x42f, false}, {0x430, true}, {0x431, true}, {0x45e, true}, {0x45f, true}, {0x460, false}, {0x461, false},
		{0, false}, {'-', false}, {'0', false}, {'A', false}, {'_', false}, {'a', false}, {0x7f, false}, {0x80, false}, {0xc4, false},
	} {
		if got := name.Good(c.r); got != c.want {
			t.Errorf("Good(%#x) = %v", c.r, got)
		}
	}
}

func TestToASCIIOfASCII(t *testing.T) {
	for _, c := range [][2]string{
		{"a", "a"},
		{"Ex.COM", "ex.com"},
		{"AZ.az.09", "az.az.09"},
		{"_sip._TCP.x_y_", "_sip._tcp.x_y_"},
		{"a-b.a--b.a---b", "a-b.a--b.a---b"},
		{"127.0.0.1", "127.0.0.1"},
		// labels that only look like those that begin with xn--
		{"xn", "xn"},
		{"xn-a", "xn-a"},
		{"xn-_a", "xn-_a"},
		{"x-n--a", "x-n--a"},
		{"n--a", "n--a"},
		{"axn--a", "axn--a"},
		{"_xn--a", "_xn--a"},
		{"wm--a.xm--a", "wm--a.xm--a"},
	} {
		wantASCII(t, c[0], c[1], api.OK)
	}
}

func TestToASCIIBeyondASCII(t *testing.T) {
	for _, c := range [][2]string{
		{"bücher", "xn--bcher-kva"},
		{"BüCHER.De", "xn--bcher-kva.de"},
		{"Straße", "xn--strae-oqa"},
		{"ñandú.kåre", "xn--and-6ma2c.xn--kre-ula"},
		{"ß.ÿ.ā.ķ", "xn--zca.xn--wda.xn--yda.xn--ifa"},
		{"αβγ.ωμεγα", "xn--mxacd.xn--mxadf1a8d"},
		{"ς.σ", "xn--3xa.xn--4xa"},
		{"привет.россия", "xn--b1agh1afp.xn--h1alffa9f"},
		{"а.џ", "xn--80a.xn--l2a"},
		{"_ü.1ü.ü_1", "xn--_-eha.xn--1-eha.xn--_1-wka"},
		{"a-ü.a--ü.ñ-1_X", "xn--a--yka.xn--a---joa.xn---1_x-fqa"},
		{"www.ü.example.ü", "www.xn--tda.example.xn--tda"},
		// a label that isn't of ASCII is no Punycode, whatever it begins with
		{"xn--ü.Xn--bücher", "xn--xn---3ra.xn--xn--bcher-u9a"},
	} {
		wantASCII(t, c[0], c[1], api.OK)
	}
}

func TestToASCIIOfPunycode(t *testing.T) {
	for _, s := range []string{
		"xn--bcher-kva",
		"xn--tda.xn--zca",
		"a.xn--h1alffa9f.b",
		"xn---1_x-fqa",
		"xn--_-eha",
		"xn--a---joa",
		"xn--xn---3ra.xn--xn--bcher-u9a",
		"xn--" + x("x", 55) + "-8yf",
		"xn--td" + x("a", 57),
	} {
		wantASCII(t, s, s, api.OK)
		wantASCII(t, strings.ToUpper(s)+".", s, api.OK)
	}
	for _, s := range []string{"XN--bcher-kva", "Xn--bcher-kva", "xN--bcher-kva", "xn--Bcher-kva", "xn--bcher-kvA", "xn--bcher-KVA"} {
		wantASCII(t, s, "xn--bcher-kva", api.OK)
	}
}

func TestLabelsThatAreNoPunycode(t *testing.T) {
	for _, s := range []string{
		// of digits that make none
		"xn--k", "xn--bcher-kv", "xn--b", "xn--99999999", "xn---a", "xn----a", "xn--_", "xn--_a", "xn--bcher-k_a",
		// of runes beyond ASCII that may not stand in a label: 80, D7FF, 10FFFF, and those beside the stretches
		"xn--a", "xn--a-ba", "xn--hb9b", "xn--dn32g", "xn--zn7c",
		"xn--yca", "xn--oda", "xn--xda", "xn--jfa", "xn--owa", "xn--cya", "xn--70a", "xn--n2a", "xn--bga",
		"xn--wca", "xn--wca7d", "xn--bcher-2pa", "xn--lzg", "xn--4gq", "xn--b-3ga",
		// of a label whose first or last rune is -
		"xn----eha", "xn----dha", "xn-----xka", "xn-----yka", "xn-----wka",
		// of an xn-- too many
		"xn--xn--bcher-kva", "xn--xn--a",
	} {
		for _, n := range []string{s, strings.ToUpper(s), "X" + s[1:], s + ".", "www." + s, s + ".com", "ü." + s + ".-a"} {
			wantASCII(t, n, "", api.ErrPuny)
			wantUnicode(t, n, "", api.ErrName)
		}
	}
}

func TestLabelsThatMayNotBe(t *testing.T) {
	for _, s := range []string{
		"", "-", "--", "-a", "a-", "-a-", "a b", " a", "a ", "a\n", "a\x00", "a!", "a/b", "a:b", "a@b", "a[b", "a`b", "a{b", "a,b",
		// they begin with xn--, but what may not be comes first
		"xn--", "XN--", "xn---", "xn--abc-", "xn--bcher-kva-", "xn--a b", "xn--tda\x00", "xn--bcher!-kva", "xn--" + x("x", 60),
		// beyond ASCII
		"ü-", "-ü", "-ü-", "-xn--ü", "xn--ü-", "ü b", "ü,", "ü\x00", "Ü", "üÄ", "bücher€",
	} {
		for _, n := range []string{s, s + ".", "a." + s + ".b", "ü." + s + ".", s + ".ü"} {
			wantASCII(t, n, "", api.ErrName)
			wantUnicode(t, n, "", api.ErrName)
		}
	}
}

// Each rune at each place: as it is read, and in Punycode.
func TestEachGoodRune(t *testing.T) {
	for _, r := range good {
		g := string(r)
		for _, s := range []string{g, g + "a", "a" + g, "a" + g + "a", "a-" + g + "-_", g + "ü", "ü" + g, "Z." + g + ".9"} {
			n, e := name.ToASCII(s)
			if e != api.OK || !strings.Contains(n, "xn--") {
				t.Errorf("ToASCII(%+q) = %q, %d", s, n, e)
			}
			wantUnicode(t, n, strings.Replace(s, "Z", "z", 1), api.OK)
		}
	}
}

func TestEachWrongRune(t *testing.T) {
	for _, r := range wrong {
		g := string(r)
		for _, s := range []string{g, g + "a", "a" + g, "a" + g + "a", g + "ü", "ü" + g, "ü" + g + "ü", "a." + g + ".b"} {
			wantASCII(t, s, "", api.ErrName)
			wantUnicode(t, s, "", api.ErrName)
		}
	}
}

func TestBytesThatAreNoUTF8(t *testing.T) {
	for _, b := range noUTF8() {
		for _, s := range []string{b, b + "a", "a" + b, "a" + b + "a", b + "ü", "ü" + b, "ü" + b + "ü", "a." + b + ".b", b + ".", "xn--" + b, "xn--tda" + b} {
			wantASCII(t, s, "", api.ErrName)
			wantUnicode(t, s, "", api.ErrName)
		}
	}
	// two halves of a rune, with a point between
	wantASCII(t, "a\xc3.\xa4b", "", api.ErrName)
	for c := 0x80; c < 0x100; c++ {
		wantASCII(t, string([]byte{byte(c)}), "", api.ErrName)
		wantASCII(t, string([]byte{'a', byte(c), 'a'}), "", api.ErrName)
	}
}

func TestAPointAtTheEnd(t *testing.T) {
	for _, c := range [][2]string{
		{"a.", "a"},
		{"Ex.COM.", "ex.com"},
		{"a.b.c.", "a.b.c"},
		{"bücher.", "xn--bcher-kva"},
		{"a.ü.", "a.xn--tda"},
		{"xn--tda.", "xn--tda"},
	} {
		wantASCII(t, c[0], c[1], api.OK)
		wantASCII(t, c[0]+".", "", api.ErrName)
		wantASCII(t, "."+c[0], "", api.ErrName)
		wantUnicode(t, c[0], "", api.ErrName)
	}
	for _, s := range []string{"", ".", "..", "...", ".a", "a..b", "a..", "..a", "a. ", "a.\u3002"} {
		wantASCII(t, s, "", api.ErrName)
		wantUnicode(t, s, "", api.ErrName)
	}
}

func TestLabelsOf63SignsAnd64(t *testing.T) {
	for _, c := range [][2]string{
		{x("x", 63), x("x", 63)},
		{"A" + x("-", 61) + "_", "a" + x("-", 61) + "_"},
		{x("ü", 56), "xn--td" + x("a", 56)},
		{x("ü", 57), "xn--td" + x("a", 57)},
		{x("X", 54) + "ü", "xn--" + x("x", 54) + "-ovf"},
		{x("X", 55) + "ü", "xn--" + x("x", 55) + "-8yf"},
	} {
		wantASCII(t, c[0], c[1], api.OK)
		wantASCII(t, "b."+c[0]+".b.", "b."+c[1]+".b", api.OK)
		wantASCII(t, c[1], c[1], api.OK)
		wantUnicode(t, c[1], strings.ToLower(c[0]), api.OK)
	}
	for n := 64; n < 80; n++ {
		wantASCII(t, x("x", n), "", api.ErrName)
		wantASCII(t, "xn--"+x("x", n-8)+"-t2f", "", api.ErrName)
		wantASCII(t, "xn--td"+x("a", n-6), "", api.ErrName)
	}
	// the Punycode of the first of these is too long with its xn-- alone, that of the others by itself
	for n := 58; n < 250; n++ {
		wantASCII(t, x("ü", n), "", api.ErrLong)
		wantASCII(t, x("x", n-2)+"ü", "", api.ErrLong)
		wantASCII(t, "a."+x("ü", n)+".b", "", api.ErrLong)
	}
}

// four: a name of four labels, of which the first three are one.
func four(long, last string) string { return x(long+".", 3) + last }

func TestNamesOf253SignsAnd254(t *testing.T) {
	for _, c := range []struct{ long, of61, of62 string }{
		{x("X", 63), x("X", 61), x("X", 62)},
		{x("ü", 57), x("ü", 55), x("ü", 56)},
		{x("x", 55) + "ü", x("x", 53) + "ü", x("x", 54) + "ü"},
		{"xn--td" + x("a", 57), "xn--td" + x("a", 55), "xn--td" + x("a", 56)},
	} {
		just, past := four(c.long, c.of61), four(c.long, c.of62)
		n, e := name.ToASCII(just)
		if len(n) != api.MaxName || e != api.OK {
			t.Errorf("ToASCII(%+q) = %q of %d signs, %d", just, n, len(n), e)
		}
		wantASCII(t, just+".", n, api.OK)
		wantASCII(t, n, n, api.OK)
		wantASCII(t, past, "", api.ErrLong)
		wantASCII(t, past+".", "", api.ErrLong)
		wantUnicode(t, past, "", api.ErrName)
	}
	just := four(x("x", 63), x("x", 61))
	wantUnicode(t, just, just, api.OK)
	wantUnicode(t, just+".", "", api.ErrName)
	wantASCII(t, x("a.", 126)+"b", x("a.", 126)+"b", api.OK)
	wantASCII(t, x("a.", 126)+"bc", "", api.ErrLong)
	wantASCII(t, x("a.", 127), x("a.", 126)+"a", api.OK)
	// few bytes that go out as many signs
	wantASCII(t, x("ü.", 31), x("xn--tda.", 30)+"xn--tda", api.OK)
	wantASCII(t, x("ü.", 32), "", api.ErrLong)
}

func TestNamesOfFourTimes253BytesAndOneMore(t *testing.T) {
	const most = 4 * 253
	for _, c := range []struct {
		begin, rest string
		e           api.Errno // of the labels
	}{
		{"", "x", api.ErrName},
		{"", "-", api.ErrName},
		{"", ".", api.ErrName},
		{"", "\xff", api.ErrName},
		{"", "\x00", api.ErrName},
		{"xn--a.", "x", api.ErrPuny},
		{"ü.xn--a.", ".", api.ErrPuny},
		{"a.€.", "x", api.ErrName},
	} {
		just := c.begin + x(c.rest, most-len(c.begin))
		wantASCII(t, just, "", c.e)
		wantASCII(t, just[:most-1]+".", "", c.e)
		for _, more := range []int{1, 2, 100, 1 << 16} {
			wantASCII(t, just+x(c.rest, more), "", api.ErrLong)
		}
		wantASCII(t, just+".", "", api.ErrLong)
		wantUnicode(t, just, "", api.ErrName)
		wantUnicode(t, just+".", "", api.ErrName)
	}
	// bytes are counted, not runes
	wantASCII(t, x("€", 337)+"x", "", api.ErrName)
	wantASCII(t, x("€", 337)+"xx", "", api.ErrLong)
	wantASCII(t, x("中", 338), "", api.ErrLong)
}

// Of several errors the first label's, and of one label that of which the chapter speaks first.
func TestTheFirstError(t *testing.T) {
	long, over := x("ü", 58), four(x("x", 63), x("x", 62))
	for _, c := range []struct {
		s string
		e api.Errno
	}{
		{"xn--a.-", api.ErrPuny},
		{"-.xn--a", api.ErrName},
		{long + ".-", api.ErrLong},
		{"-." + long, api.ErrName},
		{long + ".xn--a", api.ErrLong},
		{"xn--a." + long, api.ErrPuny},
		{long + ".", api.ErrLong},
		{long + "..", api.ErrLong},
		{"." + long, api.ErrName},
		{"a." + long + "..xn--a", api.ErrLong},
		{long + "€", api.ErrName},
		{"€" + long, api.ErrName},
		{long + "\xff", api.ErrName},
		{"-" + long, api.ErrName},
		{long + "-", api.ErrName},
		{long + " ", api.ErrName},
		{over + ".xn--a", api.ErrPuny},
		{over + ".-", api.ErrName},
		{"xn--a." + over, api.ErrPuny},
		{"Ü." + over, api.ErrName},
	} {
		wantASCII(t, c.s, "", c.e)
		wantUnicode(t, c.s, "", api.ErrName)
	}
}

func TestToUnicode(t *testing.T) {
	for _, c := range [][2]string{
		{"a", "a"},
		{"ex.com", "ex.com"},
		{"_sip._tcp.x-y", "_sip._tcp.x-y"},
		{"xn--bcher-kva", "bücher"},
		{"xn--bcher-kva.x", "bücher.x"},
		{"www.xn--tda.example.xn--zca", "www.ü.example.ß"},
		{"xn--b1agh1afp.xn--h1alffa9f", "привет.россия"},
		{"xn--mxacd.xn--3xa.xn--4xa", "αβγ.ς.σ"},
		{"xn---1_x-fqa.xn--a--yka", "ñ-1_x.a-ü"},
		// read once, not again
		{"xn--xn---3ra", "xn--ü"},
		{"xn--xn--bcher-u9a.xn--bcher-kva", "xn--bücher.bücher"},
		// what only looks like xn-- stays
		{"axn--tda.xn-tda.xn.x--tda", "axn--tda.xn-tda.xn.x--tda"},
	} {
		wantUnicode(t, c[0], c[1], api.OK)
	}
}

func TestToUnicodeOfOthers(t *testing.T) {
	for _, s := range []string{
		"", ".", "a.", "A", "a.B", "ex.com.", "bücher", "a.ü", "XN--bcher-kva", "xn--bcher-kvA", "xn--Bcher-kva", "xn--tda.",
		"xn--a", "xn--", "xn--abc-", "xn--wca", "a..b", "-a", "a-", "a b", "\xff", "xn--ü", x("x", 64), x("x", 1013), x("\xff", 1<<20),
	} {
		wantUnicode(t, s, "", api.ErrName)
	}
}

func TestDots(t *testing.T) {
	for _, c := range []struct {
		s    string
		want int
	}{
		{"", 0}, {"a", 0}, {".", 1}, {"..", 2}, {"a.b.c", 2}, {"a.b.", 2}, {".a", 1}, {"a..b", 2}, {"bücher.de", 1},
		// points that aren't ASCII are none; nor need it be a name
		{"a\u3002b\uff0ec\uff61d\u2024e\u00b7f", 0}, {"\xff.\x80.\x00 -.", 3}, {"\xc0\xae", 0}, {x(".", 1<<16), 1 << 16}, {x("a.", 1013), 1013},
	} {
		if got := name.Dots(c.s); got != c.want {
			t.Errorf("Dots(%q) = %d, want %d", c.s, got, c.want)
		}
	}
}
