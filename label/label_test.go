package label_test

import (
	"slices"
	"strings"
	"testing"

	"nomenclator/api"
	"nomenclator/label"
)

// texts: all of up to so many bytes of an alphabet.
func texts(alphabet string, most int) []string {
	all := []string{""}
	last := all
	for range most {
		var next []string
		for _, s := range last {
			for i := range len(alphabet) {
				next = append(next, s+alphabet[i:i+1])
			}
		}
		all = append(all, next...)
		last = next
	}
	return all
}

func TestLower(t *testing.T) {
	for _, x := range []struct{ in, want string }{
		{"", ""},
		{"Ex.COM.", "ex.com."},
		{"AMZ", "amz"},
		{"abc-_019", "abc-_019"},
		{"@[`{", "@[`{"},
		{"ÄÖÜ\u0130\u212a", "ÄÖÜ\u0130\u212a"},
		{"A\xff\xc4B\x00\x80", "a\xff\xc4b\x00\x80"},
	} {
		if got := label.Lower(x.in); got != x.want {
			t.Errorf("Lower(%q) = %q, want %q", x.in, got, x.want)
		}
	}
}

func TestLowerOfEachByte(t *testing.T) {
	for c := range 256 {
		want := c
		if c >= 65 && c <= 90 {
			want = c + 32
		}
		if got := label.Lower(string([]byte{byte(c)})); got != string([]byte{byte(want)}) {
			t.Errorf("Lower of byte %d = %q", c, got)
		}
	}
}

func TestRight(t *testing.T) {
	for _, x := range []struct {
		in   string
		want bool
	}{
		{"a", true},
		{"Z", true},
		{"0", true},
		{"_", true},
		{"a-b_9", true},
		{"xn--bcher-kva", true},
		{"a--b", true},
		{"_sip", true},
		{"sip_", true},
		{"", false},
		{"-", false},
		{"--", false},
		{"-a", false},
		{"a-", false},
		{"a.b", false},
		{".", false},
		{"a.", false},
		{"a b", false},
		{" a", false},
		{"a\n", false},
		{"a\x00", false},
		{"ä", false},
		{"aäb", false},
		{"\xff", false},
	} {
		if got := label.Right(x.in); got != x.want {
			t.Errorf("Right(%q) = %v", x.in, got)
		}
	}
}

func TestRightByLength(t *testing.T) {
	for n := range 2 * api.MaxLabel {
		want := n >= 1 && n <= api.MaxLabel
		if got := label.Right(strings.Repeat("x", n)); got != want {
			t.Errorf("Right of %d signs = %v", n, got)
		}
	}
	long := strings.Repeat("x", api.MaxLabel-1)
	if label.Right("-"+long) || label.Right(long+"-") || !label.Right(long+"_") || label.Right(strings.Repeat("x", 1<<20)) {
		t.Error("Right of labels at the limit, and past it")
	}
}

func TestRightOfEachByte(t *testing.T) {
	const signs = "ABCDEFGHIJKLMNOPQRSTUVWXYZabcdefghijklmnopqrstuvwxyz0123456789-_"
	for c := range 256 {
		s := string([]byte{byte(c)})
		within := strings.Contains(signs, s)
		edge := within && s != "-"
		for _, x := range []struct {
			in   string
			want bool
		}{{s, edge}, {s + "a", edge}, {"a" + s, edge}, {"a" + s + "a", within}} {
			if got := label.Right(x.in); got != x.want {
				t.Errorf("Right(%q) = %v", x.in, got)
			}
		}
	}
}

func TestSplit(t *testing.T) {
	for _, x := range []struct {
		in   string
		want []string
	}{
		{"a", []string{"a"}},
		{"a.b.c", []string{"a", "b", "c"}},
		{"Ab.cD", []string{"Ab", "cD"}},
		{"", []string{""}},
		{".", []string{"", ""}},
		{"..", []string{"", "", ""}},
		{"a.", []string{"a", ""}},
		{".a", []string{"", "a"}},
		{"a..b", []string{"a", "", "b"}},
		{"ä\xff.\x00 b", []string{"ä\xff", "\x00 b"}},
		{"a\u3002b\uff0ec", []string{"a\u3002b\uff0ec"}}, // points that aren't ASCII part nothing
	} {
		if got := label.Split(x.in); !slices.Equal(got, x.want) {
			t.Errorf("Split(%q) = %q, want %q", x.in, got, x.want)
		}
	}
}

func TestSplitAnswersNewLists(t *testing.T) {
	l := label.Split("a.b.c")
	l[0] = "z"
	_ = append(l[:1], "y")
	if got := label.Split("a.b.c"); !slices.Equal(got, []string{"a", "b", "c"}) {
		t.Errorf("Split behind a change of its last answer: %q", got)
	}
}

func TestJoin(t *testing.T) {
	for _, x := range []struct {
		in   []string
		want string
	}{
		{nil, ""},
		{[]string{}, ""},
		{[]string{""}, ""},
		{[]string{"a"}, "a"},
		{[]string{"x", "y"}, "x.y"},
		{[]string{"a", "B", "c"}, "a.B.c"},
		{[]string{"", ""}, "."},
		{[]string{"a", ""}, "a."},
		{[]string{"", "a"}, ".a"},
		{[]string{"a", "", "b"}, "a..b"},
		{[]string{"a.b", "c."}, "a.b.c."},
		{[]string{"\xff", "ä"}, "\xff.ä"},
	} {
		given := slices.Clone(x.in)
		if got := label.Join(given...); got != x.want {
			t.Errorf("Join(%q) = %q, want %q", x.in, got, x.want)
		}
		if !slices.Equal(given, x.in) {
			t.Errorf("Join changed %q to %q", x.in, given)
		}
	}
	if label.Join() != "" || label.Join("a", "b", "c", "d") != "a.b.c.d" {
		t.Error("Join of none, and of four")
	}
}

func TestJoinOfSplit(t *testing.T) {
	for _, s := range texts("aB.-\xff", 5) {
		l := label.Split(s)
		if len(l) != strings.Count(s, ".")+1 {
			t.Errorf("Split(%q) has %d labels", s, len(l))
		}
		if slices.ContainsFunc(l, func(x string) bool { return strings.Contains(x, ".") }) {
			t.Errorf("Split(%q) left a point: %q", s, l)
		}
		if got := label.Join(l...); got != s {
			t.Errorf("Join of Split(%q) = %q", s, got)
		}
	}
}

func TestUnder(t *testing.T) {
	for _, x := range []struct {
		name, domain string
		want         bool
	}{
		{"a.b.c", "B.c", true},
		{"ab.c", "b.c", false},
		{"WWW.a.B", "a.b", true},
		{"a.b", "A.B", true},
		{"b", "a.b", false},
		{"a.b.c", "a.b", false},
		{"a.b.c", "b", false},
		{"x", ".", true},
		{"", ".", true},
		{".", ".", true},
		{"a.b.", ".", true},
		{"a", "..", false},
		{"a..", "..", false},
		{"a...", "..", true},
		// an empty domain is one empty label
		{"", "", true},
		{".", "", true},
		{"a.", "", true},
		{"a", "", false},
		// so is what stands behind a point at the end
		{"a.b", "b.", false},
		{"a.b.", "b", false},
		{"a.b.", "b.", true},
		{"a.b", ".b", false},
		{"a..b", ".b", true},
		{".b", ".b", true},
		// only A to Z count as small letters
		{"x.Ä", "ä", false},
		{"x.Ä", "Ä", true},
		{"x.k", "\u212a", false},
		{"x.[", "{", false},
		{"x.\xff", "\xff", true},
		{"x.\xff", "\xfe", false},
	} {
		if got := label.Under(x.name, x.domain); got != x.want {
			t.Errorf("Under(%q, %q) = %v", x.name, x.domain, got)
		}
	}
}

// Told another way: a name is under a domain just if a point and the domain end a point and the name.
func TestUnderOfAllShortNames(t *testing.T) {
	all := texts("aAb.\xff", 4)
	small := make([]string, len(all))
	for i, s := range all {
		small[i] = "." + strings.ReplaceAll(s, "A", "a")
	}
	for i, name := range all {
		for j, domain := range all {
			want := domain == "." || strings.HasSuffix(small[i], small[j])
			if got := label.Under(name, domain); got != want {
				t.Fatalf("Under(%q, %q) = %v", name, domain, got)
			}
		}
	}
}

func TestCount(t *testing.T) {
	for _, x := range []struct {
		in   string
		want int
	}{
		{".", 0},
		{"", 1},
		{"a", 1},
		{"a.b", 2},
		{"a.b.c", 3},
		{"a.", 2},
		{".a", 2},
		{"..", 3},
		{"a..b", 3},
		{"\xff.ä", 2},
		{strings.Repeat("a.", 1000), 1001},
	} {
		if got := label.Count(x.in); got != x.want {
			t.Errorf("Count(%q) = %d, want %d", x.in, got, x.want)
		}
	}
}

// P0: each call ends, and none panics; and what it answers hangs on its arguments alone.
func TestAnyTexts(t *testing.T) {
	long := strings.Repeat("A.\xff-", 1<<16)
	for _, s := range append(texts("aZ.-\x00\xff", 4), long, strings.Repeat(".", 1<<16), strings.Repeat("\xff", 1<<16)) {
		if label.Lower(s) != label.Lower(s) || label.Right(s) != label.Right(s) || label.Count(s) != label.Count(s) {
			t.Errorf("two answers of %.20q", s)
		}
		if !label.Under(s, s) || !label.Under("x."+s, s) || !label.Under(s, ".") {
			t.Errorf("%.20q isn't under itself", s)
		}
		if label.Join(label.Split(s)...) != s {
			t.Errorf("Join of Split of %.20q", s)
		}
	}
}
