package hosts_test

import (
	"slices"
	"strconv"
	"strings"
	"testing"

	"nomenclator/addr"
	"nomenclator/api"
	"nomenclator/hosts"
)

var (
	lo4 = addr.V4(127, 0, 0, 1)
	lo6 = api.Addr{15: 1}
	db8 = api.Addr{0x20, 0x01, 0x0d, 0xb8, 15: 7}
)

// db8's Reverse.
const db8Reverse = "7.0.0.0.0.0.0.0.0.0.0.0.0.0.0.0.0.0.0.0.0.0.0.0.8.b.d.0.1.0.0.2.ip6.arpa"

func host(a api.Addr, names ...string) api.Host { return api.Host{Addr: a, Names: names} }

func sameHosts(a, b []api.Host) bool {
	return slices.EqualFunc(a, b, func(x, y api.Host) bool {
		return x.Addr == y.Addr && slices.Equal(x.Names, y.Names)
	})
}

// copied: the same lines, in other memory.
func copied(l []api.Host) []api.Host {
	var c []api.Host
	for _, h := range l {
		c = append(c, host(h.Addr, slices.Clone(h.Names)...))
	}
	return c
}

func TestWords(t *testing.T) {
	for _, c := range []struct {
		line string
		want []string
	}{
		{"", nil},
		{"a", []string{"a"}},
		{"a b", []string{"a", "b"}},
		{"127.0.0.1 localhost lo", []string{"127.0.0.1", "localhost", "lo"}},
		{"Ab aB", []string{"Ab", "aB"}},
		// parted by tabs, by several, by both; some ahead and behind
		{"a\tb", []string{"a", "b"}},
		{"a  b   c", []string{"a", "b", "c"}},
		{"a\t\tb", []string{"a", "b"}},
		{"a \tb\t c \t d", []string{"a", "b", "c", "d"}},
		{"  a b", []string{"a", "b"}},
		{"\t \ta", []string{"a"}},
		{"a b \t ", []string{"a", "b"}},
		{" ", nil},
		{" \t\t ", nil},
		// up to a #: at the beginning, within a word, behind a blank, at the end; the first one of several
		{"#", nil},
		{"#a b", nil},
		{" \t# a", nil},
		{"a#b c", []string{"a"}},
		{"a b#c d", []string{"a", "b"}},
		{"a b # c d", []string{"a", "b"}},
		{"a\t#b", []string{"a"}},
		{"a #", []string{"a"}},
		{"a#", []string{"a"}},
		{"a#b#c", []string{"a"}},
		{"##a", nil},
		// other signs part no words, and end no line
		{"a,b;c", []string{"a,b;c"}},
		{"a\rb c\r", []string{"a\rb", "c\r"}},
		{"a\nb c\n", []string{"a\nb", "c\n"}},
		{"a\vb\fc", []string{"a\vb\fc"}},
		{"a\u00a0b\u2003c\u0085d", []string{"a\u00a0b\u2003c\u0085d"}},
		{"\x00 a\x00b", []string{"\x00", "a\x00b"}},
		{"\xff \xfe\xa0a\x85", []string{"\xff", "\xfe\xa0a\x85"}},
		{"ü \U0001f600", []string{"ü", "\U0001f600"}},
		{"a\uff03b \ufe5f", []string{"a\uff03b", "\ufe5f"}},
		{"a \\# b", []string{"a", "\\"}},
		{"\"a b\"", []string{"\"a", "b\""}},
		{"[a=b]", []string{"[a=b]"}},
	} {
		if got := hosts.Words(c.line); !slices.Equal(got, c.want) {
			t.Errorf("Words(%q) = %q, not %q", c.line, got, c.want)
		}
	}
}

func TestWordsOfAllBytes(t *testing.T) {
	for c := range 256 {
		want := []string{"a" + string([]byte{byte(c)}) + "b"}
		switch c {
		case ' ', '\t':
			want = []string{"a", "b"}
		case '#':
			want = []string{"a"}
		}
		if got := hosts.Words("a" + string([]byte{byte(c)}) + "b"); !slices.Equal(got, want) {
			t.Errorf("Words with byte %d = %q", c, got)
		}
	}
}

func TestWordsOfLongLines(t *testing.T) {
	const many = 1 << 18
	if got := hosts.Words(strings.Repeat("a", many)); len(got) != 1 || len(got[0]) != many {
		t.Errorf("%d words of one long one", len(got))
	}
	if got := hosts.Words(strings.Repeat("a \t", many)); len(got) != many || got[many-1] != "a" {
		t.Errorf("%d words of many", len(got))
	}
	for _, s := range []string{strings.Repeat(" ", many), strings.Repeat("\t", many), strings.Repeat("#", many), "#" + strings.Repeat("a ", many)} {
		if got := hosts.Words(s); len(got) != 0 {
			t.Errorf("%d words of none", len(got))
		}
	}
}

func TestParse(t *testing.T) {
	for _, c := range []struct {
		text string
		want []api.Host
	}{
		{"127.0.0.1 localhost lo", []api.Host{host(lo4, "localhost", "lo")}},
		{"127.0.0.1 localhost lo\n", []api.Host{host(lo4, "localhost", "lo")}},
		{"::1 localhost\n", []api.Host{host(lo6, "localhost")}},
		{" \t127.0.0.1 \t lo\tlo2 \t\n", []api.Host{host(lo4, "lo", "lo2")}},
		// several lines, in their order, each as often as it stands there
		{"::1 b\n127.0.0.1 a\n", []api.Host{host(lo6, "b"), host(lo4, "a")}},
		{"127.0.0.1 a\n127.0.0.1 a\n127.0.0.1 a b", []api.Host{host(lo4, "a"), host(lo4, "a"), host(lo4, "a", "b")}},
		{"127.0.0.1 a b a", []api.Host{host(lo4, "a", "b", "a")}},
		// empty ones, and remarks
		{"\n\n127.0.0.1 a\n\n \t\n#\n::1 b\n\n", []api.Host{host(lo4, "a"), host(lo6, "b")}},
		{"# 127.0.0.1 a\n127.0.0.1 b # c\n127.0.0.1 d#e f\n127.0.0.1 g #", []api.Host{host(lo4, "b"), host(lo4, "d"), host(lo4, "g")}},
		{"127.0.0.1 a # b..c", []api.Host{host(lo4, "a")}},
		// names as they go out
		{"127.0.0.1 LocalHost Lo.Corp. a_b", []api.Host{host(lo4, "localhost", "lo.corp", "a_b")}},
		{"127.0.0.1 bücher.de XN--BCHER-KVA", []api.Host{host(lo4, "xn--bcher-kva.de", "xn--bcher-kva")}},
		{"127.0.0.1 1.2.3.4 5", []api.Host{host(lo4, "1.2.3.4", "5")}},
		{"2001:db8::7 " + db8Reverse, []api.Host{host(db8, db8Reverse)}},
		// an address alone
		{"127.0.0.1\n::1\n", nil},
		{"127.0.0.1 \t\n127.0.0.1#a\n127.0.0.1 # a\n127.0.0.1 #", nil},
		{"127.0.0.1\nlo", nil},
		// an address that is none, or not at the beginning
		{"127.0.0.256 a\n127.0.0 b\n::01 c\n::FF d\n1.2.3.4: e\n127.0.0.1, f\n0127.0.0.1 g", nil},
		{"lo 127.0.0.1\nlo lo\nlo\n# 127.0.0.1 a", nil},
		{"fe80::1%eth0 a\n::ffff:127.0.0.1 b\n[::1] c\n127.0.0.1/8 d", nil},
		// one name that does not go out, among others that do: the whole line tells nothing
		{"127.0.0.1 a..b", nil},
		{"127.0.0.1 a b..c d", nil},
		{"127.0.0.1 -a b\n127.0.0.1 b -a\n127.0.0.1 a- b", nil},
		{"127.0.0.1 a . b\n127.0.0.1 .\n127.0.0.1 ..", nil},
		{"127.0.0.1 a xn--a b\n127.0.0.1 a xn--", nil},
		{"127.0.0.1 a Ü b\n127.0.0.1 a \xff\n127.0.0.1 a,b c\n127.0.0.1 a ::1", nil},
		{"127.0.0.1 ok\n127.0.0.1 ok a! ok\n::1 ok2", []api.Host{host(lo4, "ok"), host(lo6, "ok2")}},
		// other white space is a part of words
		{"127.0.0.1 a\r\n::1 b\r\n", nil},
		{"127.0.0.1 a # b\r\n", []api.Host{host(lo4, "a")}},
		{"127.0.0.1\u00a0a b\n127.0.0.1 a\u00a0b\n127.0.0.1\va\f", nil},
		{"127.0.0.1 a\r::1 b", nil},
		// wrong ones
		{"", nil},
		{"\n", nil},
		{"\x00", nil},
		{"\xff\xfe", nil},
		{"\x00127.0.0.1 a", nil},
		{"\ufeff127.0.0.1 a\n::1 b", []api.Host{host(lo6, "b")}},
	} {
		if got := hosts.Parse(c.text); !sameHosts(got, c.want) {
			t.Errorf("Parse(%q) = %v, not %v", c.text, got, c.want)
		}
	}
}

// Names at the edges of what goes out.
func TestParseOfLongNames(t *testing.T) {
	label := strings.Repeat("a", api.MaxLabel)
	full := strings.Repeat(label+".", 3) + label[:61]
	for _, c := range []struct {
		name string
		want bool
	}{
		{label, true},
		{label + "a", false},
		{full, true},
		{full + ".", true},
		{full + "a", false},
		{strings.Repeat("a", 1<<16), false},
		{strings.Repeat("a.", 1<<16), false},
	} {
		got := hosts.Parse("127.0.0.1 x " + c.name + " y")
		if c.want && (len(got) != 1 || len(got[0].Names) != 3 || got[0].Names[1] != strings.TrimSuffix(c.name, ".")) {
			t.Errorf("Parse with a name of %d signs = %v", len(c.name), got)
		}
		if !c.want && len(got) != 0 {
			t.Errorf("Parse with a name of %d signs has lines", len(c.name))
		}
	}
}

// numbered: the line of a number.
func numbered(i int) api.Host {
	return host(addr.V4(10, 0, byte(i>>8), byte(i)), "h"+strconv.Itoa(i))
}

func TestParseOfManyLines(t *testing.T) {
	nothing := []string{"", "#", "10.0.0.1", "lo lo", "10.0.0.1 a..b", "10.0.0.1 a -", " \t"}
	for _, n := range []int{api.MaxHosts - 1, api.MaxHosts, api.MaxHosts + 1, 3 * api.MaxHosts} {
		var lines, among []string
		var want []api.Host
		for i := range n {
			line := strings.TrimSuffix(hosts.Print(numbered(i)), "\n")
			lines = append(lines, line)
			among = append(among, nothing[i%len(nothing)], line)
			if i < 64 {
				want = append(want, numbered(i))
			}
		}
		for _, text := range []string{
			strings.Join(lines, "\n"),
			strings.Join(lines, "\n") + "\n",
			strings.Join(among, "\n"),
			strings.Join(append(nothing, among...), "\n") + "\n\n",
		} {
			if got := hosts.Parse(text); !sameHosts(got, want) {
				t.Errorf("Parse of %d lines that tell something has %d", n, len(got))
			}
		}
	}
}

func TestParseOfLongTexts(t *testing.T) {
	const many = 1 << 18
	for _, s := range []string{
		strings.Repeat("\n", many), strings.Repeat(" ", many), strings.Repeat("#", many), strings.Repeat("1", many),
		strings.Repeat("\xff", many), strings.Repeat("a ", many), strings.Repeat("127.0.0.1\n", many/8),
		"127.0.0.1 " + strings.Repeat("a ", many/8) + "-",
	} {
		if got := hosts.Parse(s); len(got) != 0 {
			t.Errorf("Parse of %.20q and so on has %d lines", s, len(got))
		}
		if got := hosts.Parse(s + "\n127.0.0.1 a"); !sameHosts(got, []api.Host{host(lo4, "a")}) {
			t.Errorf("Parse of %.20q and so on, and one more line, has %d lines", s, len(got))
		}
	}
	got := hosts.Parse("127.0.0.1" + strings.Repeat(" a", many/8))
	if len(got) != 1 || len(got[0].Names) != many/8 || got[0].Names[many/8-1] != "a" {
		t.Error("Parse of a line with many names")
	}
}

// No two lists of an answer share memory.
func TestParsedListsAreTheirOwn(t *testing.T) {
	const text = "127.0.0.1 a b\n::1 c d\n127.0.0.1 a b\n"
	want := hosts.Parse(text)
	got := hosts.Parse(text)
	for i := range got {
		_ = append(got[i].Names, "x", "x")
	}
	if !sameHosts(got, want) {
		t.Errorf("appended to a line's names: %v", got)
	}
	for i := range got {
		got[i].Addr = addr.V4(9, 9, 9, 9)
		for j := range got[i].Names {
			got[i].Names[j] = strconv.Itoa(i)
		}
	}
	if !slices.Equal(got[0].Names, []string{"0", "0"}) || !slices.Equal(got[1].Names, []string{"1", "1"}) {
		t.Errorf("lines share names: %v", got)
	}
	if again := hosts.Parse(text); !sameHosts(again, want) {
		t.Errorf("Parse answers %v the next time", again)
	}
}

func TestPrint(t *testing.T) {
	for _, c := range []struct {
		lines []api.Host
		want  string
	}{
		{nil, ""},
		{[]api.Host{}, ""},
		{[]api.Host{host(lo4, "lo")}, "127.0.0.1 lo\n"},
		{[]api.Host{host(lo4, "localhost", "lo", "a.b")}, "127.0.0.1 localhost lo a.b\n"},
		{[]api.Host{host(lo6, "lo"), host(lo4, "lo"), host(db8, "x", "y")}, "::1 lo\n127.0.0.1 lo\n2001:db8::7 x y\n"},
		{[]api.Host{host(lo4, "a"), host(lo4, "a")}, "127.0.0.1 a\n127.0.0.1 a\n"},
		{[]api.Host{host(api.Addr{}, "a", "a")}, ":: a a\n"},
	} {
		if got := hosts.Print(c.lines...); got != c.want {
			t.Errorf("Print(%v) = %q, not %q", c.lines, got, c.want)
		}
	}
}

func TestParseOfWhatWasPrinted(t *testing.T) {
	for _, c := range []struct{ text, want string }{
		{"127.0.0.1 lo\n", "127.0.0.1 lo\n"},
		{"\t127.0.0.1\tLo  lo2 # x\n\nno line\n::1 bücher", "127.0.0.1 lo lo2\n::1 xn--bcher-kva\n"},
		{"", ""},
	} {
		l := hosts.Parse(c.text)
		printed := hosts.Print(l...)
		if printed != c.want {
			t.Errorf("Print of Parse(%q) = %q, not %q", c.text, printed, c.want)
		}
		if again := hosts.Parse(printed); !sameHosts(again, l) {
			t.Errorf("Parse(%q) = %v, not %v", printed, again, l)
		}
	}
	var most []api.Host
	for i := range api.MaxHosts {
		most = append(most, numbered(i))
	}
	if got := hosts.Parse(hosts.Print(most...)); !sameHosts(got, most) {
		t.Errorf("%d lines of MaxHosts that were printed", len(got))
	}
	if text := hosts.Print(append(most, numbered(64))...); strings.Count(text, "\n") != 65 || !sameHosts(hosts.Parse(text), most) {
		t.Error("Print or Parse of one line more than MaxHosts")
	}
}

func TestHas(t *testing.T) {
	three := []string{"a", "b.c", "d"}
	for _, c := range []struct {
		list []string
		s    string
		want bool
	}{
		{nil, "a", false},
		{nil, "", false},
		{[]string{}, "a", false},
		{three, "a", true},
		{three, "b.c", true},
		{three, "d", true},
		{three, "e", false},
		{three, "", false},
		{three, "A", false},
		{three, "b", false},
		{three, "c", false},
		{three, "a ", false},
		{three, "d.", false},
		{three, "a b.c", false},
		{[]string{""}, "", true},
		{[]string{"a", "a"}, "a", true},
		{[]string{"\xff"}, "\xff", true},
		{[]string{"\xff"}, "\xfe", false},
		{[]string{"\ufffd"}, "\xff", false},
		{[]string{"\x00"}, "", false},
		{[]string{strings.Repeat("a", 1<<16)}, strings.Repeat("a", 1<<16), true},
		{[]string{strings.Repeat("a", 1<<16)}, strings.Repeat("a", 1<<16-1), false},
	} {
		if got := hosts.Has(c.list, c.s); got != c.want {
			t.Errorf("Has(%.60q, %.60q) = %v", c.list, c.s, got)
		}
	}
	long := append(slices.Repeat([]string{"a"}, 1<<16), "z")
	if !hosts.Has(long, "z") || hosts.Has(long, "y") {
		t.Error("Has of a long list")
	}
}
