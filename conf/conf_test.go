package conf_test

import (
	"slices"
	"strings"
	"testing"

	"nomenclator/addr"
	"nomenclator/api"
	"nomenclator/conf"
)

var (
	lo6 = api.Addr{15: 1}
	one = addr.V4(1, 2, 3, 4)
	db8 = api.Addr{0x20, 0x01, 0x0d, 0xb8, 15: 7}
)

// with: the default, changed.
func with(change func(c *api.Conf)) api.Conf {
	c := api.Conf{Dots: 1, Timeout: 5, Attempts: 2}
	change(&c)
	return c
}

func servers(l ...api.Addr) api.Conf { return with(func(c *api.Conf) { c.Servers = l }) }

func search(l ...string) api.Conf { return with(func(c *api.Conf) { c.Search = l }) }

// options: ndots, timeout, attempts.
func options(dots, timeout, attempts int) api.Conf {
	return api.Conf{Dots: dots, Timeout: timeout, Attempts: attempts}
}

func same(a, b api.Conf) bool {
	return slices.Equal(a.Servers, b.Servers) && slices.Equal(a.Search, b.Search) &&
		a.Dots == b.Dots && a.Timeout == b.Timeout && a.Attempts == b.Attempts
}

func TestDefault(t *testing.T) {
	if c := conf.Default(); !same(c, options(1, 5, 2)) {
		t.Errorf("Default() = %v", c)
	}
}

func wantConf(t *testing.T, text string, want api.Conf) {
	t.Helper()
	got, err := conf.Parse(text)
	if err != nil || !same(got, want) {
		t.Errorf("Parse(%q) = %v, %v, not %v", text, got, err, want)
	}
}

func TestParseNothing(t *testing.T) {
	for _, text := range []string{
		"", "\n", "\n\n\n", " ", "\t \n \t", "#", "# nameserver 1.2.3.4", "#nameserver\n \t# x\n#\n", "\n#search a..b\n",
	} {
		wantConf(t, text, options(1, 5, 2))
	}
}

func TestParseServers(t *testing.T) {
	for text, want := range map[string]api.Conf{
		"nameserver 1.2.3.4":     servers(one),
		"nameserver 1.2.3.4\n":   servers(one),
		"nameserver 1.2.3.4\n\n": servers(one),
		"nameserver ::1":         servers(lo6),
		"nameserver ::":          servers(api.Addr{}),
		"nameserver 0.0.0.0":     servers(addr.V4(0, 0, 0, 0)),
		// words as in layer 6: tabs, several blanks, a remark
		" \t nameserver \t 1.2.3.4 \t ": servers(one),
		"nameserver\t1.2.3.4#x":         servers(one),
		"nameserver 1.2.3.4 # ::1":      servers(one),
		// one more server each, in their order, the same one too, up to three
		"nameserver 2001:db8::7\nnameserver 1.2.3.4":              servers(db8, one),
		"nameserver 1.2.3.4\n#\nnameserver 1.2.3.4\n":             servers(one, one),
		"nameserver ::1\nnameserver 1.2.3.4\n\nnameserver ::1":    servers(lo6, one, lo6),
		"nameserver ::1\nsearch\noptions\nnameserver 1.2.3.4\n\n": servers(lo6, one),
	} {
		wantConf(t, text, want)
	}
}

func TestParseSearch(t *testing.T) {
	long := strings.Repeat(strings.Repeat("a", 62)+".", 4) + "b"
	for text, want := range map[string]api.Conf{
		"search corp":               search("corp"),
		"search a b.c":              search("a", "b.c"),
		"search\t a\t\tb \t#c":      search("a", "b"),
		"search a b c d e f":        search("a", "b", "c", "d", "e", "f"),
		"search a b c d e f #g":     search("a", "b", "c", "d", "e", "f"),
		"search a a":                search("a", "a"),
		"search " + long + "\n":     search(long),
		"search search":             search("search"),
		"search 1.2.3.4 nd_ots":     search("1.2.3.4", "nd_ots"),
		"search nameserver\nsearch": search(),
		// as they go out
		"search B.c. EXAMPLE.":     search("b.c", "example"),
		"search bücher.de XN--TDA": search("xn--bcher-kva.de", "xn--tda"),
		// just these: of several lines the last one, one without names too
		"search a b\nsearch c":         search("c"),
		"search a\nsearch b c\n":       search("b", "c"),
		"search a b\nsearch":           search(),
		"search a b\nsearch # c":       search(),
		"search":                       search(),
		"search\nsearch a":             search("a"),
		"search a b c d e f\nsearch g": search("g"),
	} {
		wantConf(t, text, want)
	}
}

func TestParseOptions(t *testing.T) {
	const huge = "99999999999999999999999999999999999999999"
	for text, want := range map[string]api.Conf{
		"options":            options(1, 5, 2),
		"options ndots:3":    options(3, 5, 2),
		"options timeout:7":  options(1, 7, 2),
		"options attempts:4": options(1, 5, 4),
		"options attempts:3\tndots:2 timeout:1 # x": options(2, 1, 3),
		// ndots: 0 to 15
		"options ndots:0":       options(0, 5, 2),
		"options ndots:15":      options(15, 5, 2),
		"options ndots:16":      options(15, 5, 2),
		"options ndots:100":     options(15, 5, 2),
		"options ndots:" + huge: options(15, 5, 2),
		// timeout: 1 to 30
		"options timeout:0":       options(1, 1, 2),
		"options timeout:1":       options(1, 1, 2),
		"options timeout:30":      options(1, 30, 2),
		"options timeout:31":      options(1, 30, 2),
		"options timeout:300":     options(1, 30, 2),
		"options timeout:" + huge: options(1, 30, 2),
		// attempts: 1 to 5
		"options attempts:0":       options(1, 5, 1),
		"options attempts:1":       options(1, 5, 1),
		"options attempts:5":       options(1, 5, 5),
		"options attempts:6":       options(1, 5, 5),
		"options attempts:10":      options(1, 5, 5),
		"options attempts:" + huge: options(1, 5, 5),
		// numbers that come round to small ones in 32 and 64 bits
		"options ndots:4294967296 timeout:4294967298 attempts:4294967297":                               options(15, 30, 5),
		"options ndots:18446744073709551616 timeout:18446744073709551618 attempts:18446744073709551617": options(15, 30, 5),
		"options timeout:9223372036854775808 ndots:2147483648":                                          options(15, 30, 2),
		// the last one of several, in one line or more; the others stay
		"options ndots:3 ndots:2":                      options(2, 5, 2),
		"options timeout:9 ndots:3\noptions ndots:0":   options(0, 9, 2),
		"options attempts:9\n\noptions attempts:2":     options(1, 5, 2),
		"options ndots:2 attempts:3\noptions\noptions": options(2, 5, 3),
	} {
		wantConf(t, text, want)
	}
}

func TestParseAll(t *testing.T) {
	wantConf(t, "# all\noptions timeout:2\nnameserver 1.2.3.4 # x\n\nsearch a B.c\n\toptions ndots:3\nnameserver ::1",
		api.Conf{Servers: []api.Addr{one, lo6}, Search: []string{"a", "b.c"}, Dots: 3, Timeout: 2, Attempts: 2})
}

func TestParseLongTexts(t *testing.T) {
	const many = 1 << 18
	wantConf(t, strings.Repeat("\n", many)+"nameserver ::1", servers(lo6))
	wantConf(t, strings.Repeat("#", many)+"\nnameserver ::1", servers(lo6))
	wantConf(t, strings.Repeat("search a b\n", many), search("a", "b"))
	wantConf(t, strings.Repeat("options ndots:2 timeout:3\n", many), options(2, 3, 2))
	wantConf(t, "options "+strings.Repeat("ndots:2 ", many)+"ndots:4", options(4, 5, 2))
	wantConf(t, "options ndots:1"+strings.Repeat("0", many), options(15, 5, 2))
	wantFault(t, strings.Repeat("\n", many)+"x", many+1, api.ErrLine)
	wantFault(t, "nameserver "+strings.Repeat("1", many), 1, api.ErrAddr)
	wantFault(t, "search "+strings.Repeat("a", many), 1, api.ErrLong)
	wantFault(t, "search "+strings.Repeat("a ", many), 1, api.ErrLong)
	wantFault(t, "options ndots:"+strings.Repeat("0", many), 1, api.ErrLine)
	wantFault(t, strings.Repeat("a", many), 1, api.ErrLine)
}

func TestParseAnswersNewMemory(t *testing.T) {
	const text = "nameserver ::1\nsearch a b"
	c, _ := conf.Parse(text)
	c.Servers[0], c.Search[0] = one, "x"
	wantConf(t, text, api.Conf{Servers: []api.Addr{lo6}, Search: []string{"a", "b"}, Dots: 1, Timeout: 5, Attempts: 2})
}

func TestPrint(t *testing.T) {
	for _, c := range []struct {
		conf api.Conf
		want string
	}{
		{conf.Default(), "options ndots:1 timeout:5 attempts:2\n"},
		{options(0, 1, 1), "options ndots:0 timeout:1 attempts:1\n"},
		{options(15, 30, 5), "options ndots:15 timeout:30 attempts:5\n"},
		{servers(one), "nameserver 1.2.3.4\noptions ndots:1 timeout:5 attempts:2\n"},
		{servers(db8, one, lo6), "nameserver 2001:db8::7\nnameserver 1.2.3.4\nnameserver ::1\noptions ndots:1 timeout:5 attempts:2\n"},
		{search("corp"), "search corp\noptions ndots:1 timeout:5 attempts:2\n"},
		{search("b.c", "a", "d"), "search b.c a d\noptions ndots:1 timeout:5 attempts:2\n"},
		{search(), "options ndots:1 timeout:5 attempts:2\n"},
		{api.Conf{Servers: []api.Addr{one, lo6}, Search: []string{"a", "b.c"}, Dots: 3, Timeout: 30, Attempts: 1}, "nameserver 1.2.3.4\nnameserver ::1\nsearch a b.c\noptions ndots:3 timeout:30 attempts:1\n"},
	} {
		if got := conf.Print(c.conf); got != c.want {
			t.Errorf("Print(%v) = %q, not %q", c.conf, got, c.want)
		}
	}
}

// What it prints of a configuration that Parse doesn't give is not said; it answers, and changes nothing.
func TestPrintOfWhatMayNotBe(t *testing.T) {
	odd := api.Conf{Servers: make([]api.Addr, 100), Search: []string{"", "a b", "\xff\n#", "a..b"}, Dots: -1, Timeout: -1 << 63, Attempts: 1<<63 - 1}
	kept := odd
	kept.Servers, kept.Search = slices.Clone(odd.Servers), slices.Clone(odd.Search)
	conf.Print(odd)
	conf.Print(api.Conf{})
	if !same(odd, kept) {
		t.Errorf("it is %v, and was %v", odd, kept)
	}
}
