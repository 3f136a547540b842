package conf_test

import (
	"errors"
	"slices"
	"strconv"
	"strings"
	"testing"

	"nomenclator/api"
	"nomenclator/conf"
)

// wantFault: of that line and that error, found by errors.Is and errors.As; and nothing beside it.
func wantFault(t *testing.T, text string, line int, want api.Errno) {
	t.Helper()
	shown := text[:min(len(text), 200)]
	c, err := conf.Parse(text)
	if !same(c, api.Conf{}) {
		t.Errorf("Parse(%q) answers %v beside its error", shown, c)
	}
	var f *conf.Fault
	if !errors.As(err, &f) {
		t.Errorf("Parse(%q) has the error %v, no Fault", shown, err)
		return
	}
	var e api.Errno
	if !errors.Is(err, want) || !errors.As(err, &e) || e != want || f.Err != error(want) || f.Line != line {
		t.Errorf("Parse(%q) has the error %v, not %v in line %d", shown, err, want, line)
	}
	for other := api.OK; other <= api.ErrArg; other++ {
		if other != want && errors.Is(err, other) {
			t.Errorf("Parse(%q) has the error %v too", shown, other)
		}
	}
}

// wantErrors: each text, as a line alone and as the third one behind others, has that error.
func wantErrors(t *testing.T, want api.Errno, lines ...string) {
	t.Helper()
	for _, s := range lines {
		wantFault(t, s, 1, want)
		wantFault(t, "# x\nnameserver ::1\n"+s+"\nsearch a..b", 3, want)
	}
}

func TestLinesThatTellNothing(t *testing.T) {
	wantErrors(t, api.ErrLine,
		// no such first word
		"x", "domain corp", "sortlist 1.2.3.4", "1.2.3.4 nameserver", "Nameserver 1.2.3.4", "SEARCH a", "Options ndots:1", "name server 1.2.3.4",
		"nameservers 1.2.3.4", "option ndots:1", "nameserver:1.2.3.4", ";", "nameserver\r1.2.3.4", "\r", "\v", "\x00", "\xff", "ndots:1", "\ufeffsearch a", "search\u00a0a", "options: ndots:1", "sear",
		// a server's address is one word
		"nameserver", "nameserver # 1.2.3.4", "nameserver 1.2.3.4 ::1", "nameserver 1.2.3.4 1.2.3.4", "nameserver 1.2 x", "nameserver a b c",
		// options
		"options x", "options ndots", "options ndots:", "options :1", "options :", "options ndots=1", "options ndots:1,timeout:2", "options ndots:1:2", "options ndots::1",
		"options ndots: 1", "options ndots :1", "options Ndots:1", "options TIMEOUT:1", "options rotate", "options edns:1", "options 1:ndots", "options ndot:1", "options ndotss:1", "options retry:1",
		"options ndots:1 x", "options x ndots:1", "options ndots:1 timeout:x attempts:1", "options ndots:99999999999999999999x",
		// a number is digits
		"options ndots:+1", "options ndots:-1", "options ndots:-0", "options ndots:a", "options ndots:1a", "options ndots:a1", "options ndots:0x1", "options ndots:1e1", "options ndots:1_0", "options ndots:1.0", "options ndots:\u0661", "options ndots:\xff", "options timeout:1s", "options attempts:/", "options attempts:1\r",
		"options timeout:-99999999999999999999", "options attempts:+0",
		// without noughts ahead
		"options ndots:00", "options ndots:01", "options timeout:007", "options attempts:05", "options attempts:0000000000000000000000000",
	)
}

// A digit is one of ten bytes.
func TestNumbersOfAllBytes(t *testing.T) {
	for c := range 256 {
		text := "options timeout:2" + string([]byte{byte(c)})
		switch {
		case c >= '0' && c <= '9':
			wantConf(t, text, options(1, min(20+c-'0', 30), 2))
		case c == ' ' || c == '\t' || c == '#' || c == '\n':
			wantConf(t, text, options(1, 2, 2))
		default:
			wantFault(t, text, 1, api.ErrLine)
		}
	}
}

func TestAddressesThatAreNone(t *testing.T) {
	wantErrors(t, api.ErrAddr,
		"nameserver 1.2", "nameserver a", "nameserver localhost", "nameserver 1.2.3.4.5", "nameserver 01.2.3.4", "nameserver 1.2.3.256", "nameserver ::0", "nameserver 0::1", "nameserver 2001:DB8::1",
		"nameserver ::ffff:1.2.3.4", "nameserver fe80::1%eth0", "nameserver 1.2.3.4:53", "nameserver [::1]", "nameserver 1.2.3.4\r", "nameserver 1.2.3.4,::1", "nameserver \xff", "nameserver 1.2.3.4/8",
	)
}

func TestNamesThatMayNotBe(t *testing.T) {
	wantErrors(t, api.ErrName,
		"search a..b", "search -", "search -a", "search a-", "search .", "search .a", "search a b..", "search a -b c", "search a\r", "search \xff", "search a,b", "search a:b", "search Ü", "search xn--", "search a xn--a-", "search b.xn--!", "search \u00a0",
	)
	wantErrors(t, api.ErrPuny, "search xn--a", "search a xn--99999999", "search b.xn--abc.d", "search a b XN--A", "search xn--tda xn--a")
	wantErrors(t, api.ErrLong,
		"search "+strings.Repeat("ü", 63), "search "+strings.Repeat(strings.Repeat("a", 63)+".", 4), "search "+strings.Repeat("a", 4*253+1), "search a "+strings.Repeat("a.", 4*253), "search "+strings.Repeat("a.", 127)+"b",
	)
}

func TestTooMany(t *testing.T) {
	wantFault(t, "nameserver ::1\nnameserver ::1\nnameserver ::1\nnameserver ::1", 4, api.ErrLong)
	wantFault(t, "nameserver ::1\nnameserver 1.2.3.4\n#\nnameserver ::\n\nsearch a\nnameserver ::2\nnameserver ::3\n", 7, api.ErrLong)
	wantErrors(t, api.ErrLong, "search a b c d e f g", "search a a a a a a a", "search a b c d e f g h i j")
}

// Of several errors of a line: ErrLine, the address's, the names' first one, ErrLong.
func TestOfSeveralErrors(t *testing.T) {
	const full = "nameserver ::1\nnameserver ::1\nnameserver ::1\n"
	wantFault(t, full+"nameserver", 4, api.ErrLine)
	wantFault(t, full+"nameserver ::1 ::1", 4, api.ErrLine)
	wantFault(t, full+"nameserver x x", 4, api.ErrLine)
	wantFault(t, full+"nameserver x", 4, api.ErrAddr)
	wantFault(t, full+"nameserver ::2", 4, api.ErrLong)
	wantErrors(t, api.ErrName, "search a b c d e f -", "search - b c d e f g", "search a b c d e f g -", "search - xn--a", "search - "+strings.Repeat("a", 4*253+1))
	wantErrors(t, api.ErrPuny, "search a b c d e f xn--a", "search xn--a - c d e f g")
	wantErrors(t, api.ErrLong, "search "+strings.Repeat("a", 4*253+1)+" -")
	// of several lines: the first one
	wantFault(t, "search a..b\nnameserver", 1, api.ErrName)
	wantFault(t, "\nnameserver 1.2\nx", 2, api.ErrAddr)
	wantFault(t, full+"\nnameserver ::1\n\nx", 5, api.ErrLong)
	wantFault(t, "x\ny", 1, api.ErrLine)
	wantFault(t, "search a b c d e f g\nsearch", 1, api.ErrLong)
}

// Parse answers an error that is nil where there is none, and a Fault that is told as its own line.
func TestFaultOfParse(t *testing.T) {
	if _, err := conf.Parse("search a"); err != nil {
		t.Errorf("the error is %v", err)
	}
	for text, want := range map[string]string{
		"search a..b":                           "line 1: nomenclator: error 1",
		"\n\nnameserver x\n":                    "line 3: nomenclator: error 5",
		"#\nx":                                  "line 2: nomenclator: error 6",
		"search a b c d e f g":                  "line 1: nomenclator: error 2",
		"\n\n\n\nsearch xn--a ":                 "line 5: nomenclator: error 3",
		strings.Repeat("\n", 99) + "nameserver": "line 100: nomenclator: error 6",
	} {
		if _, err := conf.Parse(text); err == nil || err.Error() != want {
			t.Errorf("Parse(%q) has the error %v, not %q", text, err, want)
		}
	}
}

// other is an error of a test's own.
type other struct{ text string }

func (o other) Error() string { return o.text }

// broken is an error that panics when it is asked for its text.
type broken struct{ n *int }

func (b broken) Error() string { return strings.Repeat("a", *b.n) }

func TestFault(t *testing.T) {
	inner := &conf.Fault{Line: 2, Err: api.ErrLong}
	cause := errors.New("cause")
	for _, c := range []struct {
		fault *conf.Fault
		want  string
	}{
		{&conf.Fault{Line: 1, Err: api.ErrName}, "line 1: nomenclator: error 1"},
		{&conf.Fault{Line: 12, Err: api.ErrArg}, "line 12: nomenclator: error 13"},
		{&conf.Fault{Line: 3, Err: api.OK}, "line 3: nomenclator: error 0"},
		{&conf.Fault{Line: 7, Err: cause}, "line 7: cause"},
		{&conf.Fault{Line: 8, Err: other{"a: b "}}, "line 8: a: b "},
		{&conf.Fault{Line: 9, Err: inner}, "line 9: line 2: nomenclator: error 2"},
	} {
		if got := c.fault.Error(); got != c.want {
			t.Errorf("%v tells %q, not %q", *c.fault, got, c.want)
		}
		if got := c.fault.Unwrap(); got == nil || got != c.fault.Err {
			t.Errorf("Unwrap of %q = %v", c.want, got)
		}
	}
	around := error(&conf.Fault{Line: 9, Err: inner})
	var f *conf.Fault
	if !errors.Is(around, api.ErrLong) || !errors.Is(around, inner) || errors.Is(around, api.ErrName) || !errors.As(around, &f) || f.Line != 9 {
		t.Error("a Fault within one is not found")
	}
	var o other
	if e := error(&conf.Fault{Line: 1, Err: other{"x"}}); !errors.As(e, &o) || o.text != "x" || !errors.Is(e, other{"x"}) || errors.Is(e, cause) {
		t.Error("an error of another type is not found")
	}
}

// What a Fault of no error, or of one that panics, tells is not said; it ends, and Unwrap is its Err.
func TestFaultOfWhatMayNotBe(t *testing.T) {
	for _, f := range []*conf.Fault{{}, {Line: -1}, {Line: -1 << 63, Err: api.Errno(-1)}, {Line: 1, Err: broken{}}, {Line: 1, Err: (*conf.Fault)(nil)}} {
		if text := f.Error(); !strings.HasPrefix(text, "line "+strconv.Itoa(f.Line)+":") {
			t.Errorf("it tells %q", text)
		}
		if got := f.Unwrap(); (got == nil) != (f.Err == nil) {
			t.Errorf("Unwrap = %v", got)
		}
	}
	if (&conf.Fault{}).Unwrap() != nil || errors.Is(&conf.Fault{Line: 1}, api.OK) {
		t.Error("a Fault of no error has one")
	}
}

// What Parse answers hangs on its text alone: a Fault that is changed changes none that is answered later.
func TestFaultsAreNew(t *testing.T) {
	const text = "search a..b"
	_, err := conf.Parse(text)
	f, ok := errors.AsType[*conf.Fault](err)
	if !ok {
		t.Fatal("no Fault")
	}
	f.Line, f.Err = 5, api.ErrLong
	wantFault(t, text, 1, api.ErrName)
	if texts := []string{f.Error(), err.Error()}; !slices.Equal(texts, []string{"line 5: nomenclator: error 2", "line 5: nomenclator: error 2"}) {
		t.Errorf("it tells %q", texts)
	}
}
