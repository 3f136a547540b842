package conf_test

// The chapter's words once more, told in another way, and held against the calls, for all short lines and drawn texts.

import (
	"errors"
	"math/big"
	"math/rand/v2"
	"net/netip"
	"regexp"
	"strconv"
	"strings"
	"testing"

	"nomenclator/addr"
	"nomenclator/api"
	"nomenclator/conf"
	"nomenclator/hosts"
	"nomenclator/name"
)

var source = rand.New(rand.NewPCG(7, 1))

// A line that tells something, its words with one blank between.
var (
	serverLine  = regexp.MustCompile(`\Anameserver ([^ ]+)\z`)
	searchLine  = regexp.MustCompile(`\Asearch(?: [^ ]+)*\z`)
	optionsLine = regexp.MustCompile(`\Aoptions(?: (?:ndots|timeout|attempts):(?:0|[1-9][0-9]*))*\z`)
)

// brought: a number of that many digits, brought to what may be.
func brought(digits string, from, to int64) int {
	n, _ := new(big.Int).SetString(digits, 10)
	if n.Cmp(big.NewInt(from)) < 0 {
		return int(from)
	}
	if n.Cmp(big.NewInt(to)) > 0 {
		return int(to)
	}
	return int(n.Int64())
}

// last: what the last such option of the lines says; or what is said without one.
func last(lines []string, word string, from, to int64, without int) int {
	all := regexp.MustCompile(" "+word+":([0-9]+)").FindAllStringSubmatch(strings.Join(lines, ""), -1)
	if len(all) == 0 {
		return without
	}
	return brought(all[len(all)-1][1], from, to)
}

// wrong: a line's errors, in the order in which they are named.
func wrong(line string, before int) []api.Errno {
	var all []api.Errno
	server, search := serverLine.FindStringSubmatch(line), searchLine.MatchString(line)
	if server == nil && !search && !optionsLine.MatchString(line) {
		return []api.Errno{api.ErrLine}
	}
	if server != nil {
		if _, e := addr.Parse(server[1]); e != api.OK {
			all = append(all, e)
		}
		if before >= 3 {
			all = append(all, api.ErrLong)
		}
	}
	if search {
		domains := strings.Split(line, " ")[1:]
		for _, d := range domains {
			if _, e := name.ToASCII(d); e != api.OK {
				all = append(all, e)
			}
		}
		if len(domains) > 6 {
			all = append(all, api.ErrLong)
		}
	}
	return all
}

// parse: Parse, said again: first the lines, then their errors, and then what each kind of line says in all.
func parse(text string) (api.Conf, int, api.Errno) {
	var ofServers, ofSearch, ofOptions []string
	for i, raw := range strings.Split(text, "\n") {
		line := strings.Join(hosts.Words(raw), " ")
		if line == "" {
			continue
		}
		if all := wrong(line, len(ofServers)); len(all) > 0 {
			return api.Conf{}, i + 1, all[0]
		}
		switch line[:2] {
		case "na":
			ofServers = append(ofServers, line)
		case "se":
			ofSearch = append(ofSearch, line)
		case "op":
			ofOptions = append(ofOptions, line)
		}
	}
	c := api.Conf{Dots: last(ofOptions, "ndots", 0, 15, 1), Timeout: last(ofOptions, "timeout", 1, 30, 5), Attempts: last(ofOptions, "attempts", 1, 5, 2)}
	for _, line := range ofServers {
		c.Servers = append(c.Servers, netip.MustParseAddr(line[len("nameserver "):]).As16())
	}
	if len(ofSearch) > 0 {
		for _, d := range strings.Split(ofSearch[len(ofSearch)-1], " ")[1:] {
			n, _ := name.ToASCII(d)
			c.Search = append(c.Search, n)
		}
	}
	return c, 0, api.OK
}

// printed: Print, said again.
func printed(c api.Conf) string {
	var lines []string
	for _, a := range c.Servers {
		lines = append(lines, "nameserver "+netip.AddrFrom16(a).Unmap().String())
	}
	if len(c.Search) > 0 {
		lines = append(lines, "search "+strings.Join(c.Search, " "))
	}
	lines = append(lines, "options ndots:"+strconv.Itoa(c.Dots)+" timeout:"+strconv.Itoa(c.Timeout)+" attempts:"+strconv.Itoa(c.Attempts), "")
	return strings.Join(lines, "\n")
}

// wantText: what Parse and Print answer of a text; the error, if it has one.
func wantText(t *testing.T, text string) api.Errno {
	t.Helper()
	c, err := conf.Parse(text)
	want, line, e := parse(text)
	if e != api.OK {
		f, ok := errors.AsType[*conf.Fault](err)
		told := "line " + strconv.Itoa(line) + ": nomenclator: error " + strconv.Itoa(int(e))
		if !ok || f.Line != line || f.Unwrap() != error(e) || f.Error() != told || !same(c, want) {
			t.Fatalf("Parse(%q) = %v, %v, not %q", text, c, err, told)
		}
		return e
	}
	if err != nil || !same(c, want) {
		t.Fatalf("Parse(%q) = %v, %v, not %v", text, c, err, want)
	}
	s := conf.Print(c)
	if s != printed(c) {
		t.Fatalf("Print(%v) = %q, not %q", c, s, printed(c))
	}
	if again, err := conf.Parse(s); err != nil || !same(again, c) {
		t.Fatalf("Parse(%q) = %v, %v, not %v", s, again, err, c)
	}
	return api.OK
}

// all: of all texts of at most so many of these pieces.
func all(pieces []string, most int, try func(s string)) {
	try("")
	if most == 0 {
		return
	}
	for _, p := range pieces {
		all(pieces, most-1, func(s string) { try(p + s) })
	}
}

func TestAllShortTexts(t *testing.T) {
	signs := []string{"0", "1", "9", ":", "+", "a", " ", "\t", "#", "\n", "\r"}
	all(signs, 3, func(s string) {
		wantText(t, s)
		wantText(t, "options timeout:"+s)
		wantText(t, "options"+s+"attempts:4")
		wantText(t, "nameserver"+s+"1.2.3.4")
		wantText(t, "nameserver ::"+s)
		wantText(t, "search"+s+"b")
	})
	words := []string{"nameserver ", "search ", "options ", "ndots:", "timeout:", "attempts:", "1", " ", "::1", "a", "\n", "#"}
	all(words, 4, func(s string) { wantText(t, s) })
}

func TestAllSmallNumbers(t *testing.T) {
	for n := range 200 {
		s := strconv.Itoa(n)
		for _, word := range []string{"ndots", "timeout", "attempts"} {
			wantText(t, "options "+word+":"+s)
			wantText(t, "options "+word+":0"+s)
			wantText(t, "options "+word+":"+s+"0000000000000000000000")
		}
	}
}

func TestAllManyServersAndDomains(t *testing.T) {
	for n := range 12 {
		wantText(t, strings.Repeat("nameserver ::1\n", n))
		wantText(t, strings.Repeat("nameserver ::1\n", n)+"nameserver x")
		wantText(t, strings.Repeat("nameserver ::1\n", n)+"nameserver")
		wantText(t, "search"+strings.Repeat(" a", n))
		wantText(t, "search"+strings.Repeat(" a", n)+" -")
		wantText(t, "search -"+strings.Repeat(" a", n))
	}
}

// The pieces of drawn texts.
var (
	starts    = []string{"nameserver", "search", "search", "options", "options", "options"}
	addresses = []string{"1.2.3.4", "::1", "10.0.0.1", "2001:db8::7", "::", "0.0.0.0"}
	domains   = []string{"a", "b.c", "A.b.", "corp", "ü", "xn--tda", "example.com", "localhost", "1.2.3.4"}
	settings  = []string{"ndots:0", "ndots:1", "ndots:15", "ndots:16", "timeout:0", "timeout:1", "timeout:30", "timeout:31", "attempts:0", "attempts:5", "attempts:6", "attempts:4294967297", "ndots:18446744073709551617"}
	strange   = []string{"x", "a..b", "-", "xn--a", "::A", "1.2.3", "ndots:", "ndots:01", "timeout:+1", "attempts:x", "nameserver", "search", "options", "\r", "\xff"}
	between   = []string{" ", " ", " ", " ", "\t", "  ", " \t ", " ", " ", " ", " #", "#"}
)

func pick(of []string) string { return of[source.IntN(len(of))] }

// someWord: one that may stand behind that first word; seldom a strange one.
func someWord(first string) string {
	if source.IntN(40) == 0 {
		return pick(strange)
	}
	switch first {
	case "nameserver":
		return pick(addresses)
	case "search":
		return pick(domains)
	}
	return pick(settings)
}

func someLine() string {
	first, n := pick(starts), source.IntN(7)
	if first == "nameserver" && source.IntN(20) > 0 {
		n = 1
	}
	line := first
	for range n {
		line += pick(between) + someWord(first)
	}
	switch source.IntN(20) {
	case 0:
		return "\t" + line
	case 1:
		return line + " "
	case 2:
		return "#" + line
	case 3:
		return ""
	}
	return line
}

func someText(lines int) string {
	var b strings.Builder
	for i := range lines {
		if i > 0 {
			b.WriteString("\n")
		}
		b.WriteString(someLine())
	}
	return b.String()
}

func TestDrawnTexts(t *testing.T) {
	met := map[api.Errno]int{}
	for range 40000 {
		met[wantText(t, someText(source.IntN(8)))]++
	}
	for _, e := range []api.Errno{api.OK, api.ErrName, api.ErrLong, api.ErrPuny, api.ErrAddr, api.ErrLine} {
		if met[e] < 20 {
			t.Errorf("the drawn texts test too little: %d times error %d", met[e], e)
		}
	}
}

func FuzzParse(f *testing.F) {
	for range 50 {
		f.Add(someText(4))
	}
	f.Fuzz(func(t *testing.T, text string) { wantText(t, text) })
}
