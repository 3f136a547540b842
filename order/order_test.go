package order_test

import (
	"slices"
	"strings"
	"testing"

	"nomenclator/api"
	"nomenclator/order"
)

// src: a source that returns by these outcomes alone.
func src(kind int, returns ...int) api.Source {
	s := api.Source{Kind: kind}
	for _, o := range returns {
		s.Return[o] = true
	}
	return s
}

var (
	files = src(api.Files, api.Success)
	dns   = src(api.DNS, api.Success)
	llmnr = src(api.LLMNR, api.Success)
)

func wantSources(t *testing.T, line string, want ...api.Source) {
	t.Helper()
	if got, e := order.Parse(line); e != api.OK || !slices.Equal(got, want) {
		t.Errorf("Parse(%.80q) = %v, %v, not %v", line, got, e, want)
	}
}

func wantError(t *testing.T, want api.Errno, lines ...string) {
	t.Helper()
	for _, line := range lines {
		if got, e := order.Parse(line); e != want || len(got) != 0 {
			t.Errorf("Parse(%.80q) = %v, %v, not none, %v", line, got, e, want)
		}
	}
}

func TestDefault(t *testing.T) {
	want := []api.Source{files, dns, llmnr}
	got := order.Default()
	if !slices.Equal(got, want) {
		t.Fatalf("Default() = %v, not %v", got, want)
	}
	// an answer is new memory
	for i := range got {
		got[i] = api.Source{}
	}
	if again := order.Default(); !slices.Equal(again, want) {
		t.Errorf("Default() = %v the next time", again)
	}
	got, _ = order.Parse("")
	clear(got)
	wantSources(t, "", want...)
}

func TestLinesWithoutWords(t *testing.T) {
	for _, line := range []string{"", " ", "\t", " \t \t", "#", "# x", " # dns", "\t#[", "##", "#files dns"} {
		wantSources(t, line, files, dns, llmnr)
	}
}

func TestSources(t *testing.T) {
	wantSources(t, "files", files)
	wantSources(t, "dns", dns)
	wantSources(t, "llmnr", llmnr)
	// in the line's order, each as often as it stands there
	wantSources(t, "files dns llmnr", files, dns, llmnr)
	wantSources(t, "llmnr dns files", llmnr, dns, files)
	wantSources(t, "dns files", dns, files)
	wantSources(t, "dns dns", dns, dns)
	wantSources(t, "files dns files dns", files, dns, files, dns)
	// words as in layer 6
	wantSources(t, " \tfiles \t dns\t", files, dns)
	wantSources(t, "files\tdns#llmnr", files, dns)
	wantSources(t, "files # dns", files)
	wantSources(t, "dns#", dns)
	wantSources(t, "dns # nis [", dns)
}

func TestActions(t *testing.T) {
	for _, c := range []struct {
		actions string
		want    []int
	}{
		{"SUCCESS=return", []int{1}},
		{"NOTFOUND=return", []int{1, 2}},
		{"UNAVAIL=return", []int{1, 3}},
		{"TRYAGAIN=return", []int{1, 4}},
		{"SUCCESS=continue", nil},
		{"NOTFOUND=continue", []int{1}},
		{"UNAVAIL=continue", []int{1}},
		{"TRYAGAIN=continue", []int{1}},
		// all other outcomes
		{"!SUCCESS=return", []int{1, 2, 3, 4}},
		{"!NOTFOUND=return", []int{1, 3, 4}},
		{"!UNAVAIL=return", []int{1, 2, 4}},
		{"!TRYAGAIN=return", []int{1, 2, 3}},
		{"!SUCCESS=continue", []int{1}},
		{"!NOTFOUND=continue", nil},
		{"!UNAVAIL=continue", nil},
		{"!TRYAGAIN=continue", nil},
		// several, of outcomes that differ
		{"NOTFOUND=return UNAVAIL=return", []int{1, 2, 3}},
		{"TRYAGAIN=return NOTFOUND=return", []int{1, 2, 4}},
		{"SUCCESS=continue TRYAGAIN=return", []int{4}},
		{"NOTFOUND=return UNAVAIL=return TRYAGAIN=return SUCCESS=return", []int{1, 2, 3, 4}},
		// later ones stand above earlier ones
		{"NOTFOUND=return NOTFOUND=continue", []int{1}},
		{"NOTFOUND=continue NOTFOUND=return", []int{1, 2}},
		{"SUCCESS=continue SUCCESS=return", []int{1}},
		{"SUCCESS=return SUCCESS=continue SUCCESS=return SUCCESS=continue", nil},
		{"!SUCCESS=return UNAVAIL=continue", []int{1, 2, 4}},
		{"UNAVAIL=continue !SUCCESS=return", []int{1, 2, 3, 4}},
		{"UNAVAIL=return !UNAVAIL=continue", []int{3}},
		{"!UNAVAIL=continue UNAVAIL=return", []int{3}},
		{"!UNAVAIL=continue !TRYAGAIN=return", []int{1, 2, 3}},
		{"!NOTFOUND=return NOTFOUND=return !NOTFOUND=continue", []int{2}},
		{"!SUCCESS=return !SUCCESS=continue", []int{1}},
		// the same one twice, and none
		{"NOTFOUND=return NOTFOUND=return", []int{1, 2}},
		{"", []int{1}},
	} {
		want := src(api.DNS, c.want...)
		wantSources(t, "dns ["+c.actions+"]", want)
		// The actions are those of the source ahead of them alone.
		wantSources(t, "files dns ["+c.actions+"] dns llmnr", files, want, dns, llmnr)
	}
}

func TestActionsOfSeveralSources(t *testing.T) {
	wantSources(t, "files [NOTFOUND=return] dns [!SUCCESS=return] llmnr [SUCCESS=continue]",
		src(api.Files, 1, 2), src(api.DNS, 1, 2, 3, 4), src(api.LLMNR))
	wantSources(t, "dns [UNAVAIL=return] dns dns [TRYAGAIN=return] files [SUCCESS=return]",
		src(api.DNS, 1, 3), dns, src(api.DNS, 1, 4), files)
	wantSources(t, "files dns [NOTFOUND=return]", files, src(api.DNS, 1, 2))
}

// [ and ] are words of their own, whatever stands beside them.
func TestBrackets(t *testing.T) {
	want := []api.Source{src(api.Files, 1, 2), src(api.DNS, 1, 2, 3)}
	for _, line := range []string{
		"files [NOTFOUND=return] dns [NOTFOUND=return UNAVAIL=return]",
		"files[NOTFOUND=return]dns[NOTFOUND=return UNAVAIL=return]",
		"files [ NOTFOUND=return ] dns [ NOTFOUND=return UNAVAIL=return ]",
		"files[ NOTFOUND=return]dns [NOTFOUND=return UNAVAIL=return ]",
		"\tfiles\t[\tNOTFOUND=return\t]\tdns\t[NOTFOUND=return\tUNAVAIL=return]\t",
		"files  [  NOTFOUND=return  ]  dns  [  NOTFOUND=return  UNAVAIL=return  ]  # dns",
		"files[NOTFOUND=return]dns[NOTFOUND=return UNAVAIL=return]#]",
	} {
		wantSources(t, line, want...)
	}
}

func TestWrongLines(t *testing.T) {
	// no sources
	wantError(t, api.ErrLine, "nis", "Files", "DNS", "dns,", "dns.", "file", "filesdns", "files,dns", "files;dns", "files:", "hosts: files dns",
		"files nis", "nis files", "files nis dns", "1", "2", "=", "!", "!dns", "dns=return", "SUCCESS", "SUCCESS=return", "files SUCCESS=return", "SUCCESS=return files")
	// brackets that don't stand in pairs behind a source
	wantError(t, api.ErrLine, "[", "]", "[]", "[ ]", "][", "[SUCCESS=return]", "[SUCCESS=return] dns", "[dns]", "[files dns]",
		"dns [", "dns ]", "dns ] [", "dns [SUCCESS=return", "dns SUCCESS=return]", "dns [[SUCCESS=return]", "dns [[SUCCESS=return]]", "dns [SUCCESS=return]]",
		"dns [[]", "dns [[]]", "dns []]", "dns [SUCCESS=return] ]", "dns [SUCCESS=return [NOTFOUND=return]]", "dns [NOTFOUND=return [SUCCESS=return]",
		"dns [SUCCESS=return files", "dns [SUCCESS=return files [NOTFOUND=return]", "dns [SUCCESS=return # ]", "dns [#]", "dns (SUCCESS=return)", "dns {SUCCESS=return}")
	// a second pair is not behind a source
	wantError(t, api.ErrLine, "dns [SUCCESS=return] [NOTFOUND=return]", "dns [SUCCESS=return][NOTFOUND=return]")
	// words that are no actions, between [ and ]
	for _, word := range []string{
		"SUCCESS", "SUCCESS=", "=return", "=", "return", "!", "!=return", "!return", "SUCCESS=Return", "SUCCESS=RETURN", "SUCCESS=stop", "SUCCESS=merge",
		"SUCCESS=returns", "SUCCESS=retur", "SUCCESS=return=return", "SUCCESS==return", "SUCCESS=!return", "SUCCESS!=return", "!!SUCCESS=return", "! SUCCESS=return",
		"SUCCESS =return", "SUCCESS= return", "SUCCESS = return", "success=return", "Success=return", "SUCCES=return", "SUCCESSS=return",
		"NODATA=return", "NOT_FOUND=return", "NotFound=continue", "unavail=continue", "TRY_AGAIN=return", "ALL=return", "*=return", "1=return", "0=return", "5=return",
		"SUCCESS:return", "SUCCESS=return,NOTFOUND=return", "SUCCESS=return;", "dns", "files", "SUCCESS=dns", "\x00", "\xff", "SUCCESS=return\r", "SUCCESS=continue\x00", "ÜSUCCESS=return",
	} {
		wantError(t, api.ErrLine, "dns ["+word+"]", "dns ["+word+" SUCCESS=return]", "dns [SUCCESS=return "+word+"]", "files dns [UNAVAIL=return "+word+" UNAVAIL=return] llmnr")
	}
	// other white space is a part of words
	wantError(t, api.ErrLine, "dns\n", "dns\r", "files\ndns", "\n", "dns\n#", "files\vdns", "files\u00a0dns", "\u00a0", "\ufeffdns", "dns\x00", "\xff", "dns [SUCCESS=return\nNOTFOUND=return]")
}

func TestManySources(t *testing.T) {
	most := []api.Source{files, dns, llmnr, dns}
	wantSources(t, "files dns llmnr dns", most...)
	wantSources(t, "files[] dns [SUCCESS=return] llmnr [NOTFOUND=return NOTFOUND=continue] dns []", most...)
	wantSources(t, "files dns llmnr dns # files dns llmnr", most...)
	wantError(t, api.ErrLong, "dns dns dns dns dns", "files dns llmnr files dns", "files dns llmnr files dns llmnr",
		"files [NOTFOUND=return] dns [] llmnr dns files[SUCCESS=return]", strings.Repeat("dns ", 1000))
	// ErrLong is named ahead of ErrLine: so many sources in a line that has another error too
	wantError(t, api.ErrLong, "dns dns dns dns dns nis", "nis dns dns dns dns dns", "dns dns nis dns dns dns", "dns dns dns dns dns [",
		"dns dns dns dns dns ]", "] dns dns dns dns dns", "[] dns dns dns dns dns", "dns [nis] dns dns dns dns", "dns dns [] [] dns dns dns", "dns dns dns dns dns [SUCCESS]")
	// as many as may be, and another error
	wantError(t, api.ErrLine, "dns dns dns dns nis", "dns dns dns dns [", "dns dns dns dns ]", "nis dns dns dns dns", "dns dns dns dns [nis]", "nis nis nis nis nis")
	// words between [ and ] are no sources
	wantError(t, api.ErrLine, "dns [dns dns dns dns dns]", "dns [dns] dns [dns] dns [dns]")
}

func TestLongLines(t *testing.T) {
	const many = 1 << 18
	for _, s := range []string{"[", "]", "[]", "[ ", "a", "a ", "=", "!", "\xff", "dns", "SUCCESS=return ", "[SUCCESS=return]"} {
		wantError(t, api.ErrLine, strings.Repeat(s, many), "dns "+strings.Repeat(s, many)+"x", "dns ["+strings.Repeat(s, many)+"x")
	}
	wantError(t, api.ErrLong, strings.Repeat("dns ", many), strings.Repeat("dns[]", many))
	wantSources(t, strings.Repeat(" ", many)+"dns"+strings.Repeat("\t", many), dns)
	wantSources(t, strings.Repeat(" \t", many), files, dns, llmnr)
	wantSources(t, strings.Repeat("#", many), files, dns, llmnr)
	wantSources(t, "files dns ["+strings.Repeat("!SUCCESS=return SUCCESS=continue ", many)+"NOTFOUND=continue]", files, src(api.DNS, 3, 4))
}

// A wrong line leaves nothing behind, and no two answers share memory.
func TestAnswersAreTheirOwn(t *testing.T) {
	const line = "files [NOTFOUND=return] dns"
	want := []api.Source{src(api.Files, 1, 2), dns}
	got, _ := order.Parse(line)
	_ = append(got, llmnr)
	got[0], got[1] = api.Source{}, api.Source{}
	wantSources(t, line, want...)
	wantError(t, api.ErrLine, "llmnr [!SUCCESS=return] nis")
	wantSources(t, line, want...)
	wantSources(t, "", files, dns, llmnr)
}

func TestPrint(t *testing.T) {
	for _, c := range []struct {
		want    string
		sources []api.Source
	}{
		{"files", []api.Source{files}},
		{"dns", []api.Source{dns}},
		{"llmnr", []api.Source{llmnr}},
		{"files dns llmnr", order.Default()},
		{"llmnr files dns files", []api.Source{llmnr, files, dns, files}},
		{"", nil},
		// just the actions that are otherwise than without them
		{"dns [SUCCESS=continue]", []api.Source{src(api.DNS)}},
		{"dns [NOTFOUND=return]", []api.Source{src(api.DNS, 1, 2)}},
		{"dns [UNAVAIL=return]", []api.Source{src(api.DNS, 1, 3)}},
		{"dns [TRYAGAIN=return]", []api.Source{src(api.DNS, 1, 4)}},
		// in the outcomes' order
		{"files [SUCCESS=continue NOTFOUND=return UNAVAIL=return TRYAGAIN=return]", []api.Source{src(api.Files, 4, 3, 2)}},
		{"llmnr [NOTFOUND=return TRYAGAIN=return]", []api.Source{src(api.LLMNR, 4, 1, 2)}},
		{"dns [SUCCESS=continue UNAVAIL=return]", []api.Source{src(api.DNS, 3)}},
		// behind each source its own
		{"files [NOTFOUND=return] dns llmnr [SUCCESS=continue]", []api.Source{src(api.Files, 1, 2), dns, src(api.LLMNR)}},
		{"files dns [UNAVAIL=return TRYAGAIN=return] dns [UNAVAIL=return]", []api.Source{files, src(api.DNS, 1, 3, 4), src(api.DNS, 1, 3)}},
	} {
		kept := slices.Clone(c.sources)
		if got := order.Print(c.sources...); got != c.want {
			t.Errorf("Print(%v) = %q, not %q", c.sources, got, c.want)
		}
		if !slices.Equal(c.sources, kept) {
			t.Errorf("Print changed %v to %v", kept, c.sources)
		}
	}
}

func TestPrintOfParsedLines(t *testing.T) {
	for _, c := range []struct{ line, want string }{
		{"", "files dns llmnr"},
		{"\tfiles  dns # llmnr", "files dns"},
		{"files[ NOTFOUND=return ]dns", "files [NOTFOUND=return] dns"},
		{"dns [TRYAGAIN=return NOTFOUND=return]", "dns [NOTFOUND=return TRYAGAIN=return]"},
		{"dns [SUCCESS=return NOTFOUND=continue]", "dns"},
		{"dns []", "dns"},
		{"dns [!SUCCESS=return]", "dns [NOTFOUND=return UNAVAIL=return TRYAGAIN=return]"},
		{"dns [!UNAVAIL=continue]", "dns [SUCCESS=continue]"},
		{"dns [NOTFOUND=return NOTFOUND=continue UNAVAIL=return]", "dns [UNAVAIL=return]"},
	} {
		l, e := order.Parse(c.line)
		if got := order.Print(l...); e != api.OK || got != c.want {
			t.Errorf("Print of Parse(%q) = %q, %v, not %q", c.line, got, e, c.want)
		}
		wantSources(t, c.want, l...)
	}
}

// Sources that no line tells may be handed in: nothing panics.
func TestSourcesMadeByHand(t *testing.T) {
	for _, kind := range []int{0, -1, 4, 5, 1 << 40, -1 << 40} {
		order.Print(src(kind), src(kind, 1, 2, 3, 4), dns)
	}
	order.Print(slices.Repeat([]api.Source{dns}, 1<<16)...)
	// what stands for no outcome is no action
	if got := order.Print(src(api.DNS, 0, 1)); got != "dns" {
		t.Errorf("Print with one more that returns = %q", got)
	}
}
