package msg_test

import (
	"strings"
	"testing"

	"nomenclator/api"
	"nomenclator/msg"
)

var (
	v4   = api.Addr{10: 255, 11: 255, 12: 9, 13: 8, 14: 7, 15: 6}
	v6   = api.Addr{0: 0x20, 1: 1, 15: 1}
	none api.Addr
)

// One that may be, of each kind of type.
var right = []api.Record{
	{Name: "a", Type: api.A, TTL: 5, Addr: v4},
	{Name: "a.b", Type: api.AAAA, TTL: 5, Addr: v6},
	{Name: "a.b", Type: api.NS, TTL: 5, Text: "c.d"},
	{Name: "a.b", Type: api.CNAME, TTL: 5, Text: "c.d"},
	{Name: "a.b", Type: api.PTR, TTL: 5, Text: "c.d"},
	{Name: "a.b", Type: api.SOA, TTL: 5, Data: "so"},
	{Name: "a.b", Type: api.MX, TTL: 5, Data: "\x00\xff"},
	{Name: "a.b", Type: api.TXT, TTL: 5, Data: "tx"},
	{Name: "_x._y.b", Type: api.SRV, TTL: 5, Data: "sr"},
	{Name: "a.b", Type: 41, TTL: 5, Data: "op"},
}

// Names, and whether they go out as they are.
var names = []struct {
	name string
	want bool
}{
	{"a", true},
	{"a.b-c._d.0", true},
	{"xn--bcher-kva.de", true},
	{"xn--a", true}, // no Punycode of anything, but a label
	{strings.Repeat("x", 63), true},
	{sized("x", 253), true},
	{strings.Repeat("a.", 126) + "a", true},
	{"", false},
	{".", false},
	{"a.", false},
	{".a", false},
	{"a..b", false},
	{"A", false},
	{"a.bZ", false},
	{"-a", false},
	{"a-.b", false},
	{"a b", false},
	{"ü", false},
	{"a\x00", false},
	{"a\xff", false},
	{strings.Repeat("x", 64), false},
	{sized("x", 254), false},
	{strings.Repeat("a.", 127) + "a", false},
	{strings.Repeat("a.", 1<<16) + "a", false},
}

func wantRight(t *testing.T, r api.Record, want bool) {
	t.Helper()
	if got := msg.Right(r); got != want {
		t.Errorf("Right(%.300v) = %v", r, got)
	}
	// a message may be just if its records may
	if got := msg.All(ask(nil, []api.Record{right[0], r})); got != want {
		t.Errorf("All of a message with the authority %.300v = %v", r, got)
	}
	if got := msg.All(ask([]api.Record{right[0], r}, nil)); got != want {
		t.Errorf("All of a message with the answer %.300v = %v", r, got)
	}
}

func TestNamesOfTheLengthsMeant(t *testing.T) {
	for n := 1; n < 300; n++ {
		s := sized("mark", n)
		if len(s) != n || strings.HasSuffix(s, ".") || strings.Contains(s, "..") {
			t.Fatalf("sized to %d: %d signs, %q", n, len(s), s)
		}
	}
}

func TestRight(t *testing.T) {
	for _, r := range right {
		wantRight(t, r, true)
		for _, x := range names {
			r.Name = x.name
			wantRight(t, r, x.want)
		}
	}
	wantRight(t, api.Record{}, false)
}

func TestRightByTTL(t *testing.T) {
	for _, r := range right {
		for _, x := range []struct {
			ttl  int
			want bool
		}{{0, true}, {1, true}, {1 << 20, true}, {-1, false}, {1<<20 + 1, false}, {1 << 31, false}, {-1 << 63, false}, {1<<63 - 1, false}} {
			r.TTL = x.ttl
			wantRight(t, r, x.want)
		}
	}
}

func TestRightByType(t *testing.T) {
	for _, x := range []struct {
		kind int
		want bool
	}{{3, true}, {65535, true}, {65534, true}, {0, false}, {-1, false}, {65536, false}, {65537, false}, {1<<16 + api.TXT, false}, {-1 << 63, false}, {1<<63 - 1, false}} {
		wantRight(t, api.Record{Name: "a", Type: x.kind, Data: "x"}, x.want)
		wantRight(t, api.Record{Name: "a", Type: x.kind}, x.want)
	}
}

// What a record has besides its name, type and TTL: which types may have it.
func TestRightByWhatItHas(t *testing.T) {
	for kind := 1; kind < 300; kind++ {
		var isA, isAAAA, isNamed = kind == 1, kind == 28, kind == 2 || kind == 5 || kind == 12
		other := !isA && !isAAAA && !isNamed
		for _, x := range []struct {
			addr       api.Addr
			text, data string
			want       bool
		}{
			{none, "", "", isAAAA || other},
			{v4, "", "", isA || isAAAA},
			{v6, "", "", isAAAA},
			{none, "b.c", "", isNamed},
			{none, "", "x", other},
			{v4, "b.c", "", false},
			{v4, "", "x", false},
			{v6, "b.c", "", false},
			{v6, "", "x", false},
			{none, "b.c", "x", false},
		} {
			wantRight(t, api.Record{Name: "a", Type: kind, Addr: x.addr, Text: x.text, Data: x.data}, x.want)
		}
	}
}

func TestRightByAddr(t *testing.T) {
	for i := range 16 {
		for _, c := range []byte{0, 1, 254, 255} {
			a := v4
			a[i] = c
			wantRight(t, api.Record{Name: "a", Type: api.A, Addr: a}, a[10] == 255 && a[11] == 255 && a[min(i, 9)] == 0)
			wantRight(t, api.Record{Name: "a", Type: api.AAAA, Addr: a}, true)
		}
	}
	wantRight(t, api.Record{Name: "a", Type: api.A, Addr: api.Addr{10: 255, 11: 255}}, true)
	wantRight(t, api.Record{Name: "a", Type: api.A, Addr: api.Addr{12: 9, 13: 8, 14: 7, 15: 6}}, false)
}

func TestRightByText(t *testing.T) {
	for _, kind := range []int{api.NS, api.CNAME, api.PTR} {
		for _, x := range names {
			wantRight(t, api.Record{Name: "a", Type: kind, Text: x.name}, x.want)
		}
	}
}

func TestRightByData(t *testing.T) {
	for _, kind := range []int{api.SOA, api.MX, api.TXT, api.SRV, 3, 4, 255, 65535} {
		for n, want := range map[int]bool{0: true, 1: true, 254: true, 255: true, 256: false, 257: false, 1 << 16: false} {
			wantRight(t, api.Record{Name: "a", Type: kind, Data: strings.Repeat("\xff", n)}, want)
		}
	}
}

func wantAll(t *testing.T, what string, m api.Message, want bool) {
	t.Helper()
	if got := msg.All(m); got != want {
		t.Errorf("%s: All = %v", what, got)
	}
}

func TestAll(t *testing.T) {
	wantAll(t, "nothing", api.Message{}, false)
	wantAll(t, "a question", ask(nil, nil), true)
	wantAll(t, "with records", ask(right, right), true)
	m := ask(right, right)
	m.Reply, m.Truncated, m.Recurse = false, true, true
	wantAll(t, "other bits", m, true)
	for _, x := range names {
		m.Question.Name = x.name
		wantAll(t, "a question for "+x.name, m, x.want)
	}
}

func TestAllByNumbers(t *testing.T) {
	far := []int{-1 << 63, 1<<63 - 1, 1 << 32, -1 << 32}
	for _, n := range append(far, -1, 0, 1, 15, 16, 17, 32, 65534, 65535, 65536, 65537) {
		m := ask(nil, nil)
		m.ID = n
		wantAll(t, "ID", m, n >= 0 && n <= 65535)
		m = ask(nil, nil)
		m.Code = n
		wantAll(t, "Code", m, n >= 0 && n <= 15)
		m = ask(nil, nil)
		m.Question.Type = n
		wantAll(t, "Type", m, n >= 1 && n <= 65535)
	}
}

// so many records that may be, and not the same ones.
func many(n int) []api.Record {
	var l []api.Record
	for i := range n {
		r := right[i%len(right)]
		r.TTL = i
		l = append(l, r)
	}
	return l
}

func TestAllByCounts(t *testing.T) {
	for _, n := range []int{0, 1, 31, 32, 33, 34, 64, 1 << 16} {
		for _, k := range []int{0, 1, 32, 33} {
			want := n <= 32 && k <= 32
			wantAll(t, "answers, authorities", ask(many(n), many(k)), want)
			wantAll(t, "authorities, answers", ask(many(k), many(n)), want)
		}
	}
}

func TestAllByEachRecord(t *testing.T) {
	for i := range 32 {
		answer, authority := many(32), many(32)
		answer[i].TTL = -1
		wantAll(t, "a wrong answer", ask(answer, authority), false)
		answer[i].TTL, authority[i].Name = 0, "A"
		wantAll(t, "a wrong authority", ask(answer, authority), false)
		authority[i].Name = "a"
		wantAll(t, "none wrong", ask(answer, authority), true)
	}
}
