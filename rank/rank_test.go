package rank_test

import (
	"slices"
	"strings"
	"testing"

	"nomenclator/addr"
	"nomenclator/api"
	"nomenclator/rank"
)

// at: the address of a text.
func at(text string) api.Addr {
	a, err := addr.Parse(text)
	if err != api.OK {
		panic(text)
	}
	return a
}

// locals: of texts, each an address, and behind it deprecated, home.
func locals(texts ...string) []api.Local {
	var l []api.Local
	for _, s := range texts {
		words := strings.Fields(s)
		l = append(l, api.Local{
			Addr:       at(words[0]),
			Deprecated: slices.Contains(words, "deprecated"),
			Home:       slices.Contains(words, "home"),
		})
	}
	return l
}

// records: of addresses, each with its place as its TTL.
func records(texts ...string) []api.Record {
	var l []api.Record
	for i, s := range texts {
		l = append(l, api.Record{Name: "a", Type: api.AAAA, TTL: i, Addr: at(s)})
	}
	return l
}

// places: where sorted records stood.
func places(l []api.Record) []int {
	n := make([]int, len(l))
	for i, r := range l {
		n[i] = r.TTL
	}
	return n
}

func TestPolicy(t *testing.T) {
	for _, c := range []struct {
		addr              string
		precedence, label int
	}{
		// ::1, and what is beside it; 96 zeros
		{"::1", 50, 0},
		{"::", 1, 3},
		{"::2", 1, 3},
		{"::3", 1, 3},
		{"::8000:1", 1, 3},
		{"::102:304", 1, 3},
		{"::ffff:ffff", 1, 3},
		{"::1:0:0", 40, 1},
		{"::1:0:1", 40, 1},
		{"::8000:0:0:0", 40, 1},
		{"8000::", 40, 1},
		{"8000::1", 40, 1},
		// IPv4's 96 bits
		{"0.0.0.0", 35, 4},
		{"0.0.0.1", 35, 4},
		{"127.0.0.1", 35, 4},
		{"192.0.2.1", 35, 4},
		{"255.255.255.255", 35, 4},
		{"::fffe:102:304", 40, 1},
		{"::1:ffff:102:304", 40, 1},
		{"8000::ffff:102:304", 40, 1},
		// 2002 of 16
		{"2002::", 30, 2},
		{"2002:ffff:ffff:ffff:ffff:ffff:ffff:ffff", 30, 2},
		{"2003::", 40, 1},
		{"2001:ffff:ffff:ffff:ffff:ffff:ffff:ffff", 40, 1},
		// 2001:0 of 32
		{"2001::", 5, 5},
		{"2001::1", 5, 5},
		{"2001:0:ffff:ffff:ffff:ffff:ffff:ffff", 5, 5},
		{"2001:1::", 40, 1},
		{"2001:8000::", 40, 1},
		{"2001:db8::1", 40, 1},
		{"2000:ffff:ffff:ffff:ffff:ffff:ffff:ffff", 40, 1},
		// FC of 7
		{"fc00::", 3, 13},
		{"fdff:ffff:ffff:ffff:ffff:ffff:ffff:ffff", 3, 13},
		{"fbff:ffff:ffff:ffff:ffff:ffff:ffff:ffff", 40, 1},
		{"fe00::", 40, 1},
		// FEC0 of 10
		{"fec0::", 1, 11},
		{"feff:ffff:ffff:ffff:ffff:ffff:ffff:ffff", 1, 11},
		{"febf:ffff:ffff:ffff:ffff:ffff:ffff:ffff", 40, 1},
		{"ff00::", 40, 1},
		// 3FFE of 16
		{"3ffe::", 1, 12},
		{"3ffe:ffff:ffff:ffff:ffff:ffff:ffff:ffff", 1, 12},
		{"3ffd:ffff:ffff:ffff:ffff:ffff:ffff:ffff", 40, 1},
		{"3fff::", 40, 1},
		// none of these
		{"fe80::1", 40, 1},
		{"ff02::1", 40, 1},
		{"2a00:1450::1", 40, 1},
		{"ffff:ffff:ffff:ffff:ffff:ffff:ffff:ffff", 40, 1},
	} {
		p, l := rank.Policy(at(c.addr))
		if p != c.precedence || l != c.label {
			t.Errorf("Policy(%s) = %d, %d, not %d, %d", c.addr, p, l, c.precedence, c.label)
		}
	}
}

func TestScope(t *testing.T) {
	for _, c := range []struct {
		addr string
		want int
	}{
		// of FF: the second byte's lower half
		{"ff00::", 0},
		{"ff01::1", 1},
		{"ff02::1", 2},
		{"ff05::2", 5},
		{"ff08::8", 8},
		{"ff0e::1", 14},
		{"ff0f::1", 15},
		{"fff0::", 0},
		{"ff12::1", 2},
		{"ff3e:ffff::", 14},
		{"ffff:ffff:ffff:ffff:ffff:ffff:ffff:ffff", 15},
		// FE80
		{"fe80::", 2},
		{"fe80::1", 2},
		{"febf:ffff:ffff:ffff:ffff:ffff:ffff:ffff", 2},
		{"fe7f:ffff:ffff:ffff:ffff:ffff:ffff:ffff", 14},
		// FEC0
		{"fec0::", 5},
		{"feff:ffff:ffff:ffff:ffff:ffff:ffff:ffff", 5},
		// ::1
		{"::1", 2},
		{"::", 14},
		{"::2", 14},
		{"::3", 14},
		{"8000::1", 14},
		// 127.x
		{"127.0.0.0", 2},
		{"127.0.0.1", 2},
		{"127.255.255.255", 2},
		{"126.255.255.255", 14},
		{"128.0.0.0", 14},
		{"::7f00:1", 14},
		{"7f00::1", 14},
		{"::fffe:7f00:1", 14},
		// 169.254.x
		{"169.254.0.0", 2},
		{"169.254.255.255", 2},
		{"169.253.255.255", 14},
		{"169.255.0.0", 14},
		{"168.254.0.1", 14},
		{"::a9fe:1", 14},
		{"a9fe::1", 14},
		{"::fffe:a9fe:1", 14},
		// all
		{"0.0.0.0", 14},
		{"10.0.0.1", 14},
		{"192.168.0.1", 14},
		{"224.0.0.1", 14},
		{"255.2.255.255", 14},
		{"2001:db8::1", 14},
		{"2001::1", 14},
		{"2002::1", 14},
		{"fc00::1", 14},
		{"fe00::1", 14},
		{"fe02::1", 14},
	} {
		if got := rank.Scope(at(c.addr)); got != c.want {
			t.Errorf("Scope(%s) = %d, not %d", c.addr, got, c.want)
		}
	}
}

// Of two local addresses, the rule that parts them; those behind it, where they can, say the contrary.
var pairs = []struct {
	rule, better, worse, to string
}{
	{"it is the address", "2001:db8::7", "2001:db8::6", "2001:db8::7"},
	{"it is the address, Deprecated", "2001:db8::7 deprecated", "2001:db8::6 home", "2001:db8::7"},
	{"it is the address, of IPv4", "10.0.0.7 deprecated", "10.0.0.6 home", "10.0.0.7"},
	{"both are the address: not Deprecated", "2001:db8::7", "2001:db8::7 deprecated home", "2001:db8::7"},
	{"both are the address: a Home", "2001:db8::7 home", "2001:db8::7", "2001:db8::7"},

	{"both scopes above: the smaller one", "fec0::1 deprecated", "2001:db8::1 home", "ff02::1"},
	{"both scopes above 0: the smaller one", "fe80::1 deprecated", "fec0::1 home", "ff00::9"},
	{"one as the address's, one above", "fe80::1 deprecated", "2001:db8::1 home", "fe80::9"},
	{"one as the address's of a site, one above", "fec0::1 deprecated", "2001:db8::1 home", "fec0::9"},
	{"one as the address's, one below", "2001:db8::1 deprecated", "fe80::1 home", "2001:db8::9"},
	{"one as the address's, one below that begins like it", "2001:db8::1 deprecated", "fec0::1 home", "ff0e::9"},
	{"one below, one above", "2001:db8::1 deprecated", "fe80::1 home", "fec0::9"},
	{"one below, one above, of 8", "2001:db8::1 deprecated", "fec0::1 home", "ff08::9"},
	{"both below: the greater one", "fec0::1 deprecated", "fe80::1 home", "2001:db8::9"},
	{"both below 15: the greater one", "2001:db8::1 deprecated", "fec0::1 home", "ff0f::9"},
	{"of many, as the address's", "ff01::1 deprecated", "fe80::1 home", "ff11::9"},
	{"of many, below", "fe80::1 deprecated", "ff01::1 home", "ff02::9"},
	{"of IPv4, one below", "10.0.0.1 deprecated", "169.254.0.1 home", "169.0.2.1"},
	{"of IPv4, one as the address's", "169.254.0.1 deprecated", "126.0.0.1 home", "127.0.0.9"},

	{"not Deprecated", "2001:db8::1", "2001:db8::7 deprecated home", "2001:db8::6"},
	{"not Deprecated, of another label", "fc00::1", "2001:db8::7 deprecated home", "2001:db8::6"},
	{"not Deprecated, of IPv4", "10.0.0.1", "192.0.2.3 deprecated home", "192.0.2.2"},

	{"a Home", "2001:db8::1 home", "2001:db8::7", "2001:db8::6"},
	{"a Home, of another label", "fc00::1 home", "2001:db8::7", "2001:db8::6"},
	{"a Home, both Deprecated", "2001:db8::1 home deprecated", "2001:db8::7 deprecated", "2001:db8::6"},
	{"a Home, of IPv4", "10.0.0.1 home", "192.0.2.3", "192.0.2.2"},

	{"its label", "a000::1", "2002::1", "2001:db8::1"},
	{"its label, both Homes", "a000::1 home", "3ffe::1 home", "3ffd::1"},
	{"its label, both Deprecated", "2001:db8::1 deprecated", "fc00::1 deprecated", "f800::1"},

	{"first bits", "2001:db8::1", "2001:db9::1", "2001:db8:ffff::1"},
	{"first bits, by one", "2001:db8::4", "2001:db8::8", "2001:db8::1"},
	{"first bits behind the 64th", "2001:db8::1:0:0:2", "2001:db8::2:0:0:1", "2001:db8::1:0:0:1"},
	{"first bits, of other labels", "2001:db8::1", "3000::1", "2002::1"},
	{"first bits, of IPv4", "10.1.0.1", "10.2.0.1", "10.1.255.255"},
	{"first bits, of IPv4 by one", "10.0.0.5", "10.0.0.1", "10.0.0.7"},
	{"first bits, both Deprecated Homes", "10.0.0.5 home deprecated", "10.0.0.1 home deprecated", "10.0.0.7"},
}

func TestSourceOfTwo(t *testing.T) {
	for _, c := range pairs {
		for _, l := range [][]api.Local{locals(c.better, c.worse), locals(c.worse, c.better)} {
			if got, ok := rank.Source(l, at(c.to)); got != locals(c.better)[0] || !ok {
				t.Errorf("%s: Source(%v, %s) = %v, %v", c.rule, l, c.to, got, ok)
			}
		}
	}
}

// Lists of local addresses, and the place of the one that is taken.
func TestSourceOfMany(t *testing.T) {
	for _, c := range []struct {
		l    []string
		to   string
		want int // below 0: none
	}{
		{nil, "2001:db8::1", -1},
		{nil, "10.0.0.1", -1},
		// none of the family
		{[]string{"10.0.0.1 home"}, "2001:db8::1", -1},
		{[]string{"2001:db8::1 home"}, "10.0.0.1", -1},
		{[]string{"::a00:1", "::fffe:a00:1", "::"}, "10.0.0.1", -1},
		{[]string{"10.0.0.1", "0.0.0.0"}, "::a00:1", -1},
		{[]string{"0.0.0.0"}, "::", -1},
		{[]string{"::"}, "0.0.0.0", -1},
		// one of the family
		{[]string{"10.0.0.1 home", "fe80::1 deprecated", "10.0.0.2 home"}, "2001:db8::1", 1},
		{[]string{"2001:db8::1 home", "2001:db8::2", "127.0.0.1 deprecated"}, "10.0.0.1", 2},
		{[]string{"::1"}, "2001:db8::1", 0},
		{[]string{"::"}, "::", 0},
		{[]string{"0.0.0.0"}, "255.255.255.255", 0},
		// like ones: the first
		{[]string{"2001:db8::4", "2001:db8::5", "2001:db8::6"}, "2001:db8::1", 0},
		{[]string{"2001:db8::6", "2001:db8::5", "2001:db8::4"}, "2001:db8::1", 0},
		{[]string{"2001:db9::6", "2001:db8::5", "2001:db8::4", "2001:db9::7"}, "2001:db8::1", 1},
		{[]string{"10.0.0.5", "10.0.0.4"}, "10.0.0.1", 0},
		{[]string{"2001:db8::1", "10.0.0.5", "2001:db8::2", "10.0.0.4"}, "10.0.0.1", 1},
		{[]string{"fe80::1", "fe80::2"}, "2001:db8::1", 0},
		// several, the best one at the beginning, within, and at the end
		{[]string{"2001:db8::1", "fec0::1", "fe80::1"}, "fe80::9", 2},
		{[]string{"2001:db8::1", "fec0::1", "fe80::1"}, "fec0::9", 1},
		{[]string{"2001:db8::1", "fec0::1", "fe80::1"}, "2001:db8::9", 0},
		{[]string{"fe80::1", "fec0::1", "2001:db8::1"}, "2001:db8::9", 2},
		{[]string{"2001:db8::1 deprecated", "2001:db8::2", "2001:db8::3 home", "2001:db8::5 home"}, "2001:db8::4", 3},
	} {
		l := locals(c.l...)
		var want api.Local
		if c.want >= 0 {
			want = l[c.want]
		}
		if got, ok := rank.Source(l, at(c.to)); got != want || ok != (c.want >= 0) {
			t.Errorf("Source(%q, %s) = %v, %v, not the one at %d", c.l, c.to, got, ok, c.want)
		}
	}
}

func TestKey(t *testing.T) {
	for _, c := range []struct {
		l    []string
		to   string
		want [8]int
	}{
		// without a source
		{nil, "2001:db8::1", [8]int{0, 0, 0, 0, 0, 40, -14, 0}},
		{nil, "::1", [8]int{0, 0, 0, 0, 0, 50, -2, 0}},
		{nil, "10.0.0.1", [8]int{0, 0, 0, 0, 0, 35, -14, 0}},
		{nil, "ff00::1", [8]int{0, 0, 0, 0, 0, 40, 0, 0}},
		{nil, "ff0f::1", [8]int{0, 0, 0, 0, 0, 40, -15, 0}},
		{[]string{"10.0.0.1 home"}, "fec0::1", [8]int{0, 0, 0, 0, 0, 1, -5, 0}},
		{[]string{"2001:db8::1 home", "fe80::1"}, "169.254.0.1", [8]int{0, 0, 0, 0, 0, 35, -2, 0}},
		// each of its numbers
		{[]string{"2001:db8::1 home"}, "2001:db8::1", [8]int{1, 1, 1, 1, 1, 40, -14, 128}},
		{[]string{"2001:db8::1"}, "2001:db8::1", [8]int{1, 1, 1, 0, 1, 40, -14, 128}},
		{[]string{"2001:db8::1 deprecated"}, "2001:db8::1", [8]int{1, 1, 0, 0, 1, 40, -14, 128}},
		{[]string{"2001:db8::1 deprecated home"}, "2001:db9::1", [8]int{1, 1, 0, 1, 1, 40, -14, 31}},
		{[]string{"fe80::1"}, "2001:db8::1", [8]int{1, 0, 1, 0, 1, 40, -14, 0}},
		{[]string{"2001:db8::1"}, "fe80::1", [8]int{1, 0, 1, 0, 1, 40, -2, 0}},
		{[]string{"2001:db8::1"}, "ff0e::1", [8]int{1, 1, 1, 0, 1, 40, -14, 0}},
		{[]string{"2001:db8::1"}, "ff00::1", [8]int{1, 0, 1, 0, 1, 40, 0, 0}},
		{[]string{"2002::1"}, "2001:db8::1", [8]int{1, 1, 1, 0, 0, 40, -14, 14}},
		{[]string{"2001:db8::1"}, "2002::1", [8]int{1, 1, 1, 0, 0, 30, -14, 14}},
		{[]string{"2001::1"}, "2001::1:1", [8]int{1, 1, 1, 0, 1, 5, -14, 111}},
		{[]string{"fd00::1"}, "fc00::1", [8]int{1, 1, 1, 0, 1, 3, -14, 7}},
		{[]string{"fec0::1"}, "fec0::2", [8]int{1, 1, 1, 0, 1, 1, -5, 126}},
		{[]string{"fe80::1"}, "::1", [8]int{1, 1, 1, 0, 0, 50, -2, 0}},
		{[]string{"::1"}, "::", [8]int{1, 0, 1, 0, 0, 1, -14, 127}},
		{[]string{"3ffe::1"}, "3ffe:8000::", [8]int{1, 1, 1, 0, 1, 1, -14, 16}},
		{[]string{"10.0.0.1"}, "10.0.0.2", [8]int{1, 1, 1, 0, 1, 35, -14, 126}},
		{[]string{"10.0.0.1 home"}, "127.0.0.1", [8]int{1, 0, 1, 1, 1, 35, -2, 97}},
		{[]string{"127.0.0.1"}, "169.254.0.1", [8]int{1, 1, 1, 0, 1, 35, -2, 96}},
		// of the best one
		{[]string{"10.0.0.1 home", "fe80::1", "2001:db8::1 deprecated", "2001:db9::1"}, "2001:db8::2", [8]int{1, 1, 1, 0, 1, 40, -14, 31}},
		{[]string{"2001:db8::1 home", "10.0.0.1", "10.0.0.2 home"}, "10.0.0.1", [8]int{1, 1, 1, 0, 1, 35, -14, 128}},
	} {
		if got := rank.Key(locals(c.l...), at(c.to)); got != c.want {
			t.Errorf("Key(%q, %s) = %v, not %v", c.l, c.to, got, c.want)
		}
	}
}

func TestSort(t *testing.T) {
	for _, c := range []struct {
		rule    string
		l       []string
		records []string
		want    []int
	}{
		{"none", []string{"2001:db8::1"}, nil, nil},
		{"one", nil, []string{"10.0.0.1"}, []int{0}},
		{"that a local one reaches", []string{"10.0.0.1"}, []string{"2001:db8::1", "10.0.0.9"}, []int{1, 0}},
		{"that a local one reaches, below all else", []string{"fe80::1 deprecated"}, []string{"10.0.0.1", "fec0::1"}, []int{1, 0}},
		{"scopes the same", []string{"fe80::1 deprecated", "10.0.0.1 home"}, []string{"10.0.0.1", "127.0.0.1", "2001:db8::1", "fe80::9"}, []int{0, 3, 1, 2}},
		{"not Deprecated", []string{"2001:db8::1 deprecated home", "10.0.0.1"}, []string{"2001:db8::2", "10.0.0.2"}, []int{1, 0}},
		{"a Home", []string{"2001:db8::1", "10.0.0.1 home"}, []string{"2001:db8::2", "10.0.0.2"}, []int{1, 0}},
		{"labels", []string{"2002::1", "10.0.0.1"}, []string{"2001:db8::1", "10.0.0.2", "2002::2"}, []int{1, 2, 0}},
		{"precedence", []string{"2001:db8::1", "10.0.0.1"}, []string{"10.0.0.2", "2001:db9::2"}, []int{1, 0}},
		{"precedence without a source", nil, []string{"3ffe::1", "fc00::1", "2001::1", "2002::1", "10.0.0.1", "2001:db8::1", "::1"}, []int{6, 5, 4, 3, 2, 1, 0}},
		{"the smaller scope", nil, []string{"2001:db8::1", "ff08::1", "fe80::1", "ff00::1", "ff0f::1"}, []int{3, 2, 1, 0, 4}},
		{"the smaller scope, ahead of bits", []string{"2001:db8::1", "fe80::1"}, []string{"2001:db8::1", "fe80::9"}, []int{1, 0}},
		{"bits", []string{"2001:db8::1"}, []string{"2a00::1", "2001:db8::3", "2001:db9::1", "2001:db8::1"}, []int{3, 1, 2, 0}},
		{"bits of IPv4", []string{"10.0.0.1"}, []string{"192.0.2.1", "10.0.0.5", "10.8.0.1", "10.0.0.3"}, []int{3, 1, 2, 0}},
		{"like ones", []string{"10.0.0.1"}, []string{"192.0.2.2", "192.0.2.1", "192.0.2.3", "10.0.0.1", "192.0.2.2"}, []int{3, 0, 1, 2, 4}},
		{"like ones without a source", nil, []string{"10.0.0.3", "10.0.0.1", "2001:db8::3", "10.0.0.2", "2001:db8::1"}, []int{2, 4, 0, 1, 3}},
	} {
		if got := places(rank.Sort(locals(c.l...), records(c.records...))); !slices.Equal(got, c.want) {
			t.Errorf("%s: Sort(%q, %q): %v, not %v", c.rule, c.l, c.records, got, c.want)
		}
	}
}

// More than a short list, of which a sorting that mixes like ones up would show.
func TestSortOfManyLikeOnes(t *testing.T) {
	for n := range 100 {
		var l []api.Record
		for i := range n {
			l = append(l, api.Record{TTL: i, Addr: addr.V4(192, 0, byte(i), byte(3*i))})
			if i%3 == 1 {
				l[i].Addr = at("2001:db8::1")
			}
		}
		got := places(rank.Sort(locals("10.0.0.1"), l))
		var want []int
		for _, kind := range [][]int{{0, 2}, {1}} {
			for i := range n {
				if slices.Contains(kind, i%3) {
					want = append(want, i)
				}
			}
		}
		if !slices.Equal(got, want) {
			t.Fatalf("Sort of %d: %v, not %v", n, got, want)
		}
	}
}

// All of a record stays; what has no address is sorted by the zeros that it has.
func TestSortKeepsRecordsWhole(t *testing.T) {
	text := api.Record{Name: "c", Type: api.CNAME, TTL: -7, Text: "d"}
	other := api.Record{Name: "m", Type: api.MX, TTL: 1 << 40, Data: "\x00\x01m\x00"}
	six := api.Record{Name: "b", Type: api.AAAA, TTL: 9, Addr: at("2001:db8::1"), Text: "t", Data: "u"}
	four := api.Record{Name: "a", Type: api.A, TTL: 5, Addr: at("10.0.0.1")}
	got := rank.Sort(nil, []api.Record{text, four, other, six})
	if want := []api.Record{six, four, text, other}; !slices.Equal(got, want) {
		t.Errorf("%v, not %v", got, want)
	}
	got = rank.Sort(locals("fe80::1"), []api.Record{four, text, other})
	if want := []api.Record{text, other, four}; !slices.Equal(got, want) {
		t.Errorf("%v, not %v", got, want)
	}
}

func TestSortHandsOutNewMemory(t *testing.T) {
	l := locals("10.0.0.1", "2001:db8::1 home")
	for _, texts := range [][]string{{"10.0.0.1"}, {"10.0.0.1", "2001:db8::1"}, {"2001:db8::1", "10.0.0.1"}} {
		in := records(texts...)
		out := rank.Sort(l, in)
		for i := range out {
			out[i].Name = "changed"
		}
		if !slices.Equal(in, records(texts...)) {
			t.Errorf("%q: what is handed in is changed: %v", texts, in)
		}
		again := rank.Sort(l, in)
		for i := range in {
			in[i].Name = "changed"
		}
		for _, r := range again {
			if r.Name != "a" {
				t.Errorf("%q: what is handed in is kept: %v", texts, again)
			}
		}
		// What is handed in may have room behind it: that isn't written either.
		long := records(append(texts, "::")...)
		rank.Sort(l, long[:len(texts)])
		if !slices.Equal(long, records(append(texts, "::")...)) {
			t.Errorf("%q: what stands behind is changed: %v", texts, long)
		}
	}
	if !slices.Equal(l, locals("10.0.0.1", "2001:db8::1 home")) {
		t.Errorf("the local ones are changed: %v", l)
	}
}
