package chase_test

import (
	"reflect"
	"slices"
	"strings"
	"testing"

	"nomenclator/addr"
	"nomenclator/api"
	"nomenclator/chase"
	"nomenclator/msg"
)

// host: an A record of a name.
func host(name string, ttl int, last byte) api.Record {
	return api.Record{Name: name, Type: api.A, TTL: ttl, Addr: addr.V4(192, 0, 2, last)}
}

// six: an AAAA record of a name.
func six(name string, ttl int) api.Record {
	return api.Record{Name: name, Type: api.AAAA, TTL: ttl, Addr: api.Addr{0: 32, 15: 1}}
}

// alias: a CNAME record.
func alias(name string, ttl int, to string) api.Record {
	return api.Record{Name: name, Type: api.CNAME, TTL: ttl, Text: to}
}

// text: a TXT record.
func text(name string, ttl int, data string) api.Record {
	return api.Record{Name: name, Type: api.TXT, TTL: ttl, Data: data}
}

// zone: an SOA record.
func zone(name string, ttl int) api.Record {
	return api.Record{Name: name, Type: api.SOA, TTL: ttl, Data: "x"}
}

// server: an NS record.
func server(name string, ttl int) api.Record {
	return api.Record{Name: name, Type: api.NS, TTL: ttl, Text: "ns"}
}

func list(l ...api.Record) []api.Record { return l }

// way: so many CNAMEs, from a name of one sign on, each to that of the next sign; the first one counts 100, each one behind it one more.
func way(from byte, n int) []api.Record {
	var l []api.Record
	for i := range n {
		l = append(l, alias(string(rune(int(from)+i)), 100+i, string(rune(int(from)+i+1))))
	}
	return l
}

// asked: the message that answers a question for a's A records.
func asked(answer ...api.Record) api.Message {
	return api.Message{ID: 7, Reply: true, Question: api.Question{Name: "a", Type: api.A}, Answer: answer}
}

// coded: the same, of a Code.
func coded(code int, answer ...api.Record) api.Message {
	m := asked(answer...)
	m.Code = code
	return m
}

// of: Of, of a message that may be, which it doesn't change.
func of(t *testing.T, m api.Message) chase.Finding {
	t.Helper()
	if !msg.All(m) {
		t.Fatalf("a message of the tests may not be: %+v", m)
	}
	answer, authority := slices.Clone(m.Answer), slices.Clone(m.Authority)
	f := chase.Of(m)
	if !slices.Equal(m.Answer, answer) || !slices.Equal(m.Authority, authority) {
		t.Fatalf("Of changed %+v", m)
	}
	return f
}

// same: are two findings alike? Lists without anything are.
func same(a, b chase.Finding) bool {
	return a.Outcome == b.Outcome && a.Next == b.Next && a.TTL == b.TTL && slices.Equal(a.Records, b.Records)
}

func check(t *testing.T, what string, m api.Message, want chase.Finding) {
	t.Helper()
	if got := of(t, m); !same(got, want) {
		t.Errorf("%s: Of(%+v) = %+v, not %+v", what, m, got, want)
	}
}

// found: a finding of Success.
func found(ttl int, l ...api.Record) chase.Finding {
	return chase.Finding{Outcome: api.Success, Records: l, TTL: ttl}
}

// next: a finding that goes on with another name.
func next(name string, ttl int) chase.Finding { return chase.Finding{Next: name, TTL: ttl} }

func TestRecordsOfTheQuestion(t *testing.T) {
	one, two, three := host("a", 9, 1), host("a", 5, 2), host("a", 7, 3)
	for _, c := range []struct {
		what   string
		answer []api.Record
		want   chase.Finding
	}{
		{"one", list(one), found(9, one)},
		{"all of them in order", list(one, two, three), found(5, one, two, three)},
		{"in the message's order, not in one of their own", list(three, one, two), found(5, three, one, two)},
		{"the least TTL ahead", list(two, one), found(5, two, one)},
		{"the least TTL behind", list(one, two), found(5, one, two)},
		{"twice the same one", list(one, one), found(9, one, one)},
		{"others between", list(six("a", 1), one, host("b", 2, 1), two, zone("a", 3)), found(5, one, two)},
		{"a TTL of 0", list(one, host("a", 0, 4)), found(0, one, host("a", 0, 4))},
		{"the greatest TTL", list(host("a", api.MaxTTL, 1)), found(api.MaxTTL, host("a", api.MaxTTL, 1))},
		{"a CNAME of the same name counts nothing", list(alias("a", 1, "b"), one), found(9, one)},
		{"nor what that leads to", list(alias("a", 1, "b"), host("b", 2, 7), one), found(9, one)},
		{"a name that it is under", list(host("a.a", 1, 1), one), found(9, one)},
	} {
		check(t, c.what, asked(c.answer...), c.want)
	}
}

// The type is that of the question, whichever it is.
func TestTypes(t *testing.T) {
	l := list(host("a", 9, 1), six("a", 8), text("a", 7, "x"), alias("a", 6, "b"), zone("a", 5), server("a", 4), api.Record{Name: "a", Type: 65535, TTL: 3})
	for _, r := range l {
		m := asked(l...)
		m.Question.Type = r.Type
		check(t, "each type", m, found(r.TTL, r))
	}
	m := asked(l...)
	m.Question.Type = api.PTR
	check(t, "a type that isn't there", m, next("b", 6))
	// A question for CNAMEs is answered by them; it goes on with none.
	m = asked(alias("b", 1, "c"), alias("a", 4, "b"), alias("a", 2, "c"))
	m.Question.Type = api.CNAME
	check(t, "a question for CNAMEs", m, found(2, alias("a", 4, "b"), alias("a", 2, "c")))
	m.Answer = m.Answer[:1]
	check(t, "a question for CNAMEs that aren't there", m, chase.Finding{Outcome: api.NoData})
}

func TestAliases(t *testing.T) {
	one := host("b", 9, 1)
	for _, c := range []struct {
		what   string
		answer []api.Record
		want   chase.Finding
	}{
		{"the chapter's example", list(alias("a", 20, "b"), one), found(9, one)},
		{"the record ahead of the CNAME", list(one, alias("a", 20, "b")), found(9, one)},
		{"around the CNAME", list(one, alias("a", 20, "b"), host("b", 8, 2)), found(8, one, host("b", 8, 2))},
		{"the CNAME counts least", list(alias("a", 3, "b"), one), found(3, one)},
		{"a CNAME of 0", list(alias("a", 0, "b"), one), found(0, one)},
		{"the last CNAME counts least", list(alias("a", 20, "c"), alias("c", 4, "b"), one), found(4, one)},
		{"CNAMEs from behind", list(one, alias("c", 20, "b"), alias("a", 5, "c")), found(5, one)},
		{"only the first CNAME leads on", list(alias("a", 20, "b"), alias("a", 1, "c"), host("c", 2, 2), one), found(9, one)},
		{"only the first, though the second would lead to something", list(alias("a", 20, "c"), alias("a", 1, "b"), one), next("c", 20)},
		{"a CNAME that is on no way", list(alias("c", 1, "b"), alias("a", 20, "b"), one), found(9, one)},
		{"another type of the other name", list(alias("a", 20, "b"), six("b", 4)), next("b", 20)},
		{"a record between", list(alias("a", 20, "c"), host("c", 30, 3), alias("c", 1, "b"), one), found(20, host("c", 30, 3))},
		{"nothing behind one", list(alias("a", 20, "b")), next("b", 20)},
		{"nothing behind two", list(alias("a", 20, "c"), alias("c", 4, "b")), next("b", 4)},
		{"nothing behind two, the first counting least", list(alias("a", 2, "c"), alias("c", 4, "b")), next("b", 2)},
		{"nothing, counting not at all", list(alias("a", 0, "b")), next("b", 0)},
		{"nothing, counting longest", list(alias("a", api.MaxTTL, "b")), next("b", api.MaxTTL)},
		{"a name with points", list(alias("a", 20, "b.a")), next("b.a", 20)},
		{"a name beginning as another one", list(alias("a", 20, "bb"), one), next("bb", 20)},
	} {
		check(t, c.what, asked(c.answer...), c.want)
	}
}

// Eight times a name is looked for: behind seven CNAMEs at most.
func TestMaxChase(t *testing.T) {
	for n := range 12 {
		end := string(rune('a' + n))
		m := asked(append(way('a', n), host(end, 101, 1), host(end, 300, 2))...)
		switch {
		case n == 0:
			check(t, "no CNAME", m, found(101, host(end, 101, 1), host(end, 300, 2)))
		case n < api.MaxChase:
			check(t, "a way that isn't too long", m, found(100, host(end, 101, 1), host(end, 300, 2)))
		default:
			check(t, "a way that is too long", m, next("i", 100))
		}
		slices.Reverse(m.Answer)
		if n > 0 && n < api.MaxChase {
			check(t, "from behind", m, found(100, host(end, 300, 2), host(end, 101, 1)))
		}
		m.Code = 3
		if n >= api.MaxChase {
			check(t, "a way that is too long, to no such name", m, chase.Finding{Outcome: api.NotFound})
		}
	}
	// The eighth CNAME is on the way; the ninth isn't.
	l := append(way('a', 7), alias("h", 50, "i"), alias("i", 1, "j"))
	check(t, "the eighth CNAME", asked(l...), next("i", 50))
	check(t, "the seventh one", asked(append(way('a', 6), alias("g", 50, "h"), host("h", 60, 1))...), found(50, host("h", 60, 1)))
}

// Ways that go round come to no end: what counts is where they are behind eight CNAMEs.
func TestRounds(t *testing.T) {
	for _, c := range []struct {
		what   string
		answer []api.Record
		want   chase.Finding
	}{
		{"to itself", list(alias("a", 20, "a")), chase.Finding{Outcome: api.NoData}},
		{"of two", list(alias("a", 20, "b"), alias("b", 10, "a")), chase.Finding{Outcome: api.NoData}},
		{"of three", list(alias("a", 20, "b"), alias("b", 10, "c"), alias("c", 15, "a")), next("c", 10)},
		{"of four", list(alias("a", 20, "b"), alias("b", 10, "c"), alias("c", 15, "d"), alias("d", 5, "a")), chase.Finding{Outcome: api.NoData}},
		{"of another name to itself", list(alias("a", 20, "b"), alias("b", 10, "b")), next("b", 10)},
		{"with a way to it", list(alias("a", 20, "b"), alias("b", 10, "c"), alias("c", 15, "b")), next("c", 10)},
	} {
		m := asked(c.answer...)
		check(t, c.what, m, c.want)
		m.Authority = list(zone("z", 6))
		if c.want.Outcome == api.NoData {
			c.want.TTL = 6
		}
		check(t, c.what, m, c.want)
		m.Code = 3
		check(t, c.what, m, chase.Finding{Outcome: api.NotFound, TTL: 6})
	}
}

func TestNothing(t *testing.T) {
	others := list(host("b", 1, 1), six("a", 2), alias("b", 3, "a"), text("a", 4, "x"))
	for _, c := range []struct {
		what      string
		authority []api.Record
		ttl       int
	}{
		{"without any", nil, 0},
		{"one", list(zone("z", 11)), 11},
		{"of 0", list(zone("z", 0)), 0},
		{"of the greatest TTL", list(zone("z", api.MaxTTL)), api.MaxTTL},
		{"the first of two, counting longer", list(zone("z", 11), zone("y", 5)), 11},
		{"the first of two, counting shorter", list(zone("z", 5), zone("y", 11)), 5},
		{"the first of two, of 0", list(zone("z", 0), zone("y", 11)), 0},
		{"behind others", list(server("z", 2), host("a", 3, 1), zone("z", 11)), 11},
		{"ahead of others", list(zone("z", 11), server("z", 2)), 11},
		{"others alone", list(server("z", 2), host("a", 3, 1), alias("a", 4, "b")), 0},
		{"of the name itself", list(zone("a", 7)), 7},
	} {
		for _, answer := range [][]api.Record{nil, others, list(zone("z", 99)), list(host("aa", 1, 1), host("b.a", 1, 1), host("a.b", 1, 1))} {
			m := asked(answer...)
			m.Authority = c.authority
			check(t, c.what, m, chase.Finding{Outcome: api.NoData, TTL: c.ttl})
			m.Code = 3
			check(t, c.what, m, chase.Finding{Outcome: api.NotFound, TTL: c.ttl})
		}
	}
}

// Of 3, a name that is there is found all the same; one that isn't leads nowhere.
func TestNoSuchName(t *testing.T) {
	check(t, "records", coded(3, host("a", 9, 1)), found(9, host("a", 9, 1)))
	check(t, "records behind a CNAME", coded(3, alias("a", 20, "b"), host("b", 9, 1)), found(9, host("b", 9, 1)))
	m := coded(3, alias("a", 20, "b"), alias("b", 3, "c"))
	check(t, "a CNAME alone", m, chase.Finding{Outcome: api.NotFound})
	m.Authority = list(zone("z", 30))
	check(t, "a CNAME alone, with an SOA", m, chase.Finding{Outcome: api.NotFound, TTL: 30})
}

// What is found, or goes on, doesn't look at the SOA; nor do answers stand among Authority.
func TestAuthority(t *testing.T) {
	for _, l := range [][]api.Record{list(zone("z", 1)), list(host("a", 1, 9), host("b", 1, 9), alias("b", 1, "c"), alias("a", 1, "c"), zone("z", 1))} {
		m := asked(host("a", 9, 1))
		m.Authority = l
		check(t, "records", m, found(9, host("a", 9, 1)))
		m.Answer = list(alias("a", 20, "b"))
		check(t, "a CNAME", m, next("b", 20))
		m.Answer = nil
		check(t, "nothing", m, chase.Finding{Outcome: api.NoData, TTL: 1})
	}
}

// Any Code but 0 and 3 tells nothing, whatever stands with it.
func TestCodes(t *testing.T) {
	for code := range 16 {
		if code == 0 || code == 3 {
			continue
		}
		for _, answer := range [][]api.Record{nil, list(host("a", 9, 1)), list(alias("a", 20, "b")), list(alias("a", 20, "b"), host("b", 9, 1))} {
			m := coded(code, answer...)
			m.Authority = list(zone("z", 11))
			check(t, "a Code", m, chase.Finding{Outcome: api.TryAgain})
		}
	}
}

// Of is told the same by a message of any other ID and bits: whether it is one to be taken, others look.
func TestOtherFields(t *testing.T) {
	for _, l := range [][]api.Record{nil, list(host("a", 9, 1)), list(alias("a", 20, "b")), list(alias("a", 20, "b"), host("b", 9, 1))} {
		want := of(t, asked(l...))
		for i := range 8 {
			m := asked(l...)
			m.ID, m.Reply, m.Truncated, m.Recurse = i*9362, i&1 > 0, i&2 > 0, i&4 > 0
			check(t, "bits", m, want)
		}
	}
}

// As many records as may be.
func TestMany(t *testing.T) {
	var l []api.Record
	for i := range api.MaxRecords {
		l = append(l, host("a", 99-i, byte(i)))
	}
	check(t, "32 records", asked(l...), found(68, l...))
	l[0] = alias("a", 77, "b")
	for i := range l[1:] {
		l[i+1].Name = "b"
	}
	check(t, "31 of another name", asked(l...), found(68, l[1:]...))
	l[31] = alias("a", 1, "c")
	check(t, "the first CNAME of them", asked(l...), found(69, l[1:31]...))
	m := asked()
	for range 31 {
		m.Authority = append(m.Authority, server("z", 3))
	}
	m.Authority = append(m.Authority, zone("z", 4))
	check(t, "the 32nd of Authority", m, chase.Finding{Outcome: api.NoData, TTL: 4})
}

// Names as long as may be, which only their last signs part.
func TestLongNames(t *testing.T) {
	label := strings.Repeat("x", 63)
	start := strings.Join([]string{label, label, label, label[:60]}, ".")
	one, two := start+"1", start+"2"
	m := asked(alias(one, 20, two), host(two, 9, 1))
	m.Question.Name = one
	check(t, "long names", m, found(9, host(two, 9, 1)))
	m.Answer = list(host(two, 9, 1), alias(two, 8, one))
	check(t, "another long name", m, chase.Finding{Outcome: api.NoData})
}

// Records that are answered are new memory.
func TestNewMemory(t *testing.T) {
	for _, start := range [][]api.Record{nil, list(alias("a", 20, "b"))} {
		name := string(rune('a' + len(start)))
		m := asked(append(start, host(name, 9, 1), host(name, 8, 2))...)
		answer := slices.Clone(m.Answer)
		first := of(t, m)
		second := of(t, m)
		first.Records = append(first.Records, host("z", 1, 1))
		clear(first.Records)
		if !slices.Equal(m.Answer, answer) || !same(second, found(8, answer[len(start):]...)) {
			t.Errorf("records of %+v share memory: %+v, %+v", answer, m.Answer, second)
		}
		clear(m.Answer)
		if !same(second, found(8, answer[len(start):]...)) {
			t.Errorf("records of %+v are the message's own", answer)
		}
	}
}

// Of what may not be, nothing is said but that it ends.
func TestWhatMayNotBe(t *testing.T) {
	big := 1<<63 - 1
	for _, m := range []api.Message{
		{},
		{Code: -1},
		{Code: 16},
		{Code: big, Question: api.Question{Name: "a", Type: -1}},
		{Answer: list(api.Record{}), Authority: list(api.Record{Type: -1, TTL: -big})},
		{Answer: list(alias("", -1, ""))},
		{Question: api.Question{Name: "A", Type: big}, Answer: list(alias("A", big, "a..b"), alias("a..b", -big-1, strings.Repeat("x", 999)))},
		{Code: 3, Answer: slices.Repeat(list(alias("", 0, "")), 9999), Authority: list(zone("", -big-1))},
	} {
		answer, authority := slices.Clone(m.Answer), slices.Clone(m.Authority)
		chase.Of(m)
		if !slices.Equal(m.Answer, answer) || !slices.Equal(m.Authority, authority) {
			t.Errorf("Of changed %.400v", m)
		}
	}
	// Codes out of their range are neither 0 nor 3.
	for _, code := range []int{-1, 16, 256, 259, 1 << 32, -big - 1} {
		if f := chase.Of(coded(code, host("a", 9, 1))); !reflect.DeepEqual(f, chase.Finding{Outcome: api.TryAgain}) {
			t.Errorf("Of a message of Code %d = %+v", code, f)
		}
	}
}
