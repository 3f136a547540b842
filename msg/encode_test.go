package msg_test

import (
	"strconv"
	"strings"
	"testing"

	"nomenclator/api"
	"nomenclator/msg"
)

func TestEncodeQuestion(t *testing.T) {
	m := api.Message{Question: api.Question{Name: "a", Type: api.A}}
	wantBytes(t, "the chapter's example", m, "\x00\x00\x00\x00\x00\x01\x00\x00\x00\x00\x00\x00\x01a\x00\x00\x01\x00\x01")
	if n := len(msg.Encode(m)); n != 19 {
		t.Errorf("the chapter's example has %d bytes", n)
	}
	m.Question = api.Question{Name: "www.ex-1._b", Type: 65535}
	wantBytes(t, "three labels", m, head(0, 0, 1, 0, 0, 0)+"\x03www\x04ex-1\x02_b\x00\xff\xff\x00\x01")
	m.Question = api.Question{Name: sized("x", 253), Type: 1}
	wantBytes(t, "253 signs", m, head(0, 0, 1, 0, 0, 0)+whole(sized("x", 253))+two(1)+two(1))
	m.Question.Name = strings.Repeat("a.", 126) + "a"
	wantBytes(t, "127 labels", m, head(0, 0, 1, 0, 0, 0)+strings.Repeat("\x01a", 127)+"\x00"+two(1)+two(1))
}

func TestEncodeHeader(t *testing.T) {
	q := api.Question{Name: "a", Type: 256}
	tail := whole("a") + two(256) + two(1)
	for _, x := range []struct {
		m    api.Message
		bits int
	}{
		{api.Message{Reply: true}, 0x8000},
		{api.Message{Truncated: true}, 0x0200},
		{api.Message{Recurse: true}, 0x0100},
		{api.Message{Reply: true, Truncated: true, Recurse: true, Code: 15}, 0x830f},
		{api.Message{Code: 1}, 1},
		{api.Message{Code: 3}, 3},
		{api.Message{Code: 8}, 8},
		{api.Message{Code: 15}, 15},
	} {
		x.m.Question = q
		for _, id := range []int{0, 1, 255, 256, 0x1234, 65535} {
			x.m.ID = id
			wantBytes(t, "a header", x.m, head(id, x.bits, 1, 0, 0, 0)+tail)
		}
	}
}

func TestEncodeRecords(t *testing.T) {
	for _, x := range []struct {
		r    api.Record
		data string
	}{
		{api.Record{Type: api.A, Addr: v4}, "\x09\x08\x07\x06"},
		{api.Record{Type: api.A, Addr: api.Addr{10: 255, 11: 255}}, "\x00\x00\x00\x00"},
		{api.Record{Type: api.AAAA, Addr: v6}, "\x20\x01\x00\x00\x00\x00\x00\x00\x00\x00\x00\x00\x00\x00\x00\x01"},
		{api.Record{Type: api.AAAA, Addr: v4}, "\x00\x00\x00\x00\x00\x00\x00\x00\x00\x00\xff\xff\x09\x08\x07\x06"},
		{api.Record{Type: api.AAAA}, strings.Repeat("\x00", 16)},
		{api.Record{Type: api.NS, Text: "ns.b"}, "\x02ns\x01b\x00"},
		{api.Record{Type: api.CNAME, Text: "ns.a"}, "\x02ns" + at(12)},
		{api.Record{Type: api.PTR, Text: "a"}, at(12)},
		{api.Record{Type: api.CNAME, Text: sized("y", 253)}, whole(sized("y", 253))},
		{api.Record{Type: api.SOA, Data: "\x01a\x00\xc0\x0c"}, "\x01a\x00\xc0\x0c"}, // names in Data are bytes alone
		{api.Record{Type: api.MX, Data: "\x00\x05\x01a\x00"}, "\x00\x05\x01a\x00"},
		{api.Record{Type: api.TXT, Data: ""}, ""},
		{api.Record{Type: api.TXT, Data: strings.Repeat("\xff", 255)}, strings.Repeat("\xff", 255)},
		{api.Record{Type: 65535, Data: "ü\x00"}, "ü\x00"},
	} {
		for _, ttl := range []int{0, 1, 258, 65536, 0x81234, 1 << 20} {
			x.r.Name, x.r.TTL = "a", ttl
			want := rec(at(12), x.r.Type, ttl, x.data)
			wantBytes(t, "an answer", ask([]api.Record{x.r}, nil), asked(1, 0)+want)
			wantBytes(t, "an authority", ask(nil, []api.Record{x.r}), asked(0, 1)+want)
			x.r.Name = "b.a"
			long := rec("\x01b"+at(12), x.r.Type, ttl, x.data)
			again := rec(at(behindAsked), x.r.Type, ttl, x.data)
			if x.r.Type != api.CNAME && x.r.Type != api.NS {
				wantBytes(t, "of each one", ask([]api.Record{x.r}, []api.Record{x.r}), asked(1, 1)+long+again)
			}
		}
	}
}

func TestEncodeCounts(t *testing.T) {
	x := api.Record{Name: "a", Type: api.TXT, TTL: 1, Data: "x"}
	one := rec(at(12), api.TXT, 1, "x")
	list := func(n int) []api.Record {
		var l []api.Record
		for range n {
			l = append(l, x)
		}
		return l
	}
	for _, n := range []int{0, 1, 2, 31, 32} {
		for _, k := range []int{0, 1, 32} {
			wantBytes(t, "counts", ask(list(n), list(k)), asked(n, k)+strings.Repeat(one, n+k))
		}
	}
	y := x
	y.Data = "y"
	wantBytes(t, "the answers first", ask([]api.Record{x, y}, []api.Record{y, x}), asked(2, 2)+one+rec(at(12), api.TXT, 1, "y")+rec(at(12), api.TXT, 1, "y")+one)
}

// Names whose last labels stand already.
func TestEncodePlaces(t *testing.T) {
	text := func(name string) api.Record { return api.Record{Name: name, Type: api.TXT} }
	to := func(name, text string) api.Record { return api.Record{Name: name, Type: api.CNAME, Text: text} }
	for _, x := range []struct {
		what string
		l    []api.Record
		want string
	}{
		{"the whole name", []api.Record{text("a"), text("a")}, rec(at(12), 16, 0, "") + rec(at(12), 16, 0, "")},
		{"the end of a name", []api.Record{text("b.a"), text("c.a")}, rec("\x01b"+at(12), 16, 0, "") + rec("\x01c"+at(12), 16, 0, "")},
		{"the longest end", []api.Record{text("b.a"), text("c.b.a")}, rec("\x01b"+at(12), 16, 0, "") + rec("\x01c"+at(19), 16, 0, "")},
		{"the longest end, a longer one later", []api.Record{text("b.c"), text("a.b.c"), text("x.a.b.c"), text("y.b.c")}, rec("\x01b\x01c\x00", 16, 0, "") + rec("\x01a"+at(19), 16, 0, "") + rec("\x01x"+at(34), 16, 0, "") + rec("\x01y"+at(19), 16, 0, "")},
		{"labels that end alike", []api.Record{text("ba"), text("a.b"), text("aa"), text("b")}, rec("\x02ba\x00", 16, 0, "") + rec("\x01a\x01b\x00", 16, 0, "") + rec("\x02aa\x00", 16, 0, "") + rec(at(35), 16, 0, "")},
		{"labels at a name's beginning only", []api.Record{text("a.b.c"), text("a.b")}, rec("\x01a\x01b\x01c\x00", 16, 0, "") + rec("\x01a\x01b\x00", 16, 0, "")},
		{"a label within its own name", []api.Record{text("d.d.d"), text("d.d"), text("d")}, rec("\x01d\x01d\x01d\x00", 16, 0, "") + rec(at(21), 16, 0, "") + rec(at(23), 16, 0, "")},
		{"a record's own name", []api.Record{to("b", "b"), to("c", "c.b")}, rec("\x01b\x00", 5, 0, at(19)) + rec("\x01c\x00", 5, 0, "\x01c"+at(19))},
		{"a name behind a record's TTL", []api.Record{to("a", "b.c"), text("x.b.c"), to("c", "y.b.c")}, rec(at(12), 5, 0, "\x01b\x01c\x00") + rec("\x01x"+at(31), 16, 0, "") + rec(at(33), 5, 0, "\x01y"+at(31))},
		{"no name of bytes alone", []api.Record{{Name: "a", Type: 16, Data: "\x01b\x00"}, text("b"), text("b")}, rec(at(12), 16, 0, "\x01b\x00") + rec("\x01b\x00", 16, 0, "") + rec(at(34), 16, 0, "")},
	} {
		wantBytes(t, x.what, ask(x.l, nil), asked(len(x.l), 0)+x.want)
		wantBytes(t, x.what, ask(nil, x.l), asked(0, len(x.l))+x.want)
		wantBytes(t, x.what, ask(x.l[:1], x.l[1:]), asked(1, len(x.l)-1)+x.want)
	}
}

// upTo: answers with which the bytes of ask end at a place, with their bytes; no name of another one's end stands in them.
func upTo(t *testing.T, place int) ([]api.Record, string) {
	t.Helper()
	var l []api.Record
	b := ""
	add := func(name, raw string, data int) {
		x := api.Record{Name: name, Type: api.TXT, Data: strings.Repeat("-", data)}
		l = append(l, x)
		b += rec(raw, api.TXT, 0, x.Data)
	}
	left := func() int { return place - behindAsked - len(b) }
	for left() >= 255+10+255+12 {
		n := sized("pad"+strconv.Itoa(len(l))+"-", 253)
		add(n, whole(n), 255)
	}
	if left() > 267 {
		add("a", at(12), 240)
	}
	add("a", at(12), left()-12)
	if left() != 0 || len(l) > api.MaxRecords {
		t.Fatalf("up to %d: %d left behind %d records", place, left(), len(l))
	}
	return l, asked(len(l), 2) + b
}

// From place 16384 on nothing is told.
func TestEncodeFarPlaces(t *testing.T) {
	for place := 16370; place < 16400; place++ {
		answer, b := upTo(t, place)
		authority := []api.Record{{Name: "n.m", Type: api.PTR, Text: "u.n.m"}, {Name: "v.m", Type: api.NS, Text: "n.m"}}
		// what stands at these places, and how a name ends by it
		stand := map[int]string{}
		end := func(name string, from int) string {
			if stand[from] == "" && from < 16384 {
				return at(from)
			}
			return whole(name)
		}
		b += rec(whole("n.m"), api.PTR, 0, "\x01u"+end("n.m", place))
		b += rec("\x01v"+end("m", place+2), api.NS, 0, end("n.m", place))
		wantBytes(t, "authorities at "+strconv.Itoa(place), ask(answer, authority), b)
	}
}

// However far a name is, its end is told, if that stands near.
func TestEncodeNearPlacesFromFar(t *testing.T) {
	answer, b := upTo(t, 16400)
	authority := []api.Record{{Name: "b.a", Type: api.PTR, Text: "b.a"}, {Name: answer[0].Name, Type: api.NS, Text: "x." + answer[1].Name[64:]}}
	b += rec("\x01b"+at(12), api.PTR, 0, "\x01b"+at(12))
	b += rec(at(behindAsked), api.NS, 0, "\x01x"+at(behindAsked+520+64))
	wantBytes(t, "far names", ask(answer, authority), b)
}

func TestEncodeOfWhatMayNotBe(t *testing.T) {
	for _, m := range []api.Message{
		{},
		{ID: -1, Question: api.Question{Name: "a", Type: 1}},
		{Question: api.Question{Name: strings.Repeat("x", 1<<16), Type: 1}},
		{Question: api.Question{Name: "..\xff", Type: -1 << 63}},
		ask([]api.Record{{}}, nil),
		ask(many(33), nil),
		ask(nil, many(1<<16)),
		ask(nil, []api.Record{{Name: "a", Type: api.TXT, Data: strings.Repeat("x", 1<<17)}}),
	} {
		if b := msg.Encode(m); len(b) != 0 {
			t.Errorf("Encode of what may not be: %d bytes", len(b))
		}
	}
}

func TestEncodeAnswersNewBytes(t *testing.T) {
	m := ask(many(2), nil)
	first := msg.Encode(m)
	want := string(first)
	clear(first)
	_ = append(first[:1], "xyz"...)
	if got := string(msg.Encode(m)); got != want {
		t.Errorf("Encode behind a change of its last answer: %q", got)
	}
}
