package msg_test

import (
	"slices"
	"strconv"
	"strings"
	"testing"

	"nomenclator/api"
	"nomenclator/msg"
)

// question: bytes of a question for a name given in bytes, nothing behind it.
func question(name string) string { return head(0, 0, 1, 0, 0, 0) + name + two(1) + two(1) }

// wantName: the name in these bytes, at 12, is that; none: there is no message.
func wantName(t *testing.T, name, want string) {
	t.Helper()
	if want == "" {
		wantNone(t, "a name", question(name))
		return
	}
	wantMessage(t, "a name", question(name), api.Message{Question: api.Question{Name: want, Type: 1}})
}

// wantRecord: a record's bytes, behind those of the question for a, are that record, as an answer and as an authority; nil: there is no message.
func wantRecord(t *testing.T, what, b string, want *api.Record) {
	t.Helper()
	if want == nil {
		wantNone(t, what, asked(1, 0)+b)
		wantNone(t, what, asked(0, 1)+b)
		return
	}
	l := []api.Record{*want}
	wantMessage(t, what, asked(1, 0)+b, ask(l, nil))
	wantMessage(t, what, asked(0, 1)+b, ask(nil, l))
}

func TestDecodeHeader(t *testing.T) {
	tail := whole("a") + two(256) + two(1)
	for bits := range 1 << 16 {
		b := head(bits, bits, 1, 0, 0, 0) + tail
		if bits&0x7800 != 0 { // another opcode
			if bits&0x3ff == 0 || bits&0x3ff == 0x3ff {
				wantNone(t, "an opcode", b)
			}
			continue
		}
		wantMessage(t, "bits", b, api.Message{
			ID: bits, Reply: bits&0x8000 != 0, Truncated: bits&0x200 != 0, Recurse: bits&0x100 != 0, Code: bits & 15,
			Question: api.Question{Name: "a", Type: 256},
		})
	}
}

func TestDecodeQuestions(t *testing.T) {
	one := whole("a") + two(1) + two(1)
	for _, n := range []int{0, 2, 3, 256, 257, 65535} {
		wantNone(t, "questions", head(0, 0, n, 0, 0, 0))
		wantNone(t, "questions", head(0, 0, n, 0, 0, 0)+strings.Repeat(one, min(n, 5)))
	}
	for _, kind := range []int{1, 2, 28, 256, 65535} {
		wantMessage(t, "a type", head(0, 0, 1, 0, 0, 0)+whole("a")+two(kind)+two(1), api.Message{Question: api.Question{Name: "a", Type: kind}})
	}
	wantNone(t, "type 0", head(0, 0, 1, 0, 0, 0)+whole("a")+two(0)+two(1))
}

func TestDecodeClasses(t *testing.T) {
	for _, class := range []int{0, 2, 3, 4, 254, 255, 256, 257, 0x8001, 65535} {
		wantNone(t, "a question's class", head(0, 0, 1, 0, 0, 0)+whole("a")+two(1)+two(class))
		r := at(12) + two(api.TXT) + two(class) + four(1) + two(1) + "x"
		wantRecord(t, "a record's class", r, nil)
		wantNone(t, "the last one's class", asked(1, 1)+rec(at(12), api.TXT, 1, "x")+r)
	}
}

func TestDecodeCounts(t *testing.T) {
	one := rec(at(12), api.TXT, 1, "x")
	list := slices.Repeat([]api.Record{{Name: "a", Type: api.TXT, TTL: 1, Data: "x"}}, 40)
	for _, n := range []int{0, 1, 31, 32, 33, 40} {
		for _, k := range []int{0, 1, 31, 32, 33, 40} {
			b := asked(n, k) + strings.Repeat(one, n+k)
			if n > 32 || k > 32 {
				wantNone(t, "counts", b)
				continue
			}
			wantMessage(t, "counts", b, ask(list[:n], list[:k]))
			if n+k > 0 {
				wantNone(t, "a record is missing", b[:len(b)-len(one)])
			}
		}
	}
	for _, n := range []int{256, 257, 65535} {
		wantNone(t, "many answers", asked(n, 0)+strings.Repeat(one, 300))
		wantNone(t, "many authorities", asked(0, n)+strings.Repeat(one, 300))
	}
}

// Additional records, and what stands behind a message, are not looked at.
func TestDecodeWhatStandsBehind(t *testing.T) {
	m := ask([]api.Record{{Name: "a", Type: api.TXT, TTL: 1, Data: "x"}}, []api.Record{{Name: "a", Type: api.TXT, TTL: 2, Data: "y"}})
	body := whole("a") + two(1) + two(1) + rec(at(12), api.TXT, 1, "x") + rec(at(12), api.TXT, 2, "y")
	for _, additional := range []int{0, 1, 2, 33, 65535} {
		for _, tail := range []string{"", "\x00", "\xff", rec("\x00", 41, 0, ""), rec(at(12), api.A, 1, "\x01\x02\x03\x04"), strings.Repeat("\xc0", 1<<16)} {
			wantMessage(t, "what stands behind", head(7, 0x8000, 1, 1, 1, additional)+body+tail, m)
		}
	}
}

func TestDecodeTTL(t *testing.T) {
	for _, x := range []struct{ ttl, want int }{
		{0, 0}, {1, 1}, {258, 258}, {65536, 65536}, {1<<20 - 1, 1<<20 - 1}, {1 << 20, 1 << 20},
		{1<<20 + 1, 1 << 20}, {1 << 24, 1 << 20}, {1<<31 - 1, 1 << 20}, {1 << 31, 1 << 20}, {1<<32 - 1, 1 << 20},
	} {
		wantRecord(t, "a TTL", rec(at(12), api.TXT, x.ttl, "x"), &api.Record{Name: "a", Type: api.TXT, TTL: x.want, Data: "x"})
	}
}

func TestDecodeAddresses(t *testing.T) {
	mapped := "\x00\x00\x00\x00\x00\x00\x00\x00\x00\x00\xff\xff\x09\x08\x07\x06"
	for n := range 33 {
		d := (mapped + mapped + mapped)[12:][:n]
		var a, aaaa *api.Record
		switch n {
		case 0: // Data of no bytes is none: an AAAA without an address is one of zeros
			aaaa = &api.Record{Name: "a", Type: api.AAAA, TTL: 1}
		case 4:
			a = &api.Record{Name: "a", Type: api.A, TTL: 1, Addr: v4}
		case 16:
			aaaa = &api.Record{Name: "a", Type: api.AAAA, TTL: 1, Addr: api.Addr([]byte(d))}
		}
		wantRecord(t, "A of "+strconv.Itoa(n), rec(at(12), api.A, 1, d), a)
		wantRecord(t, "AAAA of "+strconv.Itoa(n), rec(at(12), api.AAAA, 1, d), aaaa)
	}
	wantRecord(t, "A of IPv6's length", rec(at(12), api.A, 1, mapped), nil)
	wantRecord(t, "AAAA of IPv4's address", rec(at(12), api.AAAA, 1, mapped), &api.Record{Name: "a", Type: api.AAAA, TTL: 1, Addr: v4})
	wantRecord(t, "A of zeros", rec(at(12), api.A, 1, "\x00\x00\x00\x00"), &api.Record{Name: "a", Type: api.A, TTL: 1, Addr: api.Addr{10: 255, 11: 255}})
}

func TestDecodeText(t *testing.T) {
	for _, kind := range []int{api.NS, api.CNAME, api.PTR} {
		for _, x := range []struct{ data, want string }{
			{"\x01b\x00", "b"},
			{"\x01B\x02cD\x00", "b.cd"},
			{"\x01b" + at(12), "b.a"},
			{at(12), "a"},
			{at(14), ""},                 // no labels
			{"\x00", ""},                 // none either
			{"", ""},                     // no name
			{"\x01b\x00\x00", ""},        // longer than its name
			{"\x01b" + at(12) + "x", ""}, // the same
			{at(12) + "\x00", ""},
			{"\x01b", ""}, // shorter
			{"\x01", ""},
			{"\xc0", ""},
			{"\x01-\x00", ""},
			{sized("x", 253), ""},
			{whole(sized("x", 253)), sized("x", 253)},
			{whole(sized("x", 254)), ""},
		} {
			var want *api.Record
			if x.want != "" {
				want = &api.Record{Name: "a", Type: kind, TTL: 1, Text: x.want}
			}
			wantRecord(t, "a text", rec(at(12), kind, 1, x.data), want)
		}
		// the name goes on behind what is said to be its end
		b := at(12) + two(kind) + two(1) + four(1)
		wantRecord(t, "shorter by a byte", b+two(2)+"\x01b\x00", nil)
		wantRecord(t, "shorter by a place", b+two(2)+"\x01b"+at(12), nil)
		wantRecord(t, "longer than what is there", b+two(4)+"\x01b\x00", nil)
		wantRecord(t, "just as long", b+two(3)+"\x01b\x00", &api.Record{Name: "a", Type: kind, TTL: 1, Text: "b"})
	}
}

func TestDecodeData(t *testing.T) {
	for _, kind := range []int{3, api.SOA, api.MX, api.TXT, api.SRV, 41, 255, 65535} {
		for n, may := range map[int]bool{0: true, 1: true, 4: true, 16: true, 254: true, 255: true, 256: false, 257: false, 511: false, 65535: false} {
			d := strings.Repeat("\xff", n)
			var want *api.Record
			if may {
				want = &api.Record{Name: "a", Type: kind, TTL: 1, Data: d}
			}
			wantRecord(t, "data", rec(at(12), kind, 1, d), want)
		}
		wantRecord(t, "names in data", rec(at(12), kind, 1, "\x01B"+at(12)), &api.Record{Name: "a", Type: kind, TTL: 1, Data: "\x01B" + at(12)})
	}
	wantRecord(t, "type 0", rec(at(12), 0, 1, "x"), nil)
}

func TestDecodeNames(t *testing.T) {
	for _, x := range []struct{ name, want string }{
		{"\x01A\x00", "a"},
		{"\x03WwW\x03-_-\x01Z\x00", ""},
		{"\x03WwW\x03_-_\x01Z\x00", "www._-_.z"},
		{"\x04XN--\x01a\x00", ""},
		{"\x05XN--A\x01a\x00", "xn--a.a"},
		{"\x00", ""},
		{"\x01a\x01\x00", ""},
		{"\x01-\x00", ""},
		{"\x02a-\x00", ""},
		{"\x02-a\x00", ""},
		{"\x02a \x00", ""},
		{"\x03a.b\x00", ""}, // one label, though its text would be two
		{"\x01.\x00", ""},
		{"\x02ü\x00", ""},
		{"\x01@\x00", ""},
		{"\x01[\x00", ""},
		{"\x01\x80\x00", ""},
		{string(rune(63)) + strings.Repeat("x", 63) + "\x00", strings.Repeat("x", 63)},
		{strings.Repeat("\x01a", 127) + "\x00", strings.Repeat("a.", 126) + "a"},
		{strings.Repeat("\x01a", 128) + "\x00", ""},
		{strings.Repeat("\x01a", 125) + "\x03abc\x00", strings.Repeat("a.", 125) + "abc"},
		{strings.Repeat("\x01a", 125) + "\x04abcd\x00", ""},
		{strings.Repeat("\x01a", 1<<15) + "\x00", ""},
		{whole(sized("x", 253)), sized("x", 253)},
		{whole(sized("x", 254)), ""},
	} {
		wantName(t, x.name, x.want)
		if len(x.want) <= 251 { // as a record's name, by places too
			var want *api.Record
			if x.want != "" {
				want = &api.Record{Name: x.want, Type: api.TXT, TTL: 1}
			}
			wantRecord(t, "a record's name", rec(x.name, api.TXT, 1, ""), want)
		}
	}
	// of a label's length bytes just those up to 63 tell one
	for n := 1; n < 256; n++ {
		l := strings.Repeat("x", n)
		want := l
		if n > 63 {
			want = ""
		}
		wantName(t, string([]byte{byte(n)})+l+"\x00", want)
	}
}

func TestDecodeEachSignOfNames(t *testing.T) {
	const signs = "abcdefghijklmnopqrstuvwxyz0123456789_-"
	for c := range 256 {
		s := string([]byte{byte(c)})
		small := s
		if c >= 'A' && c <= 'Z' {
			small = strings.ToLower(s)
		}
		if strings.Contains(signs, small) {
			wantName(t, "\x03a"+s+"b\x00", "a"+small+"b")
		} else {
			wantName(t, "\x03a"+s+"b\x00", "")
		}
	}
}

// Names of 253 signs and of 254, some of them told by a place.
func TestDecodeLongNamesByPlaces(t *testing.T) {
	base := sized("x", 200)
	b := func(more string) string {
		return head(0, 0, 1, 1, 0, 0) + whole(base) + two(1) + two(1) + rec(open(more)+at(12), api.TXT, 0, "")
	}
	for n := 1; n < 63; n++ {
		more := strings.Repeat("y", n)
		m := api.Message{Question: api.Question{Name: base, Type: 1}, Answer: []api.Record{{Name: more + "." + base, Type: api.TXT}}}
		if n+1+200 <= 253 {
			wantMessage(t, "long by a place", b(more), m)
		} else {
			wantNone(t, "too long by a place", b(more))
		}
	}
}

func TestDecodePlaces(t *testing.T) {
	for _, x := range []struct{ what, name, want string }{
		{"the question's name", at(12), "a"},
		{"with a label ahead", "\x01B" + at(12), "b.a"},
		{"its end", "\x01b" + at(14), "b"},
		{"its end alone", at(14), ""},
		{"a zero of the header", "\x01b" + at(6), "b"},
		{"the type's zero", "\x01b" + at(15), "b"},
		{"within a label", "\x01b" + at(13), ""}, // a is no length
		{"its own beginning", at(behindAsked), ""},
		{"its own beginning, behind a label", "\x01b" + at(behindAsked), ""},
		{"its own label's end", "\x01b" + at(behindAsked+2), ""},
		{"its own second byte", at(behindAsked + 1), ""},
		{"what stands behind it", at(behindAsked + 2), ""},
		{"its TTL's zeros", "\x01b" + at(behindAsked+4+4), ""},
		{"behind all", at(100), ""},
		{"far behind all", at(16383), ""},
	} {
		var want *api.Record
		if x.want != "" {
			want = &api.Record{Name: x.want, Type: api.TXT, TTL: 1, Data: "x"}
		}
		wantRecord(t, x.what, rec(x.name, api.TXT, 1, "x"), want)
	}
	wantName(t, "\xc0", "")
	wantName(t, at(12), "")
	wantName(t, at(13), "")
	wantName(t, at(14), "")
	wantName(t, "\x01a"+at(12), "")
	wantName(t, "\x01a"+at(14), "")
	wantName(t, "\x01a"+at(18), "") // a zero, but behind
	wantName(t, "\x01a"+at(6), "a") // a zero ahead
	// a header that is a name
	wantMessage(t, "the header's name", "\x01n\x00\x00\x00\x01\x00\x00\x00\x00\x00\x00"+at(0)+two(1)+two(1), api.Message{ID: 0x016e, Question: api.Question{Name: "n", Type: 1}})
}

func TestDecodePlacesInData(t *testing.T) {
	read := func(data, name string) (string, api.Record) {
		return asked(2, 0) + rec(at(12), api.TXT, 1, data) + rec(name, api.TXT, 1, ""), api.Record{Name: "a", Type: api.TXT, TTL: 1, Data: data}
	}
	const data = behindAsked + 12
	b, first := read("\x01z\x00", at(data))
	wantMessage(t, "a name in data", b, ask([]api.Record{first, {Name: "z", Type: api.TXT, TTL: 1}}, nil))
	b, first = read("\x01z"+at(12), "\x01y"+at(data))
	wantMessage(t, "a name in data that a place tells", b, ask([]api.Record{first, {Name: "y.z.a", Type: api.TXT, TTL: 1}}, nil))
	b, _ = read(at(data+2)+"\x01z\x00", at(data))
	wantNone(t, "a name in data that a place behind it tells", b)
	b, _ = read(at(data), at(data))
	wantNone(t, "a name in data that its own place tells", b)
	b, _ = read("\x01z"+at(data), at(data))
	wantNone(t, "a name in data without an end", b)
}

// tower: records whose names are told by 1, 2, .. places, one behind the other; and the message.
func tower(n int, label string) (string, api.Message) {
	m := ask(nil, nil)
	b, place, name := "", 12, "a"
	for i := range n {
		raw := at(place)
		if label != "" {
			raw = open(label) + raw
			name = strings.ToLower(label) + "." + name
		}
		place = behindAsked + len(b)
		b += rec(raw, api.TXT, i, "")
		m.Answer = append(m.Answer, api.Record{Name: name, Type: api.TXT, TTL: i})
	}
	return asked(n, 0) + b, m
}

func TestDecodeBySoManyPlaces(t *testing.T) {
	for _, label := range []string{"", "x", "Y-z"} {
		for n := 1; n <= 32; n++ {
			b, m := tower(n, label)
			if n <= 16 {
				wantMessage(t, strconv.Itoa(n)+" places", b, m)
			} else {
				wantNone(t, strconv.Itoa(n)+" places", b)
			}
			// the next name is told by one place more
			last := len(b) - 12 - len(label)
			if label != "" {
				last--
			}
			text := rec(at(12), api.PTR, 0, at(last))
			b = asked(n, 1) + b[behindAsked:] + text
			if n < 16 {
				m.Authority = []api.Record{{Name: "a", Type: api.PTR, Text: m.Answer[n-1].Name}}
				wantMessage(t, strconv.Itoa(n+1)+" places of a text", b, m)
			} else {
				wantNone(t, strconv.Itoa(n+1)+" places of a text", b)
			}
		}
	}
}

// full: a message with a bit of all.
func full() api.Message {
	m := ask(many(10), many(12))
	m.Recurse, m.Code = true, 3
	return m
}

func TestDecodeOfBytesCutOff(t *testing.T) {
	for _, m := range []api.Message{full(), ask(nil, nil), ask(many(3), nil), ask(nil, many(32))} {
		b := string(msg.Encode(m))
		wantMessage(t, "all bytes", b, m)
		for i := range b {
			wantNone(t, "cut off at "+strconv.Itoa(i), b[:i])
		}
	}
	wantNone(t, "nothing", "")
	if _, e := msg.Decode(nil); e != api.ErrMsg {
		t.Errorf("Decode of nil: %d", e)
	}
}

func TestDecodeKeepsNothing(t *testing.T) {
	want := full()
	b := msg.Encode(want)
	given := slices.Clone(b)
	m, _ := msg.Decode(b)
	if !slices.Equal(b, given) {
		t.Error("Decode changed its bytes")
	}
	clear(b)
	if !same(m, want) {
		t.Errorf("behind a change of the bytes: %v", m)
	}
	again, _ := msg.Decode(given)
	_ = append(m.Answer, api.Record{Name: "more"})
	if !same(m, want) {
		t.Errorf("behind another answer: %v", m)
	}
	clear(m.Answer)
	clear(m.Authority)
	if !same(again, want) {
		t.Errorf("behind a change of another message: %v", again)
	}
}
