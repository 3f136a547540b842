package addr_test

import (
	"strings"
	"testing"

	"nomenclator/addr"
	"nomenclator/api"
)

// six: the IPv6 address of eight numbers.
func six(n ...uint16) api.Addr {
	var a api.Addr
	for i, v := range n {
		a[2*i], a[2*i+1] = byte(v/256), byte(v%256)
	}
	return a
}

// Addresses and their texts.
var printed = []struct {
	addr api.Addr
	text string
}{
	{addr.V4(1, 2, 3, 4), "1.2.3.4"},
	{addr.V4(0, 0, 0, 0), "0.0.0.0"},
	{addr.V4(255, 255, 255, 255), "255.255.255.255"},
	{addr.V4(127, 0, 0, 1), "127.0.0.1"},
	{addr.V4(0, 255, 10, 100), "0.255.10.100"},
	{addr.V4(9, 99, 199, 249), "9.99.199.249"},

	// none, and one that is all
	{six(1, 2, 3, 4, 5, 6, 7, 8), "1:2:3:4:5:6:7:8"},
	{six(0, 0, 0, 0, 0, 0, 0, 0), "::"},
	// of seven
	{six(0, 0, 0, 0, 0, 0, 0, 1), "::1"},
	{six(1, 0, 0, 0, 0, 0, 0, 0), "1::"},
	// of one
	{six(0, 2, 3, 4, 5, 6, 7, 8), "0:2:3:4:5:6:7:8"},
	{six(1, 2, 3, 0, 5, 6, 7, 8), "1:2:3:0:5:6:7:8"},
	{six(1, 2, 3, 4, 5, 6, 7, 0), "1:2:3:4:5:6:7:0"},
	{six(0, 2, 0, 4, 0, 6, 0, 8), "0:2:0:4:0:6:0:8"},
	// of two
	{six(0, 0, 3, 4, 5, 6, 7, 8), "::3:4:5:6:7:8"},
	{six(1, 2, 3, 0, 0, 6, 7, 8), "1:2:3::6:7:8"},
	{six(1, 2, 3, 4, 5, 6, 0, 0), "1:2:3:4:5:6::"},
	// several of one length
	{six(0, 0, 3, 0, 0, 6, 0, 0), "::3:0:0:6:0:0"},
	{six(1, 0, 0, 4, 5, 0, 0, 8), "1::4:5:0:0:8"},
	{six(0, 0, 0, 4, 0, 0, 0, 8), "::4:0:0:0:8"},
	{six(1, 0, 0, 0, 5, 0, 0, 0), "1::5:0:0:0"},
	// several of several lengths
	{six(0, 0, 3, 0, 0, 0, 7, 8), "0:0:3::7:8"},
	{six(0, 0, 0, 4, 5, 6, 0, 0), "::4:5:6:0:0"},
	{six(0, 2, 0, 0, 5, 0, 0, 0), "0:2:0:0:5::"},
	{six(0, 2, 3, 4, 5, 0, 0, 8), "0:2:3:4:5::8"},
	{six(1, 0, 0, 4, 0, 0, 0, 8), "1:0:0:4::8"},
	{six(1, 0, 0, 0, 0, 6, 0, 0), "1::6:0:0"},

	// noughts ahead in a number, and behind
	{six(0x2001, 0xdb8, 0, 0, 0, 0, 0, 1), "2001:db8::1"},
	{six(0xf, 0xff, 0xfff, 0xffff, 0xf000, 0xf00, 0xf0, 0x0f), "f:ff:fff:ffff:f000:f00:f0:f"},
	{six(0x10, 0x100, 0x1000, 0x1, 0xabcd, 0xef, 0xa0b, 0x9), "10:100:1000:1:abcd:ef:a0b:9"},
	{six(0xffff, 0xffff, 0xffff, 0xffff, 0xffff, 0xffff, 0xffff, 0xffff), "ffff:ffff:ffff:ffff:ffff:ffff:ffff:ffff"},
	{six(0xfe80, 0, 0, 0, 1, 0, 0, 2), "fe80::1:0:0:2"},

	// nearly IPv4
	{six(0, 0, 0, 0, 0, 0, 0x102, 0x304), "::102:304"},
	{six(0, 0, 0, 0, 0, 0xfffe, 0x102, 0x304), "::fffe:102:304"},
	{six(0, 0, 0, 0, 0, 0xfeff, 0x102, 0x304), "::feff:102:304"},
	{six(0, 0, 0, 0, 1, 0xffff, 0x102, 0x304), "::1:ffff:102:304"},
	{six(0x100, 0, 0, 0, 0, 0xffff, 0x102, 0x304), "100::ffff:102:304"},
	{six(0, 0, 0, 0, 0xffff, 0, 0x102, 0x304), "::ffff:0:102:304"},
}

// Texts that are Print of no address.
var unprinted = []string{
	"", " ", ".", ":", ":::", "::::", "a", "1", "localhost", "\x00", "\xff", "ü",
	// too few numbers, and too many
	"1.2.3", "1.2", "1.2.3.4.5", "1.2.3.4.5.6.7.8", "1:2:3:4:5:6:7", "1:2:3:4:5:6:7:8:9", "1:2",
	"16909060", "0",
	// empty ones
	"1.2.3.", ".2.3.4", "1..3.4", "1.2..4", "1.2.3.4.", ".1.2.3.4", "...",
	"1:2:3:4:5:6:7:", ":2:3:4:5:6:7:8", ":1:2:3:4:5:6:7:8", "1:2:3:4:5:6:7:8:", ":::::::",
	":::1", "1:::", "1:::2", ":1", "1:", ":1::", "::1:", "1::2:", ":1::2", ":::1:2:3:4:5:6:7",
	// above 255, and above ffff
	"1.2.3.256", "256.2.3.4", "1.2.300.4", "1.1000.3.4", "1.2.3.18446744073709551617",
	"10000::", "::10000", "1:2:3:4:5:6:7:10000", "1::fffff:2", "::10000000000000001",
	// noughts ahead
	"01.2.3.4", "1.2.3.04", "1.02.3.4", "1.2.3.00", "001.2.3.4", "00.0.0.0",
	"01:2:3:4:5:6:7:8", "1:2:3:4:5:6:7:08", "::01", "::0001", "2001:0db8::1", "00::", "1:2:3:00:5:6:7:8",
	"00001::", "::00001",
	// capitals
	"A::", "::A", "::aB", "1:2:3:4:5:6:7:F", "FFFF:ffff:ffff:ffff:ffff:ffff:ffff:ffff", "2001:DB8::1", "0X1::",
	// :: twice, of none, of too many
	"1::2::3", "::1::", "::::1", "1::2::", "1:2::3:4::5:6", "1:2:3:4::5:6:7:8", "::1:2:3:4:5:6:7:8", "1:2:3:4:5:6:7:8::",
	"1::2:3:4:5:6:7:8:9", "1:2:3:4:5:6:7:8:9::",
	// of one zero alone
	"::2:3:4:5:6:7:8", "1::3:4:5:6:7:8", "1:2:3::5:6:7:8", "1:2:3:4:5:6:7::", "0::3:0:5:6:7:8",
	// of a stretch that isn't the longest first one
	"0:0:3::6:0:0", "0:0:3:0:0:6::", "1:0:0:4:5::8", "::3:0:0:0:7:8", "0:0:0:4:5:6::", "1:0:0:0:0:6::", "0:0:0:4::8",
	// of a part of one, and beside none
	"0::", "::0", "0::1", "::0:1", "1::0", "1:0::", "0::0", "0:0::1", "1:0::5:6:7:8", "1::0:5:6:7:8",
	"0:0:0:0:0:0:0:1", "0:0:0:0:0:0:0:0", "1:0:0:0:0:0:0:0", "1:0:0:4:5:6:7:8", "0:0:3:4:5:6:7:8", "1:2:3:4:5:6:0:0",
	// IPv4 in base 16, and both in one
	"::ffff:102:304", "::ffff:0:0", "::ffff:ffff:ffff", "0:0:0:0:0:ffff:102:304", "::ffff:1.2.3.4", "::1.2.3.4",
	"0:0:0:0:0:ffff:1.2.3.4", "1:2:3:4:5:6:1.2.3.4", "1.2.3.4:5", "1.2.3.4::", "0x1.2.3.4", "1.2.3.a", "a.b.c.d", "1:2.3:4",
	// signs that are none
	"g::", "::g", "1.2.3.x", "+1.2.3.4", "-1.2.3.4", "1.2.3.-4", "+1::", "-1::", "::-0", "1.2.3.4/8", "2001:db8::/32",
	"fe80::1%0", "fe80::1%eth0", "[::1]", "::0x1", "0x1::", "1_0::", "::1_0", "1.2.3.1_0", "1,2,3,4", "1;2", "1.2.3.4e0", "::1h",
	"1.2.3.\u0664", "1\u30022\u30023\u30024", "\uff1a\uff1a1", "::1\xff", "::1\x00", "1.2.3.4\x00", "\x001.2.3.4",
	// blanks
	" 1.2.3.4", "1.2.3.4 ", "1. 2.3.4", "1 .2.3.4", " ::1", "::1 ", ":: 1", ": :1", "1.2.3.4\n", "::1\n", "\t::", "1 2 3 4",
	// very long ones
	strings.Repeat("1", 1<<16), strings.Repeat("0", 1<<16) + "1.2.3.4", strings.Repeat(":", 1<<16), strings.Repeat(".", 1<<16),
	strings.Repeat("1:", 1<<16) + "1", strings.Repeat("1.", 1<<16) + "1", "::1" + strings.Repeat(" ", 1<<16),
	"ffff:ffff:ffff:ffff:ffff:ffff:ffff:ffff0", "ffff:ffff:ffff:ffff:ffff:ffff:ffff:ffff:", "0ffff:ffff:ffff:ffff:ffff:ffff:ffff:ffff",
	"ffff:ffff:ffff:ffff:ffff:ffff:255.255.255.255",
}

func TestV4(t *testing.T) {
	for _, c := range []struct {
		got, want api.Addr
	}{
		{addr.V4(1, 2, 3, 4), api.Addr{0, 0, 0, 0, 0, 0, 0, 0, 0, 0, 255, 255, 1, 2, 3, 4}},
		{addr.V4(0, 0, 0, 0), api.Addr{0, 0, 0, 0, 0, 0, 0, 0, 0, 0, 255, 255, 0, 0, 0, 0}},
		{addr.V4(255, 255, 255, 255), api.Addr{0, 0, 0, 0, 0, 0, 0, 0, 0, 0, 255, 255, 255, 255, 255, 255}},
		{addr.V4(255, 0, 128, 127), api.Addr{0, 0, 0, 0, 0, 0, 0, 0, 0, 0, 255, 255, 255, 0, 128, 127}},
	} {
		if c.got != c.want {
			t.Errorf("V4 answers %v, not %v", c.got, c.want)
		}
	}
}

func TestIs4(t *testing.T) {
	for _, four := range []api.Addr{addr.V4(0, 0, 0, 0), addr.V4(1, 2, 3, 4), addr.V4(255, 255, 255, 255)} {
		for i := range four {
			for v := range 256 {
				a := four
				a[i] = byte(v)
				// the last four may be any; the others only as they are
				if got := addr.Is4(a); got != (i >= 12 || a == four) {
					t.Errorf("Is4(%v) = %v", a, got)
				}
			}
		}
	}
	for _, a := range []api.Addr{{}, six(0, 0, 0, 0, 0xffff, 0, 1, 2), six(0xffff, 0xffff, 0xffff, 0xffff, 0xffff, 0xffff, 1, 2), {15: 1}} {
		if addr.Is4(a) {
			t.Errorf("Is4(%v) is true", a)
		}
	}
}

func TestPrint(t *testing.T) {
	for _, c := range printed {
		if got := addr.Print(c.addr); got != c.text {
			t.Errorf("Print(%v) = %q, not %q", c.addr, got, c.text)
		}
	}
}

func TestParse(t *testing.T) {
	for _, c := range printed {
		if got, err := addr.Parse(c.text); got != c.addr || err != api.OK {
			t.Errorf("Parse(%q) = %v, %v, not %v", c.text, got, err, c.addr)
		}
	}
}

func TestParseOfNone(t *testing.T) {
	for _, s := range unprinted {
		if got, err := addr.Parse(s); got != (api.Addr{}) || err != api.ErrAddr {
			t.Errorf("Parse(%.100q) = %v, %v", s, got, err)
		}
	}
}

func TestReverse(t *testing.T) {
	for _, c := range []struct {
		addr api.Addr
		want string
	}{
		{addr.V4(1, 2, 3, 4), "4.3.2.1.in-addr.arpa"},
		{addr.V4(0, 0, 0, 0), "0.0.0.0.in-addr.arpa"},
		{addr.V4(255, 0, 10, 100), "100.10.0.255.in-addr.arpa"},
		{six(0, 0, 0, 0, 0, 0, 0, 1), "1." + strings.Repeat("0.", 31) + "ip6.arpa"},
		{api.Addr{}, strings.Repeat("0.", 32) + "ip6.arpa"},
		{six(0x2001, 0xdb8, 0, 0, 0, 0, 0x567, 0x89ab), "b.a.9.8.7.6.5.0." + strings.Repeat("0.", 16) + "8.b.d.0.1.0.0.2.ip6.arpa"},
		{six(0x123, 0x4567, 0x89ab, 0xcdef, 0xfedc, 0xba98, 0x7654, 0x3210), "0.1.2.3.4.5.6.7.8.9.a.b.c.d.e.f.f.e.d.c.b.a.9.8.7.6.5.4.3.2.1.0.ip6.arpa"},
		{six(0, 0, 0, 0, 0, 0xfffe, 0x102, 0x304), "4.0.3.0.2.0.1.0.e.f.f.f." + strings.Repeat("0.", 20) + "ip6.arpa"},
		{six(0, 0, 0, 0, 0, 0, 0x102, 0x304), "4.0.3.0.2.0.1.0." + strings.Repeat("0.", 24) + "ip6.arpa"},
	} {
		if got := addr.Reverse(c.addr); got != c.want {
			t.Errorf("Reverse(%v) = %q, not %q", c.addr, got, c.want)
		}
	}
}

func TestShared(t *testing.T) {
	for _, c := range []struct {
		a, b api.Addr
		want int
	}{
		{addr.V4(1, 2, 3, 4), addr.V4(1, 2, 3, 4), 128},
		{addr.V4(1, 2, 3, 4), addr.V4(1, 2, 3, 5), 127},
		{addr.V4(1, 2, 3, 4), addr.V4(1, 2, 2, 4), 119},
		{addr.V4(0, 0, 0, 0), addr.V4(255, 255, 255, 255), 96},
		{addr.V4(127, 0, 0, 1), addr.V4(128, 0, 0, 1), 96},
		{addr.V4(0, 0, 0, 0), api.Addr{}, 80},
		{api.Addr{}, api.Addr{}, 128},
		{api.Addr{}, six(0x8000), 0},
		{api.Addr{}, six(0x7fff, 0xffff), 1},
		{six(0x2001, 0xdb8), six(0x2001, 0xdb9), 31},
		{six(0x2001, 0xdb8), six(0x2001, 0xdb8, 0x8000), 32},
		{six(0x2001, 0xdb8), six(0x2001, 0xdb8, 0x4000), 33},
	} {
		if got := addr.Shared(c.a, c.b); got != c.want {
			t.Errorf("Shared(%v, %v) = %d, not %d", c.a, c.b, got, c.want)
		}
		if got := addr.Shared(c.b, c.a); got != c.want {
			t.Errorf("Shared(%v, %v) = %d, not %d", c.b, c.a, got, c.want)
		}
	}
}
