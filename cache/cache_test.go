package cache_test

import (
	"math"
	"slices"
	"strconv"
	"testing"

	"nomenclator/api"
	"nomenclator/cache"
)

// ask: the question for a name.
func ask(n string) api.Question { return api.Question{Name: n, Type: api.A} }

// rec: a record that counts so long.
func rec(n string, ttl int) api.Record {
	return api.Record{Name: n, Type: api.A, TTL: ttl, Addr: api.Addr{10: 255, 11: 255, 12: 192, 15: 1}}
}

func wantLen(t *testing.T, c *cache.Cache, want int) {
	t.Helper()
	if got := c.Len(); got != want {
		t.Fatalf("Len() = %d, not %d", got, want)
	}
}

func wantGet(t *testing.T, c *cache.Cache, now int, q api.Question, outcome int, want ...api.Record) {
	t.Helper()
	if got, l := c.Get(now, q); got != outcome || !slices.Equal(l, want) {
		t.Fatalf("Get(%d, %v) = %d, %v, not %d, %v", now, q, got, l, outcome, want)
	}
}

// wantNames: of one letter each, those that it has, and those that it hasn't.
func wantNames(t *testing.T, c *cache.Cache, now int, has, hasNot string) {
	t.Helper()
	for _, n := range has {
		if k, _ := c.Get(now, ask(string(n))); k == 0 {
			t.Fatalf("at %d there is nothing for %c", now, n)
		}
	}
	for _, n := range hasNot {
		wantGet(t, c, now, ask(string(n)), 0)
	}
}

// put: an entry for a name, without records.
func put(c *cache.Cache, now int, n string, ttl int) {
	c.Put(now, ask(n), api.NoData, nil, ttl)
}

func TestNew(t *testing.T) {
	for size, want := range map[int]int{
		math.MinInt: 0, -16: 0, -1: 0, 0: 0, 1: 1, 2: 2, 15: 15, 16: 16, 17: 16, 32: 16, 1 << 32: 16, math.MaxInt: 16,
	} {
		c := cache.New(size)
		wantLen(t, c, 0)
		wantNames(t, c, 0, "", "a")
		for i := range 40 {
			put(c, 0, strconv.Itoa(i), 5)
			wantLen(t, c, min(i+1, want))
		}
	}
	// each has its own
	a, b := cache.New(2), cache.New(2)
	put(a, 0, "a", 5)
	put(b, 0, "b", 5)
	wantNames(t, a, 0, "a", "b")
	wantNames(t, b, 0, "b", "a")
}

func TestHowLongItCounts(t *testing.T) {
	c := cache.New(2)
	l := []api.Record{rec("a", 10)}
	c.Put(5, ask("a"), api.Success, l, 10)
	wantGet(t, c, 5, ask("a"), api.Success, rec("a", 10))
	wantGet(t, c, 6, ask("a"), api.Success, rec("a", 9))
	wantGet(t, c, 14, ask("a"), api.Success, rec("a", 1))
	wantGet(t, c, 15, ask("a"), 0)
	wantGet(t, c, 16, ask("a"), 0)
	wantGet(t, c, math.MaxInt, ask("a"), 0)
	// Get lets go of nothing, and takes off nothing
	wantLen(t, c, 1)
	wantGet(t, c, 14, ask("a"), api.Success, rec("a", 1))
	wantGet(t, c, 5, ask("a"), api.Success, rec("a", 10))
	for _, ttl := range []int{1, 2, 3, 1000, api.MaxTTL - 1, api.MaxTTL, api.MaxTTL + 1, 2 * api.MaxTTL, 1 << 40, math.MaxInt} {
		for _, from := range []int{0, 1, 7, 1 << 31, 1 << 40, math.MaxInt - 2*api.MaxTTL} {
			c := cache.New(1)
			put(c, from, "a", ttl)
			end := from + min(ttl, 1<<20)
			wantNames(t, c, from, "a", "")
			wantNames(t, c, end-1, "a", "")
			wantNames(t, c, end, "", "a")
			c.Expire(end - 1)
			wantLen(t, c, 1)
			c.Expire(end)
			wantLen(t, c, 0)
		}
	}
}

// What ends behind the greatest number counts up to that.
func TestGreatTimes(t *testing.T) {
	c := cache.New(2)
	c.Put(math.MaxInt-2, ask("a"), api.Success, []api.Record{rec("a", 4)}, 4)
	put(c, math.MaxInt-1, "b", 1)
	wantGet(t, c, math.MaxInt-1, ask("a"), api.Success, rec("a", 3))
	wantGet(t, c, math.MaxInt, ask("a"), api.Success, rec("a", 2))
	wantNames(t, c, math.MaxInt, "", "b")
	c.Expire(math.MaxInt)
	wantLen(t, c, 1)
	put(c, math.MaxInt, "c", 1)
	put(c, math.MaxInt, "d", 3) // c counts shorter than a
	wantNames(t, c, math.MaxInt, "ad", "c")
	put(c, math.MaxInt, "e", api.MaxTTL)
	wantNames(t, c, math.MaxInt, "de", "a")
}

func TestPutNothing(t *testing.T) {
	for _, size := range []int{0, -1, math.MinInt} {
		c := cache.New(size)
		for _, ttl := range []int{-1, 0, 1, api.MaxTTL, math.MaxInt} {
			put(c, 0, "a", ttl)
			wantLen(t, c, 0)
			wantNames(t, c, 0, "", "a")
		}
	}
	// ttl below 1: neither what counts no more goes, nor what is there, nor one for room
	for _, ttl := range []int{0, -1, -2, -api.MaxTTL, math.MinInt} {
		c := cache.New(3)
		put(c, 0, "a", 5)
		c.Put(0, ask("b"), api.Success, []api.Record{rec("b", 20)}, 20)
		put(c, 0, "c", 20)
		for _, n := range []string{"a", "b", "c", "d"} {
			c.Put(9, ask(n), api.NotFound, nil, ttl)
		}
		wantLen(t, c, 3)
		wantNames(t, c, 4, "abc", "d")
		wantGet(t, c, 9, ask("b"), api.Success, rec("b", 11))
	}
}

func TestPutInThePlace(t *testing.T) {
	c := cache.New(3)
	q := ask("a")
	c.Put(0, q, api.Success, []api.Record{rec("a", 9), rec("a", 8)}, 8)
	wantGet(t, c, 0, q, api.Success, rec("a", 9), rec("a", 8))
	// a shorter one, too, and one without records
	c.Put(2, q, api.NotFound, nil, 3)
	wantLen(t, c, 1)
	wantGet(t, c, 4, q, api.NotFound)
	wantGet(t, c, 5, q, 0)
	c.Put(4, q, api.Success, []api.Record{rec("a", 2)}, 2)
	wantLen(t, c, 1)
	wantGet(t, c, 5, q, api.Success, rec("a", 1))
	wantGet(t, c, 6, q, 0)
	c.Put(6, q, api.NoData, nil, 1)
	wantLen(t, c, 1)
	wantGet(t, c, 6, q, api.NoData)
}

// A question is its name, as it is written, and its type.
func TestQuestions(t *testing.T) {
	all := []api.Question{
		{Name: "a", Type: api.A}, {Name: "a", Type: api.AAAA}, {Name: "A", Type: api.A}, {Name: "a.", Type: api.A}, {Name: "b", Type: api.A},
		{}, {Name: "a"}, {Type: api.A}, {Name: "a", Type: -1}, {Name: "\x00", Type: math.MaxInt}, {Name: "\xff", Type: math.MinInt},
	}
	c := cache.New(16)
	for i, q := range all {
		wantGet(t, c, 0, q, 0)
		c.Put(0, q, api.Success, []api.Record{rec(q.Name, i)}, 5)
		wantLen(t, c, i+1)
	}
	for i, q := range all {
		wantGet(t, c, 0, q, api.Success, rec(q.Name, i))
		c.Put(0, q, api.NotFound, nil, 5)
		wantLen(t, c, len(all))
		wantGet(t, c, 0, q, api.NotFound)
	}
}

// With room, too, what counts no more goes.
func TestPutExpires(t *testing.T) {
	c := cache.New(9)
	put(c, 0, "a", 5)
	put(c, 0, "b", 6)
	put(c, 1, "c", 4)
	put(c, 1, "d", 5)
	put(c, 4, "e", 9)
	wantLen(t, c, 5)
	put(c, 5, "f", 9)
	wantLen(t, c, 4)
	wantNames(t, c, 0, "bdef", "ac")
	put(c, 6, "f", 9)
	wantLen(t, c, 2)
	wantNames(t, c, 0, "ef", "abcd")
	// so that none that counts goes
	c = cache.New(3)
	put(c, 0, "a", 9)
	put(c, 0, "b", 5)
	put(c, 0, "c", 6)
	put(c, 5, "d", 9)
	wantLen(t, c, 3)
	wantNames(t, c, 5, "acd", "b")
}

func TestPutWithoutRoom(t *testing.T) {
	for _, c := range []struct {
		what        string
		puts        func(c *cache.Cache)
		has, hasNot string
	}{
		{"the shortest is first", func(c *cache.Cache) { put(c, 0, "a", 5); put(c, 0, "b", 7); put(c, 0, "c", 6) }, "bcx", "a"},
		{"the shortest is between", func(c *cache.Cache) { put(c, 0, "a", 7); put(c, 0, "b", 5); put(c, 0, "c", 6) }, "acx", "b"},
		{"the shortest is last", func(c *cache.Cache) { put(c, 0, "a", 7); put(c, 0, "b", 6); put(c, 0, "c", 5) }, "abx", "c"},
		{"the first of three", func(c *cache.Cache) { put(c, 0, "c", 5); put(c, 0, "a", 5); put(c, 0, "b", 5) }, "abx", "c"},
		{"the first of the last two", func(c *cache.Cache) { put(c, 0, "a", 6); put(c, 0, "c", 5); put(c, 0, "b", 5) }, "abx", "c"},
		{"the first of two of three", func(c *cache.Cache) { put(c, 0, "b", 5); put(c, 0, "c", 6); put(c, 0, "a", 5) }, "acx", "b"},
		// from now on, not from when they were put
		{"a longer ttl, but put before", func(c *cache.Cache) { put(c, 0, "a", 9); put(c, 3, "b", 8); put(c, 3, "c", 7) }, "bcx", "a"},
		{"alike in the end", func(c *cache.Cache) { put(c, 0, "a", 9); put(c, 1, "b", 8); put(c, 2, "c", 7) }, "bcx", "a"},
		{"alike in the end, the last but one", func(c *cache.Cache) { put(c, 0, "a", 10); put(c, 1, "b", 8); put(c, 2, "c", 7) }, "acx", "b"},
		{"put before, but longer", func(c *cache.Cache) { put(c, 0, "a", 9); put(c, 3, "b", 5); put(c, 3, "c", 9) }, "acx", "b"},
		// one that is put in the place is last
		{"the first one anew", func(c *cache.Cache) { put(c, 0, "a", 5); put(c, 0, "b", 5); put(c, 0, "c", 5); put(c, 0, "a", 5) }, "acx", "b"},
		{"the second one anew", func(c *cache.Cache) { put(c, 0, "a", 5); put(c, 0, "b", 5); put(c, 0, "c", 5); put(c, 0, "b", 5) }, "bcx", "a"},
		{"all but one anew", func(c *cache.Cache) {
			put(c, 0, "a", 5)
			put(c, 0, "b", 5)
			put(c, 0, "c", 5)
			put(c, 1, "b", 4)
			put(c, 1, "a", 4)
		}, "abx", "c"},
		{"all anew", func(c *cache.Cache) {
			put(c, 0, "a", 5)
			put(c, 0, "b", 6)
			put(c, 0, "c", 7)
			put(c, 1, "c", 7)
			put(c, 1, "b", 7)
			put(c, 1, "a", 7)
		}, "abx", "c"},
		// up to MaxTTL
		{"all above MaxTTL", func(c *cache.Cache) {
			put(c, 0, "a", math.MaxInt)
			put(c, 0, "b", 2*api.MaxTTL)
			put(c, 0, "c", api.MaxTTL)
		}, "bcx", "a"},
		{"above MaxTTL, but put before", func(c *cache.Cache) {
			put(c, 0, "a", math.MaxInt)
			put(c, 1, "b", api.MaxTTL)
			put(c, 2, "c", api.MaxTTL)
		}, "bcx", "a"},
	} {
		// the new one may itself be the shortest
		for _, ttl := range []int{1, 5, 100, api.MaxTTL} {
			k := cache.New(3)
			c.puts(k)
			wantLen(t, k, 3)
			put(k, 3, "x", ttl)
			if k.Len() != 3 {
				t.Fatalf("%s: Len() = %d", c.what, k.Len())
			}
			t.Run(c.what, func(t *testing.T) { wantNames(t, k, 3, c.has, c.hasNot) })
		}
	}
}

// What is put in the place of another one needs no room.
func TestPutInThePlaceWithoutRoom(t *testing.T) {
	c := cache.New(3)
	put(c, 0, "a", 5)
	put(c, 0, "b", 6)
	put(c, 0, "c", 7)
	for _, n := range []string{"c", "b", "a", "a"} {
		c.Put(1, ask(n), api.NotFound, nil, 9)
		wantLen(t, c, 3)
		wantNames(t, c, 1, "abc", "")
		wantGet(t, c, 1, ask(n), api.NotFound)
	}
	c = cache.New(1)
	put(c, 0, "a", 9)
	put(c, 0, "a", 5)
	wantNames(t, c, 4, "a", "")
	wantNames(t, c, 5, "", "a")
	put(c, 0, "b", 1)
	wantNames(t, c, 0, "b", "a")
}

func TestFull(t *testing.T) {
	c := cache.New(api.MaxCache)
	for i := range 16 {
		put(c, 0, string(rune('a'+i)), 20+i)
	}
	wantLen(t, c, 16)
	wantNames(t, c, 0, "abcdefghijklmnop", "q")
	for i := range 10 {
		put(c, 1, string(rune('q'+i)), 50)
		wantLen(t, c, 16)
		wantNames(t, c, 1, "qrstuvwxyz"[:i+1]+"klmnop", "abcdefghij"[:i+1])
	}
	c.Expire(35)
	wantLen(t, c, 10)
}

func TestGet(t *testing.T) {
	l := []api.Record{
		{Name: "a", Type: api.CNAME, TTL: 7, Text: "b"},
		{Name: "b", Type: api.A, TTL: 1000, Addr: api.Addr{0: 1, 15: 2}},
		{Name: "b", Type: api.TXT, TTL: 3, Data: "\x00\xff"},
		{},
		{Name: "b", Type: -1, TTL: -5},
		{Name: "b", TTL: math.MinInt},
		{Name: "b", TTL: math.MaxInt},
		{Name: "a", Type: api.CNAME, TTL: 7, Text: "b"},
	}
	c := cache.New(4)
	c.Put(3, ask("a"), api.Success, l, 9)
	for ago := range 9 {
		want := slices.Clone(l)
		for i, ttl := range []int{7, 1000, 3, 0, 0, 0, math.MaxInt, 7} {
			want[i].TTL = max(0, ttl-ago)
		}
		wantGet(t, c, 3+ago, ask("a"), api.Success, want...)
	}
	wantGet(t, c, 12, ask("a"), 0)
	wantGet(t, c, 3, ask("b"), 0)
	// any outcome, and any number of records
	for _, outcome := range []int{api.Success, api.NotFound, api.Unavail, api.TryAgain, api.NoData, 6, -1, math.MaxInt, math.MinInt} {
		for _, n := range []int{0, 1, 2, 33, 1000} {
			l := slices.Repeat([]api.Record{rec("b", 4)}, n)
			c.Put(20, ask("b"), outcome, l, 9)
			wantGet(t, c, 20, ask("b"), outcome, l...)
		}
	}
	c.Put(20, ask("b"), api.NotFound, []api.Record{}, 9)
	wantGet(t, c, 20, ask("b"), api.NotFound)
}

// A time ahead of that at which it was put is so long ahead.
func TestTimeGoesBack(t *testing.T) {
	c := cache.New(2)
	c.Put(5, ask("a"), api.Success, []api.Record{rec("a", 7), rec("b", 0), rec("c", math.MaxInt)}, 10)
	wantGet(t, c, 3, ask("a"), api.Success, rec("a", 9), rec("b", 2), rec("c", math.MaxInt))
	c.Expire(0)
	wantLen(t, c, 1)
	put(c, 3, "b", 11)
	wantLen(t, c, 2)
	put(c, 0, "c", 1) // b ends at 14, a at 15
	wantNames(t, c, 0, "ac", "b")
	// from the greatest time to 0
	c = cache.New(2)
	put(c, math.MaxInt, "a", 5)
	put(c, math.MaxInt-1, "b", 5)
	put(c, 0, "c", api.MaxTTL)
	wantNames(t, c, 0, "ac", "b")
	put(c, 0, "d", 1)
	wantNames(t, c, 0, "ad", "c")
}

func TestExpire(t *testing.T) {
	c := cache.New(9)
	c.Expire(0)
	wantLen(t, c, 0)
	for i, n := range []string{"a", "b", "c", "d", "e"} {
		put(c, i, n, []int{5, 3, 3, 1, 9}[i]) // ends: 5, 4, 5, 4, 13
	}
	// put at 4, e let go of b and d already
	wantLen(t, c, 3)
	for _, x := range []struct{ now, want int }{{0, 3}, {4, 3}, {5, 1}, {5, 1}, {0, 1}, {12, 1}, {13, 0}, {14, 0}} {
		c.Expire(x.now)
		wantLen(t, c, x.want)
	}
	// those that count no more are there till they are gone
	put(c, 20, "a", 2)
	put(c, 20, "b", 1)
	wantNames(t, c, 22, "", "ab")
	wantLen(t, c, 2)
	c.Expire(21)
	wantLen(t, c, 1)
	wantNames(t, c, 20, "a", "b")
	c.Expire(math.MaxInt)
	wantLen(t, c, 0)
}

func TestClear(t *testing.T) {
	for _, size := range []int{0, 1, 3, 16} {
		c := cache.New(size)
		c.Clear()
		wantLen(t, c, 0)
		for range 2 {
			for i := range 20 {
				put(c, 0, string(rune('a'+i)), 5)
			}
			wantLen(t, c, size)
			c.Clear()
			wantLen(t, c, 0)
			wantNames(t, c, 0, "", "abcdefghijklmnopqrst")
		}
	}
}

func TestTTL(t *testing.T) {
	for _, c := range []struct {
		ttls []int
		want int
	}{
		{nil, 1 << 20},
		{[]int{3, 2}, 2},
		{[]int{2, 3}, 2},
		{[]int{5, 4, 6}, 4},
		{[]int{7}, 7},
		{[]int{7, 7, 7}, 7},
		{[]int{0}, 0},
		{[]int{9, 0, 9}, 0},
		{[]int{api.MaxTTL}, api.MaxTTL},
		{[]int{api.MaxTTL, api.MaxTTL - 1}, api.MaxTTL - 1},
		// the least one, whatever it is
		{[]int{api.MaxTTL + 1}, api.MaxTTL + 1},
		{[]int{math.MaxInt, api.MaxTTL + 2}, api.MaxTTL + 2},
		{[]int{math.MaxInt}, math.MaxInt},
		{[]int{-1}, -1},
		{[]int{0, -3, -2}, -3},
		{[]int{1, math.MinInt, 1}, math.MinInt},
	} {
		var l []api.Record
		for _, ttl := range c.ttls {
			l = append(l, rec("a", ttl))
		}
		kept := slices.Clone(l)
		if got := cache.TTL(l...); got != c.want {
			t.Errorf("TTL of %d = %d, not %d", c.ttls, got, c.want)
		}
		if !slices.Equal(l, kept) {
			t.Errorf("TTL changed %v to %v", kept, l)
		}
	}
	if got := cache.TTL([]api.Record{}...); got != api.MaxTTL {
		t.Errorf("TTL of an empty list = %d", got)
	}
}

// What is handed in is neither changed nor kept, and what is answered is new memory.
func TestMemory(t *testing.T) {
	c := cache.New(2)
	l := append(make([]api.Record, 0, 9), rec("a", 8), rec("b", 9))
	c.Put(0, ask("a"), api.Success, l, 9)
	c.Put(0, ask("b"), api.Success, l, 9)
	c.Get(5, ask("a"))
	if !slices.Equal(l, []api.Record{rec("a", 8), rec("b", 9)}) {
		t.Fatalf("the list handed in is %v", l)
	}
	clear(l)
	_ = append(l, rec("c", 1))
	want := []api.Record{rec("a", 6), rec("b", 7)}
	wantGet(t, c, 2, ask("a"), api.Success, want...)
	_, one := c.Get(2, ask("a"))
	_, two := c.Get(2, ask("a"))
	clear(one)
	_ = append(one[:1], rec("x", 1), rec("y", 2), rec("z", 3))
	if !slices.Equal(two, want) {
		t.Fatalf("another answer is %v", two)
	}
	wantGet(t, c, 2, ask("a"), api.Success, want...)
	wantGet(t, c, 2, ask("b"), api.Success, want...)
	// an answer stays as it is, whatever is done to the cache
	c.Put(2, ask("a"), api.NotFound, nil, 9)
	c.Put(2, ask("c"), api.Success, []api.Record{rec("c", 3), rec("c", 4)}, 9)
	c.Expire(50)
	c.Clear()
	c.Put(60, ask("a"), api.Success, []api.Record{rec("d", 3), rec("d", 4)}, 9)
	if !slices.Equal(two, want) {
		t.Fatalf("an answer came to be %v", two)
	}
}

func TestNil(t *testing.T) {
	var c *cache.Cache
	for range 2 {
		wantLen(t, c, 0)
		wantGet(t, c, 0, ask("a"), 0)
		c.Put(0, ask("a"), api.Success, []api.Record{rec("a", 9)}, 9)
		c.Expire(0)
		c.Clear()
	}
}

// No number makes a call panic.
func TestAnyNumbers(t *testing.T) {
	all := []int{math.MinInt, math.MinInt + 1, -api.MaxTTL, -1, 0, 1, api.MaxTTL, math.MaxInt - 1, math.MaxInt}
	for _, size := range all {
		c := cache.New(size)
		for _, a := range all {
			for _, b := range all {
				q := api.Question{Name: strconv.Itoa(a), Type: b}
				c.Put(a, q, b, []api.Record{{TTL: a}, {TTL: b}}, b)
				for _, now := range all {
					if _, l := c.Get(now, q); len(l) > 0 && (l[0].TTL < 0 || l[1].TTL < 0) {
						t.Fatal(size, a, b, now, l)
					}
					put(c, now, "a", a)
				}
				c.Expire(b)
				if c.Len() < 0 || c.Len() > 16 {
					t.Fatal(size, a, b, c.Len())
				}
			}
		}
	}
}
