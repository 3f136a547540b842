package script

import (
	"nomenclator/api"
)

// A reader has what isn't read yet.
type reader struct {
	left []byte
}

func (r *reader) over() bool { return len(r.left) == 0 }

// take: the next n bytes, or as many as are there.
func (r *reader) take(n int) []byte {
	n = min(n, len(r.left))
	b := r.left[:n]
	r.left = r.left[n:]
	return b
}

// number: that of the next n bytes; bytes that aren't there don't move those that are.
func (r *reader) number(n int) int {
	x := 0
	for _, c := range r.take(n) {
		x = x<<8 | int(c)
	}
	return x
}

func (r *reader) text() string { return string(r.take(r.number(1))) }

func (r *reader) addr() api.Addr {
	var a api.Addr
	copy(a[:], r.take(len(a)))
	return a
}

func (r *reader) local() api.Local { return api.Local{Addr: r.addr()} }

// several: n of them, but for those of which nothing is there any more.
func several[T any](r *reader, n int, next func() T) []T {
	var l []T
	for range n {
		if r.over() {
			break
		}
		l = append(l, next())
	}
	return l
}
