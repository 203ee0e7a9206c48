package sketch

import (
	"math"

	"lamina/api"
	"lamina/value"
	"lamina/varint"
)

const maxNumber = math.MaxInt32 // of an encoded sketch, but for the hashes

// Encode returns the fields of s, one after the other (P16.3).
func Encode(s api.Sketch) []byte {
	var b []byte
	number := func(n int) { b = append(b, varint.Encode(uint64(n))...) }
	number(s.Rows)
	number(s.Nulls)
	number(len(s.MinHashes))
	previous := uint64(0)
	for _, hash := range s.MinHashes {
		b = append(b, varint.Encode(hash-previous)...)
		previous = hash
	}
	complete := byte(0)
	if s.Complete {
		complete = 1
	}
	b = append(b, complete)
	for _, count := range s.CountMin {
		number(count)
	}
	number(len(s.Fences))
	for i, fence := range s.Fences {
		b = append(b, value.Encode(fence)...)
		number(rank(s, 2*i))
		number(rank(s, 2*i+1))
	}
	return b
}

// Decode reads the sketch that Encode wrote at offset and returns it and the offset after it (P16.3).
func Decode(b []byte, offset int) (api.Sketch, int, api.Errno) {
	r := reader{b: b, next: offset}
	s := r.sketch()
	if r.e == api.OK && !Valid(s) {
		r.e = api.ErrFormat
	}
	if r.e != api.OK {
		return api.Sketch{}, 0, r.e
	}
	return s, r.next, api.OK
}

// reader reads one field of b after the other. After the first error it reads nothing but zero values.
type reader struct {
	b    []byte
	next int
	e    api.Errno
}

// sketch reads a sketch, which need not be valid.
func (r *reader) sketch() api.Sketch {
	s := api.Sketch{}
	s.Rows = r.number()
	s.Nulls = r.number()
	s.MinHashes = r.hashes()
	s.Complete = r.flag()
	s.CountMin = r.numbers(allCounters)
	for range r.count(maxFences) {
		s.Fences = append(s.Fences, r.value())
		s.Ranks = append(s.Ranks, r.numbers(2)...)
	}
	return s
}

// varint reads a number of any size.
func (r *reader) varint() uint64 {
	if r.e != api.OK {
		return 0
	}
	n, next, e := varint.Decode(r.b, r.next)
	r.next, r.e = next, e
	return n
}

// number reads a number that is at most maxNumber.
func (r *reader) number() int {
	n := r.varint()
	if n > maxNumber {
		r.e = api.ErrRange
		return 0
	}
	return int(n)
}

func (r *reader) numbers(count int) []int {
	all := make([]int, count)
	for i := range all {
		all[i] = r.number()
	}
	return all
}

// count reads the length of a list that has at most limit elements.
func (r *reader) count(limit int) int {
	n := r.number()
	if n > limit {
		r.e = api.ErrCount
		return 0
	}
	return n
}

func (r *reader) hashes() []uint64 {
	all := make([]uint64, r.count(maxHashes))
	hash := uint64(0)
	for i := range all {
		hash += r.varint() // wraps round, as the difference does
		all[i] = hash
	}
	return all
}

func (r *reader) flag() bool {
	if r.e != api.OK {
		return false
	}
	if r.next == len(r.b) {
		r.e = api.ErrShort
		return false
	}
	c := r.b[r.next]
	if c > 1 {
		r.e = api.ErrFormat
		return false
	}
	r.next++
	return c == 1
}

func (r *reader) value() api.Value {
	if r.e != api.OK {
		return api.Value{}
	}
	v, next, e := value.Decode(r.b, r.next)
	r.next, r.e = next, e
	return v
}
