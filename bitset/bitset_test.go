package bitset_test

import (
	"bytes"
	"encoding/binary"
	"math"
	"slices"
	"testing"

	"lamina/api"
	"lamina/bitset"
)

const maxN = 1048576

// sizes are the values of N of the samples: those around the ends of words, and the limit.
func sizes() []int {
	return []int{0, 1, 2, 5, 63, 64, 65, 127, 128, 129, 200, 1000, maxN - 1, maxN}
}

// outside are integers that no set of the samples contains, whatever its N.
func outside() []int {
	return []int{math.MinInt, math.MinInt + 1, -65, -64, -1, maxN, maxN + 1, maxN + 64, 1 << 40, math.MaxInt - 1, math.MaxInt}
}

// rules are what tells the elements of the sample sets.
func rules() []func(i int) bool {
	mixed := func(i int) uint64 { return (uint64(i) + 7) * 0x9E3779B97F4A7C15 >> 32 }
	return []func(i int) bool{
		func(i int) bool { return false },
		func(i int) bool { return true },
		func(i int) bool { return i%2 == 0 },
		func(i int) bool { return i%2 == 1 },
		func(i int) bool { return i%64 == 63 },
		func(i int) bool { return i%64 == 0 },
		func(i int) bool { return i == 0 },
		func(i int) bool { return i >= 64 },
		func(i int) bool { return i < 64 },
		func(i int) bool { return i/64%2 == 1 },
		func(i int) bool { return i/50%2 == 1 },
		func(i int) bool { return i/300%2 == 0 },
		func(i int) bool { return mixed(i)%2 == 0 },
		func(i int) bool { return mixed(i)%17 == 0 },
		func(i int) bool { return mixed(i)%17 != 0 },
	}
}

// sample is a set and what it is a set of.
type sample struct {
	n        int
	elements []int
	member   []bool
	set      api.Bitset
}

// newSample builds the set by its definition, without package bitset.
func newSample(n int, rule func(i int) bool) sample {
	x := sample{n: n, member: make([]bool, n), set: api.Bitset{N: n, Words: make([]uint64, (n+63)/64)}}
	for i := range n {
		if rule(i) {
			x.elements = append(x.elements, i)
			x.member[i] = true
			x.set.Words[i/64] |= 1 << (i % 64)
		}
	}
	return x
}

// samples returns a set for each rule and each size up to limit.
func samples(limit int) []sample {
	var all []sample
	for _, n := range sizes() {
		for _, rule := range rules() {
			if n <= limit {
				all = append(all, newSample(n, rule))
			}
		}
	}
	return all
}

func equal(a, b api.Bitset) bool {
	return a.N == b.N && slices.Equal(a.Words, b.Words)
}

func clone(s api.Bitset) api.Bitset {
	return api.Bitset{N: s.N, Words: slices.Clone(s.Words)}
}

// short describes s in a failure, without the words of a great one.
func short(s api.Bitset) any {
	if len(s.Words) <= 4 {
		return s
	}
	return s.N
}

func set(n int, words ...uint64) api.Bitset {
	return api.Bitset{N: n, Words: words}
}

// P3.1

func TestNewReturnsTheEmptySet(t *testing.T) {
	for _, n := range append(sizes(), 3, 66, 4096) {
		if got := bitset.New(n); !equal(got, api.Bitset{N: n, Words: make([]uint64, (n+63)/64)}) {
			t.Errorf("New(%d) = %v", n, short(got))
		}
	}
}

func TestNewOfAnInvalidSizeHasNoIntegers(t *testing.T) {
	for _, n := range []int{math.MinInt, -64, -1, maxN + 1, 2 * maxN, math.MaxInt - 63, math.MaxInt} {
		if got := bitset.New(n); got.N != 0 || len(got.Words) != 0 {
			t.Errorf("New(%d) = %v", n, short(got))
		}
		if got := bitset.Of(n, 0, 1, n-1); got.N != 0 || len(got.Words) != 0 {
			t.Errorf("Of(%d, 0, 1, n-1) = %v", n, short(got))
		}
	}
}

func TestOfAddsTheElementsInRange(t *testing.T) {
	for _, c := range []struct {
		n        int
		elements []int
		want     api.Bitset
	}{
		{5, []int{1, 3}, set(5, 0b01010)},
		{5, []int{3, 1}, set(5, 0b01010)},
		{5, []int{1, 3, 1, 3, 3}, set(5, 0b01010)},
		{5, nil, set(5, 0)},
		{5, []int{-1, 5, 64, 6}, set(5, 0)},
		{5, []int{4, 0}, set(5, 0b10001)},
		{0, []int{0, -1, 1}, set(0)},
		{64, []int{63, 64}, set(64, 1<<63)},
		{65, []int{64, 65}, set(65, 0, 1)},
		{130, []int{0, 63, 64, 127, 128, 129, 130}, set(130, 1|1<<63, 1|1<<63, 3)},
	} {
		if got := bitset.Of(c.n, c.elements...); !equal(got, c.want) {
			t.Errorf("Of(%d, %v) = %v, want %v", c.n, c.elements, got, c.want)
		}
	}
	for _, x := range samples(maxN) {
		if got := bitset.Of(x.n, append(outside(), x.elements...)...); !equal(got, x.set) {
			t.Errorf("Of(%d, outside and %d elements) = %v", x.n, len(x.elements), short(got))
		}
	}
}

func TestValid(t *testing.T) {
	for _, x := range samples(maxN) {
		if !bitset.Valid(x.set) {
			t.Errorf("Valid(%v) = false", short(x.set))
		}
	}
	if !bitset.Valid(api.Bitset{}) || !bitset.Valid(api.Bitset{Words: []uint64{}}) {
		t.Error("the set with N = 0 is not valid")
	}
	for _, s := range []api.Bitset{
		{N: -1}, {N: -64}, {N: math.MinInt}, {N: -1, Words: make([]uint64, 1)},
		{N: maxN + 1, Words: make([]uint64, maxN/64+1)},
		{N: maxN + 64, Words: make([]uint64, maxN/64+1)},
		{N: math.MaxInt}, {N: math.MaxInt - 62},
		set(0, 0), set(1), set(64), set(64, 0, 0), set(65, 0), set(65, 0, 0, 0), set(5, 0, 0),
		set(1, 2), set(1, 3), set(5, 1<<5), set(5, 1<<63), set(63, 1<<63), set(63, math.MaxUint64),
		set(65, 0, 2), set(65, 0, 1<<63), set(127, 0, 1<<63), set(129, 0, 0, 2),
	} {
		if bitset.Valid(s) {
			t.Errorf("Valid(%v) = true", short(s))
		}
	}
}

func TestValidChecksEveryUnusedBit(t *testing.T) {
	for n := range 130 {
		words := make([]uint64, (n+63)/64)
		for i := range 64 * len(words) {
			words[i/64] ^= 1 << (i % 64)
			if got := bitset.Valid(set(n, words...)); got != (i < n) {
				t.Errorf("N = %d and the element %d: Valid = %v", n, i, got)
			}
			words[i/64] ^= 1 << (i % 64)
		}
	}
}

// P3.2

func TestContains(t *testing.T) {
	for _, x := range samples(1000) {
		for i := -130; i < x.n+130; i++ {
			want := 0 <= i && i < x.n && x.member[i]
			if got := bitset.Contains(x.set, i); got != want {
				t.Errorf("Contains(%v, %d) = %v", short(x.set), i, got)
			}
		}
		for _, i := range outside() {
			if bitset.Contains(x.set, i) {
				t.Errorf("Contains(%v, %d) = true", short(x.set), i)
			}
		}
	}
	if s := bitset.Of(maxN, maxN-1); !bitset.Contains(s, maxN-1) || bitset.Contains(s, maxN-2) || bitset.Contains(s, maxN) {
		t.Error("Contains at the end of the largest set")
	}
}

func TestSetAddsAndRemoves(t *testing.T) {
	for _, x := range samples(200) {
		before := clone(x.set)
		for i := range x.n {
			for _, on := range []bool{false, true} {
				want := clone(x.set)
				want.Words[i/64] &^= 1 << (i % 64)
				if on {
					want.Words[i/64] |= 1 << (i % 64)
				}
				if got := bitset.Set(x.set, i, on); !equal(got, want) {
					t.Errorf("Set(%v, %d, %v) = %v", x.set, i, on, got)
				}
			}
		}
		if !equal(x.set, before) {
			t.Errorf("Set changed its argument to %v", x.set)
		}
	}
}

func TestSetOutsideReturnsTheSameSet(t *testing.T) {
	for _, x := range samples(1000) {
		for _, i := range append(outside(), x.n, x.n+1, x.n+63, x.n+64) {
			for _, on := range []bool{false, true} {
				if got := bitset.Set(x.set, i, on); !equal(got, x.set) {
					t.Errorf("Set(%v, %d, %v) = %v", short(x.set), i, on, short(got))
				}
			}
		}
	}
}

func TestSetReturnsNewMemory(t *testing.T) {
	for _, i := range []int{-1, 0, 3, 5} {
		s := set(5, 0b01010)
		got := bitset.Set(s, i, true)
		got.Words[0] = 0
		if !equal(s, set(5, 0b01010)) {
			t.Errorf("Set(s, %d, true) shares memory with s", i)
		}
	}
}

func TestCount(t *testing.T) {
	for _, x := range samples(maxN) {
		if got := bitset.Count(x.set); got != len(x.elements) {
			t.Errorf("Count(%v) = %d, want %d", short(x.set), got, len(x.elements))
		}
	}
	if got := bitset.Count(api.Bitset{}); got != 0 {
		t.Errorf("Count of the set with N = 0 is %d", got)
	}
}

// P3.3

func TestRank(t *testing.T) {
	for _, x := range samples(1000) {
		rank := 0
		for i := range x.n {
			if got := bitset.Rank(x.set, i); got != rank {
				t.Errorf("Rank(%v, %d) = %d, want %d", short(x.set), i, got, rank)
			}
			if x.member[i] {
				rank++
			}
		}
		for _, i := range append(outside(), x.n, x.n+1, x.n+64, x.n+1000) {
			want := 0
			if i > 0 {
				want = len(x.elements)
			}
			if got := bitset.Rank(x.set, i); got != want {
				t.Errorf("Rank(%v, %d) = %d, want %d", short(x.set), i, got, want)
			}
		}
	}
	if got := bitset.Rank(bitset.Of(5, 1, 3), 3); got != 1 {
		t.Errorf("Rank of the example is %d", got)
	}
}

func TestSelect(t *testing.T) {
	for _, x := range samples(1000) {
		for k, i := range x.elements {
			if got := bitset.Select(x.set, k); got != i {
				t.Errorf("Select(%v, %d) = %d, want %d", short(x.set), k, got, i)
			}
		}
		count := len(x.elements)
		for _, k := range append(outside(), count, count+1, count+64) {
			if got := bitset.Select(x.set, k); got != -1 {
				t.Errorf("Select(%v, %d) = %d, want -1", short(x.set), k, got)
			}
		}
	}
	if got := bitset.Select(bitset.Of(5, 1, 3), 1); got != 3 {
		t.Errorf("Select of the example is %d", got)
	}
}

func TestAllYieldsElementsInOrder(t *testing.T) {
	for _, x := range samples(maxN) {
		elements := bitset.All(x.set)
		for run := range 2 { // an iterator may be run again
			if got := slices.Collect(elements); !slices.Equal(got, x.elements) {
				t.Errorf("run %d of All(%v) yields %d elements, want %d", run, short(x.set), len(got), len(x.elements))
			}
		}
	}
}

func TestAllStopsWhenAsked(t *testing.T) {
	for _, x := range samples(200) {
		elements := bitset.All(x.set)
		for limit := 1; limit <= len(x.elements); limit++ {
			var got []int
			for i := range elements {
				if got = append(got, i); len(got) == limit {
					break
				}
			}
			if !slices.Equal(got, x.elements[:limit]) {
				t.Errorf("the first %d elements of All(%v) are %v", limit, short(x.set), got)
			}
		}
		if got := slices.Collect(elements); !slices.Equal(got, x.elements) {
			t.Errorf("All(%v) after partial runs yields %v", short(x.set), got)
		}
	}
}

func TestAllKeepsNoArgument(t *testing.T) {
	s := bitset.Of(100, 1, 70)
	elements := bitset.All(s)
	s.Words[0], s.Words[1] = 0, 1
	if got := slices.Collect(elements); !slices.Equal(got, []int{1, 70}) {
		t.Errorf("All yields %v after a change of its argument", got)
	}
}

// P3.4

// operation is a set operation and what tells the elements of its result.
type operation struct {
	apply  func(a, b api.Bitset) api.Bitset
	member func(x, y bool) bool
}

func operations() map[string]operation {
	return map[string]operation{
		"And":    {bitset.And, func(x, y bool) bool { return x && y }},
		"Or":     {bitset.Or, func(x, y bool) bool { return x || y }},
		"AndNot": {bitset.AndNot, func(x, y bool) bool { return x && !y }},
	}
}

func TestOperationsOnAllSizes(t *testing.T) {
	all := samples(200)
	for _, a := range all {
		for _, b := range all {
			beforeA, beforeB := clone(a.set), clone(b.set)
			for name, op := range operations() {
				want := newSample(max(a.n, b.n), func(i int) bool {
					return op.member(i < a.n && a.member[i], i < b.n && b.member[i])
				})
				if got := op.apply(a.set, b.set); !equal(got, want.set) {
					t.Errorf("%s(%v, %v) = %v, want %v", name, a.set, b.set, got, want.set)
				}
			}
			if !equal(a.set, beforeA) || !equal(b.set, beforeB) {
				t.Fatal("an operation changed its arguments")
			}
		}
	}
}

func TestOperationsOnTheLargestSets(t *testing.T) {
	a, b := newSample(maxN, rules()[12]), newSample(maxN, rules()[10])
	small := newSample(70, rules()[1])
	for name, op := range operations() {
		for _, pair := range [][2]sample{{a, b}, {a, small}, {small, b}} {
			x, y := pair[0], pair[1]
			want := newSample(maxN, func(i int) bool {
				return op.member(i < x.n && x.member[i], i < y.n && y.member[i])
			})
			if !equal(op.apply(x.set, y.set), want.set) {
				t.Errorf("%s of sets with N = %d and %d", name, x.n, y.n)
			}
		}
	}
}

func TestNot(t *testing.T) {
	for _, x := range samples(maxN) {
		before := clone(x.set)
		want := newSample(x.n, func(i int) bool { return !x.member[i] })
		if got := bitset.Not(x.set); !equal(got, want.set) {
			t.Errorf("Not(%v) = %v, want %v", short(x.set), short(got), short(want.set))
		}
		if !equal(x.set, before) {
			t.Errorf("Not changed its argument to %v", short(x.set))
		}
	}
}

func TestOperationsReturnNewMemory(t *testing.T) {
	for name, op := range operations() {
		for _, pair := range [][2]api.Bitset{{set(5, 9), set(5, 9)}, {set(5, 9), set(0)}, {set(0), set(5, 9)}, {set(5, 0), set(5, 9)}} {
			a, b := clone(pair[0]), clone(pair[1])
			got := op.apply(a, b)
			for w := range got.Words {
				got.Words[w] = ^got.Words[w]
			}
			if !equal(a, pair[0]) || !equal(b, pair[1]) {
				t.Errorf("the result of %s(%v, %v) shares memory with an argument", name, pair[0], pair[1])
			}
		}
	}
}

// P3.5

// slowEncode follows the definition bit by bit.
func slowEncode(x sample) []byte {
	b := binary.AppendUvarint(nil, uint64(x.n))
	on, length := false, uint64(0)
	for _, member := range x.member {
		if member != on {
			b = binary.AppendUvarint(b, length)
			on, length = member, 0
		}
		length++
	}
	if x.n > 0 {
		b = binary.AppendUvarint(b, length)
	}
	return b
}

func TestEncode(t *testing.T) {
	for _, c := range []struct {
		s    api.Bitset
		want []byte
	}{
		{bitset.Of(5, 1, 3), []byte{5, 1, 1, 1, 1, 1}},
		{bitset.Of(2, 0, 1), []byte{2, 0, 2}},
		{bitset.Of(0), []byte{0}},
		{api.Bitset{}, []byte{0}},
		{bitset.Of(1), []byte{1, 1}},
		{bitset.Of(1, 0), []byte{1, 0, 1}},
		{bitset.Of(3, 0), []byte{3, 0, 1, 2}},
		{bitset.Of(3, 2), []byte{3, 2, 1}},
		{bitset.Of(64), []byte{64, 64}},
		{bitset.Not(bitset.New(64)), []byte{64, 0, 64}},
		{bitset.Not(bitset.New(70)), []byte{70, 0, 70}},
		{bitset.Of(130, 63, 64), []byte{0x82, 1, 63, 2, 65}},
		{bitset.New(maxN), []byte{0x80, 0x80, 0x40, 0x80, 0x80, 0x40}},
		{bitset.Of(maxN, maxN-1), []byte{0x80, 0x80, 0x40, 0xff, 0xff, 0x3f, 1}},
	} {
		if got := bitset.Encode(c.s); !bytes.Equal(got, c.want) {
			t.Errorf("Encode(%v) = %x, want %x", short(c.s), got, c.want)
		}
	}
	for _, x := range samples(maxN) {
		if !bytes.Equal(bitset.Encode(x.set), slowEncode(x)) {
			t.Errorf("Encode(%v) does not follow the definition", short(x.set))
		}
	}
}

func TestDecodeReadsAtOffset(t *testing.T) {
	for _, x := range samples(maxN) {
		code := slowEncode(x)
		for _, tail := range [][]byte{nil, {0}, {1, 1}, {0x80}} { // what follows is not read
			b := append(append([]byte{9, 0x80}, code...), tail...)
			got, next, e := bitset.Decode(b, 2)
			if e != api.OK || next != 2+len(code) || !equal(got, x.set) {
				t.Errorf("Decode of %v = %v, %d, %v", short(x.set), short(got), next, e)
			}
		}
	}
}

func TestDecodeErrors(t *testing.T) {
	varint := func(n uint64, tail ...byte) []byte { return append(binary.AppendUvarint(nil, n), tail...) }
	hugeRun := func(n byte, first ...byte) []byte {
		return binary.AppendUvarint(append([]byte{n}, first...), math.MaxUint64)
	}
	for _, c := range []struct {
		b      []byte
		offset int
		want   api.Errno
	}{
		// the error of varint.Decode for N
		{nil, -1, api.ErrArg},
		{nil, 1, api.ErrArg},
		{[]byte{0}, 2, api.ErrArg},
		{[]byte{0}, math.MinInt, api.ErrArg},
		{[]byte{0}, math.MaxInt, api.ErrArg},
		{nil, 0, api.ErrShort},
		{[]byte{0}, 1, api.ErrShort},
		{[]byte{0x85}, 0, api.ErrShort},
		{[]byte{0x85, 0}, 0, api.ErrFormat},
		{bytes.Repeat([]byte{0xff}, 10), 0, api.ErrFormat},
		// N out of range, before any run is read
		{varint(maxN + 1), 0, api.ErrRange},
		{varint(maxN+1, 0x80, 0), 0, api.ErrRange},
		{append(varint(maxN+1), varint(maxN+1)...), 0, api.ErrRange},
		{varint(1 << 32), 0, api.ErrRange},
		{varint(1<<32 + 5), 0, api.ErrRange},
		{varint(1 << 63), 0, api.ErrRange},
		{varint(math.MaxUint64), 0, api.ErrRange},
		// the error of varint.Decode for a run
		{[]byte{5}, 0, api.ErrShort},
		{varint(maxN), 0, api.ErrShort},
		{[]byte{5, 4}, 0, api.ErrShort},
		{[]byte{5, 0}, 0, api.ErrShort},
		{[]byte{5, 1, 1, 1, 1}, 0, api.ErrShort},
		{[]byte{5, 1, 0x81}, 0, api.ErrShort},
		{[]byte{5, 0x85, 0}, 0, api.ErrFormat},
		{[]byte{5, 1, 0x84, 0}, 0, api.ErrFormat},
		// an empty run that is not the first one
		{[]byte{5, 0, 0, 5}, 0, api.ErrFormat},
		{[]byte{5, 1, 0, 4}, 0, api.ErrFormat},
		{[]byte{5, 0, 2, 0, 3}, 0, api.ErrFormat},
		{[]byte{5, 4, 0}, 0, api.ErrFormat},
		{[]byte{5, 1, 0, 0x80}, 0, api.ErrFormat}, // the first error decides
		// runs that exceed N
		{[]byte{5, 6}, 0, api.ErrFormat},
		{[]byte{5, 0, 6}, 0, api.ErrFormat},
		{[]byte{5, 3, 3}, 0, api.ErrFormat},
		{[]byte{5, 1, 1, 1, 1, 2}, 0, api.ErrFormat},
		{[]byte{64, 65}, 0, api.ErrFormat},
		{append(varint(maxN), varint(maxN+1)...), 0, api.ErrFormat},
		{hugeRun(5), 0, api.ErrFormat},
		{hugeRun(5, 0), 0, api.ErrFormat},
		{hugeRun(5, 3), 0, api.ErrFormat},
		{hugeRun(5, 1, 2), 0, api.ErrFormat},
		{append([]byte{5, 3}, varint(1<<63)...), 0, api.ErrFormat},
		{append([]byte{5, 3}, varint(1<<32+2)...), 0, api.ErrFormat},
	} {
		if s, next, e := bitset.Decode(c.b, c.offset); s.N != 0 || len(s.Words) != 0 || next != 0 || e != c.want {
			t.Errorf("Decode(%x, %d) = %v, %d, %v, want %v", c.b, c.offset, short(s), next, e, c.want)
		}
	}
}

// slowDecode follows the definition for bytes that are varints of one byte each.
func slowDecode(b []byte) (sample, int, api.Errno) {
	if len(b) == 0 {
		return sample{}, 0, api.ErrShort
	}
	n, at, on := int(b[0]), 1, false
	var member []bool
	for len(member) < n {
		if at == len(b) {
			return sample{}, 0, api.ErrShort
		}
		if b[at] == 0 && at != 1 || len(member)+int(b[at]) > n {
			return sample{}, 0, api.ErrFormat
		}
		for range b[at] {
			member = append(member, on)
		}
		at, on = at+1, !on
	}
	return newSample(n, func(i int) bool { return member[i] }), at, api.OK
}

// TestDecodeOfAllShortInputs tries every sequence of up to six bytes that are less than 6.
func TestDecodeOfAllShortInputs(t *testing.T) {
	var visit func(b []byte)
	visit = func(b []byte) {
		want, wantNext, wantError := slowDecode(b)
		got, next, e := bitset.Decode(b, 0)
		if e != wantError || next != wantNext || !equal(got, want.set) {
			t.Errorf("Decode(%v, 0) = %v, %d, %v, want %v, %d, %v", b, got, next, e, want.set, wantNext, wantError)
		}
		if len(b) == 6 {
			return
		}
		for c := range 6 {
			visit(append(b, byte(c)))
		}
	}
	visit(make([]byte, 0, 6))
}

// P3.6

func TestSelectAndRankAreInverse(t *testing.T) {
	for _, x := range samples(1000) {
		for _, i := range x.elements {
			if got := bitset.Select(x.set, bitset.Rank(x.set, i)); got != i {
				t.Errorf("%v: Select of the Rank of %d is %d", short(x.set), i, got)
			}
		}
		for k := range bitset.Count(x.set) {
			if got := bitset.Rank(x.set, bitset.Select(x.set, k)); got != k {
				t.Errorf("%v: Rank of Select of %d is %d", short(x.set), k, got)
			}
		}
	}
}

func TestAndNotIsAndOfNot(t *testing.T) {
	all := samples(1000)
	for _, a := range all {
		for _, b := range all {
			if a.n != b.n {
				continue
			}
			got, want := bitset.AndNot(a.set, b.set), bitset.And(a.set, bitset.Not(b.set))
			if !equal(got, want) {
				t.Errorf("AndNot(%v, %v) = %v, want %v", short(a.set), short(b.set), short(got), short(want))
			}
		}
	}
}

// P3.7

func TestDecodeInvertsEncode(t *testing.T) {
	for _, x := range samples(maxN) {
		b := bitset.Encode(x.set)
		got, next, e := bitset.Decode(b, 0)
		if e != api.OK || next != len(b) || !equal(got, x.set) {
			t.Errorf("Decode(Encode(%v)) = %v, %d, %v", short(x.set), short(got), next, e)
		}
	}
}

func TestAcceptedBytesAreEncodedAgain(t *testing.T) {
	accepted := 0
	for i := range uint64(200000) {
		b := make([]byte, 8)
		binary.LittleEndian.PutUint64(b, (i+1)*0x9E3779B97F4A7C15)
		for j := range b { // small runs after a small N are accepted more often
			b[j] %= 7
		}
		if i%3 == 0 {
			b[0], b[1] = 0x80|b[0], 1
		}
		s, next, e := bitset.Decode(b, 0)
		if e != api.OK {
			continue
		}
		accepted++
		if !bitset.Valid(s) || !bytes.Equal(bitset.Encode(s), b[:next]) {
			t.Errorf("Decode(%x, 0) = %v, %d, but Encode returns %x", b, s, next, bitset.Encode(s))
		}
	}
	if accepted < 1000 {
		t.Errorf("only %d inputs were accepted", accepted)
	}
}

// Results are valid sets, so that every function accepts them again.
func TestResultsAreValid(t *testing.T) {
	for _, x := range samples(1000) {
		decoded, _, _ := bitset.Decode(bitset.Encode(x.set), 0)
		for _, s := range []api.Bitset{
			bitset.New(x.n), bitset.Of(x.n, x.elements...), bitset.Set(x.set, x.n-1, true), bitset.Not(x.set), decoded,
			bitset.And(x.set, bitset.New(77)), bitset.Or(x.set, bitset.New(77)), bitset.AndNot(x.set, bitset.New(77)),
		} {
			if !bitset.Valid(s) {
				t.Errorf("a result for %v is not valid: %v", short(x.set), short(s))
			}
		}
	}
}

// A call never panics, even for sets that are not valid.
func TestInvalidSetsDoNoHarm(t *testing.T) {
	invalid := []api.Bitset{
		{N: -1}, {N: math.MinInt}, {N: math.MaxInt}, {N: math.MaxInt, Words: []uint64{5, 9}}, {N: 200}, {N: 200, Words: []uint64{7}},
		set(0, 1, 2), set(5, math.MaxUint64), set(5, 1<<60), set(5, 1, 2, 3), {N: -64, Words: []uint64{1}}, {N: maxN + 1, Words: []uint64{1}},
	}
	for _, s := range invalid {
		bitset.Valid(s)
		bitset.Count(s)
		bitset.Not(s)
		bitset.Encode(s)
		for range bitset.All(s) {
		}
		for _, i := range append(outside(), 0, 5, 64, 100, 199) {
			bitset.Contains(s, i)
			bitset.Set(s, i, true)
			bitset.Set(s, i, false)
			bitset.Rank(s, i)
			bitset.Select(s, i)
		}
		for _, other := range append(invalid, bitset.Of(70, 3)) {
			for _, op := range operations() {
				op.apply(s, other)
				op.apply(other, s)
			}
		}
	}
}
