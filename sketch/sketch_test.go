package sketch_test

import (
	"bytes"
	"math"
	"math/big"
	"slices"
	"strings"
	"testing"

	"lamina/api"
	"lamina/sketch"
	"lamina/value"
)

func null() api.Value          { return api.Value{} }
func number(n int64) api.Value { return api.Value{Kind: api.Int, Int: n} }
func truth(n int64) api.Value  { return api.Value{Kind: api.Bool, Int: n} }
func text(s string) api.Value  { return api.Value{Kind: api.Text, Text: s} }

func types() []int { return []int{api.Null, api.Bool, api.Int, api.Text} }

// alphabet returns NULL and, in increasing order, a few values of the type.
func alphabet(typ int) []api.Value {
	switch typ {
	case api.Bool:
		return []api.Value{null(), truth(0), truth(1)}
	case api.Int:
		return []api.Value{null(), number(math.MinInt64), number(-1), number(0), number(math.MaxInt64)}
	case api.Text:
		return []api.Value{null(), text(""), text("a"), text("a\x00"), text("\xff")}
	}
	return []api.Value{null()}
}

// sequences returns all sequences of up to length elements of the alphabet.
func sequences[T any](alphabet []T, length int) [][]T {
	all := [][]T{{}}
	for start := 0; length > 0; length-- {
		end := len(all)
		for _, s := range all[start:end] {
			for _, x := range alphabet {
				all = append(all, append(slices.Clone(s), x))
			}
		}
		start = end
	}
	return all
}

// numbers are count different Ints from the one with the first number on.
func numbers(first, count int) []api.Value {
	var all []api.Value
	for i := range count {
		all = append(all, number(int64(first+i)))
	}
	return all
}

// scattered are count values of the type, of up to distinct different ones, in no order; every seventh one is NULL if some are to be.
func scattered(typ, count, distinct int, nulls bool) []api.Value {
	var all []api.Value
	state := uint64(count*31 + distinct)
	for i := range count {
		state = state*6364136223846793005 + 1442695040888963407
		x := int64(state >> 33 % uint64(distinct))
		switch {
		case nulls && i%7 == 3:
			all = append(all, null())
		case typ == api.Bool:
			all = append(all, truth(x%2))
		case typ == api.Int:
			all = append(all, number(3*x-int64(distinct)))
		case typ == api.Text:
			all = append(all, text(strings.Repeat("b", int(x%9))+string(rune(x*2))))
		default:
			all = append(all, null())
		}
	}
	return all
}

// longLists are lists with more values than a sketch keeps, and with about as many.
func longLists() [][]api.Value {
	var all [][]api.Value
	for _, typ := range types() {
		for _, count := range []int{0, 1, 7, 15, 16, 17, 18, 19, 31, 32, 33, 34, 35, 64, 100, 333, 1000} {
			for _, distinct := range []int{1, 2, 3, 16, 17, 18, 32, 33, 40, 1000, 1 << 20} {
				all = append(all, scattered(typ, count, distinct, false), scattered(typ, count, distinct, true))
			}
		}
	}
	for count := range 70 {
		all = append(all, numbers(-20, count))
	}
	return all
}

// The model: sketches by their definitions.

// others returns the values that are not NULL.
func others(values []api.Value) []api.Value {
	return slices.DeleteFunc(slices.Clone(values), func(v api.Value) bool { return v == null() })
}

// count returns how many of the values are as asked for.
func count(values []api.Value, asked func(api.Value) bool) int {
	n := 0
	for _, v := range values {
		if asked(v) {
			n++
		}
	}
	return n
}

func countLess(values []api.Value, than api.Value) int {
	return count(values, func(v api.Value) bool { return value.Compare(v, than) < 0 })
}

func countAtMost(values []api.Value, than api.Value) int {
	return count(values, func(v api.Value) bool { return value.Compare(v, than) <= 0 })
}

// hashesOf returns the smallest hashes of the values and whether these are all.
func hashesOf(values []api.Value) ([]uint64, bool) {
	seen := map[uint64]bool{}
	for _, v := range values {
		seen[value.Hash(3, v)] = true
	}
	return cutHashes(seen)
}

func cutHashes(seen map[uint64]bool) ([]uint64, bool) {
	var all []uint64
	for h := range seen {
		all = append(all, h)
	}
	slices.Sort(all)
	if len(all) > 32 {
		return all[:32], false
	}
	return all, true
}

// spread returns the values with the indices floor(i(m-1)/16), each once.
func spread(sorted []api.Value) []api.Value {
	var all []api.Value
	for i := 0; i <= 16 && len(sorted) > 0; i++ {
		if v := sorted[i*(len(sorted)-1)/16]; !slices.Contains(all, v) {
			all = append(all, v)
		}
	}
	return all
}

func sketchOf(values []api.Value) api.Sketch {
	present := others(values)
	s := api.Sketch{Rows: len(values), Nulls: len(values) - len(present), CountMin: make([]int, 256)}
	s.MinHashes, s.Complete = hashesOf(present)
	for _, v := range present {
		for r := range 4 {
			s.CountMin[64*r+int(value.Hash(uint64(4+r), v)%64)]++
		}
	}
	slices.SortFunc(present, value.Compare)
	s.Fences = spread(present)
	for _, f := range s.Fences {
		s.Ranks = append(s.Ranks, countLess(present, f), countAtMost(present, f))
	}
	return s
}

// The rank bounds by their definitions.

func lessMax(s api.Sketch, v api.Value) int {
	for i, f := range s.Fences {
		if value.Compare(f, v) >= 0 {
			return s.Ranks[2*i]
		}
	}
	return s.Rows - s.Nulls
}

func atMostMax(s api.Sketch, v api.Value) int {
	for i, f := range s.Fences {
		if value.Compare(f, v) > 0 {
			return s.Ranks[2*i]
		}
	}
	return s.Rows - s.Nulls
}

func lessMin(s api.Sketch, v api.Value) int {
	for i, f := range slices.Backward(s.Fences) {
		if value.Compare(f, v) < 0 {
			return s.Ranks[2*i+1]
		}
	}
	return 0
}

func atMostMin(s api.Sketch, v api.Value) int {
	for i, f := range slices.Backward(s.Fences) {
		if value.Compare(f, v) <= 0 {
			return s.Ranks[2*i+1]
		}
	}
	return 0
}

func mergeOf(a, b api.Sketch) api.Sketch {
	s := api.Sketch{Rows: a.Rows + b.Rows, Nulls: a.Nulls + b.Nulls}
	for i := range a.CountMin {
		s.CountMin = append(s.CountMin, a.CountMin[i]+b.CountMin[i])
	}
	seen := map[uint64]bool{}
	for _, h := range slices.Concat(a.MinHashes, b.MinHashes) {
		seen[h] = true
	}
	s.MinHashes, s.Complete = cutHashes(seen)
	s.Complete = a.Complete && b.Complete && len(seen) <= 32
	var all []api.Value
	for _, f := range slices.Concat(a.Fences, b.Fences) {
		if !slices.Contains(all, f) {
			all = append(all, f)
		}
	}
	slices.SortFunc(all, value.Compare)
	s.Fences = spread(all)
	for _, f := range s.Fences {
		s.Ranks = append(s.Ranks, lessMax(a, f)+lessMax(b, f), atMostMin(a, f)+atMostMin(b, f))
	}
	return s
}

func bounds(low, high int) api.Bounds { return api.Bounds{Min: int64(low), Max: int64(high)} }

// equalBounds bounds the number of values equal to v, case by case as the promise lists them.
func equalBounds(s api.Sketch, v api.Value) api.Bounds {
	n := s.Rows - s.Nulls
	if v == null() || n == 0 || v.Kind != s.Fences[0].Kind || value.Compare(v, s.Fences[0]) < 0 || value.Compare(v, s.Fences[len(s.Fences)-1]) > 0 {
		return bounds(0, 0)
	}
	if s.Complete && !slices.Contains(s.MinHashes, value.Hash(3, v)) {
		return bounds(0, 0)
	}
	low, high := 0, atMostMax(s, v)-lessMin(s, v)
	if i := slices.Index(s.Fences, v); i >= 0 {
		low = max(0, s.Ranks[2*i+1]-s.Ranks[2*i])
	}
	for r := range 4 {
		high = min(high, s.CountMin[64*r+int(value.Hash(uint64(4+r), v)%64)])
	}
	return bounds(low, high)
}

func lessBounds(s api.Sketch, v api.Value) api.Bounds {
	if v == null() {
		return bounds(0, 0)
	}
	return bounds(lessMin(s, v), lessMax(s, v))
}

func matchingBounds(s api.Sketch, p api.Predicate) api.Bounds {
	n, v := s.Rows-s.Nulls, p.Value
	switch {
	case p.Op == api.PredIsNull:
		return bounds(s.Nulls, s.Nulls)
	case p.Op == api.PredNotNull:
		return bounds(n, n)
	case n == 0 || v == null() || v.Kind != s.Fences[0].Kind:
		return bounds(0, 0)
	case p.Op == api.OpEq:
		return equalBounds(s, v)
	case p.Op == api.OpNe:
		b := equalBounds(s, v)
		return api.Bounds{Min: int64(n) - b.Max, Max: int64(n) - b.Min}
	case p.Op == api.OpLt:
		return bounds(lessMin(s, v), lessMax(s, v))
	case p.Op == api.OpLe:
		return bounds(atMostMin(s, v), atMostMax(s, v))
	case p.Op == api.OpGt:
		return bounds(n-atMostMax(s, v), n-atMostMin(s, v))
	case p.Op == api.OpGe:
		return bounds(n-lessMax(s, v), n-lessMin(s, v))
	}
	return bounds(0, 0)
}

func distinctBounds(s api.Sketch) api.Bounds {
	b := bounds(len(s.MinHashes), s.Rows-s.Nulls)
	if !s.Complete {
		b.Min++
	}
	if len(s.Fences) > 0 && s.Fences[0].Kind != api.Text {
		width := new(big.Int).Sub(big.NewInt(s.Fences[len(s.Fences)-1].Int), big.NewInt(s.Fences[0].Int))
		width.Add(width, big.NewInt(1))
		if width.Cmp(big.NewInt(b.Max)) < 0 {
			b.Max = width.Int64()
		}
	}
	return b
}

// isSketch reports whether s is valid, condition by condition.
func isSketch(s api.Sketch) bool {
	n := new(big.Int).Sub(big.NewInt(int64(s.Rows)), big.NewInt(int64(s.Nulls)))
	if s.Nulls < 0 || n.Sign() < 0 {
		return false
	}
	return areHashes(s, n) && areCounters(s.CountMin, n) && areFences(s.Fences, n) && areRanks(s, int(n.Int64()))
}

func areHashes(s api.Sketch, n *big.Int) bool {
	length := len(s.MinHashes)
	for i := range length - 1 {
		if s.MinHashes[i] >= s.MinHashes[i+1] {
			return false
		}
	}
	if length > 32 || big.NewInt(int64(length)).Cmp(n) > 0 || n.Sign() > 0 && length < 1 {
		return false
	}
	return s.Complete || length == 32
}

func areCounters(list []int, n *big.Int) bool {
	if len(list) != 256 || slices.Min(list) < 0 {
		return false
	}
	for r := range 4 {
		sum := new(big.Int)
		for _, c := range list[64*r : 64*r+64] {
			sum.Add(sum, big.NewInt(int64(c)))
		}
		if sum.Cmp(n) != 0 {
			return false
		}
	}
	return true
}

func areFences(fences []api.Value, n *big.Int) bool {
	for i, f := range fences {
		if !value.Valid(f) || f == null() || f.Kind != fences[0].Kind || i > 0 && value.Compare(fences[i-1], f) >= 0 {
			return false
		}
	}
	return len(fences) <= 17 && (len(fences) == 0) == (n.Sign() == 0)
}

func areRanks(s api.Sketch, n int) bool {
	if len(s.Ranks) != 2*len(s.Fences) {
		return false
	}
	var first, second []int
	for i, rank := range s.Ranks {
		if rank < 0 || rank > n {
			return false
		}
		if i%2 == 0 {
			first = append(first, rank)
		} else {
			second = append(second, rank)
		}
	}
	for i := range len(first) - 1 {
		if second[i] > first[i+1] {
			return false
		}
	}
	return slices.IsSorted(first) && slices.IsSorted(second) && (len(first) == 0 || first[0] == 0 && second[len(second)-1] == n)
}

// same reports whether a and b are equal; nil and an empty slice are equivalent.
func same(a, b api.Sketch) bool {
	return a.Rows == b.Rows && a.Nulls == b.Nulls && slices.Equal(a.MinHashes, b.MinHashes) && a.Complete == b.Complete &&
		slices.Equal(a.CountMin, b.CountMin) && slices.Equal(a.Fences, b.Fences) && slices.Equal(a.Ranks, b.Ranks)
}

// isZero reports whether s is what stands beside an error.
func isZero(s api.Sketch) bool {
	return same(s, api.Sketch{})
}

// clone returns a sketch that shares no memory with s.
func clone(s api.Sketch) api.Sketch {
	s.MinHashes, s.CountMin = slices.Clone(s.MinHashes), slices.Clone(s.CountMin)
	s.Fences, s.Ranks = slices.Clone(s.Fences), slices.Clone(s.Ranks)
	return s
}

// counters returns 256 counters, of which those with the indices are set.
func counters(set map[int]int) []int {
	all := make([]int, 256)
	for i, c := range set {
		all[i] = c
	}
	return all
}

// evenCounters returns counters of which one in each row counts n values.
func evenCounters(n int) []int {
	return counters(map[int]int{0: n, 65: n, 191: n, 192: n})
}

// spreadCounters returns counters of which each row counts n values, none of them often.
func spreadCounters(n int) []int {
	all := make([]int, 256)
	for r := range 4 {
		for i := range 64 {
			all[64*r+(i+5*r)%64] = (n + i) / 64
		}
	}
	return all
}

// hashes returns count increasing hashes.
func hashes(count int) []uint64 {
	var all []uint64
	for i := range count {
		all = append(all, 1<<40+uint64(i)*0x0123456789abcdef)
	}
	return all
}

// rankLists returns all lists of ranks of count fences that n values may have.
func rankLists(count, n int) [][]int {
	var all [][]int
	for _, ranks := range sequences(upTo(n), 2*count) {
		s := api.Sketch{Fences: numbers(0, count), Ranks: ranks}
		if len(ranks) == 2*count && areRanks(s, n) {
			all = append(all, ranks)
		}
	}
	return all
}

// upTo returns the numbers from 0 to n.
func upTo(n int) []int {
	var all []int
	for i := range n + 1 {
		all = append(all, i)
	}
	return all
}

// strangeSketches are valid, but few of them are those of any values: their ranks, counters and hashes do not fit together.
func strangeSketches() []api.Sketch {
	var all []api.Sketch
	for _, fences := range [][]api.Value{{truth(0)}, {truth(0), truth(1)}, {number(-4)}, {number(0), number(3)}, {number(-4), number(0), number(2)}, {text("a"), text("b"), text("d")}} {
		known := []uint64{value.Hash(3, fences[0])}
		for n := 1; n <= 3; n++ {
			for i, ranks := range rankLists(len(fences), n) {
				s := api.Sketch{Rows: n + i%3, Nulls: i % 3, MinHashes: known, Complete: true, CountMin: evenCounters(n), Fences: fences, Ranks: ranks}
				if i%2 == 1 {
					s.CountMin = spreadCounters(n)
				}
				all = append(all, s)
			}
		}
		// These do not know all hashes, so a value need not have one of them.
		ranks := make([]int, 2*len(fences))
		for i := range fences {
			ranks[2*i], ranks[2*i+1] = 200*i, 200*i+150
		}
		ranks[len(ranks)-1] = 500
		for _, list := range [][]int{evenCounters(500), spreadCounters(500)} {
			all = append(all, api.Sketch{Rows: 500, MinHashes: hashes(32), CountMin: list, Fences: fences, Ranks: ranks})
		}
	}
	return all
}

func TestStrangeSketchesAreValid(t *testing.T) {
	for i, s := range strangeSketches() {
		if !isSketch(s) {
			t.Errorf("sketch %d, %v, is not valid", i, s)
		}
	}
}

// P16.1

// TestBuildOfAFewLists: the hashes and the counters have been computed outside the program.
func TestBuildOfAFewLists(t *testing.T) {
	for _, c := range []struct {
		values []api.Value
		want   api.Sketch
	}{
		{nil, api.Sketch{Complete: true, CountMin: make([]int, 256)}},
		{[]api.Value{null(), null()}, api.Sketch{Rows: 2, Nulls: 2, Complete: true, CountMin: make([]int, 256)}},
		{[]api.Value{number(1), number(2), number(2), null()}, api.Sketch{
			Rows: 4, Nulls: 1, Complete: true,
			MinHashes: []uint64{0x0905abe7052a885f, 0xcd6b68b5f4621a65},
			CountMin:  counters(map[int]int{58: 1, 61: 2, 107: 1, 120: 2, 162: 1, 181: 2, 195: 2, 200: 1}),
			Fences:    []api.Value{number(1), number(2)},
			Ranks:     []int{0, 1, 1, 3},
		}},
		{[]api.Value{truth(1), truth(0), truth(1)}, api.Sketch{
			Rows: 3, Complete: true,
			MinHashes: []uint64{0x71fb0a1422be2c72, 0xc72828d3c9400493},
			CountMin:  counters(map[int]int{45: 1, 61: 2, 70: 1, 71: 2, 129: 1, 184: 2, 197: 1, 224: 2}),
			Fences:    []api.Value{truth(0), truth(1)},
			Ranks:     []int{0, 1, 1, 3},
		}},
		{[]api.Value{null(), text(""), text("a"), text("abcdefghi"), text("a")}, api.Sketch{
			Rows: 5, Nulls: 1, Complete: true,
			MinHashes: []uint64{0x411fa8dabef8e62c, 0x99845e54f6eafa96, 0xa46e5e0b16794df2},
			CountMin:  counters(map[int]int{6: 1, 58: 2, 61: 1, 117: 1, 119: 1, 125: 2, 143: 1, 154: 1, 163: 2, 198: 1, 241: 2, 245: 1}),
			Fences:    []api.Value{text(""), text("a"), text("abcdefghi")},
			Ranks:     []int{0, 1, 1, 3, 3, 4},
		}},
		{[]api.Value{number(math.MinInt64), number(math.MaxInt64), number(0)}, api.Sketch{
			Rows: 3, Complete: true,
			MinHashes: []uint64{0x54eff8d59ad53db0, 0xc850aa3e53228ee5, 0xe0c7e7359552dbb2},
			CountMin:  counters(map[int]int{29: 1, 52: 1, 60: 1, 66: 1, 87: 1, 109: 1, 141: 1, 173: 1, 182: 1, 209: 1, 214: 1, 243: 1}),
			Fences:    []api.Value{number(math.MinInt64), number(0), number(math.MaxInt64)},
			Ranks:     []int{0, 1, 1, 2, 2, 3},
		}},
	} {
		if got := sketch.Build(c.values); !same(got, c.want) {
			t.Errorf("Build(%v) = %v, want %v", c.values, got, c.want)
		}
	}
}

// TestBuildOfFortyNumbers: the hashes and the counters have been computed outside the program.
func TestBuildOfFortyNumbers(t *testing.T) {
	s := sketch.Build(numbers(1, 40))
	ends := []uint64{s.MinHashes[0], s.MinHashes[1], s.MinHashes[30], s.MinHashes[31]}
	if len(s.MinHashes) != 32 || s.Complete || !slices.Equal(ends, []uint64{0x0905abe7052a885f, 0x095e4e635c617589, 0x9bb33089bcc471c9, 0xafc34fb6719c1510}) {
		t.Errorf("hashes %x, complete %v", s.MinHashes, s.Complete)
	}
	for i, want := range map[int]int{0: 0, 3: 1, 10: 2, 57: 5, 85: 3, 144: 4, 202: 4, 248: 3, 249: 3, 250: 1, 255: 0} {
		if s.CountMin[i] != want {
			t.Errorf("counter %d is %d, want %d", i, s.CountMin[i], want)
		}
	}
	var fences []int64
	for i, f := range s.Fences {
		fences = append(fences, f.Int)
		if s.Ranks[2*i] != int(f.Int)-1 || s.Ranks[2*i+1] != int(f.Int) {
			t.Errorf("the ranks of the fence %d are %v", f.Int, s.Ranks[2*i:2*i+2])
		}
	}
	if want := []int64{1, 3, 5, 8, 10, 13, 15, 18, 20, 22, 25, 27, 30, 32, 35, 37, 40}; !slices.Equal(fences, want) || len(s.Ranks) != 34 {
		t.Errorf("fences %v, want %v; %d ranks", fences, want, len(s.Ranks))
	}
}

// checkBuild compares Build with the definition, also for the values in another order.
func checkBuild(t *testing.T, values []api.Value) {
	t.Helper()
	before := slices.Clone(values)
	want := sketchOf(values)
	got := sketch.Build(values)
	if !same(got, want) || !sketch.Valid(got) {
		t.Fatalf("Build(%.300v) = %v, want %v", values, got, want)
	}
	if !slices.Equal(values, before) {
		t.Fatalf("Build changed the values %v", before)
	}
	slices.Reverse(before)
	if again := sketch.Build(before); !same(again, want) {
		t.Fatalf("Build(%.300v) = %v, want %v", before, again, want)
	}
}

func TestBuildAgreesWithTheDefinition(t *testing.T) {
	for _, typ := range types() {
		for _, l := range sequences(alphabet(typ), 4) {
			checkBuild(t, l)
		}
	}
	for _, l := range longLists() {
		checkBuild(t, l)
	}
}

func TestFencesOfBuild(t *testing.T) {
	for distinct := range 70 {
		s := sketch.Build(numbers(0, distinct))
		if want := min(distinct, 17); len(s.Fences) != want || len(s.Ranks) != 2*want {
			t.Errorf("%d values have %d fences and %d ranks", distinct, len(s.Fences), len(s.Ranks))
		}
		if len(s.MinHashes) != min(distinct, 32) || s.Complete != (distinct <= 32) {
			t.Errorf("%d values have %d hashes, complete %v", distinct, len(s.MinHashes), s.Complete)
		}
	}
	// A value that occurs often has several of the indices, but is one fence.
	values := slices.Concat(numbers(0, 1), slices.Repeat(numbers(1, 1), 98), numbers(2, 1))
	s := sketch.Build(values)
	if !slices.Equal(s.Fences, numbers(0, 3)) || !slices.Equal(s.Ranks, []int{0, 1, 1, 99, 99, 100}) {
		t.Errorf("fences %v, ranks %v", s.Fences, s.Ranks)
	}
	// A value that occurs seldom may have none.
	values = slices.Concat(slices.Repeat(numbers(0, 1), 50), numbers(1, 1), slices.Repeat(numbers(2, 1), 49))
	s = sketch.Build(values)
	if !slices.Equal(s.Fences, []api.Value{number(0), number(2)}) || !slices.Equal(s.Ranks, []int{0, 50, 51, 100}) {
		t.Errorf("fences %v, ranks %v", s.Fences, s.Ranks)
	}
}

func TestMergeOfAFewSketches(t *testing.T) {
	empty, nulls := sketch.Build(nil), sketch.Build([]api.Value{null(), null()})
	some := sketch.Build([]api.Value{number(1), number(2), number(2), null()})
	five := sketch.Build([]api.Value{number(5)})
	wide := sketch.Build([]api.Value{number(0), number(9), number(9)})
	for _, c := range []struct {
		a, b        api.Sketch
		rows, nulls int
		fences      []api.Value
		ranks       []int
	}{
		{empty, empty, 0, 0, nil, nil},
		{empty, nulls, 2, 2, nil, nil},
		{nulls, nulls, 4, 4, nil, nil},
		{empty, some, 4, 1, some.Fences, some.Ranks},
		{nulls, some, 6, 3, some.Fences, some.Ranks},
		{some, five, 5, 1, []api.Value{number(1), number(2), number(5)}, []int{0, 1, 1, 3, 3, 4}},
		{some, some, 8, 2, []api.Value{number(1), number(2)}, []int{0, 2, 2, 6}},
		{five, wide, 4, 0, []api.Value{number(0), number(5), number(9)}, []int{0, 1, 1, 2, 2, 4}},
		{some, wide, 7, 1, []api.Value{number(0), number(1), number(2), number(9)}, []int{0, 1, 1, 2, 2, 4, 4, 6}},
	} {
		for _, got := range []api.Sketch{sketch.Merge(c.a, c.b), sketch.Merge(c.b, c.a)} {
			if got.Rows != c.rows || got.Nulls != c.nulls || !slices.Equal(got.Fences, c.fences) || !slices.Equal(got.Ranks, c.ranks) || !got.Complete {
				t.Errorf("Merge of %v %v and %v %v = %d rows, %d NULLs, fences %v, ranks %v, complete %v",
					c.a.Fences, c.a.Ranks, c.b.Fences, c.b.Ranks, got.Rows, got.Nulls, got.Fences, got.Ranks, got.Complete)
			}
		}
	}
}

// TestMergeOfInexactRanks merges sketches that know little about the values between their fences.
func TestMergeOfInexactRanks(t *testing.T) {
	a := api.Sketch{Rows: 10, MinHashes: hashes(3), Complete: true, CountMin: evenCounters(10), Fences: []api.Value{number(0), number(10)}, Ranks: []int{0, 2, 8, 10}}
	b := api.Sketch{Rows: 7, Nulls: 2, MinHashes: hashes(4), Complete: true, CountMin: evenCounters(5), Fences: []api.Value{number(5), number(10), number(20)}, Ranks: []int{0, 1, 3, 2, 4, 5}}
	want := api.Sketch{Rows: 17, Nulls: 2, MinHashes: hashes(4), Complete: true, CountMin: evenCounters(15), Fences: []api.Value{number(0), number(5), number(10), number(20)}, Ranks: []int{0, 2, 8, 3, 11, 12, 14, 15}}
	if !isSketch(a) || !isSketch(b) {
		t.Fatal("the sketches are not valid")
	}
	if got := sketch.Merge(a, b); !same(got, want) || !sketch.Valid(got) {
		t.Errorf("Merge = %v, want %v", got, want)
	}
	if got := sketch.Merge(b, a); !same(got, want) {
		t.Errorf("Merge = %v, want %v", got, want)
	}
}

func TestHashesOfMerge(t *testing.T) {
	known := func(first, count int, complete bool) api.Sketch {
		return api.Sketch{Rows: 40, MinHashes: hashes(first + count)[first:], Complete: complete, CountMin: evenCounters(40), Fences: []api.Value{number(1)}, Ranks: []int{0, 40}}
	}
	for _, c := range []struct {
		a, b     api.Sketch
		first    int
		count    int
		complete bool
	}{
		{known(0, 16, true), known(16, 16, true), 0, 32, true},
		{known(0, 16, true), known(16, 17, true), 0, 32, false},
		{known(0, 17, true), known(16, 16, true), 0, 32, true},
		{known(0, 32, true), known(0, 32, true), 0, 32, true},
		{known(0, 32, true), known(0, 32, false), 0, 32, false},
		{known(0, 32, false), known(0, 32, false), 0, 32, false},
		{known(0, 32, false), known(0, 1, true), 0, 32, false},
		{known(0, 32, true), known(32, 1, true), 0, 32, false},
		{known(1, 32, true), known(0, 1, true), 0, 32, false},
		{known(10, 32, false), known(5, 32, false), 5, 32, false},
		{known(3, 4, true), known(5, 6, true), 3, 8, true},
	} {
		for _, got := range []api.Sketch{sketch.Merge(c.a, c.b), sketch.Merge(c.b, c.a)} {
			if want := hashes(c.first + c.count)[c.first:]; !slices.Equal(got.MinHashes, want) || got.Complete != c.complete || !sketch.Valid(got) {
				t.Errorf("Merge of %x and %x has the hashes %x, complete %v", c.a.MinHashes, c.b.MinHashes, got.MinHashes, got.Complete)
			}
		}
	}
}

// TestFencesOfMerge: of up to 34 fences, 17 are kept.
func TestFencesOfMerge(t *testing.T) {
	for count := range 18 {
		for other := range 18 {
			a, b := sketch.Build(numbers(0, count)), sketch.Build(numbers(100, other))
			got := sketch.Merge(a, b)
			if len(got.Fences) != min(17, count+other) || !same(got, mergeOf(a, b)) {
				t.Errorf("Merge of %d and %d fences = %v, want %v", count, other, got, mergeOf(a, b))
			}
		}
	}
	got := sketch.Merge(sketch.Build(numbers(0, 17)), sketch.Build(numbers(17, 17)))
	var fences []int64
	for _, f := range got.Fences {
		fences = append(fences, f.Int)
	}
	if want := []int64{0, 2, 4, 6, 8, 10, 12, 14, 16, 18, 20, 22, 24, 26, 28, 30, 33}; !slices.Equal(fences, want) {
		t.Errorf("fences %v, want %v", fences, want)
	}
	if want := []int{30, 31, 33, 34}; !slices.Equal(got.Ranks[30:], want) {
		t.Errorf("the last ranks are %v, want %v", got.Ranks[30:], want)
	}
}

// mergeable reports whether a and b may be merged.
func mergeable(a, b api.Sketch) bool {
	return len(a.Fences) == 0 || len(b.Fences) == 0 || a.Fences[0].Kind == b.Fences[0].Kind
}

func TestMergeAgreesWithTheDefinition(t *testing.T) {
	all := strangeSketches()
	for i, l := range longLists() {
		if i%5 == 0 {
			all = append(all, sketchOf(l))
		}
	}
	merged := 0
	for i, a := range all {
		for k, b := range all {
			if (i+k)%7 != 0 || !mergeable(a, b) {
				continue
			}
			merged++
			got, want := sketch.Merge(a, b), mergeOf(a, b)
			if !same(got, want) || !sketch.Valid(got) || !isSketch(want) {
				t.Fatalf("Merge(%v, %v) = %v, want %v", a, b, got, want)
			}
		}
	}
	if merged < 10000 {
		t.Errorf("%d pairs were merged", merged)
	}
}

// change is what makes a sketch another one.
type change struct {
	name  string
	apply func(s *api.Sketch)
}

// base is a valid sketch of 4 values and 1 NULL.
func base() api.Sketch {
	return api.Sketch{Rows: 5, Nulls: 1, MinHashes: []uint64{3, 9}, Complete: true, CountMin: evenCounters(4), Fences: numbers(1, 3), Ranks: []int{0, 1, 2, 2, 3, 4}}
}

// crowd is a valid sketch of 40 values with as many hashes and fences as there may be.
func crowd() api.Sketch {
	s := api.Sketch{Rows: 40, MinHashes: hashes(32), CountMin: evenCounters(40), Fences: numbers(1, 17)}
	for i := range 17 {
		s.Ranks = append(s.Ranks, 2*i, 2*i+2)
	}
	s.Ranks[33] = 40
	return s
}

func invalidChanges() []change {
	return []change{
		{"fewer than no NULLs", func(s *api.Sketch) { s.Rows, s.Nulls = 3, -1 }},
		{"more NULLs than rows", func(s *api.Sketch) { *s = api.Sketch{Rows: 1, Nulls: 2, Complete: true, CountMin: evenCounters(0)} }},
		{"fewer than no rows", func(s *api.Sketch) { *s = api.Sketch{Rows: -1, Nulls: -1, Complete: true, CountMin: evenCounters(0)} }},
		{"a row more", func(s *api.Sketch) { s.Rows = 6 }},
		{"a row less", func(s *api.Sketch) { s.Rows = 4 }},
		{"rows that wrap round", func(s *api.Sketch) { s.Rows, s.Nulls = math.MinInt+2, math.MaxInt-1 }},
		{"NULLs that wrap round", func(s *api.Sketch) { s.Rows, s.Nulls = math.MaxInt, math.MinInt+3 }},
		{"equal hashes", func(s *api.Sketch) { s.MinHashes = []uint64{3, 3} }},
		{"decreasing hashes", func(s *api.Sketch) { s.MinHashes = []uint64{9, 3} }},
		{"a last hash that is less", func(s *api.Sketch) { s.MinHashes = []uint64{3, math.MaxUint64, 0} }},
		{"5 hashes of 4 values", func(s *api.Sketch) { s.MinHashes = hashes(5) }},
		{"33 hashes", func(s *api.Sketch) { *s = crowd(); s.MinHashes, s.Complete = hashes(33), true }},
		{"33 hashes, not all", func(s *api.Sketch) { *s = crowd(); s.MinHashes = hashes(33) }},
		{"no hash", func(s *api.Sketch) { s.MinHashes = nil }},
		{"a hash of no value", func(s *api.Sketch) { *s = sketchOf([]api.Value{null()}); s.MinHashes = []uint64{1} }},
		{"31 hashes, not all", func(s *api.Sketch) { *s = crowd(); s.MinHashes = hashes(31) }},
		{"1 hash, not all", func(s *api.Sketch) { s.MinHashes, s.Complete = []uint64{1}, false }},
		{"no values and no hash, not all", func(s *api.Sketch) { *s = sketchOf(nil); s.Complete = false }},
		{"no counters", func(s *api.Sketch) { s.CountMin = nil }},
		{"no counters of no values", func(s *api.Sketch) { *s = api.Sketch{Complete: true} }},
		{"255 counters", func(s *api.Sketch) { s.CountMin = s.CountMin[:255] }},
		{"257 counters", func(s *api.Sketch) { s.CountMin = append(s.CountMin, 0) }},
		{"192 counters", func(s *api.Sketch) { s.CountMin = s.CountMin[:192] }},
		{"320 counters", func(s *api.Sketch) { s.CountMin = append(s.CountMin, evenCounters(4)[:64]...) }},
		{"a counter below 0", func(s *api.Sketch) { s.CountMin[70], s.CountMin[71] = 1, -1 }},
		{"a first counter below 0", func(s *api.Sketch) { s.CountMin[0], s.CountMin[1] = -1, 5 }},
		{"a sum that wraps round", func(s *api.Sketch) { s.CountMin[0], s.CountMin[1], s.CountMin[2] = math.MaxInt, math.MaxInt, 6 }},
		{"a counter of the row before", func(s *api.Sketch) { s.CountMin[63], s.CountMin[65] = 1, 3 }},
		{"no fences", func(s *api.Sketch) { s.Fences, s.Ranks = nil, nil }},
		{"a fence of no values", func(s *api.Sketch) { *s = sketchOf(nil); s.Fences, s.Ranks = numbers(1, 1), []int{0, 0} }},
		{"a fence that is NULL", func(s *api.Sketch) { s.Fences[0] = null() }},
		{"only a fence that is NULL", func(s *api.Sketch) { s.Fences, s.Ranks = []api.Value{null()}, []int{0, 4} }},
		{"fences of two kinds", func(s *api.Sketch) { s.Fences[0] = truth(1) }},
		{"fences of two other kinds", func(s *api.Sketch) { s.Fences[2] = text("a") }},
		{"a fence that is not valid", func(s *api.Sketch) { s.Fences[1].Text = "a" }},
		{"a fence of no kind", func(s *api.Sketch) { s.Fences, s.Ranks = []api.Value{{Kind: 4}}, []int{0, 4} }},
		{"a Bool 2", func(s *api.Sketch) { s.Fences = []api.Value{truth(0), truth(1), truth(2)} }},
		{"a Text that is too long", func(s *api.Sketch) {
			s.Fences = []api.Value{text("a"), text("b"), text(strings.Repeat("x", api.MaxText+1))}
		}},
		{"equal fences", func(s *api.Sketch) { s.Fences[1] = number(1) }},
		{"decreasing fences", func(s *api.Sketch) { s.Fences[2] = number(0) }},
		{"18 fences", func(s *api.Sketch) {
			*s = crowd()
			s.Fences, s.Ranks = numbers(1, 18), append(s.Ranks, 40, 40)
		}},
		{"no ranks", func(s *api.Sketch) { s.Ranks = nil }},
		{"ranks of no fences", func(s *api.Sketch) { *s = sketchOf(nil); s.Ranks = []int{0, 0} }},
		{"a rank less", func(s *api.Sketch) { s.Ranks = []int{0, 1, 2, 2, 4} }},
		{"a rank more", func(s *api.Sketch) { s.Ranks = append(s.Ranks, 4) }},
		{"a first rank below 0", func(s *api.Sketch) { s.Ranks[0] = -1 }},
		{"a first rank above 0", func(s *api.Sketch) { s.Ranks[0] = 1 }},
		{"a second rank below 0", func(s *api.Sketch) { s.Ranks[1] = -1 }},
		{"a second rank above all", func(s *api.Sketch) { s.Ranks[5] = 5 }},
		{"a first rank above all", func(s *api.Sketch) { s.Ranks[4] = 5 }},
		{"last second rank below all", func(s *api.Sketch) { s.Ranks[5] = 3 }},
		{"decreasing first ranks", func(s *api.Sketch) { s.Ranks = []int{0, 0, 3, 0, 2, 4} }},
		{"decreasing second ranks", func(s *api.Sketch) { s.Ranks = []int{0, 2, 2, 1, 2, 4} }},
		{"a rank above the next one", func(s *api.Sketch) { s.Ranks = []int{0, 2, 1, 3, 3, 4} }},
		{"a last rank above the next one", func(s *api.Sketch) { s.Ranks = []int{0, 0, 1, 3, 2, 4} }},
	}
}

func validChanges() []change {
	return []change{
		{"none", func(s *api.Sketch) {}},
		{"a crowd", func(s *api.Sketch) { *s = crowd() }},
		{"a crowd that is all", func(s *api.Sketch) { *s = crowd(); s.Complete = true }},
		{"nothing", func(s *api.Sketch) { *s = sketchOf(nil) }},
		{"NULLs alone", func(s *api.Sketch) { s.Rows, s.Nulls = 9, 9; *s = sketchOf(make([]api.Value, 9)) }},
		{"many rows", func(s *api.Sketch) { s.Rows, s.Nulls = math.MaxInt, math.MaxInt-4 }},
		{"many values", func(s *api.Sketch) {
			s.Rows, s.Nulls, s.CountMin, s.Ranks = math.MaxInt, 0, evenCounters(math.MaxInt), []int{0, 1, math.MaxInt, 1, math.MaxInt, math.MaxInt}
		}},
		{"hash 0", func(s *api.Sketch) { s.MinHashes = []uint64{0} }},
		{"4 hashes", func(s *api.Sketch) { s.MinHashes = []uint64{0, 1, 1 << 63, math.MaxUint64} }},
		{"spread counters", func(s *api.Sketch) { s.CountMin[0], s.CountMin[63] = 1, 3 }},
		{"one fence", func(s *api.Sketch) { s.Fences, s.Ranks = numbers(7, 1), []int{0, 4} }},
		{"more fences than values", func(s *api.Sketch) {
			*s = api.Sketch{Rows: 1, MinHashes: []uint64{5}, Complete: true, CountMin: evenCounters(1), Fences: numbers(0, 3), Ranks: []int{0, 0, 0, 0, 1, 1}}
		}},
		{"Bools", func(s *api.Sketch) { s.Fences, s.Ranks = []api.Value{truth(0), truth(1)}, []int{0, 2, 2, 4} }},
		{"Texts", func(s *api.Sketch) {
			s.Fences = []api.Value{text(""), text("\x00"), text(strings.Repeat("x", api.MaxText))}
		}},
		{"ranks that tell little", func(s *api.Sketch) { s.Ranks = []int{0, 0, 4, 0, 4, 4} }},
		{"ranks that tell nothing of one", func(s *api.Sketch) { s.Ranks = []int{0, 2, 3, 2, 3, 4} }},
		{"ranks that are equal", func(s *api.Sketch) { s.Ranks = []int{0, 4, 4, 4, 4, 4} }},
	}
}

func TestValid(t *testing.T) {
	for _, c := range invalidChanges() {
		s := base()
		c.apply(&s)
		if sketch.Valid(s) || isSketch(s) {
			t.Errorf("%s: valid", c.name)
		}
	}
	for _, c := range validChanges() {
		s := base()
		c.apply(&s)
		if !sketch.Valid(s) || !isSketch(s) {
			t.Errorf("%s: not valid", c.name)
		}
	}
	if sketch.Valid(api.Sketch{}) {
		t.Error("the zero sketch is valid")
	}
}

// TestValidOfAllSmallRanks tries all ranks of up to 3 fences.
func TestValidOfAllSmallRanks(t *testing.T) {
	valid, all := 0, sequences([]int{-1, 0, 1, 2, 3, 4}, 6)
	for n := range 4 {
		for fences := range 4 {
			for _, ranks := range all {
				if len(ranks) != 2*fences && len(ranks) > 3 {
					continue
				}
				s := api.Sketch{Rows: n, Complete: true, CountMin: evenCounters(n), Fences: numbers(0, fences), Ranks: ranks}
				if n > 0 {
					s.MinHashes = []uint64{8}
				}
				if got := sketch.Valid(s); got != isSketch(s) {
					t.Fatalf("%d values, %d fences, ranks %v: %v", n, fences, ranks, got)
				} else if got {
					valid++
				}
			}
		}
	}
	if valid < 50 {
		t.Errorf("%d sketches were valid", valid)
	}
}

// TestValidOfHostileNumbers tries numbers at the ends of 64 bits everywhere.
func TestValidOfHostileNumbers(t *testing.T) {
	ends := []int{math.MinInt, math.MinInt + 1, -4, -1, 0, 1, 3, 4, 5, 1 << 32, 1<<32 + 4, math.MaxInt - 1, math.MaxInt}
	check := func(s api.Sketch) {
		t.Helper()
		if got := sketch.Valid(s); got != isSketch(s) {
			t.Errorf("Valid(%v) = %v", s, got)
		}
	}
	for _, x := range ends {
		for _, y := range ends {
			s := base()
			s.Rows, s.Nulls = x, y
			check(s)
			s.CountMin = evenCounters(x - y)
			check(s)
			s.Ranks[5] = x - y
			check(s)
			for i := range 63 {
				s = base()
				s.CountMin[i], s.CountMin[i+1] = x, y
				check(s)
				s.CountMin[(i+2)%64] = -x - y + 4
				check(s)
			}
			for i := range 5 {
				s = base()
				s.Ranks[i], s.Ranks[i+1] = x, y
				check(s)
			}
		}
	}
}

// P16.2

func comparisons() []int {
	return []int{api.OpEq, api.OpNe, api.OpLt, api.OpLe, api.OpGt, api.OpGe}
}

// noOperators returns numbers that are no operators of predicates.
func noOperators() []int {
	ops := []int{math.MinInt, -1, 0, 16, 19, 22, 23, 99, 256 + api.OpEq, 1<<32 + api.OpEq, 1<<32 + api.PredIsNull, math.MaxInt}
	for op := api.OpAnd; op <= api.OpLike; op++ {
		ops = append(ops, op)
	}
	return ops
}

func operators() []int {
	return slices.Concat(comparisons(), []int{api.PredIsNull, api.PredNotNull}, noOperators())
}

// operands returns NULL, values of all kinds, and values about the fences of s.
func operands(s api.Sketch) []api.Value {
	all := []api.Value{null(), truth(0), truth(1), number(math.MinInt64), number(-1), number(0), number(1), number(math.MaxInt64), text(""), text("a\x00"), text("c"), text("\xff")}
	for _, f := range s.Fences {
		all = append(all, f)
		if f.Kind == api.Int && f.Int > math.MinInt64 && f.Int < math.MaxInt64 {
			all = append(all, number(f.Int-1), number(f.Int+1))
		}
		if f.Kind == api.Text && len(f.Text) < api.MaxText {
			all = append(all, text(f.Text+"\x00"), text(f.Text[:len(f.Text)/2]))
		}
	}
	return all
}

func TestCountsOfAFewSketches(t *testing.T) {
	s := sketch.Build([]api.Value{number(1), number(2), number(2), null()})
	for _, c := range []struct {
		name string
		got  api.Bounds
		want api.Bounds
	}{
		{"= 2", sketch.CountEqual(s, number(2)), bounds(2, 2)},
		{"= 1", sketch.CountEqual(s, number(1)), bounds(1, 1)},
		{"= 0", sketch.CountEqual(s, number(0)), bounds(0, 0)},
		{"= 3", sketch.CountEqual(s, number(3)), bounds(0, 0)},
		{"= NULL", sketch.CountEqual(s, null()), bounds(0, 0)},
		{"= true", sketch.CountEqual(s, truth(1)), bounds(0, 0)},
		{"= ''", sketch.CountEqual(s, text("")), bounds(0, 0)},
		{"< 1", sketch.CountLess(s, number(1)), bounds(0, 0)},
		{"< 2", sketch.CountLess(s, number(2)), bounds(1, 1)},
		{"< 3", sketch.CountLess(s, number(3)), bounds(3, 3)},
		{"< NULL", sketch.CountLess(s, null()), bounds(0, 0)},
		{"< true", sketch.CountLess(s, truth(1)), bounds(0, 0)},
		{"< ''", sketch.CountLess(s, text("")), bounds(3, 3)}, // every Int is less than every Text
		{"<> 2", sketch.CountMatching(s, api.Predicate{Op: api.OpNe, Value: number(2)}), bounds(1, 1)},
		{"<> 7", sketch.CountMatching(s, api.Predicate{Op: api.OpNe, Value: number(7)}), bounds(3, 3)},
		{"<> NULL", sketch.CountMatching(s, api.Predicate{Op: api.OpNe}), bounds(0, 0)},
		{"<> ''", sketch.CountMatching(s, api.Predicate{Op: api.OpNe, Value: text("")}), bounds(0, 0)},
		{"predicate < ''", sketch.CountMatching(s, api.Predicate{Op: api.OpLt, Value: text("")}), bounds(0, 0)},
		{"predicate > true", sketch.CountMatching(s, api.Predicate{Op: api.OpGt, Value: truth(1)}), bounds(0, 0)},
		{"predicate > NULL", sketch.CountMatching(s, api.Predicate{Op: api.OpGt}), bounds(0, 0)},
		{"predicate < 2", sketch.CountMatching(s, api.Predicate{Op: api.OpLt, Value: number(2)}), bounds(1, 1)},
		{"predicate <= 1", sketch.CountMatching(s, api.Predicate{Op: api.OpLe, Value: number(1)}), bounds(1, 1)},
		{"predicate <= 2", sketch.CountMatching(s, api.Predicate{Op: api.OpLe, Value: number(2)}), bounds(3, 3)},
		{"predicate > 1", sketch.CountMatching(s, api.Predicate{Op: api.OpGt, Value: number(1)}), bounds(2, 2)},
		{"predicate >= 1", sketch.CountMatching(s, api.Predicate{Op: api.OpGe, Value: number(1)}), bounds(3, 3)},
		{"IS NULL", sketch.CountMatching(s, api.Predicate{Op: api.PredIsNull, Value: number(2)}), bounds(1, 1)},
		{"IS NOT NULL", sketch.CountMatching(s, api.Predicate{Op: api.PredNotNull}), bounds(3, 3)},
		{"no operator", sketch.CountMatching(s, api.Predicate{Op: api.OpAnd, Value: number(2)}), bounds(0, 0)},
		{"distinct", sketch.CountDistinct(s), bounds(2, 2)},
	} {
		if c.got != c.want {
			t.Errorf("%s: %v, want %v", c.name, c.got, c.want)
		}
	}
}

// countersFor returns counters of which those of v count n values.
func countersFor(v api.Value, n int) []int {
	all := make([]int, 256)
	for r := range 4 {
		all[64*r+int(value.Hash(uint64(4+r), v)%64)] = n
	}
	return all
}

// TestCountsOfInexactRanks has fences between which the number of values is not known.
func TestCountsOfInexactRanks(t *testing.T) {
	const n = 448
	s := api.Sketch{Rows: n + 5, Nulls: 5, MinHashes: hashes(32), CountMin: slices.Repeat([]int{n / 64}, 256), Fences: []api.Value{number(0), number(10), number(20)}, Ranks: []int{0, 60, 90, 130, 180, n}}
	if !isSketch(s) {
		t.Fatal("the sketch is not valid")
	}
	for _, c := range []struct {
		op   int
		v    int64
		want api.Bounds
	}{
		{api.OpLt, -1, bounds(0, 0)}, {api.OpLt, 0, bounds(0, 0)}, {api.OpLt, 1, bounds(60, 90)}, {api.OpLt, 10, bounds(60, 90)}, {api.OpLt, 11, bounds(130, 180)}, {api.OpLt, 20, bounds(130, 180)}, {api.OpLt, 21, bounds(n, n)},
		{api.OpLe, -1, bounds(0, 0)}, {api.OpLe, 0, bounds(60, 90)}, {api.OpLe, 1, bounds(60, 90)}, {api.OpLe, 10, bounds(130, 180)}, {api.OpLe, 19, bounds(130, 180)}, {api.OpLe, 20, bounds(n, n)},
		{api.OpGt, -1, bounds(n, n)}, {api.OpGt, 0, bounds(358, 388)}, {api.OpGt, 10, bounds(268, 318)}, {api.OpGt, 20, bounds(0, 0)},
		{api.OpGe, 0, bounds(n, n)}, {api.OpGe, 1, bounds(358, 388)}, {api.OpGe, 10, bounds(358, 388)}, {api.OpGe, 11, bounds(268, 318)}, {api.OpGe, 20, bounds(268, 318)}, {api.OpGe, 21, bounds(0, 0)},
		// The counters bound only from above, also where the ranks tell that there are more.
		{api.OpEq, -1, bounds(0, 0)}, {api.OpEq, 0, bounds(60, 7)}, {api.OpEq, 5, bounds(0, 7)}, {api.OpEq, 10, bounds(40, 7)}, {api.OpEq, 20, bounds(268, 7)}, {api.OpEq, 21, bounds(0, 0)},
		{api.OpNe, -1, bounds(n, n)}, {api.OpNe, 0, bounds(441, 388)}, {api.OpNe, 5, bounds(441, n)}, {api.OpNe, 10, bounds(441, 408)}, {api.OpNe, 21, bounds(n, n)},
	} {
		if got := sketch.CountMatching(s, api.Predicate{Op: c.op, Value: number(c.v)}); got != c.want {
			t.Errorf("operator %d, %d: %v, want %v", c.op, c.v, got, c.want)
		}
	}
	if got := sketch.CountDistinct(s); got != bounds(33, 21) {
		t.Errorf("distinct: %v", got)
	}
	// With counters that tell nothing of a value, the ranks bound from above.
	for v, want := range map[int64]api.Bounds{0: bounds(60, 90), 5: bounds(0, 30), 10: bounds(40, 120), 11: bounds(0, 50), 20: bounds(268, 318)} {
		s.CountMin = countersFor(number(v), n)
		if got := sketch.CountEqual(s, number(v)); got != want {
			t.Errorf("= %d: %v, want %v", v, got, want)
		}
	}
	// A fence whose first rank is greater than its second one need not occur.
	s.Ranks = []int{0, 60, 130, 90, 180, n}
	s.CountMin = countersFor(number(10), n)
	if got := sketch.CountEqual(s, number(10)); got != bounds(0, 120) || !isSketch(s) {
		t.Errorf("a fence that need not occur: %v", got)
	}
}

// TestCountEqualTakesTheLeastCounter raises all counters but one of those of the value, in each row in turn.
func TestCountEqualTakesTheLeastCounter(t *testing.T) {
	v := number(5)
	for r := range 4 {
		for _, least := range []int{0, 1, 9, 10, 11} {
			s := api.Sketch{Rows: 20, MinHashes: []uint64{value.Hash(3, v)}, Complete: true, CountMin: make([]int, 256), Fences: numbers(5, 1), Ranks: []int{0, 20}}
			for row := range 4 {
				index := 64*row + int(value.Hash(uint64(4+row), v)%64)
				s.CountMin[index] = 20
				if row == r {
					s.CountMin[index], s.CountMin[64*row+(index+1)%64] = least, 20-least
				}
			}
			if !isSketch(s) {
				t.Fatal("the sketch is not valid")
			}
			if got := sketch.CountEqual(s, v); got != bounds(20, least) {
				t.Errorf("row %d: %v, want 20..%d", r, got, least)
			}
		}
	}
}

// TestCountEqualAsksForTheHash: only if all hashes are known, a value without its hash is absent.
func TestCountEqualAsksForTheHash(t *testing.T) {
	s := sketch.Build(numbers(0, 20))
	if !s.Complete {
		t.Fatal("not all hashes are known")
	}
	for i := range 20 {
		if got := sketch.CountEqual(s, number(int64(i))); got.Max < 1 {
			t.Errorf("= %d: %v", i, got)
		}
	}
	even := sketch.Build([]api.Value{number(0), number(2), number(2), number(4)})
	if got := sketch.CountEqual(even, number(3)); got != bounds(0, 0) {
		t.Errorf("= 3: %v", got)
	}
	// Of 40 values, 8 have no hash here, and none of them is absent.
	for i := range 40 {
		if got := sketch.CountEqual(sketch.Build(numbers(0, 40)), number(int64(i))); got.Max < 1 {
			t.Errorf("= %d of 40: %v", i, got)
		}
	}
}

func TestCountDistinct(t *testing.T) {
	many := func(low, high api.Value, n int) api.Sketch {
		return api.Sketch{Rows: n + 3, Nulls: 3, MinHashes: hashes(2), Complete: true, CountMin: evenCounters(n), Fences: []api.Value{low, high}, Ranks: []int{0, 1, n - 1, n}}
	}
	for _, c := range []struct {
		s    api.Sketch
		want api.Bounds
	}{
		{sketch.Build(nil), bounds(0, 0)},
		{sketch.Build([]api.Value{null()}), bounds(0, 0)},
		{sketch.Build([]api.Value{truth(1), truth(1), truth(1)}), bounds(1, 1)},
		{sketch.Build([]api.Value{truth(1), truth(0), truth(1)}), bounds(2, 2)},
		{sketch.Build([]api.Value{text("a"), text("a"), text("b")}), bounds(2, 3)},
		{sketch.Build([]api.Value{number(3), number(3), number(5), number(3)}), bounds(2, 3)},
		{sketch.Build(numbers(0, 32)), bounds(32, 32)},
		{sketch.Build(numbers(0, 33)), bounds(33, 33)},
		{sketch.Build(slices.Repeat(numbers(0, 40), 3)), bounds(33, 40)},
		{many(number(1), number(9), 8), bounds(2, 8)},
		{many(number(1), number(9), 9), bounds(2, 9)},
		{many(number(1), number(9), 10), bounds(2, 9)},
		{many(number(math.MinInt64), number(math.MaxInt64), 2), bounds(2, 2)},
		{many(number(math.MinInt64), number(math.MaxInt64), math.MaxInt-3), bounds(2, math.MaxInt-3)},
		{many(number(math.MinInt64), number(-1), math.MaxInt-3), bounds(2, math.MaxInt-3)},
		{many(number(-5), number(math.MaxInt64-10), math.MaxInt-3), bounds(2, math.MaxInt-4)},
		{many(number(math.MinInt64), number(math.MinInt64+2), 7), bounds(2, 3)},
		{many(truth(0), truth(1), 7), bounds(2, 2)},
		{many(text("a"), text("b"), 7), bounds(2, 7)},
	} {
		if !isSketch(c.s) {
			t.Errorf("%v is not valid", c.s)
		}
		if got := sketch.CountDistinct(c.s); got != c.want {
			t.Errorf("CountDistinct of %d values in %v = %v, want %v", c.s.Rows-c.s.Nulls, c.s.Fences, got, c.want)
		}
	}
}

// checkCounts compares the bounds of s with their definitions.
func checkCounts(t *testing.T, s api.Sketch) {
	t.Helper()
	if got, want := sketch.CountDistinct(s), distinctBounds(s); got != want {
		t.Fatalf("CountDistinct(%v) = %v, want %v", s, got, want)
	}
	for _, v := range operands(s) {
		if got, want := sketch.CountEqual(s, v), equalBounds(s, v); got != want {
			t.Fatalf("CountEqual(%v, %v) = %v, want %v", s, v, got, want)
		}
		if got, want := sketch.CountLess(s, v), lessBounds(s, v); got != want {
			t.Fatalf("CountLess(%v, %v) = %v, want %v", s, v, got, want)
		}
		for i, op := range operators() {
			p := api.Predicate{Column: i - 3, Op: op, Value: v}
			if got, want := sketch.CountMatching(s, p), matchingBounds(s, p); got != want {
				t.Fatalf("CountMatching(%v, %v) = %v, want %v", s, p, got, want)
			}
		}
	}
}

func TestCountsAgreeWithTheDefinitions(t *testing.T) {
	for _, s := range strangeSketches() {
		checkCounts(t, s)
	}
	for i, l := range longLists() {
		if i%3 == 0 {
			s := sketchOf(l)
			checkCounts(t, s)
			checkCounts(t, mergeOf(s, sketchOf(l[:len(l)/3])))
		}
	}
}

// P16.4

// matches reports whether p is true for v.
func matches(p api.Predicate, v api.Value) bool {
	switch {
	case p.Op == api.PredIsNull:
		return v == null()
	case p.Op == api.PredNotNull:
		return v != null()
	case slices.Contains(comparisons(), p.Op):
		return value.Test(p.Op, v, p.Value) == truth(1)
	}
	return false
}

// checkSound fails unless the true counts of the values lie within the bounds of s.
func checkSound(t *testing.T, s api.Sketch, values []api.Value) {
	t.Helper()
	within := func(name string, b api.Bounds, n int, v api.Value) {
		t.Helper()
		if int64(n) < b.Min || int64(n) > b.Max {
			t.Fatalf("%s %.20v of %d values: %d is not within %v", name, v, len(values), n, b)
		}
	}
	present := others(values)
	slices.SortFunc(present, value.Compare)
	within("distinct", sketch.CountDistinct(s), len(slices.Compact(slices.Clone(present))), null())
	asked := operands(s)
	for i := range present {
		if i%(1+len(present)/30) == 0 {
			asked = append(asked, present[i])
		}
	}
	for _, v := range asked {
		within("equal to", sketch.CountEqual(s, v), count(present, func(x api.Value) bool { return x == v }), v)
		if v != null() {
			within("less than", sketch.CountLess(s, v), countLess(present, v), v)
		}
		for _, op := range operators() {
			p := api.Predicate{Op: op, Value: v}
			within("matching", sketch.CountMatching(s, p), count(values, func(x api.Value) bool { return matches(p, x) }), v)
		}
	}
}

func TestSmallSketchesAreSound(t *testing.T) {
	for _, typ := range types() {
		for _, l := range sequences(alphabet(typ), 4) {
			checkSound(t, sketch.Build(l), l)
			checkSound(t, sketch.Merge(sketch.Build(l[:len(l)/2]), sketch.Build(l[len(l)/2:])), l)
		}
	}
}

// mergeAll merges the sketches of the parts in one of a few orders.
func mergeAll(parts []api.Sketch, order int) api.Sketch {
	if len(parts) == 1 {
		return parts[0]
	}
	cut := []int{1, len(parts) - 1, len(parts) / 2, (len(parts) + 3) / 4}[order%4]
	left, right := mergeAll(parts[:cut], order), mergeAll(parts[cut:], order)
	if order >= 4 {
		left, right = right, left
	}
	return sketch.Merge(left, right)
}

func TestMergedSketchesAreSound(t *testing.T) {
	for _, typ := range types() {
		for _, distinct := range []int{2, 20, 50, 400, 1 << 20} {
			values := scattered(typ, 400, distinct, distinct%4 == 0)
			if distinct == 400 {
				slices.SortFunc(values, value.Compare) // so that the parts do not overlap
			}
			want := sketchOf(values)
			for _, size := range []int{1, 7, 50, 150} {
				var parts []api.Sketch
				for part := range slices.Chunk(values, size) {
					parts = append(parts, sketch.Build(part))
				}
				for order := range 8 {
					s := mergeAll(parts, order)
					if !isSketch(s) || !sketch.Valid(s) {
						t.Fatalf("a merged sketch is not valid: %v", s)
					}
					checkSound(t, s, values)
					checkMerged(t, s, want)
				}
			}
		}
	}
}

// P16.5

// checkMerged fails unless s has what a merged sketch shares with the sketch of all values.
func checkMerged(t *testing.T, s, all api.Sketch) {
	t.Helper()
	if s.Rows != all.Rows || s.Nulls != all.Nulls || !slices.Equal(s.MinHashes, all.MinHashes) || s.Complete != all.Complete || !slices.Equal(s.CountMin, all.CountMin) {
		t.Fatalf("merged to %v, want %v", s, all)
	}
}

func TestMergeOfPartsIsLikeBuildOfAll(t *testing.T) {
	for _, typ := range types() {
		for _, a := range sequences(alphabet(typ), 3) {
			for _, b := range sequences(alphabet(typ), 2) {
				checkMerged(t, sketch.Merge(sketch.Build(a), sketch.Build(b)), sketch.Build(slices.Concat(a, b)))
			}
		}
	}
	for _, l := range longLists() {
		for _, cut := range []int{0, len(l) / 3, len(l) / 2, len(l)} {
			checkMerged(t, sketch.Merge(sketch.Build(l[:cut]), sketch.Build(l[cut:])), sketch.Build(l))
		}
	}
}

func TestDecodeInvertsEncode(t *testing.T) {
	all := slices.Concat(strangeSketches(), []api.Sketch{base(), crowd()})
	for i, l := range longLists() {
		if s := sketch.Build(l); i%4 == 0 {
			all = append(all, s, sketch.Merge(s, s), sketch.Merge(s, sketch.Build(l[len(l)/4:])))
		}
	}
	for _, s := range all {
		b := sketch.Encode(s)
		if want := encodingOf(s); !bytes.Equal(b, want) {
			t.Fatalf("Encode(%v) = %x, want %x", s, b, want)
		}
		got, next, e := sketch.Decode(b, 0)
		if !same(got, s) || next != len(b) || e != api.OK {
			t.Fatalf("%v is decoded to %v, %d, error %d", s, got, next, e)
		}
	}
}

// Other rules

// TestArgumentsThatAreNotValid only asks for an end without a panic.
func TestArgumentsThatAreNotValid(t *testing.T) {
	values := []api.Value{{Int: 1}, truth(7), {Kind: api.Int, Text: "a"}, text(strings.Repeat("x", 5000)), {Kind: 4, Int: 1}, {Kind: -1}, {Kind: math.MaxInt}, null(), number(3), text("a")}
	all := []api.Sketch{{}, {Fences: values}, {Ranks: []int{1, 2, 3}}, {Rows: math.MinInt, Nulls: math.MaxInt}, {Rows: math.MaxInt, Fences: numbers(0, 40), Ranks: []int{-1, -2, -3}, CountMin: []int{math.MaxInt, -1}}}
	for _, c := range invalidChanges() {
		s := base()
		c.apply(&s)
		all = append(all, s)
	}
	all = append(all, sketch.Build(values), base())
	for _, s := range all {
		sketch.Valid(s)
		sketch.CountDistinct(s)
		sketch.Decode(sketch.Encode(s), 0)
		for _, v := range values {
			sketch.CountEqual(s, v)
			sketch.CountLess(s, v)
			for _, op := range operators() {
				sketch.CountMatching(s, api.Predicate{Op: op, Value: v})
			}
		}
		for _, other := range all {
			sketch.Merge(s, other)
		}
	}
}

func TestArgumentsAreNotModified(t *testing.T) {
	a, b := sketch.Build(scattered(api.Int, 200, 300, true)), sketch.Build(scattered(api.Int, 150, 40, true))
	slices.Reverse(b.MinHashes) // so that sorting in place would show; b is not valid then
	oldA, oldB := clone(a), clone(b)
	sketch.Merge(a, b)
	sketch.Merge(b, a)
	for _, s := range []api.Sketch{a, b} {
		sketch.Valid(s)
		sketch.CountDistinct(s)
		sketch.CountEqual(s, number(5))
		sketch.CountLess(s, number(5))
		sketch.CountMatching(s, api.Predicate{Op: api.OpNe, Value: number(5)})
		encoded := sketch.Encode(s)
		old := slices.Clone(encoded)
		sketch.Decode(encoded, 0)
		if !bytes.Equal(encoded, old) {
			t.Error("Decode changed the bytes")
		}
	}
	if !same(a, oldA) || !same(b, oldB) {
		t.Error("an argument was changed")
	}
}

// wipe overwrites all that the slices of s hold.
func wipe(s api.Sketch) {
	clear(s.MinHashes)
	clear(s.CountMin)
	clear(s.Fences)
	clear(s.Ranks)
}

func TestResultsShareNoMemory(t *testing.T) {
	values := scattered(api.Int, 100, 90, true)
	first, second := sketch.Build(values), sketch.Build(values)
	want := clone(first)
	empty := sketch.Build(nil)
	merged := sketch.Merge(second, empty)
	b := sketch.Encode(second)
	decoded, _, _ := sketch.Decode(b, 0)
	again, _, _ := sketch.Decode(b, 0)
	clear(values)
	clear(b)
	wipe(second)
	wipe(empty)
	wipe(again)
	for i, s := range []api.Sketch{first, merged, decoded} {
		if !same(s, want) {
			t.Errorf("result %d changed with an argument or with another result", i)
		}
	}
}
