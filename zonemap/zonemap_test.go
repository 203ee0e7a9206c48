package zonemap_test

import (
	"bytes"
	"encoding/binary"
	"math"
	"slices"
	"strings"
	"testing"

	"lamina/api"
	"lamina/value"
	"lamina/varint"
	"lamina/zonemap"
)

func null() api.Value          { return api.Value{} }
func number(n int64) api.Value { return api.Value{Kind: api.Int, Int: n} }
func truth(n int64) api.Value  { return api.Value{Kind: api.Bool, Int: n} }
func text(s string) api.Value  { return api.Value{Kind: api.Text, Text: s} }

func types() []int { return []int{api.Null, api.Bool, api.Int, api.Text} }

// alphabet returns NULL and, in increasing order, a few values of the type.
func alphabet(typ int) []api.Value {
	switch typ {
	case api.Bool:
		return []api.Value{null(), truth(0), truth(1)}
	case api.Int:
		return []api.Value{null(), number(math.MinInt64), number(-1), number(0), number(math.MaxInt64)}
	case api.Text:
		return []api.Value{null(), text(""), text("a"), text("a\x00"), text("\xff")}
	}
	return []api.Value{null()}
}

// sequences returns all sequences of up to length elements of the alphabet.
func sequences[T any](alphabet []T, length int) [][]T {
	all := [][]T{{}}
	for start := 0; length > 0; length-- {
		end := len(all)
		for _, s := range all[start:end] {
			for _, x := range alphabet {
				all = append(all, append(slices.Clone(s), x))
			}
		}
		start = end
	}
	return all
}

// lists returns all lists of up to length values of the alphabet of the type.
func lists(typ, length int) [][]api.Value {
	return sequences(alphabet(typ), length)
}

// vectorOf returns the vector of the values, which are NULL or of the type.
func vectorOf(typ int, values []api.Value) api.Vector {
	v := api.Vector{Type: typ}
	for _, x := range values {
		v.Nulls = append(v.Nulls, x == null())
		switch typ {
		case api.Bool, api.Int:
			v.Ints = append(v.Ints, x.Int)
		case api.Text:
			v.Texts = append(v.Texts, x.Text)
		}
	}
	return v
}

// zoneOf returns the zone map of the values by its definition.
func zoneOf(values []api.Value) api.ZoneMap {
	others := slices.DeleteFunc(slices.Clone(values), func(v api.Value) bool { return v == null() })
	z := api.ZoneMap{Rows: len(values), Nulls: len(values) - len(others)}
	if len(others) > 0 {
		z.Min, z.Max = slices.MinFunc(others, value.Compare), slices.MaxFunc(others, value.Compare)
	}
	return z
}

// isZone reports whether z is the zone map of some list of values, by making such a list, if there is one.
func isZone(z api.ZoneMap) bool {
	if z.Nulls < 0 || z.Nulls > z.Rows {
		return false
	}
	var list []api.Value
	for _, v := range []api.Value{z.Min, z.Max} {
		if !value.Valid(v) {
			return false
		}
	}
	if z.Min.Kind != z.Max.Kind {
		return false
	}
	for range z.Nulls {
		list = append(list, null())
	}
	for i := range z.Rows - z.Nulls {
		list = append(list, []api.Value{z.Min, z.Max}[i%2])
	}
	return zoneOf(list) == z
}

// zones returns the zone maps of all lists of up to length values, each once.
func zones(length int) []api.ZoneMap {
	var all []api.ZoneMap
	seen := map[api.ZoneMap]bool{}
	for _, typ := range types() {
		for _, l := range lists(typ, length) {
			if z := zoneOf(l); !seen[z] {
				seen[z] = true
				all = append(all, z)
			}
		}
	}
	return all
}

func comparisons() []int {
	return []int{api.OpEq, api.OpNe, api.OpLt, api.OpLe, api.OpGt, api.OpGe}
}

// noOperators returns numbers that are no operators of predicates.
func noOperators() []int {
	ops := []int{math.MinInt, -1, 0, 16, 19, 22, 23, 99, 256 + api.OpEq, 1<<32 + api.OpEq, 1<<32 + api.PredIsNull, math.MaxInt}
	for op := api.OpAnd; op <= api.OpLike; op++ {
		ops = append(ops, op)
	}
	return ops
}

// operands returns the values of all alphabets.
func operands() []api.Value {
	all := []api.Value{null()}
	for _, typ := range types() {
		all = append(all, alphabet(typ)[1:]...)
	}
	return all
}

// predicates returns those of all operators and operands, and others that match nothing.
func predicates() []api.Predicate {
	var all []api.Predicate
	for _, op := range slices.Concat(comparisons(), []int{api.PredIsNull, api.PredNotNull, 0, api.OpAnd, 22}) {
		for i, v := range operands() {
			all = append(all, api.Predicate{Column: i - 1, Op: op, Value: v})
		}
	}
	return all
}

// matches reports whether p matches v by the definition.
func matches(p api.Predicate, v api.Value) bool {
	switch {
	case p.Op == api.PredIsNull:
		return v == null()
	case p.Op == api.PredNotNull:
		return v != null()
	case slices.Contains(comparisons(), p.Op):
		return value.Test(p.Op, v, p.Value) == truth(1)
	}
	return false
}

// P14.1

func TestBuildOfAFewVectors(t *testing.T) {
	long := strings.Repeat("x", api.MaxText)
	for _, c := range []struct {
		v    api.Vector
		want api.ZoneMap
	}{
		{api.Vector{}, api.ZoneMap{}},
		{api.Vector{Type: api.Bool}, api.ZoneMap{}},
		{api.Vector{Type: api.Int}, api.ZoneMap{}},
		{api.Vector{Type: api.Text}, api.ZoneMap{}},
		{api.Vector{Nulls: []bool{true, true}}, api.ZoneMap{Rows: 2, Nulls: 2}},
		{api.Vector{Type: api.Int, Ints: []int64{3, 0, 5}, Nulls: []bool{false, true, false}}, api.ZoneMap{Rows: 3, Nulls: 1, Min: number(3), Max: number(5)}},
		{api.Vector{Type: api.Int, Ints: []int64{0, -3, -5}, Nulls: []bool{true, false, false}}, api.ZoneMap{Rows: 3, Nulls: 1, Min: number(-5), Max: number(-3)}},
		{api.Vector{Type: api.Int, Ints: []int64{7}, Nulls: []bool{false}}, api.ZoneMap{Rows: 1, Min: number(7), Max: number(7)}},
		{api.Vector{Type: api.Int, Ints: []int64{0}, Nulls: []bool{true}}, api.ZoneMap{Rows: 1, Nulls: 1}},
		{api.Vector{Type: api.Int, Ints: []int64{0}, Nulls: []bool{false}}, api.ZoneMap{Rows: 1, Min: number(0), Max: number(0)}},
		{api.Vector{Type: api.Bool, Ints: []int64{1, 0, 1}, Nulls: []bool{false, false, false}}, api.ZoneMap{Rows: 3, Min: truth(0), Max: truth(1)}},
		{api.Vector{Type: api.Bool, Ints: []int64{1, 0}, Nulls: []bool{false, true}}, api.ZoneMap{Rows: 2, Nulls: 1, Min: truth(1), Max: truth(1)}},
		{api.Vector{Type: api.Text, Texts: []string{"b", "", "a"}, Nulls: []bool{false, true, false}}, api.ZoneMap{Rows: 3, Nulls: 1, Min: text("a"), Max: text("b")}},
		{api.Vector{Type: api.Text, Texts: []string{"b", "", "a"}, Nulls: []bool{false, false, false}}, api.ZoneMap{Rows: 3, Min: text(""), Max: text("b")}},
		{api.Vector{Type: api.Text, Texts: []string{"9", "10", long}, Nulls: []bool{false, false, false}}, api.ZoneMap{Rows: 3, Min: text("10"), Max: text(long)}},
	} {
		if got := zonemap.Build(c.v); got != c.want {
			t.Errorf("Build(%v) = %v, want %v", c.v, got, c.want)
		}
	}
}

func TestBuildAgreesWithTheDefinition(t *testing.T) {
	for _, typ := range types() {
		for _, l := range lists(typ, 5) {
			v := vectorOf(typ, l)
			if got := zonemap.Build(v); got != zoneOf(l) {
				t.Fatalf("Build of %v, type %d, = %v, want %v", l, typ, got, zoneOf(l))
			}
			if !slices.Equal(v.Nulls, vectorOf(typ, l).Nulls) || !slices.Equal(v.Ints, vectorOf(typ, l).Ints) || !slices.Equal(v.Texts, vectorOf(typ, l).Texts) {
				t.Fatalf("Build changed the vector of %v", l)
			}
		}
	}
}

// TestBuildOfLongVectors has the least and the greatest value in each of a few places.
func TestBuildOfLongVectors(t *testing.T) {
	const n = 5000
	places := []int{0, 1, n / 2, n - 2, n - 1}
	for _, low := range places {
		for _, high := range places {
			var numbers, texts []api.Value
			for i := range n {
				x := int64(i)*2654435761%1000 + 1
				numbers = append(numbers, number(x))
				texts = append(texts, text(strings.Repeat("y", int(x))))
				if i%3 == 0 {
					numbers[i], texts[i] = null(), null()
				}
			}
			numbers[low], texts[low] = number(-1), text("x")
			numbers[high], texts[high] = number(2000), text("z")
			if got, want := zonemap.Build(vectorOf(api.Int, numbers)), zoneOf(numbers); got != want {
				t.Errorf("Ints: %v, want %v", got, want)
			}
			if got, want := zonemap.Build(vectorOf(api.Text, texts)), zoneOf(texts); got != want {
				t.Errorf("Texts: %v, want %v", got, want)
			}
		}
	}
}

func TestValid(t *testing.T) {
	bounds := append(operands(), text(strings.Repeat("x", api.MaxText)))
	bounds = append(bounds, // and values that are not valid
		text(strings.Repeat("x", api.MaxText+1)), api.Value{Int: 1}, api.Value{Text: "a"}, truth(2), truth(-1), api.Value{Kind: api.Bool, Text: "a"},
		api.Value{Kind: api.Int, Text: "a"}, api.Value{Kind: api.Text, Int: 1}, api.Value{Kind: 4}, api.Value{Kind: -1}, api.Value{Kind: 256 + api.Int})
	valid := 0
	for rows := -2; rows <= 4; rows++ {
		for nulls := -2; nulls <= 5; nulls++ {
			for _, low := range bounds {
				for _, high := range bounds {
					z := api.ZoneMap{Rows: rows, Nulls: nulls, Min: low, Max: high}
					if got, want := zonemap.Valid(z), isZone(z); got != want {
						t.Errorf("Valid of %d rows, %d NULLs, from %.20v to %.20v = %v", rows, nulls, low, high, got)
					} else if got {
						valid++
					}
				}
			}
		}
	}
	if valid < 100 {
		t.Errorf("only %d zone maps were valid", valid)
	}
}

func TestValidOfAFewZoneMaps(t *testing.T) {
	one, two := number(1), number(2)
	for _, c := range []struct {
		z    api.ZoneMap
		want bool
	}{
		{api.ZoneMap{}, true},
		{api.ZoneMap{Rows: 1}, false},
		{api.ZoneMap{Rows: 1, Nulls: 1}, true},
		{api.ZoneMap{Rows: 1, Nulls: 1, Min: one, Max: one}, false},
		{api.ZoneMap{Min: one, Max: one}, false},
		{api.ZoneMap{Rows: 1, Nulls: 1, Max: one}, false},
		{api.ZoneMap{Rows: 1, Nulls: 1, Min: api.Value{Int: 1}, Max: api.Value{Int: 1}}, false},
		{api.ZoneMap{Rows: 1, Min: one, Max: one}, true},
		{api.ZoneMap{Rows: 1, Min: one, Max: two}, false},
		{api.ZoneMap{Rows: 5, Nulls: 4, Min: one, Max: two}, false},
		{api.ZoneMap{Rows: 5, Nulls: 3, Min: one, Max: two}, true},
		{api.ZoneMap{Rows: 2, Min: one, Max: one}, true},
		{api.ZoneMap{Rows: 2, Min: two, Max: one}, false},
		{api.ZoneMap{Rows: 2, Min: one}, false},
		{api.ZoneMap{Rows: 2, Max: one}, false},
		{api.ZoneMap{Rows: 2, Min: one, Max: text("a")}, false},
		{api.ZoneMap{Rows: 2, Min: truth(0), Max: one}, false},
		{api.ZoneMap{Rows: 2, Min: truth(0), Max: truth(1)}, true},
		{api.ZoneMap{Rows: 2, Nulls: 3, Min: one, Max: one}, false},
		{api.ZoneMap{Rows: 2, Nulls: 3}, false},
		{api.ZoneMap{Rows: 2, Nulls: -1, Min: one, Max: one}, false},
		{api.ZoneMap{Rows: -1, Nulls: -1}, false},
		{api.ZoneMap{Rows: -1, Nulls: -2, Min: one, Max: one}, false},
		{api.ZoneMap{Rows: 1 << 40, Nulls: 1 << 40}, true},
		{api.ZoneMap{Rows: 1 << 41, Min: one, Max: two}, true}, // only Decode has a limit
		{api.ZoneMap{Rows: 1<<32 + 1, Min: one, Max: two}, true},
		{api.ZoneMap{Rows: 1<<32 + 1, Nulls: 1 << 32, Min: one, Max: two}, false},
		{api.ZoneMap{Rows: math.MaxInt, Nulls: math.MinInt}, false},
		{api.ZoneMap{Rows: math.MinInt, Nulls: math.MaxInt}, false},
		{api.ZoneMap{Rows: math.MinInt, Nulls: math.MinInt}, false},
	} {
		if got := zonemap.Valid(c.z); got != c.want {
			t.Errorf("Valid(%v) = %v", c.z, got)
		}
	}
}

func TestMergeOfAFewZoneMaps(t *testing.T) {
	nulls := api.ZoneMap{Rows: 2, Nulls: 2}
	low := api.ZoneMap{Rows: 3, Nulls: 1, Min: number(-7), Max: number(2)}
	high := api.ZoneMap{Rows: 1, Min: number(9), Max: number(9)}
	inner := api.ZoneMap{Rows: 4, Nulls: 2, Min: number(-1), Max: number(1)}
	words := api.ZoneMap{Rows: 2, Min: text("a"), Max: text("b")}
	for _, c := range []struct{ a, b, want api.ZoneMap }{
		{api.ZoneMap{}, api.ZoneMap{}, api.ZoneMap{}},
		{api.ZoneMap{}, nulls, nulls},
		{nulls, nulls, api.ZoneMap{Rows: 4, Nulls: 4}},
		{api.ZoneMap{}, low, low},
		{nulls, low, api.ZoneMap{Rows: 5, Nulls: 3, Min: number(-7), Max: number(2)}},
		{nulls, words, api.ZoneMap{Rows: 4, Nulls: 2, Min: text("a"), Max: text("b")}},
		{low, high, api.ZoneMap{Rows: 4, Nulls: 1, Min: number(-7), Max: number(9)}},
		{low, inner, api.ZoneMap{Rows: 7, Nulls: 3, Min: number(-7), Max: number(2)}},
		{high, high, api.ZoneMap{Rows: 2, Min: number(9), Max: number(9)}},
		{words, api.ZoneMap{Rows: 1, Min: text(""), Max: text("")}, api.ZoneMap{Rows: 3, Min: text(""), Max: text("b")}},
		{api.ZoneMap{Rows: 1, Min: truth(1), Max: truth(1)}, api.ZoneMap{Rows: 1, Min: truth(0), Max: truth(0)}, api.ZoneMap{Rows: 2, Min: truth(0), Max: truth(1)}},
		{api.ZoneMap{Rows: 1 << 40, Nulls: 1 << 39, Min: number(1), Max: number(2)}, high, api.ZoneMap{Rows: 1<<40 + 1, Nulls: 1 << 39, Min: number(1), Max: number(9)}},
	} {
		if got := zonemap.Merge(c.a, c.b); got != c.want {
			t.Errorf("Merge(%v, %v) = %v, want %v", c.a, c.b, got, c.want)
		}
		if got := zonemap.Merge(c.b, c.a); got != c.want {
			t.Errorf("Merge(%v, %v) = %v, want %v", c.b, c.a, got, c.want)
		}
	}
}

// P14.1 and P14.5.
func TestMergeOfTwoVectorsIsThatOfTheirConcatenation(t *testing.T) {
	for _, typ := range types() {
		for _, a := range lists(typ, 3) {
			for _, b := range lists(typ, 3) {
				got := zonemap.Merge(zonemap.Build(vectorOf(typ, a)), zonemap.Build(vectorOf(typ, b)))
				if want := zoneOf(slices.Concat(a, b)); got != want || got != zonemap.Build(vectorOf(typ, slices.Concat(a, b))) {
					t.Fatalf("Merge for %v and %v = %v, want %v", a, b, got, want)
				}
			}
		}
	}
}

// P14.2

func TestContains(t *testing.T) {
	for _, z := range zones(4) {
		for _, v := range append(operands(), number(5), number(-2), text("A"), text("b")) {
			want := z.Nulls > 0
			if v != null() {
				want = z.Rows > z.Nulls && v.Kind == z.Min.Kind && value.Compare(z.Min, v) <= 0 && value.Compare(v, z.Max) <= 0
			}
			if got := zonemap.Contains(z, v); got != want {
				t.Errorf("Contains(%v, %v) = %v", z, v, got)
			}
		}
	}
}

func TestContainsOfAFewZoneMaps(t *testing.T) {
	two := api.ZoneMap{Rows: 3, Nulls: 1, Min: number(3), Max: number(5)}
	for _, c := range []struct {
		z    api.ZoneMap
		v    api.Value
		want bool
	}{
		{two, number(3), true},
		{two, number(4), true}, // although the values are 3 and 5
		{two, number(5), true},
		{two, number(2), false},
		{two, number(6), false},
		{two, null(), true},
		{two, text("4"), false},
		{two, truth(1), false},
		{api.ZoneMap{Rows: 2, Min: number(0), Max: number(1)}, truth(1), false},
		{api.ZoneMap{Rows: 2, Min: number(0), Max: number(1)}, null(), false},
		{api.ZoneMap{Rows: 2, Nulls: 2}, null(), true},
		{api.ZoneMap{Rows: 2, Nulls: 2}, number(0), false},
		{api.ZoneMap{}, null(), false},
		{api.ZoneMap{}, truth(0), false},
		{api.ZoneMap{Rows: 1 << 40, Min: text("a"), Max: text("c")}, text("b\x00"), true},
		{api.ZoneMap{Rows: 1 << 40, Min: text("a"), Max: text("c")}, text("c\x00"), false},
	} {
		if got := zonemap.Contains(c.z, c.v); got != c.want {
			t.Errorf("Contains(%v, %v) = %v", c.z, c.v, got)
		}
	}
}

// question is whether a predicate matches values of a zone map.
type question struct {
	z api.ZoneMap
	p api.Predicate
}

// TestMayMatchAndAllMatchAreExact asks all lists of a zone map. Those of the alphabets are enough, because they contain the values of the predicates.
func TestMayMatchAndAllMatchAreExact(t *testing.T) {
	some, missed := map[question]bool{}, map[question]bool{}
	for _, typ := range types() {
		for _, l := range lists(typ, 5) {
			z := zoneOf(l)
			for _, p := range predicates() {
				for _, v := range l {
					if matches(p, v) {
						some[question{z, p}] = true
					} else {
						missed[question{z, p}] = true
					}
				}
			}
		}
	}
	for _, z := range zones(5) {
		for _, p := range predicates() {
			if got, want := zonemap.MayMatch(z, p), some[question{z, p}]; got != want {
				t.Errorf("MayMatch(%v, op %d, %v) = %v", z, p.Op, p.Value, got)
			}
			if got, want := zonemap.AllMatch(z, p), z.Rows > 0 && !missed[question{z, p}]; got != want {
				t.Errorf("AllMatch(%v, op %d, %v) = %v", z, p.Op, p.Value, got)
			}
		}
	}
}

func TestMayMatchAndAllMatchOfAFewZoneMaps(t *testing.T) {
	one := api.ZoneMap{Rows: 1, Min: number(5), Max: number(5)}
	two := api.ZoneMap{Rows: 3, Nulls: 1, Min: number(3), Max: number(5)}
	pair := api.ZoneMap{Rows: 2, Min: number(3), Max: number(5)}
	three := api.ZoneMap{Rows: 4, Nulls: 1, Min: number(3), Max: number(5)}
	many := api.ZoneMap{Rows: 1 << 40, Min: text("a"), Max: text("c")}
	same := api.ZoneMap{Rows: 9, Min: truth(1), Max: truth(1)}
	nulls := api.ZoneMap{Rows: 2, Nulls: 2}
	for _, c := range []struct {
		z        api.ZoneMap
		op       int
		v        api.Value
		may, all bool
	}{
		{two, api.OpEq, number(4), false, false},
		{three, api.OpEq, number(4), true, false},
		{pair, api.OpNe, number(4), true, true},
		{two, api.OpNe, number(4), true, false}, // because of the NULL
		{three, api.OpNe, number(4), true, false},
		{two, api.OpLt, number(9), true, false}, // because of the NULL
		{pair, api.OpLt, number(9), true, true},
		{pair, api.OpLt, number(5), true, false},
		{pair, api.OpLe, number(5), true, true},
		{pair, api.OpLt, number(3), false, false},
		{pair, api.OpLe, number(3), true, false},
		{pair, api.OpGt, number(3), true, false},
		{pair, api.OpGe, number(3), true, true},
		{pair, api.OpGt, number(5), false, false},
		{pair, api.OpGe, number(5), true, false},
		{pair, api.OpGt, number(2), true, true},
		{one, api.OpEq, number(5), true, true},
		{one, api.OpNe, number(5), false, false},
		{one, api.OpNe, number(6), true, true},
		{one, api.PredNotNull, null(), true, true},
		{one, api.PredIsNull, number(5), false, false},
		{one, api.OpEq, text("5"), false, false},
		{one, api.OpNe, text("5"), false, false},
		{one, api.OpLt, text("5"), false, false},
		{one, api.OpEq, truth(1), false, false},
		{one, api.OpNe, null(), false, false},
		{one, api.OpGe, null(), false, false},
		{many, api.OpEq, text("b"), true, false},
		{many, api.OpEq, text("a\x00"), true, false},
		{many, api.OpEq, text("A"), false, false},
		{many, api.OpEq, null(), false, false},
		{many, api.OpEq, number(1), false, false},
		{many, api.OpNe, text("b"), true, false},
		{many, api.OpNe, text("d"), true, true},
		{same, api.OpEq, truth(1), true, true},
		{same, api.OpNe, truth(1), false, false},
		{same, api.OpEq, truth(0), false, false},
		{same, api.OpNe, truth(0), true, true},
		{nulls, api.PredIsNull, null(), true, true},
		{nulls, api.PredNotNull, null(), false, false},
		{nulls, api.OpEq, null(), false, false},
		{nulls, api.OpNe, number(1), false, false},
		{api.ZoneMap{}, api.PredIsNull, null(), false, false},
		{api.ZoneMap{}, api.PredNotNull, null(), false, false},
		{api.ZoneMap{}, api.OpEq, number(0), false, false},
		{api.ZoneMap{}, api.OpNe, number(0), false, false},
	} {
		for _, index := range []int{0, -1, math.MaxInt} { // is ignored
			p := api.Predicate{Column: index, Op: c.op, Value: c.v}
			if may, all := zonemap.MayMatch(c.z, p), zonemap.AllMatch(c.z, p); may != c.may || all != c.all {
				t.Errorf("%v, op %d, %v: MayMatch is %v, AllMatch is %v", c.z, c.op, c.v, may, all)
			}
		}
	}
}

func TestOtherOperatorsMatchNothing(t *testing.T) {
	for _, op := range noOperators() {
		for _, z := range zones(3) {
			for _, v := range operands() {
				p := api.Predicate{Op: op, Value: v}
				if zonemap.MayMatch(z, p) || zonemap.AllMatch(z, p) || zonemap.Restrict(z, p) != (api.ZoneMap{}) {
					t.Errorf("op %d and %v match in %v", op, v, z)
				}
			}
		}
	}
}

// P14.3

func TestRestrictOfAFewZoneMaps(t *testing.T) {
	none := api.ZoneMap{}
	z := api.ZoneMap{Rows: 6, Nulls: 2, Min: number(3), Max: number(9)}
	bounds := func(low, high int64) api.ZoneMap { return api.ZoneMap{Rows: 4, Min: number(low), Max: number(high)} }
	words := api.ZoneMap{Rows: 2, Min: text("a"), Max: text("c")}
	five := api.ZoneMap{Rows: 1, Min: number(5), Max: number(5)}
	for _, c := range []struct {
		z    api.ZoneMap
		op   int
		v    api.Value
		want api.ZoneMap
	}{
		{z, api.PredIsNull, null(), api.ZoneMap{Rows: 2, Nulls: 2}},
		{z, api.PredNotNull, null(), bounds(3, 9)},
		{z, api.OpEq, number(5), bounds(5, 5)},
		{z, api.OpEq, number(9), bounds(9, 9)},
		{z, api.OpEq, number(10), none},
		{z, api.OpNe, number(5), bounds(3, 9)},
		{z, api.OpNe, number(3), bounds(3, 9)},
		{z, api.OpNe, number(50), bounds(3, 9)},
		{z, api.OpLt, number(3), none},
		{z, api.OpLt, number(5), bounds(3, 5)},
		{z, api.OpLt, number(9), bounds(3, 9)},
		{z, api.OpLt, number(50), bounds(3, 9)},
		{z, api.OpLe, number(2), none},
		{z, api.OpLe, number(3), bounds(3, 3)},
		{z, api.OpLe, number(50), bounds(3, 9)},
		{z, api.OpGt, number(9), none},
		{z, api.OpGt, number(5), bounds(5, 9)},
		{z, api.OpGt, number(-5), bounds(3, 9)},
		{z, api.OpGe, number(10), none},
		{z, api.OpGe, number(9), bounds(9, 9)},
		{z, api.OpGe, number(3), bounds(3, 9)},
		{z, api.OpGe, number(-5), bounds(3, 9)},
		{z, api.OpNe, text("a"), none},
		{z, api.OpGe, null(), none},
		{words, api.PredIsNull, null(), none},
		{words, api.OpEq, text("b"), none}, // the values are a and c
		{words, api.OpEq, text("c"), api.ZoneMap{Rows: 2, Min: text("c"), Max: text("c")}},
		{words, api.OpLe, text("b"), api.ZoneMap{Rows: 2, Min: text("a"), Max: text("b")}},
		{words, api.OpGt, text("b"), api.ZoneMap{Rows: 2, Min: text("b"), Max: text("c")}},
		{five, api.OpGe, number(5), five},
		{five, api.OpGt, number(5), none},
		{five, api.OpNe, number(5), none},
		{five, api.OpNe, number(4), five},
		{api.ZoneMap{Rows: 3, Nulls: 3}, api.PredIsNull, number(1), api.ZoneMap{Rows: 3, Nulls: 3}},
		{api.ZoneMap{Rows: 3, Nulls: 3}, api.PredNotNull, null(), none},
		{none, api.PredIsNull, null(), none},
	} {
		if got := zonemap.Restrict(c.z, api.Predicate{Column: -1, Op: c.op, Value: c.v}); got != c.want {
			t.Errorf("Restrict(%v, op %d, %v) = %v, want %v", c.z, c.op, c.v, got, c.want)
		}
	}
}

// restricted follows the promise case by case.
func restricted(z api.ZoneMap, p api.Predicate) api.ZoneMap {
	order := value.Compare(p.Value, z.Max)
	low := value.Compare(p.Value, z.Min)
	r := api.ZoneMap{Rows: z.Rows - z.Nulls, Min: z.Min, Max: z.Max}
	switch {
	case p.Op == api.PredIsNull:
		r = api.ZoneMap{Rows: z.Nulls, Nulls: z.Nulls}
	case p.Op == api.OpEq:
		r.Min, r.Max = p.Value, p.Value
	case (p.Op == api.OpLt || p.Op == api.OpLe) && order < 0:
		r.Max = p.Value
	case (p.Op == api.OpGt || p.Op == api.OpGe) && low > 0:
		r.Min = p.Value
	}
	return r
}

func TestRestrictAgreesWithThePromise(t *testing.T) {
	for _, z := range zones(5) {
		for _, p := range predicates() {
			want := api.ZoneMap{}
			if zonemap.MayMatch(z, p) {
				want = restricted(z, p)
			}
			got := zonemap.Restrict(z, p)
			if got != want {
				t.Errorf("Restrict(%v, op %d, %v) = %v, want %v", z, p.Op, p.Value, got, want)
			}
			if !zonemap.Valid(got) {
				t.Errorf("Restrict(%v, op %d, %v) = %v, which is not valid", z, p.Op, p.Value, got)
			}
		}
	}
}

// P14.4

// coded is a zone map and its encoding.
type coded struct {
	z    api.ZoneMap
	want string
}

func codes() []coded {
	long := strings.Repeat("x", api.MaxText)
	return []coded{
		{api.ZoneMap{}, "\x00\x00"},
		{api.ZoneMap{Rows: 1, Nulls: 1}, "\x01\x01"},
		{api.ZoneMap{Rows: 300, Nulls: 300}, "\xac\x02\xac\x02"},
		{api.ZoneMap{Rows: 3, Nulls: 1, Min: number(3), Max: number(5)}, "\x03\x01\x02\x06\x02\x0a"},
		{api.ZoneMap{Rows: 1, Min: number(-1), Max: number(-1)}, "\x01\x00\x02\x01\x02\x01"},
		{api.ZoneMap{Rows: 2, Min: number(-65), Max: number(64)}, "\x02\x00\x02\x81\x01\x02\x80\x01"},
		{api.ZoneMap{Rows: 2, Min: truth(0), Max: truth(1)}, "\x02\x00\x01\x00\x01\x01"},
		{api.ZoneMap{Rows: 130, Nulls: 128, Min: truth(1), Max: truth(1)}, "\x82\x01\x80\x01\x01\x01\x01\x01"},
		{api.ZoneMap{Rows: 3, Nulls: 1, Min: text("a"), Max: text("b")}, "\x03\x01\x03\x01a\x03\x01b"},
		{api.ZoneMap{Rows: 2, Min: text(""), Max: text("\x00\xff")}, "\x02\x00\x03\x00\x03\x02\x00\xff"},
		{api.ZoneMap{Rows: 2, Min: text(long), Max: text(long)}, "\x02\x00\x03\x80\x20" + long + "\x03\x80\x20" + long},
		{api.ZoneMap{Rows: 1 << 40, Nulls: 1 << 40}, "\x80\x80\x80\x80\x80\x20\x80\x80\x80\x80\x80\x20"},
		{api.ZoneMap{Rows: 1 << 40, Min: truth(0), Max: truth(0)}, "\x80\x80\x80\x80\x80\x20\x00\x01\x00\x01\x00"},
		{api.ZoneMap{Rows: 1 << 40, Nulls: 1<<40 - 1, Min: truth(0), Max: truth(0)}, "\x80\x80\x80\x80\x80\x20\xff\xff\xff\xff\xff\x1f\x01\x00\x01\x00"},
	}
}

func TestEncodeAndDecodeOfAFewZoneMaps(t *testing.T) {
	for _, c := range codes() {
		if got := zonemap.Encode(c.z); string(got) != c.want {
			t.Errorf("Encode(%.40v) = %.40x, want %.40x", c.z, got, c.want)
		}
		if got, next, e := zonemap.Decode([]byte(c.want), 0); got != c.z || next != len(c.want) || e != api.OK {
			t.Errorf("Decode(%.40x) = %.40v, %d, error %d", c.want, got, next, e)
		}
	}
}

// TestEncodeOfMoreRowsThanDecodeTakes: the limit is one of Decode alone.
func TestEncodeOfMoreRowsThanDecodeTakes(t *testing.T) {
	z := api.ZoneMap{Rows: 1<<40 + 1, Nulls: 1, Min: truth(0), Max: truth(1)}
	b := zonemap.Encode(z)
	if want := "\x81\x80\x80\x80\x80\x20\x01\x01\x00\x01\x01"; string(b) != want {
		t.Errorf("Encode = %x, want %x", b, want)
	}
	checkRefused(t, b, 0, api.ErrFormat)
}

func TestDecodeAtAnOffset(t *testing.T) {
	for _, c := range codes() {
		for _, before := range []string{"", "\x80", "\x01\x01\x02"} {
			for _, after := range []string{"", "\x00", "\x80\xff"} {
				b := []byte(before + c.want + after)
				if got, next, e := zonemap.Decode(b, len(before)); got != c.z || next != len(before)+len(c.want) || e != api.OK {
					t.Errorf("Decode(%.40x, %d) = %.40v, %d, error %d", b, len(before), got, next, e)
				}
			}
		}
		b := []byte(c.want)
		for _, offset := range []int{math.MinInt, -len(b), -2, -1, len(b) + 1, len(b) + 2, 1 << 32, math.MaxInt} {
			checkRefused(t, b, offset, api.ErrArg)
		}
		checkRefused(t, b, len(b), api.ErrShort)
	}
	for _, offset := range []int{math.MinInt, -1, 1, math.MaxInt} {
		checkRefused(t, nil, offset, api.ErrArg)
	}
	checkRefused(t, nil, 0, api.ErrShort)
}

// checkRefused fails unless Decode reports the error, and nothing beside it.
func checkRefused(t *testing.T, b []byte, offset int, want api.Errno) {
	t.Helper()
	if z, next, e := zonemap.Decode(b, offset); z != (api.ZoneMap{}) || next != 0 || e != want {
		t.Errorf("Decode(%.40x, %d) = %.40v, %d, error %d, want error %d", b, offset, z, next, e, want)
	}
}

const (
	huge   = "\xff\xff\xff\xff\xff\xff\xff\xff\xff\x01" // 2^64 - 1
	half   = "\x80\x80\x80\x80\x80\x80\x80\x80\x80\x01" // 2^63
	beyond = "\x81\x80\x80\x80\x80\x20"                 // 2^40 + 1
)

func TestErrorsOfDecode(t *testing.T) {
	for _, c := range []struct {
		name, b string
		want    api.Errno
	}{
		{"Rows cut", "\x80", api.ErrShort},
		{"Rows too long", "\x81\x00", api.ErrFormat},
		{"Rows beyond 64 bits", strings.Repeat("\xff", 9) + "\x02", api.ErrFormat},
		{"no Nulls", "\x03", api.ErrShort},
		{"Nulls cut", "\x03\x81", api.ErrShort},
		{"Nulls too long", "\x03\x81\x00", api.ErrFormat},
		{"no minimum", "\x03\x01", api.ErrShort},
		{"kind 4", "\x03\x01\x04\x00\x02\x00", api.ErrFormat},
		{"kind 255", "\x03\x01\xff\x00\x02\x00", api.ErrFormat},
		{"minimum cut", "\x03\x01\x02", api.ErrShort},
		{"minimum too long", "\x03\x01\x02\x81\x00", api.ErrFormat},
		{"minimum the Bool 2", "\x03\x01\x01\x02\x01\x01", api.ErrFormat},
		{"minimum of 4097 bytes", "\x03\x01\x03\x81\x20" + strings.Repeat("x", 4097), api.ErrLong},
		{"minimum of 4097 bytes, cut", "\x03\x01\x03\x81\x20xx", api.ErrLong},
		{"bytes of the minimum cut", "\x03\x01\x03\x02a", api.ErrShort},
		{"no maximum", "\x03\x01\x02\x06", api.ErrShort},
		{"maximum cut", "\x03\x01\x02\x06\x02\x80", api.ErrShort},
		{"maximum of kind 5", "\x03\x01\x02\x06\x05", api.ErrFormat},
		{"maximum of 4097 bytes", "\x03\x01\x03\x00\x03\x81\x20", api.ErrLong},
		{"minimum NULL", "\x02\x00\x00\x02\x06", api.ErrFormat},
		{"maximum NULL", "\x02\x00\x02\x06\x00", api.ErrFormat},
		{"bounds NULL", "\x02\x01\x00\x00", api.ErrFormat},
		{"bounds of two kinds", "\x02\x00\x02\x00\x03\x00", api.ErrFormat},
		{"bounds in the wrong order", "\x02\x00\x02\x04\x02\x02", api.ErrFormat},
		{"two bounds of one value", "\x01\x00\x02\x02\x02\x04", api.ErrFormat},
		{"two bounds of one value and NULLs", "\x03\x02\x02\x02\x02\x04", api.ErrFormat},
		{"more NULLs than rows", "\x01\x02", api.ErrFormat},
		{"more NULLs than rows, and bounds", "\x01\x02\x02\x02\x02\x02", api.ErrFormat},
		{"a NULL but no rows", "\x00\x01", api.ErrFormat},
		{"2^32 + 1 NULLs of one row", "\x01\x81\x80\x80\x80\x10", api.ErrFormat},
		{"2^63 NULLs", "\x01" + half, api.ErrFormat},
		{"2^64 - 1 NULLs", "\x01" + huge, api.ErrFormat},
		{"2^64 - 1 rows and NULLs", huge + huge, api.ErrFormat},
		{"2^63 rows and NULLs", half + half, api.ErrFormat},
		{"2^63 rows, 2^64 - 1 NULLs", half + huge, api.ErrFormat},
		{"2^64 - 1 rows, 2^63 NULLs", huge + half + "\x02\x02\x02\x02", api.ErrFormat},
		{"2^40 + 1 rows", beyond + "\x00\x02\x02\x02\x04", api.ErrFormat},
		{"2^40 + 1 NULLs", beyond + beyond, api.ErrFormat},
		{"2^64 - 1 rows", huge + "\x00\x02\x02\x02\x04", api.ErrFormat},
		// The errors of the parts come before the one of the whole.
		{"2^40 + 1 rows, no Nulls", beyond, api.ErrShort},
		{"2^40 + 1 rows, no minimum", beyond + "\x00", api.ErrShort},
		{"2^64 - 1 rows, maximum cut", huge + "\x00\x02\x02\x02", api.ErrShort},
		{"2^64 - 1 rows, 2^63 NULLs, no minimum", huge + half, api.ErrShort},
		{"2^40 + 1 rows, minimum of 4097 bytes", beyond + "\x00\x03\x81\x20", api.ErrLong},
		{"minimum NULL, no maximum", "\x02\x00\x00", api.ErrShort},
		{"two kinds, maximum of 4097 bytes", "\x02\x00\x02\x00\x03\x81\x20", api.ErrLong},
	} {
		t.Run(c.name, func(t *testing.T) { checkRefused(t, []byte(c.b), 0, c.want) })
	}
}

// model decodes b step by step, as the promise lists the steps.
func model(b []byte, offset int) (api.ZoneMap, int, api.Errno) {
	rows, next, e := varint.Decode(b, offset)
	if e != api.OK {
		return api.ZoneMap{}, 0, e
	}
	nulls, next, e := varint.Decode(b, next)
	if e != api.OK {
		return api.ZoneMap{}, 0, e
	}
	var bounds [2]api.Value
	for i := range bounds {
		if nulls >= rows {
			break
		}
		bounds[i], next, e = value.Decode(b, next)
		if e != api.OK {
			return api.ZoneMap{}, 0, e
		}
	}
	if rows > 1<<40 || nulls > rows {
		return api.ZoneMap{}, 0, api.ErrFormat
	}
	z := api.ZoneMap{Rows: int(rows), Nulls: int(nulls), Min: bounds[0], Max: bounds[1]}
	few := z // no greater counts matter to whether it is valid
	few.Nulls = min(z.Nulls, 1)
	few.Rows = few.Nulls + min(z.Rows-z.Nulls, 3)
	if !isZone(few) {
		return api.ZoneMap{}, 0, api.ErrFormat
	}
	return z, next, api.OK
}

// checkAgainstModel compares Decode with the model, and returns whether b was accepted; what is accepted is encoded to the same bytes.
func checkAgainstModel(t *testing.T, b []byte, offset int) bool {
	t.Helper()
	want, wantNext, wantE := model(b, offset)
	got, next, e := zonemap.Decode(b, offset)
	if got != want || next != wantNext || e != wantE {
		t.Fatalf("Decode(%.40x, %d) = %.40v, %d, error %d, want %.40v, %d, error %d", b, offset, got, next, e, want, wantNext, wantE)
	}
	if e != api.OK {
		return false
	}
	if !zonemap.Valid(got) {
		t.Fatalf("Decode(%.40x, %d) = %.40v, which is not valid", b, offset, got)
	}
	if again := zonemap.Encode(got); !bytes.Equal(again, b[offset:next]) {
		t.Fatalf("%.40x is decoded to %.40v, which is encoded as %.40x", b[offset:next], got, again)
	}
	return true
}

// TestDecodeAgreesWithTheModel tries all short sequences of bytes that matter, and all that follow a few starts.
func TestDecodeAgreesWithTheModel(t *testing.T) {
	all := sequences([]byte{0, 1, 2, 3, 4, 128}, 6)
	for _, start := range []string{"\x01\x00", "\x02\x00", "\x03\x02", "\x03\x01\x03\x01", "\x80\x01\x7f", beyond} {
		for _, rest := range sequences([]byte{0, 1, 2, 3, 130}, 6) {
			all = append(all, append([]byte(start), rest...))
		}
	}
	accepted := [4]int{}
	for _, b := range all {
		if checkAgainstModel(t, b, 0) {
			z, _, _ := zonemap.Decode(b, 0)
			accepted[z.Min.Kind]++
		}
		checkAgainstModel(t, b, len(b)/2)
	}
	if slices.Min(accepted[:]) < 20 {
		t.Errorf("sequences that were accepted for each kind: %d", accepted)
	}
}

func TestDecodeOfDamagedBytes(t *testing.T) {
	for _, c := range codes() {
		b := []byte(c.want)
		if len(b) > 100 {
			continue
		}
		for cut := range b {
			checkAgainstModel(t, b[:cut], 0)
		}
		for p := range 8 * len(b) {
			b[p/8] ^= 1 << (p % 8)
			checkAgainstModel(t, b, 0)
			b[p/8] ^= 1 << (p % 8)
		}
	}
}

// P14.5

func TestMergeIsCommutativeAndAssociative(t *testing.T) {
	for _, typ := range types() {
		var some []api.ZoneMap
		for _, l := range lists(typ, 2) {
			some = append(some, zoneOf(l))
		}
		for _, a := range some {
			for _, b := range some {
				if x, y := zonemap.Merge(a, b), zonemap.Merge(b, a); x != y || !zonemap.Valid(x) {
					t.Fatalf("Merge of %v and %v is %v one way and %v the other", a, b, x, y)
				}
				for _, c := range some {
					if x, y := zonemap.Merge(zonemap.Merge(a, b), c), zonemap.Merge(a, zonemap.Merge(b, c)); x != y {
						t.Fatalf("Merge of %v, %v and %v is %v one way and %v the other", a, b, c, x, y)
					}
				}
			}
		}
	}
}

// P14.6

func TestNoMatchingValueIsMissed(t *testing.T) {
	for _, typ := range types() {
		for _, l := range lists(typ, 4) {
			z := zonemap.Build(vectorOf(typ, l))
			for _, p := range predicates() {
				kept := slices.DeleteFunc(slices.Clone(l), func(v api.Value) bool { return !matches(p, v) })
				if len(kept) > 0 && !zonemap.MayMatch(z, p) {
					t.Fatalf("%v: op %d and %v match, but MayMatch is false", l, p.Op, p.Value)
				}
				if zonemap.AllMatch(z, p) && len(kept) < len(l) {
					t.Fatalf("%v: op %d and %v do not match all, but AllMatch is true", l, p.Op, p.Value)
				}
				r := zonemap.Restrict(z, p)
				outside := func(v api.Value) bool { return !zonemap.Contains(r, v) }
				if len(kept) > r.Rows || slices.ContainsFunc(kept, outside) {
					t.Fatalf("%v: op %d and %v match %v, but Restrict is %v", l, p.Op, p.Value, kept, r)
				}
			}
		}
	}
}

// P14.7

func TestAllMatchImpliesMayMatch(t *testing.T) {
	for _, z := range zones(5) {
		for _, p := range predicates() {
			if zonemap.AllMatch(z, p) && !zonemap.MayMatch(z, p) {
				t.Errorf("%v, op %d, %v: AllMatch without MayMatch", z, p.Op, p.Value)
			}
		}
	}
}

func TestAllDifferIfNoneMayBeEqual(t *testing.T) {
	for _, z := range append(zones(5), api.ZoneMap{Rows: 1 << 40, Min: number(-1), Max: number(math.MaxInt64)}) {
		for _, v := range append(operands(), number(1)) {
			if v == null() || v.Kind != z.Min.Kind {
				continue
			}
			want := z.Rows > 0 && z.Nulls == 0 && !zonemap.MayMatch(z, api.Predicate{Op: api.OpEq, Value: v})
			if got := zonemap.AllMatch(z, api.Predicate{Op: api.OpNe, Value: v}); got != want {
				t.Errorf("AllMatch(%v, OpNe, %v) = %v", z, v, got)
			}
		}
	}
}

// encodingOf returns the encoding of z by the promise.
func encodingOf(z api.ZoneMap) []byte {
	b := binary.AppendUvarint(binary.AppendUvarint(nil, uint64(z.Rows)), uint64(z.Nulls))
	if z.Nulls < z.Rows {
		b = slices.Concat(b, value.Encode(z.Min), value.Encode(z.Max))
	}
	return b
}

func TestDecodeInvertsEncode(t *testing.T) {
	for _, small := range zones(5) {
		for _, more := range []int{0, 1, 127, 1 << 20, 1<<40 - 5} {
			z := small
			z.Rows += more
			if z.Rows-more-z.Nulls < 2 { // then there may not be more values
				z.Nulls += more
			}
			b := zonemap.Encode(z)
			if !bytes.Equal(b, encodingOf(z)) {
				t.Errorf("Encode(%v) = %x, want %x", z, b, encodingOf(z))
			}
			got, next, e := zonemap.Decode(b, 0)
			if got != z || next != len(b) || e != api.OK {
				t.Errorf("%v is encoded as %x, which is decoded to %v, %d, error %d", z, b, got, next, e)
			}
			if again := zonemap.Encode(got); !bytes.Equal(again, b) {
				t.Errorf("%x is decoded and encoded as %x", b, again)
			}
		}
	}
}

// TestArgumentsThatAreNotValid only asks for an end without a panic.
func TestArgumentsThatAreNotValid(t *testing.T) {
	numbers := []int{math.MinInt, -1, 0, 1, 2, 5, math.MaxInt}
	values := []api.Value{null(), {Int: 1}, truth(0), truth(7), number(3), {Kind: api.Int, Text: "a"}, text("a"), text(strings.Repeat("x", 5000)), {Kind: 4, Int: 1}, {Kind: -1}, {Kind: math.MaxInt}}
	var all []api.ZoneMap
	for _, rows := range numbers {
		for _, nulls := range numbers {
			for i, v := range values {
				all = append(all, api.ZoneMap{Rows: rows, Nulls: nulls, Min: v, Max: v}, api.ZoneMap{Rows: rows, Nulls: nulls, Min: v, Max: values[len(values)-1-i]})
			}
		}
	}
	for i, z := range all {
		zonemap.Encode(z)
		zonemap.Merge(z, all[len(all)-1-i])
		for _, v := range values {
			zonemap.Contains(z, v)
			for _, op := range append(comparisons(), api.PredIsNull, api.PredNotNull, 0, -1) {
				p := api.Predicate{Column: -1, Op: op, Value: v}
				zonemap.MayMatch(z, p)
				zonemap.AllMatch(z, p)
				zonemap.Restrict(z, p)
			}
		}
	}
	for _, typ := range append(numbers, api.Text, 4, 256+api.Int) {
		for _, ints := range [][]int64{nil, {7}, {7, 0, 1, 2}} {
			for _, texts := range [][]string{nil, {"a"}, {"a", "b", "c", "d"}} {
				for _, nulls := range [][]bool{nil, {false}, {true, false, false}, {false, false, false, false, false}} {
					zonemap.Build(api.Vector{Type: typ, Ints: ints, Texts: texts, Nulls: nulls})
				}
			}
		}
	}
}

func TestResultsShareNoMemory(t *testing.T) {
	z := api.ZoneMap{Rows: 2, Min: text("abc"), Max: text("abd")}
	b, other := zonemap.Encode(z), zonemap.Encode(z)
	got, _, _ := zonemap.Decode(b, 0)
	clear(b)
	if got != z || !bytes.Equal(other, encodingOf(z)) {
		t.Errorf("a result changed with another one: %v, %x", got, other)
	}
}
