package rowgroup_test

import (
	"bytes"
	"math"
	"slices"
	"testing"

	"lamina/api"
	"lamina/bitset"
	"lamina/bloom"
	"lamina/rowgroup"
	"lamina/value"
	"lamina/vector"
	"lamina/zonemap"
)

func operators() []int {
	return []int{api.OpEq, api.OpNe, api.OpLt, api.OpLe, api.OpGt, api.OpGe, api.PredIsNull, api.PredNotNull}
}

// otherOperators are none of predicates.
func otherOperators() []int {
	others := []int{math.MinInt, -1, 0, 16, 19, 22, 23, 256 + api.OpEq, 1<<32 + api.OpEq, 1<<32 + api.PredIsNull, math.MaxInt}
	for op := api.OpAnd; op <= api.OpLike; op++ {
		others = append(others, op)
	}
	return others
}

// holds reports whether p is true for x.
func holds(p api.Predicate, x api.Value) bool {
	switch p.Op {
	case api.PredIsNull:
		return x == null()
	case api.PredNotNull:
		return x != null()
	}
	return value.Test(p.Op, x, p.Value) == truth(1)
}

// allRows returns the set of n rows.
func allRows(n int) api.Bitset {
	return bitset.Of(n, upTo(n)...)
}

// rowsWhere returns the rows of b that satisfy all predicates.
func rowsWhere(b api.Batch, predicates []api.Predicate) api.Bitset {
	rows := vector.Rows(b)
	var kept []int
	for i, row := range rows {
		if !slices.ContainsFunc(predicates, func(p api.Predicate) bool { return !holds(p, row[p.Column]) }) {
			kept = append(kept, i)
		}
	}
	return bitset.Of(len(rows), kept...)
}

// predicates returns some predicates on each column of b, with values of the column and others.
func predicates(b api.Batch) []api.Predicate {
	var all []api.Predicate
	for c, v := range b.Columns {
		operands := []api.Value{null(), truth(0), number(2), text("row 1x")}
		values := vector.Values(v)
		operands = append(operands, values[0], values[len(values)/2], values[len(values)-1])
		for _, op := range operators() {
			for _, x := range operands {
				all = append(all, api.Predicate{Column: c, Op: op, Value: x})
			}
		}
	}
	return slices.CompactFunc(all, func(p, q api.Predicate) bool { return p == q })
}

// P18.3: MayMatch

func TestMayMatchOfAFewPredicates(t *testing.T) {
	many := column1(api.Int, number(0), number(500), number(1000), null())
	source := batchOf([]int{api.Int, api.Text}, api.Row{number(1), text("x")}, api.Row{null(), text("y")})
	for _, x := range []struct {
		name string
		b    api.Batch
		list []api.Predicate
		want bool
	}{
		{"no predicates", source, nil, true},
		{"equal", source, []api.Predicate{{Op: api.OpEq, Value: number(1)}}, true},
		{"equal to another value", source, []api.Predicate{{Op: api.OpEq, Value: number(2)}}, false},
		{"equal to NULL", source, []api.Predicate{{Op: api.OpEq}}, false},
		{"equal to another kind", source, []api.Predicate{{Op: api.OpEq, Value: text("x")}}, false},
		{"above the maximum", source, []api.Predicate{{Op: api.OpGt, Value: number(1)}}, false},
		{"NULL", source, []api.Predicate{{Op: api.PredIsNull}}, true},
		{"no NULL there", source, []api.Predicate{{Column: 1, Op: api.PredIsNull}}, false},
		{"not NULL", source, []api.Predicate{{Column: 1, Op: api.PredNotNull}}, true},
		{"the second column", source, []api.Predicate{{Column: 1, Op: api.OpEq, Value: text("y")}}, true},
		{"both", source, []api.Predicate{{Op: api.PredIsNull}, {Column: 1, Op: api.OpEq, Value: text("y")}}, true},
		{"both, in no row at once", source, []api.Predicate{{Op: api.PredIsNull}, {Column: 1, Op: api.OpEq, Value: text("x")}}, true},
		{"the first excluded", source, []api.Predicate{{Op: api.OpLt, Value: number(1)}, {Column: 1, Op: api.PredNotNull}}, false},
		{"the last excluded", source, []api.Predicate{{Column: 1, Op: api.PredNotNull}, {Op: api.OpLt, Value: number(1)}}, false},
		{"within the bounds", many, []api.Predicate{{Op: api.OpEq, Value: number(500)}}, true},
		{"excluded by the filter", many, []api.Predicate{{Op: api.OpEq, Value: number(501)}}, false},
		{"not equal to what the filter excludes", many, []api.Predicate{{Op: api.OpNe, Value: number(501)}}, true},
		{"less than what the filter excludes", many, []api.Predicate{{Op: api.OpLt, Value: number(501)}}, true},
		{"at most what the filter excludes", many, []api.Predicate{{Op: api.OpLe, Value: number(501)}}, true},
		{"greater than what the filter excludes", many, []api.Predicate{{Op: api.OpGt, Value: number(501)}}, true},
		{"at least what the filter excludes", many, []api.Predicate{{Op: api.OpGe, Value: number(501)}}, true},
		{"NULL, beside what the filter excludes", many, []api.Predicate{{Op: api.PredIsNull, Value: number(501)}}, true},
		{"not NULL, beside what the filter excludes", many, []api.Predicate{{Op: api.PredNotNull, Value: number(501)}}, true},
		{"NULL, which the filter excludes", many, []api.Predicate{{Op: api.PredIsNull}}, true},
	} {
		_, g := encode(t, x.b)
		if got := rowgroup.MayMatch(g, x.list); got != x.want {
			t.Errorf("%s: MayMatch = %v", x.name, got)
		}
	}
	_, g, _ := rowgroup.Encode(many, 0)
	if !rowgroup.MayMatch(g, []api.Predicate{{Op: api.OpEq, Value: number(501)}}) {
		t.Error("a value is excluded without a filter")
	}
}

func TestMayMatchWithColumnsThatDoNotExist(t *testing.T) {
	_, g := encode(t, mixed(4))
	never := api.Predicate{Op: api.OpEq}
	may := api.Predicate{Column: 0, Op: api.PredNotNull}
	for _, i := range []int{math.MinInt, -5, -1, 5, 6, 64, 1 << 32, math.MaxInt} {
		for _, op := range append(operators(), otherOperators()...) {
			for _, x := range []api.Value{null(), number(77), text("none")} {
				p := api.Predicate{Column: i, Op: op, Value: x}
				if !rowgroup.MayMatch(g, []api.Predicate{p}) || !rowgroup.MayMatch(g, []api.Predicate{p, may, p}) {
					t.Errorf("excluded by %v", p)
				}
				if rowgroup.MayMatch(g, []api.Predicate{p, never}) || rowgroup.MayMatch(g, []api.Predicate{never, p}) {
					t.Errorf("not excluded beside %v", p)
				}
				if !rowgroup.MayMatch(api.RowGroup{}, []api.Predicate{p, never}) {
					t.Errorf("excluded by %v, without columns", p)
				}
			}
		}
	}
}

// mayMatch is MayMatch by its definition.
func mayMatch(g api.RowGroup, list []api.Predicate) bool {
	for _, p := range list {
		if p.Column < 0 || p.Column >= len(g.Zones) {
			continue
		}
		if !zonemap.MayMatch(g.Zones[p.Column], p) {
			return false
		}
		if p.Op == api.OpEq && p.Value != null() && !bloom.MayContain(g.Blooms[p.Column], p.Value) {
			return false
		}
	}
	return true
}

// TestMayMatchAgreesWithTheDefinition also tries metadata that is not that of any rows: filters that contain nothing, and all zone maps and filters in another order.
func TestMayMatchAgreesWithTheDefinition(t *testing.T) {
	answers := map[bool]int{}
	for _, source := range []api.Batch{mixed(1), mixed(3), mixed(6), mixed(40)} {
		for _, bloomBits := range []int{0, 1, 8} {
			_, g, _ := rowgroup.Encode(source, bloomBits)
			blank, turned, noFilters := cloneGroup(g), cloneGroup(g), cloneGroup(g)
			for i := range blank.Blooms {
				clear(blank.Blooms[i].Bits.Words)
			}
			slices.Reverse(turned.Zones)
			clear(noFilters.Blooms)
			all := predicates(source)
			for _, group := range []api.RowGroup{g, blank, turned, noFilters} {
				for k, p := range all {
					for _, list := range [][]api.Predicate{{p}, {p, all[k*7%len(all)]}, {all[k*5%len(all)], p, {Column: 9}}} {
						want := mayMatch(group, list)
						if got := rowgroup.MayMatch(group, list); got != want {
							t.Fatalf("%s: MayMatch by %v = %v", describe(source), list, got)
						}
						answers[want]++
					}
				}
			}
		}
	}
	if answers[true] < 1000 || answers[false] < 1000 {
		t.Errorf("answers: %v", answers)
	}
}

func TestMayMatchWithOtherOperators(t *testing.T) {
	_, g := encode(t, mixed(6))
	for _, op := range otherOperators() {
		for c := range g.Zones {
			for _, x := range []api.Value{null(), number(2), text("row 1"), truth(1)} {
				if rowgroup.MayMatch(g, []api.Predicate{{Column: c, Op: op, Value: x}}) {
					t.Errorf("operator %d may match in column %d", op, c)
				}
			}
		}
	}
}

// P18.3: Filter

func TestFilterOfAFewPredicates(t *testing.T) {
	source := batchOf([]int{api.Int, api.Text},
		api.Row{number(1), text("x")}, api.Row{null(), text("y")}, api.Row{number(3), null()}, api.Row{number(3), text("x")})
	b, g := encode(t, source)
	isNull, three, x := api.Predicate{Op: api.PredIsNull}, api.Predicate{Op: api.OpEq, Value: number(3)}, api.Predicate{Column: 1, Op: api.OpEq, Value: text("x")}
	for _, c := range []struct {
		name string
		list []api.Predicate
		want []int
	}{
		{"no predicates", nil, []int{0, 1, 2, 3}},
		{"NULL", []api.Predicate{isNull}, []int{1}},
		{"3", []api.Predicate{three}, []int{2, 3}},
		{"x", []api.Predicate{x}, []int{0, 3}},
		{"3 and x", []api.Predicate{three, x}, []int{3}},
		{"x and 3", []api.Predicate{x, three}, []int{3}},
		{"x and NULL", []api.Predicate{x, isNull}, nil},
		{"x and x", []api.Predicate{x, x, x}, []int{0, 3}},
		{"x and NULL and 3", []api.Predicate{x, isNull, three}, nil},
		{"not x", []api.Predicate{{Column: 1, Op: api.OpNe, Value: text("x")}}, []int{1}},
		{"equal to NULL", []api.Predicate{{Op: api.OpEq}}, nil},
		{"another kind", []api.Predicate{{Op: api.OpEq, Value: text("x")}}, nil},
		{"from 1 to 2", []api.Predicate{{Op: api.OpGe, Value: number(1)}, {Op: api.OpLe, Value: number(2)}}, []int{0}},
		{"between 1 and 2", []api.Predicate{{Op: api.OpGt, Value: number(1)}, {Op: api.OpLt, Value: number(2)}}, nil},
	} {
		checkFilter(t, c.name, b, g, c.list, bitset.Of(4, c.want...), api.OK)
	}
}

// P18.3 and P18.5: the rows are those of the batch, in whichever order the predicates are, and none if MayMatch is false.
func TestFilterAgreesWithTheRows(t *testing.T) {
	pruned := 0
	for _, n := range []int{1, 2, 5, 64, 65, 130} {
		source := mixed(n)
		b, g := encode(t, source)
		before, beforeG := slices.Clone(b), cloneGroup(g)
		all := predicates(source)
		for k, p := range all {
			for _, list := range [][]api.Predicate{{p}, {p, all[k*7%len(all)]}, {all[k*5%len(all)], p}, {all[k*3%len(all)], p, all[k*11%len(all)]}} {
				want, kept := rowsWhere(source, list), slices.Clone(list)
				checkFilter(t, describe(source), b, g, list, want, api.OK)
				if !rowgroup.MayMatch(g, list) {
					pruned++
					if bitset.Count(want) > 0 {
						t.Errorf("%s: MayMatch is false for %v", describe(source), list)
					}
				}
				if !slices.Equal(list, kept) {
					t.Fatalf("%v was changed to %v", kept, list)
				}
				slices.Reverse(list)
				checkFilter(t, describe(source), b, g, list, want, api.OK)
			}
		}
		if !bytes.Equal(b, before) || !sameGroup(g, beforeG) {
			t.Errorf("%s: an argument was changed", describe(source))
		}
	}
	if pruned < 100 {
		t.Errorf("MayMatch was false %d times", pruned)
	}
}

// P18.5, for short columns of each type: MayMatch misses no row.
func TestMayMatchMissesNoRow(t *testing.T) {
	for typ, alphabet := range alphabets() {
		for _, values := range sequences(alphabet, 3)[1:] {
			source := column1(typ, values...)
			for _, bloomBits := range []int{0, 1, 16} {
				b, g, _ := rowgroup.Encode(source, bloomBits)
				for _, op := range operators() {
					for _, x := range append(slices.Clone(alphabet), number(3), text("aa")) {
						list := []api.Predicate{{Op: op, Value: x}}
						want := rowsWhere(source, list)
						checkFilter(t, describe(source), b, g, list, want, api.OK)
						if bitset.Count(want) > 0 && !rowgroup.MayMatch(g, list) {
							t.Errorf("%s: MayMatch is false for %v", describe(source), list)
						}
					}
				}
			}
		}
	}
}

func TestFilterOfAFullGroup(t *testing.T) {
	source := mixed(api.MaxGroupRows)
	b, g := encode(t, source)
	for _, list := range [][]api.Predicate{
		nil,
		{{Column: 0, Op: api.OpGe, Value: number(3)}},
		{{Column: 1, Op: api.OpLt, Value: text("row 3")}, {Column: 3, Op: api.OpEq, Value: truth(1)}, {Column: 4, Op: api.PredNotNull}},
		{{Column: 4, Op: api.OpEq, Value: number(4094 << 40)}},
		{{Column: 2, Op: api.PredNotNull}, {Column: 1, Op: api.PredIsNull}},
	} {
		checkFilter(t, "4096 rows", b, g, list, rowsWhere(source, list), api.OK)
	}
}

// TestFilterWithPredicatesThatAreNotValid: they are refused before any byte is looked at, also those that would not be evaluated.
func TestFilterWithPredicatesThatAreNotValid(t *testing.T) {
	whole, g := encode(t, mixed(5))
	good, none := api.Predicate{Column: 3, Op: api.PredNotNull}, api.Predicate{Column: 2, Op: api.PredNotNull}
	var wrong []api.Predicate
	for _, i := range []int{math.MinInt, -5, -1, 5, 6, 64, 1 << 32, math.MaxInt} {
		for _, op := range operators() {
			wrong = append(wrong, api.Predicate{Column: i, Op: op, Value: number(1)})
		}
	}
	for _, op := range otherOperators() {
		wrong = append(wrong, api.Predicate{Op: op, Value: number(1)}, api.Predicate{Column: 4, Op: op}, api.Predicate{Column: -1, Op: op})
	}
	damaged := slices.Clone(whole)
	for i := range damaged {
		damaged[i] ^= 1
	}
	for _, p := range wrong {
		for _, b := range [][]byte{whole, damaged, nil, whole[:7], slices.Repeat(whole, 2)} {
			for _, list := range [][]api.Predicate{{p}, {p, good}, {good, p}, {none, p}, {none, good, p, p}} {
				checkFilter(t, "not valid", b, g, list, api.Bitset{}, api.ErrArg)
			}
		}
	}
}

// TestFilterOfValuesThatAreNotValid: the value of a predicate may be anything.
func TestFilterOfValuesThatAreNotValid(t *testing.T) {
	b, g := encode(t, mixed(5))
	for _, x := range []api.Value{{Kind: 4}, {Kind: -1, Int: 7}, {Kind: math.MaxInt, Text: "a"}, {Int: 5, Text: "NULL"}} {
		for _, op := range operators()[:6] {
			for c := range g.Zones {
				checkFilter(t, "no value", b, g, []api.Predicate{{Column: c, Op: op, Value: x}}, bitset.New(5), api.OK)
			}
		}
	}
}

// evaluated returns what Filter makes of the predicates on the parts.
func evaluated(parts []piece, list []api.Predicate) (api.Bitset, api.Errno) {
	rows := upTo(3)
	for _, p := range list {
		if len(rows) == 0 {
			break
		}
		if e := parts[p.Column].e; e != api.OK {
			return api.Bitset{}, e
		}
		rows = slices.DeleteFunc(rows, func(i int) bool { return !holds(p, vector.At(parts[p.Column].v, i)) })
	}
	return bitset.Of(3, rows...), api.OK
}

// TestFilterOfOtherChunks: predicates are evaluated until no row is left, and the first error among them decides, whatever the metadata tells of the values.
func TestFilterOfOtherChunks(t *testing.T) {
	results := map[api.Errno]int{}
	alphabet := []api.Predicate{
		{Column: 0, Op: api.PredNotNull}, {Column: 1, Op: api.PredNotNull},
		{Column: 0, Op: api.OpEq, Value: number(1)}, {Column: 1, Op: api.OpGt, Value: number(1)},
		{Column: 0, Op: api.OpLt}, {Column: 1, Op: api.OpNe},
	}
	for _, first := range pieces() {
		for _, second := range pieces() {
			parts := []piece{first, second}
			b, g := assemble(parts...)
			for _, list := range sequences(alphabet, 3) {
				want, e := evaluated(parts, list)
				results[e]++
				checkFilter(t, first.name+", "+second.name, b, g, list, want, e)
				if len(list) < 2 {
					checkFilter(t, first.name+", "+second.name+", cut", b[:len(b)-1], g, list, api.Bitset{}, api.ErrShort)
				}
			}
		}
	}
	for _, e := range []api.Errno{api.OK, api.ErrChecksum, api.ErrShort, api.ErrFormat, api.ErrCount, api.ErrRange, api.ErrLong} {
		if results[e] < 100 {
			t.Errorf("error %d was expected %d times", e, results[e])
		}
	}
}

func TestFilterOfNothingHasAllItsWords(t *testing.T) {
	b, g := encode(t, mixed(130))
	got, e := rowgroup.Filter(b, g, []api.Predicate{{Column: 2, Op: api.PredNotNull}})
	if e != api.OK || got.N != 130 || len(got.Words) != 3 || !bitset.Valid(got) || bitset.Count(got) != 0 {
		t.Errorf("Filter = %v, error %d", got, e)
	}
}

// TestMayMatchOfMetadataThatIsNotValid only asks for an end without a panic.
func TestMayMatchOfMetadataThatIsNotValid(t *testing.T) {
	for _, g := range spoiled(t) {
		for _, p := range predicates(mixed(5)) {
			rowgroup.MayMatch(g, []api.Predicate{p})
			rowgroup.MayMatch(g, []api.Predicate{{Column: p.Column, Op: api.PredNotNull}, p})
		}
	}
}
