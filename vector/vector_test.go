package vector_test

import (
	"math"
	"slices"
	"strings"
	"testing"

	"lamina/api"
	"lamina/vector"
)

func null() api.Value          { return api.Value{} }
func number(n int64) api.Value { return api.Value{Kind: api.Int, Int: n} }
func truth(n int64) api.Value  { return api.Value{Kind: api.Bool, Int: n} }
func text(s string) api.Value  { return api.Value{Kind: api.Text, Text: s} }

func types() []int { return []int{api.Null, api.Bool, api.Int, api.Text} }

// noTypes returns numbers that are not types.
func noTypes() []int {
	return []int{math.MinInt, -1, 4, 5, 7, 255, 256 + api.Int, 1<<32 + api.Bool, math.MaxInt}
}

// alphabet returns NULL and a few values of the type.
func alphabet(typ int) []api.Value {
	switch typ {
	case api.Bool:
		return []api.Value{null(), truth(0), truth(1)}
	case api.Int:
		return []api.Value{null(), number(0), number(math.MinInt64), number(math.MaxInt64)}
	case api.Text:
		return []api.Value{null(), text(""), text("a\x00"), text(strings.Repeat("x", api.MaxText))}
	}
	return []api.Value{null()}
}

// sequences returns all sequences of up to length elements of the alphabet.
func sequences[T any](alphabet []T, length int) [][]T {
	all := [][]T{{}}
	for start := 0; length > 0; length-- {
		end := len(all)
		for _, s := range all[start:end] {
			for _, x := range alphabet {
				all = append(all, append(slices.Clone(s), x))
			}
		}
		start = end
	}
	return all
}

// lists returns all lists of up to length values of the alphabet of the type.
func lists(typ, length int) [][]api.Value {
	return sequences(alphabet(typ), length)
}

// vectorOf returns the vector of the values by its definition.
func vectorOf(typ int, values []api.Value) api.Vector {
	v := api.Vector{Type: typ}
	for _, x := range values {
		v.Nulls = append(v.Nulls, x == null())
		switch typ {
		case api.Bool, api.Int:
			v.Ints = append(v.Ints, x.Int)
		case api.Text:
			v.Texts = append(v.Texts, x.Text)
		}
	}
	return v
}

func sameVector(a, b api.Vector) bool {
	return a.Type == b.Type && slices.Equal(a.Ints, b.Ints) && slices.Equal(a.Texts, b.Texts) && slices.Equal(a.Nulls, b.Nulls)
}

func cloneVector(v api.Vector) api.Vector {
	return api.Vector{Type: v.Type, Ints: slices.Clone(v.Ints), Texts: slices.Clone(v.Texts), Nulls: slices.Clone(v.Nulls)}
}

// scribble overwrites all entries of v.
func scribble(v api.Vector) {
	for i := range v.Ints {
		v.Ints[i] = 77
	}
	for i := range v.Texts {
		v.Texts[i] = "scribbled"
	}
	for i := range v.Nulls {
		v.Nulls[i] = !v.Nulls[i]
	}
}

func isZero(v api.Vector) bool {
	return v.Type == 0 && len(v.Ints) == 0 && len(v.Texts) == 0 && len(v.Nulls) == 0
}

func TestValidOrdinary(t *testing.T) {
	for _, typ := range types() {
		for _, list := range lists(typ, 3) {
			if v := vectorOf(typ, list); !vector.Valid(v) {
				t.Errorf("Valid(%v) = false", v)
			}
		}
	}
	if !vector.Valid(api.Vector{}) {
		t.Error("the empty vector of type Null is not valid")
	}
}

func TestValidRefuses(t *testing.T) {
	one, two, none := []bool{false}, []bool{false, false}, []bool{}
	for name, v := range map[string]api.Vector{
		"Null that is not NULL":      {Nulls: one},
		"Null, the last is not NULL": {Nulls: []bool{true, true, false}},
		"Null with Ints":             {Ints: []int64{0}, Nulls: []bool{true}},
		"Null with Texts":            {Texts: []string{""}, Nulls: []bool{true}},
		"empty Null with Ints":       {Ints: []int64{0}},
		"empty Null with Texts":      {Texts: []string{""}},
		"Bool without Ints":          {Type: api.Bool, Nulls: one},
		"Bool with too many Ints":    {Type: api.Bool, Ints: []int64{0, 1}, Nulls: one},
		"Bool with Ints alone":       {Type: api.Bool, Ints: []int64{0}, Nulls: none},
		"Bool with too few Ints":     {Type: api.Bool, Ints: []int64{1}, Nulls: two},
		"Bool with Texts":            {Type: api.Bool, Ints: []int64{1}, Texts: []string{""}, Nulls: one},
		"Bool 2":                     {Type: api.Bool, Ints: []int64{2}, Nulls: one},
		"Bool -1":                    {Type: api.Bool, Ints: []int64{-1}, Nulls: one},
		"Bool 2^32":                  {Type: api.Bool, Ints: []int64{1 << 32}, Nulls: one},
		"the second Bool is 2":       {Type: api.Bool, Ints: []int64{1, 2}, Nulls: two},
		"NULL with the Bool 1":       {Type: api.Bool, Ints: []int64{1}, Nulls: []bool{true}},
		"Int without Ints":           {Type: api.Int, Nulls: one},
		"Int with too many Ints":     {Type: api.Int, Ints: []int64{0, 1}, Nulls: one},
		"Int with too few Ints":      {Type: api.Int, Ints: []int64{1}, Nulls: two},
		"Int with Texts":             {Type: api.Int, Ints: []int64{1}, Texts: []string{""}, Nulls: one},
		"Int with Texts instead":     {Type: api.Int, Texts: []string{""}, Nulls: one},
		"empty Int with Texts":       {Type: api.Int, Texts: []string{""}},
		"empty Int with Ints":        {Type: api.Int, Ints: []int64{0}},
		"NULL with the Int 5":        {Type: api.Int, Ints: []int64{3, 5}, Nulls: []bool{false, true}},
		"NULL with the Int -1":       {Type: api.Int, Ints: []int64{-1}, Nulls: []bool{true}},
		"Text without Texts":         {Type: api.Text, Nulls: one},
		"Text with too many Texts":   {Type: api.Text, Texts: []string{"", ""}, Nulls: one},
		"Text with too few Texts":    {Type: api.Text, Texts: []string{""}, Nulls: two},
		"Text with Ints":             {Type: api.Text, Ints: []int64{0}, Texts: []string{""}, Nulls: one},
		"Text with Ints instead":     {Type: api.Text, Ints: []int64{0}, Nulls: one},
		"empty Text with Texts":      {Type: api.Text, Texts: []string{""}},
		"empty Text with Ints":       {Type: api.Text, Ints: []int64{0}},
		"NULL with a Text":           {Type: api.Text, Texts: []string{"a", "a"}, Nulls: []bool{false, true}},
		"Text of 4097 bytes":         {Type: api.Text, Texts: []string{strings.Repeat("x", 4097)}, Nulls: one},
		"runes of 4098 bytes":        {Type: api.Text, Texts: []string{strings.Repeat("é", 2049)}, Nulls: one},
	} {
		if vector.Valid(v) {
			t.Errorf("%s: Valid = true", name)
		}
	}
}

func TestValidAcceptsLimits(t *testing.T) {
	for name, v := range map[string]api.Vector{
		"Text of 4096 bytes": {Type: api.Text, Texts: []string{strings.Repeat("x", 4096)}, Nulls: []bool{false}},
		"bytes of no rune":   {Type: api.Text, Texts: []string{"\xff\x00"}, Nulls: []bool{false}},
		"extreme Ints":       {Type: api.Int, Ints: []int64{math.MinInt64, math.MaxInt64}, Nulls: []bool{false, false}},
		"empty lists":        {Type: api.Int, Ints: []int64{}, Texts: []string{}, Nulls: []bool{}},
	} {
		if !vector.Valid(v) {
			t.Errorf("%s: Valid = false", name)
		}
	}
}

func TestValidOfNoType(t *testing.T) {
	for _, typ := range noTypes() {
		for _, v := range []api.Vector{
			{Type: typ},
			{Type: typ, Nulls: []bool{true}},
			{Type: typ, Ints: []int64{0}, Nulls: []bool{false}},
			{Type: typ, Texts: []string{""}, Nulls: []bool{false}},
		} {
			if vector.Valid(v) {
				t.Errorf("Valid(%v) = true", v)
			}
		}
	}
}

// TestValidIsFromValues holds Valid against its meaning: a vector is valid if it is that of some values.
func TestValidIsFromValues(t *testing.T) {
	ints := sequences([]int64{0, 1, 2}, 2)
	texts := sequences([]string{"", "a"}, 2)
	nulls := sequences([]bool{false, true}, 2)
	for typ := -1; typ <= 4; typ++ {
		for _, i := range ints {
			for _, x := range texts {
				for _, n := range nulls {
					v := api.Vector{Type: typ, Ints: i, Texts: x, Nulls: n}
					if got, want := vector.Valid(v), isOfValues(v); got != want {
						t.Errorf("Valid(%v) = %v", v, got)
					}
				}
			}
		}
	}
}

// isOfValues reports whether v is the vector of a list of values of the alphabet {NULL, 0, 1, 2, "", "a"}.
func isOfValues(v api.Vector) bool {
	letters := map[int][]api.Value{
		api.Null: {null()},
		api.Bool: {null(), truth(0), truth(1)},
		api.Int:  {null(), number(0), number(1), number(2)},
		api.Text: {null(), text(""), text("a")},
	}
	return slices.ContainsFunc(sequences(letters[v.Type], len(v.Nulls)), func(list []api.Value) bool {
		return letters[v.Type] != nil && sameVector(v, vectorOf(v.Type, list))
	})
}

func TestFromValuesExamples(t *testing.T) {
	v, e := vector.FromValues(api.Int, []api.Value{number(1), null()})
	want := api.Vector{Type: api.Int, Ints: []int64{1, 0}, Nulls: []bool{false, true}}
	if e != api.OK || !sameVector(v, want) {
		t.Errorf("FromValues(Int, 1 NULL) = %v, %v", v, e)
	}
	if x := vector.At(v, 2); x != null() {
		t.Errorf("At(v, 2) = %v", x)
	}
	if v, e := vector.FromValues(api.Bool, []api.Value{number(1)}); e != api.ErrType || !isZero(v) {
		t.Errorf("FromValues(Bool, 1) = %v, %v", v, e)
	}
	v, e = vector.FromValues(api.Text, []api.Value{text("b"), null(), text("")})
	want = api.Vector{Type: api.Text, Texts: []string{"b", "", ""}, Nulls: []bool{false, true, false}}
	if e != api.OK || !sameVector(v, want) {
		t.Errorf("FromValues of Texts = %v, %v", v, e)
	}
	v, e = vector.FromValues(api.Null, []api.Value{null(), null()})
	if e != api.OK || !sameVector(v, api.Vector{Nulls: []bool{true, true}}) {
		t.Errorf("FromValues of NULLs = %v, %v", v, e)
	}
}

func TestFromValuesAtAndValues(t *testing.T) {
	for _, typ := range types() {
		for _, list := range lists(typ, 4) {
			v, e := vector.FromValues(typ, list)
			if e != api.OK || !sameVector(v, vectorOf(typ, list)) || !vector.Valid(v) {
				t.Fatalf("FromValues(%d, %v) = %v, %v", typ, list, v, e)
			}
			if got := vector.Values(v); !slices.Equal(got, list) {
				t.Fatalf("Values(%v) = %v", v, got)
			}
			for i, x := range list {
				if got := vector.At(v, i); got != x {
					t.Fatalf("At(%v, %d) = %v", v, i, got)
				}
			}
		}
	}
}

func TestFromValuesMixedTypes(t *testing.T) {
	letters := []api.Value{null(), truth(1), number(1), text("a")}
	for _, typ := range types() {
		for _, list := range sequences(letters, 3) {
			want := api.OK
			for _, x := range list {
				if x.Kind != api.Null && x.Kind != typ {
					want = api.ErrType
				}
			}
			v, e := vector.FromValues(typ, list)
			if e != want {
				t.Errorf("FromValues(%d, %v): %v, want %v", typ, list, e, want)
			}
			if e != api.OK && !isZero(v) {
				t.Errorf("FromValues(%d, %v) returns %v beside the error", typ, list, v)
			}
		}
	}
}

func TestFromValuesOfNoType(t *testing.T) {
	for _, typ := range noTypes() {
		for _, list := range [][]api.Value{nil, {null()}, {number(1)}, {truth(1), text("")}} {
			if v, e := vector.FromValues(typ, list); e != api.ErrArg || !isZero(v) {
				t.Errorf("FromValues(%d, %v) = %v, %v", typ, list, v, e)
			}
		}
	}
}

func TestAtOutOfRange(t *testing.T) {
	for _, typ := range types() {
		for _, list := range lists(typ, 2) {
			v := vectorOf(typ, list)
			for _, i := range []int{math.MinInt, -2, -1, len(list), len(list) + 1, 1 << 32, math.MaxInt} {
				if x := vector.At(v, i); x != null() {
					t.Errorf("At(%v, %d) = %v", v, i, x)
				}
			}
		}
	}
}

// atModel returns the value at index i, or NULL if there is none.
func atModel(list []api.Value, i int) api.Value {
	if i >= 0 && i < len(list) {
		return list[i]
	}
	return null()
}

func gatherModel(list []api.Value, indices []int) []api.Value {
	var gathered []api.Value
	for _, i := range indices {
		gathered = append(gathered, atModel(list, i))
	}
	return gathered
}

func TestGatherExamples(t *testing.T) {
	v := vectorOf(api.Int, []api.Value{number(4), null(), number(6)})
	got := vector.Gather(v, []int{2, 9, 2, 1, -1, 0})
	want := api.Vector{Type: api.Int, Ints: []int64{6, 0, 6, 0, 0, 4}, Nulls: []bool{false, true, false, true, true, false}}
	if !sameVector(got, want) {
		t.Errorf("Gather = %v", got)
	}
	got = vector.Gather(vectorOf(api.Text, []api.Value{text("a"), text("b")}), []int{1, 2, 0})
	want = api.Vector{Type: api.Text, Texts: []string{"b", "", "a"}, Nulls: []bool{false, true, false}}
	if !sameVector(got, want) {
		t.Errorf("Gather = %v", got)
	}
	got = vector.Gather(vectorOf(api.Null, []api.Value{null()}), []int{0, 1, 0})
	if !sameVector(got, api.Vector{Nulls: []bool{true, true, true}}) {
		t.Errorf("Gather = %v", got)
	}
}

func TestGather(t *testing.T) {
	indices := sequences([]int{-1, 0, 1, 2, math.MaxInt}, 3)
	indices = append(indices, []int{math.MinInt}, []int{1 << 32}, []int{0, 0, 1, 1, 1, 0, 0})
	for _, typ := range types() {
		for _, list := range lists(typ, 2) {
			v := vectorOf(typ, list)
			for _, at := range indices {
				got := vector.Gather(v, at)
				if !sameVector(got, vectorOf(typ, gatherModel(list, at))) || !vector.Valid(got) {
					t.Fatalf("Gather(%v, %v) = %v", v, at, got)
				}
			}
		}
	}
}

func TestGatherAllInOrder(t *testing.T) {
	for _, typ := range types() {
		for _, list := range lists(typ, 4) {
			v := vectorOf(typ, list)
			var all []int
			for i := range list {
				all = append(all, i)
			}
			if got := vector.Gather(v, all); !sameVector(got, v) {
				t.Errorf("Gather of all of %v = %v", v, got)
			}
		}
	}
}

func TestGatherTwice(t *testing.T) {
	indices := sequences([]int{-1, 0, 1, 2}, 3)
	for _, typ := range types() {
		v := vectorOf(typ, alphabet(typ))
		for _, a := range indices {
			for _, b := range indices {
				// An index of b that is out of range stands for an index that is out of range of v.
				var both []int
				for _, i := range b {
					if i >= 0 && i < len(a) {
						both = append(both, a[i])
					} else {
						both = append(both, -1)
					}
				}
				if got := vector.Gather(vector.Gather(v, a), b); !sameVector(got, vector.Gather(v, both)) {
					t.Fatalf("Gather(Gather(%v, %v), %v) = %v", v, a, b, got)
				}
			}
		}
	}
}

func TestConcatErrors(t *testing.T) {
	if v, e := vector.Concat(); e != api.ErrArg || !isZero(v) {
		t.Errorf("Concat() = %v, %v", v, e)
	}
	if v, e := vector.Concat([]api.Vector{}...); e != api.ErrArg || !isZero(v) {
		t.Errorf("Concat of no vectors = %v, %v", v, e)
	}
	for _, a := range types() {
		for _, b := range types() {
			for _, c := range types() {
				vectors := []api.Vector{vectorOf(a, alphabet(a)), vectorOf(b, alphabet(b)), vectorOf(c, nil)}
				want := api.ErrType
				if a == b && b == c {
					want = api.OK
				}
				v, e := vector.Concat(vectors...)
				if e != want || e != api.OK && !isZero(v) {
					t.Errorf("Concat of types %d, %d and %d = %v, %v", a, b, c, v, e)
				}
			}
		}
	}
	if v, e := vector.Concat(api.Vector{Type: api.Int}, api.Vector{Type: api.Text}); e != api.ErrType || !isZero(v) {
		t.Errorf("Concat of an Int vector and a Text vector, both empty = %v, %v", v, e)
	}
}

func TestConcat(t *testing.T) {
	for _, typ := range types() {
		for _, parts := range sequences(lists(typ, 2), 2) {
			if len(parts) == 0 {
				continue
			}
			var vectors []api.Vector
			for _, list := range parts {
				vectors = append(vectors, vectorOf(typ, list))
			}
			v, e := vector.Concat(vectors...)
			if e != api.OK || !sameVector(v, vectorOf(typ, slices.Concat(parts...))) || !vector.Valid(v) {
				t.Fatalf("Concat(%v) = %v, %v", vectors, v, e)
			}
		}
	}
	v := vectorOf(api.Int, []api.Value{number(1), null()})
	five, e := vector.Concat(v, v, api.Vector{Type: api.Int}, v, v)
	want := api.Vector{Type: api.Int, Ints: []int64{1, 0, 1, 0, 1, 0, 1, 0}, Nulls: []bool{false, true, false, true, false, true, false, true}}
	if e != api.OK || !sameVector(five, want) {
		t.Errorf("Concat of five = %v, %v", five, e)
	}
}

func TestConstant(t *testing.T) {
	letters := slices.Concat(alphabet(api.Bool), alphabet(api.Int), alphabet(api.Text))
	for _, typ := range append(types(), noTypes()...) {
		for _, x := range letters {
			for _, n := range []int{math.MinInt, -3, -1, 0, 1, 2, 3, 1025} {
				wantType, want := typ, x
				if !slices.Contains(types(), typ) {
					wantType = api.Null
				}
				if x.Kind != wantType {
					want = null()
				}
				got := vector.Constant(typ, x, n)
				if !sameVector(got, vectorOf(wantType, slices.Repeat([]api.Value{want}, max(n, 0)))) || !vector.Valid(got) {
					t.Errorf("Constant(%d, %v, %d) = %v", typ, x, n, got)
				}
			}
		}
	}
}

func TestConstantExamples(t *testing.T) {
	for _, x := range []struct {
		typ   int
		value api.Value
		n     int
		want  api.Vector
	}{
		{api.Int, number(7), 2, api.Vector{Type: api.Int, Ints: []int64{7, 7}, Nulls: []bool{false, false}}},
		{api.Bool, truth(1), 1, api.Vector{Type: api.Bool, Ints: []int64{1}, Nulls: []bool{false}}},
		{api.Text, text("a"), 2, api.Vector{Type: api.Text, Texts: []string{"a", "a"}, Nulls: []bool{false, false}}},
		{api.Text, null(), 2, api.Vector{Type: api.Text, Texts: []string{"", ""}, Nulls: []bool{true, true}}},
		{api.Int, truth(1), 1, api.Vector{Type: api.Int, Ints: []int64{0}, Nulls: []bool{true}}},
		{api.Bool, number(1), 1, api.Vector{Type: api.Bool, Ints: []int64{0}, Nulls: []bool{true}}},
		{api.Null, number(1), 2, api.Vector{Nulls: []bool{true, true}}},
		{9, number(1), 2, api.Vector{Nulls: []bool{true, true}}},
		{-1, null(), 1, api.Vector{Nulls: []bool{true}}},
		{api.Int, number(7), -1, api.Vector{Type: api.Int}},
		{9, number(7), -1, api.Vector{}},
	} {
		if got := vector.Constant(x.typ, x.value, x.n); !sameVector(got, x.want) {
			t.Errorf("Constant(%d, %v, %d) = %v", x.typ, x.value, x.n, got)
		}
	}
}

func TestVectorsShareNoMemory(t *testing.T) {
	for _, typ := range types() {
		list := alphabet(typ)
		v := vectorOf(typ, list)
		before := cloneVector(v)
		made, _ := vector.FromValues(typ, list)
		joined, _ := vector.Concat(v, v)
		alone, _ := vector.Concat(v)
		all := []int{0, 1, 2, 3}[:len(list)]
		for _, result := range []api.Vector{made, vector.Gather(v, all), joined, alone} {
			scribble(result)
		}
		values := vector.Values(v)
		for i := range values {
			values[i] = text("scribbled")
		}
		if !sameVector(v, before) || !slices.Equal(list, alphabet(typ)) || !slices.Equal(all, []int{0, 1, 2, 3}[:len(list)]) {
			t.Errorf("an argument of type %d changed: %v", typ, v)
		}
	}
}

// TestInvalidVectorsDoNotPanic calls every function with vectors that are not valid, about which nothing else is promised.
func TestInvalidVectorsDoNotPanic(t *testing.T) {
	for typ := -1; typ <= 4; typ++ {
		for _, v := range []api.Vector{
			{Type: typ, Nulls: []bool{false, true, false}},
			{Type: typ, Ints: []int64{1}, Texts: []string{"a"}, Nulls: []bool{false, false, true}},
			{Type: typ, Ints: []int64{1, 2, 3}, Texts: []string{"a", "b", "c"}},
			{Type: typ, Ints: []int64{9}, Texts: []string{strings.Repeat("x", 5000)}, Nulls: []bool{true}},
		} {
			vector.Valid(v)
			vector.Values(v)
			vector.Gather(v, []int{-1, 0, 1, 2, 3, math.MaxInt})
			vector.Concat(v, v)
			for i := -1; i < 4; i++ {
				vector.At(v, i)
			}
		}
		for _, x := range []api.Value{{Kind: 9}, {Kind: -1}, {Int: 5}, {Text: "a"}, {Kind: api.Bool, Int: 7}, {Kind: api.Text, Int: 7}, {Kind: api.Int, Text: "a"}} {
			vector.FromValues(typ, []api.Value{x})
			vector.Constant(typ, x, 2)
		}
	}
	if v := vector.Constant(api.Int, number(1), math.MaxInt); len(v.Nulls) != 0 {
		t.Errorf("Constant with more copies than fit in memory has %d", len(v.Nulls))
	}
}
