package vector_test

import (
	"math"
	"slices"
	"testing"

	"lamina/api"
	"lamina/vector"
)

func sameRows(a, b []api.Row) bool {
	return slices.EqualFunc(a, b, func(x, y api.Row) bool { return slices.Equal(x, y) })
}

func sameBatch(a, b api.Batch) bool {
	return a.Len == b.Len && a.All == b.All && slices.Equal(a.Sel, b.Sel) && slices.EqualFunc(a.Columns, b.Columns, sameVector)
}

func cloneRows(rows []api.Row) []api.Row {
	var clones []api.Row
	for _, row := range rows {
		clones = append(clones, slices.Clone(row))
	}
	return clones
}

func cloneBatch(b api.Batch) api.Batch {
	clone := api.Batch{Len: b.Len, All: b.All, Sel: slices.Clone(b.Sel)}
	for _, column := range b.Columns {
		clone.Columns = append(clone.Columns, cloneVector(column))
	}
	return clone
}

func isZeroBatch(b api.Batch) bool {
	return b.Len == 0 && !b.All && len(b.Sel) == 0 && len(b.Columns) == 0
}

// columnOf returns column c of the rows.
func columnOf(rows []api.Row, c int) []api.Value {
	var values []api.Value
	for _, row := range rows {
		values = append(values, row[c])
	}
	return values
}

// batchOf returns the batch of the rows by its definition.
func batchOf(types []int, rows []api.Row) api.Batch {
	b := api.Batch{Len: len(rows), All: true}
	for c, typ := range types {
		b.Columns = append(b.Columns, vectorOf(typ, columnOf(rows, c)))
	}
	return b
}

// tables returns lists of types, each with lists of rows of these types.
func tables() map[string]table {
	return map[string]table{
		"no columns": {nil, sequences([]api.Row{{}}, 5)},
		"one column": {[]int{api.Int}, sequences([]api.Row{{null()}, {number(0)}, {number(-3)}}, 4)},
		"two columns": {[]int{api.Text, api.Bool}, sequences([]api.Row{
			{text("a"), truth(1)}, {null(), truth(0)}, {text(""), null()}}, 4)},
		"four columns": {[]int{api.Int, api.Null, api.Text, api.Int}, sequences([]api.Row{
			{number(1), null(), text("x"), number(2)}, {null(), null(), null(), number(9)}}, 4)},
	}
}

type table struct {
	types []int
	lists [][]api.Row
}

// selections returns all increasing lists of indices below n.
func selections(n int) [][]int {
	all := [][]int{{}}
	for i := range n {
		for _, s := range all[:len(all):len(all)] {
			all = append(all, append(slices.Clone(s), i))
		}
	}
	return all
}

// pick returns the rows with these indices.
func pick(rows []api.Row, indices []int) []api.Row {
	var picked []api.Row
	for _, i := range indices {
		picked = append(picked, rows[i])
	}
	return picked
}

func TestValidBatchSelections(t *testing.T) {
	column := vectorOf(api.Int, []api.Value{number(1), null(), number(3)})
	for _, sel := range sequences([]int{math.MinInt, -1, 0, 1, 2, 3, math.MaxInt}, 4) {
		want := true
		for k, i := range sel {
			want = want && i >= 0 && i < 3 && (k == 0 || sel[k-1] < i)
		}
		if got := vector.ValidBatch(api.Batch{Columns: []api.Vector{column}, Len: 3, Sel: sel}); got != want {
			t.Errorf("ValidBatch with Sel %v = %v", sel, got)
		}
		if got := vector.ValidBatch(api.Batch{Len: 3, Sel: sel}); got != want {
			t.Errorf("ValidBatch without columns with Sel %v = %v", sel, got)
		}
		if got := vector.ValidBatch(api.Batch{Columns: []api.Vector{column}, Len: 3, All: true, Sel: sel}); got != (len(sel) == 0) {
			t.Errorf("ValidBatch with All and Sel %v = %v", sel, got)
		}
	}
}

func TestValidBatchColumns(t *testing.T) {
	two := vectorOf(api.Text, []api.Value{text("a"), null()})
	three := vectorOf(api.Null, []api.Value{null(), null(), null()})
	broken := api.Vector{Type: api.Bool, Ints: []int64{0, 2}, Nulls: []bool{false, false}}
	for _, x := range []struct {
		name  string
		batch api.Batch
		want  bool
	}{
		{"zero value", api.Batch{}, true},
		{"no rows, All", api.Batch{All: true}, true},
		{"no columns", api.Batch{Len: 5, All: true}, true},
		{"no columns, Sel", api.Batch{Len: 5, Sel: []int{4}}, true},
		{"two columns", api.Batch{Columns: []api.Vector{two, two}, Len: 2, All: true}, true},
		{"nothing selected", api.Batch{Columns: []api.Vector{two}, Len: 2}, true},
		{"more than 1024 rows", api.Batch{Columns: []api.Vector{vector.Constant(api.Int, number(1), 1025)}, Len: 1025, All: true}, true},
		{"negative Len", api.Batch{Len: -1}, false},
		{"negative Len, All", api.Batch{Len: -1, All: true}, false},
		{"least Len", api.Batch{Len: math.MinInt, All: true}, false},
		{"Len too small", api.Batch{Columns: []api.Vector{two}, Len: 1, All: true}, false},
		{"Len too large", api.Batch{Columns: []api.Vector{two}, Len: 3, All: true}, false},
		{"Len 0", api.Batch{Columns: []api.Vector{two}, All: true}, false},
		{"unequal columns", api.Batch{Columns: []api.Vector{two, three}, Len: 2, All: true}, false},
		{"unequal columns, the other way", api.Batch{Columns: []api.Vector{three, two}, Len: 2, All: true}, false},
		{"invalid column", api.Batch{Columns: []api.Vector{broken}, Len: 2, All: true}, false},
		{"invalid last column", api.Batch{Columns: []api.Vector{two, broken}, Len: 2, All: true}, false},
		{"invalid column, nothing selected", api.Batch{Columns: []api.Vector{broken}, Len: 2}, false},
		{"column of no type", api.Batch{Columns: []api.Vector{{Type: 4}}, All: true}, false},
		{"index beyond Len", api.Batch{Len: 1, Sel: []int{1}}, false},
		{"index without rows", api.Batch{Sel: []int{0}}, false},
	} {
		if got := vector.ValidBatch(x.batch); got != x.want {
			t.Errorf("%s: ValidBatch = %v", x.name, got)
		}
	}
}

func TestFromRowsAndRows(t *testing.T) {
	for name, table := range tables() {
		for _, rows := range table.lists {
			b, e := vector.FromRows(table.types, rows)
			if e != api.OK || !sameBatch(b, batchOf(table.types, rows)) || !vector.ValidBatch(b) {
				t.Fatalf("%s: FromRows(%v) = %v, %v", name, rows, b, e)
			}
			if got := vector.Rows(b); !sameRows(got, rows) {
				t.Fatalf("%s: Rows(FromRows(%v)) = %v", name, rows, got)
			}
			if got := vector.Types(b); !slices.Equal(got, table.types) {
				t.Fatalf("%s: Types = %v", name, got)
			}
		}
	}
}

func TestFromRowsExamples(t *testing.T) {
	b, e := vector.FromRows([]int{api.Int, api.Text}, []api.Row{{number(1), null()}, {null(), text("x")}})
	want := api.Batch{
		Columns: []api.Vector{
			{Type: api.Int, Ints: []int64{1, 0}, Nulls: []bool{false, true}},
			{Type: api.Text, Texts: []string{"", "x"}, Nulls: []bool{true, false}},
		},
		Len: 2,
		All: true,
	}
	if e != api.OK || !sameBatch(b, want) {
		t.Errorf("FromRows = %v, %v", b, e)
	}
	b, e = vector.FromRows(nil, []api.Row{{}, {}, nil})
	if e != api.OK || !sameBatch(b, api.Batch{Len: 3, All: true}) {
		t.Errorf("FromRows of three rows without values = %v, %v", b, e)
	}
	if rows := vector.Rows(b); !sameRows(rows, []api.Row{{}, {}, {}}) {
		t.Errorf("Rows of three rows without values = %v", rows)
	}
	b, e = vector.FromRows([]int{api.Bool, api.Null}, nil)
	if e != api.OK || !sameBatch(b, api.Batch{Columns: []api.Vector{{Type: api.Bool}, {}}, All: true}) {
		t.Errorf("FromRows of no rows = %v, %v", b, e)
	}
}

func TestFromRowsErrors(t *testing.T) {
	pair := []int{api.Int, api.Text}
	good, short, long := api.Row{number(1), text("a")}, api.Row{number(1)}, api.Row{number(1), text("a"), null()}
	wrong, swapped := api.Row{number(1), truth(1)}, api.Row{text("a"), number(1)}
	shortAndWrong := api.Row{text("a")}
	for _, x := range []struct {
		name  string
		types []int
		rows  []api.Row
		want  api.Errno
	}{
		{"no type", []int{api.Int, 4}, []api.Row{good}, api.ErrArg},
		{"negative type", []int{-1}, nil, api.ErrArg},
		{"no type, no rows", []int{api.Int, api.Int, 99}, nil, api.ErrArg},
		{"no type, short row", []int{7, api.Int}, []api.Row{short}, api.ErrArg},
		{"no type, wrong row", []int{api.Int, 4}, []api.Row{swapped}, api.ErrArg},
		{"short row", pair, []api.Row{short}, api.ErrCount},
		{"long row", pair, []api.Row{long}, api.ErrCount},
		{"empty row", pair, []api.Row{{}}, api.ErrCount},
		{"a value without types", nil, []api.Row{{null()}}, api.ErrCount},
		{"last row short", pair, []api.Row{good, good, short}, api.ErrCount},
		{"wrong value", pair, []api.Row{wrong}, api.ErrType},
		{"swapped values", pair, []api.Row{swapped}, api.ErrType},
		{"Bool as Int", []int{api.Int}, []api.Row{{truth(1)}}, api.ErrType},
		{"value of type Null", []int{api.Null}, []api.Row{{null()}, {number(0)}}, api.ErrType},
		{"last row wrong", pair, []api.Row{good, good, wrong}, api.ErrType},
		{"short row before wrong row", pair, []api.Row{good, short, wrong}, api.ErrCount},
		{"wrong row before short row", pair, []api.Row{good, wrong, short}, api.ErrType},
		{"row short and wrong", pair, []api.Row{shortAndWrong}, api.ErrCount},
		{"NULLs fit", pair, []api.Row{{null(), null()}}, api.OK},
		{"fitting rows", pair, []api.Row{good, good}, api.OK},
	} {
		b, e := vector.FromRows(x.types, x.rows)
		if e != x.want || e != api.OK && !isZeroBatch(b) {
			t.Errorf("%s: FromRows = %v, %v", x.name, b, e)
		}
		for _, size := range []int{1, 2, 1024} {
			l, e := vector.Split(x.types, x.rows, size)
			if e != x.want || e != api.OK && len(l) != 0 {
				t.Errorf("%s: Split with size %d = %v, %v", x.name, size, l, e)
			}
		}
		for _, size := range []int{math.MinInt, -1, 0, 1025, math.MaxInt} {
			if l, e := vector.Split(x.types, x.rows, size); e != api.ErrArg || len(l) != 0 {
				t.Errorf("%s: Split with size %d = %v, %v", x.name, size, l, e)
			}
		}
	}
}

func TestSelections(t *testing.T) {
	for name, table := range tables() {
		for _, rows := range table.lists {
			for _, sel := range selections(len(rows)) {
				b := batchOf(table.types, rows)
				b.All, b.Sel = false, sel
				want := pick(rows, sel)
				if got := vector.Rows(b); !sameRows(got, want) {
					t.Fatalf("%s: Rows(%v) = %v", name, b, got)
				}
				flat := vector.Flatten(b)
				if !sameBatch(flat, batchOf(table.types, want)) || !vector.ValidBatch(flat) {
					t.Fatalf("%s: Flatten(%v) = %v", name, b, flat)
				}
				if !sameRows(vector.Rows(flat), vector.Rows(b)) || !slices.Equal(vector.Types(flat), vector.Types(b)) {
					t.Fatalf("%s: Flatten(%v) changes rows or types", name, b)
				}
				gathered := api.Batch{Len: len(sel), All: true}
				for _, column := range b.Columns {
					gathered.Columns = append(gathered.Columns, vector.Gather(column, sel))
				}
				if !sameRows(vector.Rows(gathered), vector.Rows(b)) {
					t.Fatalf("%s: the gathered columns of %v have the rows %v", name, b, vector.Rows(gathered))
				}
			}
		}
	}
}

func TestSelectionExamples(t *testing.T) {
	column := vectorOf(api.Int, []api.Value{number(1), number(2), number(3)})
	b := api.Batch{Columns: []api.Vector{column}, Len: 3, Sel: []int{0, 2}}
	if rows := vector.Rows(b); !sameRows(rows, []api.Row{{number(1)}, {number(3)}}) {
		t.Errorf("Rows = %v", rows)
	}
	want := api.Batch{Columns: []api.Vector{vectorOf(api.Int, []api.Value{number(1), number(3)})}, Len: 2, All: true}
	if flat := vector.Flatten(b); !sameBatch(flat, want) {
		t.Errorf("Flatten = %v", flat)
	}
	b.Sel = nil
	if rows := vector.Rows(b); len(rows) != 0 {
		t.Errorf("Rows of a batch with nothing selected = %v", rows)
	}
	if flat := vector.Flatten(b); !sameBatch(flat, api.Batch{Columns: []api.Vector{{Type: api.Int}}, All: true}) {
		t.Errorf("Flatten of a batch with nothing selected = %v", flat)
	}
	if flat := vector.Flatten(api.Batch{Len: 4, Sel: []int{1, 3}}); !sameBatch(flat, api.Batch{Len: 2, All: true}) {
		t.Errorf("Flatten of a batch without columns = %v", flat)
	}
	all := api.Batch{Columns: []api.Vector{column}, Len: 3, All: true}
	if flat := vector.Flatten(all); !sameBatch(flat, all) {
		t.Errorf("Flatten of a batch with All set = %v", flat)
	}
}

func TestTypes(t *testing.T) {
	list := []int{api.Text, api.Null, api.Bool, api.Int, api.Text}
	b, e := vector.FromRows(list, nil)
	if got := vector.Types(b); e != api.OK || !slices.Equal(got, list) {
		t.Errorf("Types = %v, %v", got, e)
	}
	if got := vector.Types(api.Batch{Len: 2}); len(got) != 0 {
		t.Errorf("Types of a batch without columns = %v", got)
	}
}

func TestSplitExample(t *testing.T) {
	rows := []api.Row{{number(1)}, {number(2)}, {number(3)}, {null()}, {number(5)}}
	l, e := vector.Split([]int{api.Int}, rows, 2)
	want := []api.Batch{
		{Columns: []api.Vector{{Type: api.Int, Ints: []int64{1, 2}, Nulls: []bool{false, false}}}, Len: 2, All: true},
		{Columns: []api.Vector{{Type: api.Int, Ints: []int64{3, 0}, Nulls: []bool{false, true}}}, Len: 2, All: true},
		{Columns: []api.Vector{{Type: api.Int, Ints: []int64{5}, Nulls: []bool{false}}}, Len: 1, All: true},
	}
	if e != api.OK || !slices.EqualFunc(l, want, sameBatch) {
		t.Errorf("Split = %v, %v", l, e)
	}
}

// splitModel returns the batches of the rows by their definition.
func splitModel(types []int, rows []api.Row, size int) []api.Batch {
	var batches []api.Batch
	for len(rows) > size {
		batches = append(batches, batchOf(types, rows[:size]))
		rows = rows[size:]
	}
	if len(rows) > 0 {
		batches = append(batches, batchOf(types, rows))
	}
	return batches
}

func TestSplitAndAllRows(t *testing.T) {
	for name, table := range tables() {
		for _, rows := range table.lists {
			for _, size := range []int{1, 2, 3, 4, 5, 1024} {
				l, e := vector.Split(table.types, rows, size)
				if e != api.OK || !slices.EqualFunc(l, splitModel(table.types, rows, size), sameBatch) {
					t.Fatalf("%s: Split(%v, %d) = %v, %v", name, rows, size, l, e)
				}
				if got := vector.AllRows(l); !sameRows(got, rows) {
					t.Fatalf("%s: AllRows(Split(%v, %d)) = %v", name, rows, size, got)
				}
			}
		}
	}
}

func TestSplitEverySize(t *testing.T) {
	var rows []api.Row
	for i := range 1025 {
		rows = append(rows, api.Row{number(int64(i)), null()})
	}
	list := []int{api.Int, api.Text}
	for size := 1; size <= api.MaxBatchRows; size++ {
		if size > 40 && size < 1000 && size%37 != 0 {
			continue
		}
		l, e := vector.Split(list, rows, size)
		if e != api.OK || len(l) != (len(rows)+size-1)/size || !sameRows(vector.AllRows(l), rows) {
			t.Fatalf("Split with size %d: %d batches, %v", size, len(l), e)
		}
		for k, b := range l {
			if b.Len != min(size, len(rows)-k*size) || !vector.ValidBatch(b) {
				t.Fatalf("Split with size %d: batch %d has %d rows", size, k, b.Len)
			}
		}
	}
}

func TestAllRows(t *testing.T) {
	one, _ := vector.FromRows([]int{api.Int}, []api.Row{{number(1)}, {number(2)}, {number(3)}})
	two, _ := vector.FromRows([]int{api.Text, api.Bool}, []api.Row{{text("a"), truth(0)}})
	one.All, one.Sel = false, []int{1, 2}
	got := vector.AllRows([]api.Batch{two, one, {}, one})
	want := []api.Row{{text("a"), truth(0)}, {number(2)}, {number(3)}, {number(2)}, {number(3)}}
	if !sameRows(got, want) {
		t.Errorf("AllRows = %v", got)
	}
	if got := vector.AllRows(nil); len(got) != 0 {
		t.Errorf("AllRows of no batches = %v", got)
	}
}

func scribbleRows(rows []api.Row) {
	for _, row := range rows {
		for c := range row {
			row[c] = text("scribbled")
		}
	}
}

func scribbleBatch(b api.Batch) {
	for _, column := range b.Columns {
		scribble(column)
	}
	for i := range b.Sel {
		b.Sel[i] = 77
	}
}

func TestBatchesShareNoMemory(t *testing.T) {
	list := []int{api.Int, api.Text}
	rows := []api.Row{{number(1), text("a")}, {null(), text("b")}, {number(3), null()}}
	before := cloneRows(rows)
	b, _ := vector.FromRows(list, rows)
	l, _ := vector.Split(list, rows, 2)
	sparse := cloneBatch(b)
	sparse.All, sparse.Sel = false, []int{0, 2}
	for _, source := range []api.Batch{b, sparse} {
		kept := cloneBatch(source)
		scribbleRows(vector.Rows(source))
		scribbleRows(vector.AllRows([]api.Batch{source}))
		scribbleBatch(vector.Flatten(source))
		vector.Types(source)[0] = 77
		if !sameBatch(source, kept) {
			t.Errorf("the batch changed to %v", source)
		}
	}
	first, second := l[0], cloneBatch(l[1])
	scribbleBatch(first)
	if !sameBatch(l[1], second) {
		t.Errorf("the batches of Split share memory: %v", l[1])
	}
	scribbleBatch(b)
	if !sameRows(rows, before) || !slices.Equal(list, []int{api.Int, api.Text}) {
		t.Errorf("the arguments changed to %v, %v", list, rows)
	}
}

// TestRowsShareNoMemory checks that a row can grow without a change to the next one.
func TestRowsShareNoMemory(t *testing.T) {
	rows := []api.Row{{number(1)}, {number(2)}, {number(3)}}
	b, _ := vector.FromRows([]int{api.Int}, rows)
	got := vector.Rows(b)
	for i := range got {
		_ = append(got[i], text("more"))
	}
	if !sameRows(got, rows) {
		t.Errorf("Rows = %v", got)
	}
}

// TestInvalidBatchesDoNotPanic calls every function with batches and rows that are not valid, about which nothing else is promised.
func TestInvalidBatchesDoNotPanic(t *testing.T) {
	column := vectorOf(api.Int, []api.Value{number(1), null()})
	broken := api.Vector{Type: api.Text, Ints: []int64{1}, Nulls: []bool{false, false, false}}
	for _, b := range []api.Batch{
		{Len: -1, All: true},
		{Len: math.MinInt, All: true},
		{Len: math.MaxInt, All: true},
		{Columns: []api.Vector{column}, Len: -5, All: true},
		{Columns: []api.Vector{column}, Len: math.MaxInt, All: true},
		{Columns: []api.Vector{column, broken}, Len: 3, All: true},
		{Columns: []api.Vector{column, broken}, Len: 3, Sel: []int{-1, 2, 1, 1, 99, math.MaxInt}},
		{Columns: []api.Vector{{Type: 9, Nulls: []bool{false}}}, Len: 1, All: true, Sel: []int{0}},
	} {
		vector.ValidBatch(b)
		vector.Rows(b)
		vector.Types(b)
		vector.Flatten(b)
		vector.AllRows([]api.Batch{b, b})
	}
	strange := []api.Row{{{Kind: 9}, {Kind: -1}}, {{Int: 5}, {Kind: api.Text, Int: 7}}, nil}
	for _, list := range [][]int{nil, {api.Int}, {api.Int, api.Text}, {9, -1}} {
		vector.FromRows(list, strange)
		vector.Split(list, strange, 1)
	}
}
