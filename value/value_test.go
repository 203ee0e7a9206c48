package value_test

import (
	"bytes"
	"cmp"
	"encoding/binary"
	"fmt"
	"math"
	"math/big"
	"slices"
	"strconv"
	"strings"
	"testing"

	"lamina/api"
	"lamina/checksum"
	"lamina/value"
)

var (
	null = api.Value{}
	no   = api.Value{Kind: api.Bool}
	yes  = api.Value{Kind: api.Bool, Int: 1}
)

func integer(n int64) api.Value { return api.Value{Kind: api.Int, Int: n} }

func text(s string) api.Value { return api.Value{Kind: api.Text, Text: s} }

func boolean(b bool) api.Value {
	if b {
		return yes
	}
	return no
}

// ordered returns distinct values in increasing order.
func ordered() []api.Value {
	values := []api.Value{null, no, yes}
	for _, n := range []int64{math.MinInt64, math.MinInt64 + 1, -1 << 32, -256, -255, -2, -1, 0, 1, 2, 127, 128, 255, 256, 1 << 32, math.MaxInt64 - 1, math.MaxInt64} {
		values = append(values, integer(n))
	}
	for _, s := range []string{
		"", "\x00", "\x00\x00", "\x00\x00\x00", "\x00\x01", "\x00\xff", "\x00\xff\x00", "\x01", "\x01\x00", "\x01\x01", "A",
		"a", "a\x00", "a\x00\x00", "a\x00\x01", "a\x00b", "a\x00\xff", "a\x01", "aa", "ab", "abc", "b", "ba", "é", "\xff", "\xff\x00", "\xff\xff",
	} {
		values = append(values, text(s))
	}
	long := strings.Repeat("\xff", api.MaxText)
	return append(values, text(long[1:]), text(long))
}

// operators returns every operator of expressions and predicates and numbers that are none.
func operators() []int {
	list := []int{math.MinInt, -1 << 32, math.MaxInt, 1<<32 + api.OpEq, 1<<32 + api.OpAdd}
	for op := -16; op <= 32; op++ {
		list = append(list, op)
	}
	return list
}

// rows returns every row of at most size values of the alphabet.
func rows(alphabet []api.Value, size int) []api.Row {
	all := []api.Row{{}}
	for start := 0; size > 0; size-- {
		end := len(all)
		for _, r := range all[start:end] {
			for _, v := range alphabet {
				all = append(all, append(slices.Clone(r), v))
			}
		}
		start = end
	}
	return all
}

// brief describes values in a failure, in printable characters and without all bytes of long texts.
func brief(values ...api.Value) string {
	var parts []string
	for _, v := range values {
		switch v.Kind {
		case api.Null:
			parts = append(parts, "NULL")
		case api.Bool:
			parts = append(parts, strconv.FormatBool(v.Int != 0))
		case api.Int:
			parts = append(parts, strconv.FormatInt(v.Int, 10))
		default:
			parts = append(parts, fmt.Sprintf("%.20q (%d bytes)", v.Text, len(v.Text)))
		}
	}
	return "(" + strings.Join(parts, ", ") + ")"
}

// P4.1

func TestValid(t *testing.T) {
	long := strings.Repeat("x", api.MaxText)
	for _, v := range append(ordered(), text(long), api.Value{Kind: api.Null}, api.Value{Kind: api.Bool, Int: 0}) {
		if !value.Valid(v) {
			t.Errorf("Valid%v = false", brief(v))
		}
	}
	for _, v := range []api.Value{
		{Kind: -1}, {Kind: 4}, {Kind: 5}, {Kind: 256}, {Kind: 256 + api.Int}, {Kind: 1<<32 + api.Int}, {Kind: math.MaxInt}, {Kind: math.MinInt},
		{Kind: -1, Int: 1}, {Kind: 4, Text: "x"},
		{Kind: api.Null, Int: 1}, {Kind: api.Null, Int: -1}, {Kind: api.Null, Text: "x"}, {Kind: api.Null, Text: "\x00"},
		{Kind: api.Bool, Int: 2}, {Kind: api.Bool, Int: -1}, {Kind: api.Bool, Int: 3}, {Kind: api.Bool, Int: math.MinInt64}, {Kind: api.Bool, Int: 1 << 32},
		{Kind: api.Bool, Text: "x"}, {Kind: api.Bool, Int: 1, Text: "x"},
		{Kind: api.Int, Text: "x"}, {Kind: api.Int, Int: 1, Text: "x"}, {Kind: api.Int, Text: "\x00"},
		{Kind: api.Text, Int: 1}, {Kind: api.Text, Int: -1, Text: "x"}, {Kind: api.Text, Int: 1 << 32, Text: "x"},
		text(long + "x"), text(long + long), {Kind: api.Text, Int: 1, Text: long},
	} {
		if value.Valid(v) {
			t.Errorf("Valid(%d, %d, %.20q) = true", v.Kind, v.Int, v.Text)
		}
	}
}

func TestCompareAndEqualFollowTheOrder(t *testing.T) {
	values := ordered()
	for i, a := range values {
		for k, b := range values {
			if got, want := value.Compare(a, b), cmp.Compare(i, k); got != want {
				t.Errorf("Compare of %v = %d, want %d", brief(a, b), got, want)
			}
			if got, want := value.Equal(a, b), i == k; got != want {
				t.Errorf("Equal of %v = %v, want %v", brief(a, b), got, want)
			}
		}
	}
}

func TestCompareLooksAtBytesNotAtWhereTheyAre(t *testing.T) {
	a, b := text(string([]byte("same bytes"))), text(string([]byte("same bytes")))
	if value.Compare(a, b) != 0 || !value.Equal(a, b) {
		t.Error("texts of equal bytes are not equal")
	}
}

func TestCompareRows(t *testing.T) {
	one, two := integer(1), integer(2)
	for _, c := range []struct {
		a, b api.Row
		want int
	}{
		{nil, nil, 0},
		{nil, api.Row{}, 0},
		{nil, api.Row{null}, -1},
		{api.Row{null}, api.Row{null}, 0},
		{api.Row{null}, api.Row{null, null}, -1},
		{api.Row{one}, api.Row{one, null}, -1},
		{api.Row{two}, api.Row{one, null}, 1},
		{api.Row{one, two}, api.Row{two, one}, -1}, // the first difference decides
		{api.Row{one, two}, api.Row{one, one}, 1},
		{api.Row{one, two, one}, api.Row{one, two, one}, 0},
		{api.Row{integer(math.MaxInt64)}, api.Row{text("")}, -1},
		{api.Row{text("a"), text("b")}, api.Row{text("ab")}, -1},
		{api.Row{integer(math.MinInt64)}, api.Row{integer(math.MaxInt64)}, -1},
	} {
		if got := value.CompareRows(c.a, c.b); got != c.want {
			t.Errorf("CompareRows of %v and %v = %d, want %d", brief(c.a...), brief(c.b...), got, c.want)
		}
		if got := value.CompareRows(c.b, c.a); got != -c.want {
			t.Errorf("CompareRows of %v and %v = %d, want %d", brief(c.b...), brief(c.a...), got, -c.want)
		}
	}
	short := []api.Value{null, yes, integer(-1), text(""), text("a")}
	all := rows(short, 3)
	for _, a := range all {
		for _, b := range all {
			if got, want := value.CompareRows(a, b), firstDifference(a, b); got != want {
				t.Errorf("CompareRows of %v and %v = %d, want %d", brief(a...), brief(b...), got, want)
			}
		}
	}
}

// firstDifference follows the definition of the lexicographic order.
func firstDifference(a, b api.Row) int {
	for i := 0; i < len(a) && i < len(b); i++ {
		if order := value.Compare(a[i], b[i]); order != 0 {
			return order
		}
	}
	return cmp.Compare(len(a), len(b))
}

// P4.2

func TestTestComparesValuesOfOneKind(t *testing.T) {
	values := ordered()
	for i, a := range values {
		for k, b := range values {
			results := map[int]bool{api.OpEq: i == k, api.OpNe: i != k, api.OpLt: i < k, api.OpLe: i <= k, api.OpGt: i > k, api.OpGe: i >= k}
			for op, result := range results {
				want := boolean(result)
				if a == null || b == null || a.Kind != b.Kind {
					want = null
				}
				if got := value.Test(op, a, b); got != want {
					t.Errorf("Test(%d) of %v = %v, want %v", op, brief(a, b), brief(got), brief(want))
				}
			}
		}
	}
}

func TestTestExamples(t *testing.T) {
	for _, c := range []struct {
		op         int
		a, b, want api.Value
	}{
		{api.OpLt, integer(1), text("a"), null},
		{api.OpLt, integer(1), integer(2), yes},
		{api.OpEq, null, null, null},
		{api.OpNe, null, integer(1), null},
		{api.OpNe, integer(1), text("1"), null}, // not true, although the values differ
		{api.OpEq, integer(1), yes, null},
		{api.OpGe, text("b"), text("a"), yes},
		{api.OpLt, no, yes, yes},
		{api.OpGt, text("a\x00"), text("a"), yes},
	} {
		if got := value.Test(c.op, c.a, c.b); got != c.want {
			t.Errorf("Test(%d) of %v = %v, want %v", c.op, brief(c.a, c.b), brief(got), brief(c.want))
		}
	}
}

func TestTestOfOtherOperatorsIsNull(t *testing.T) {
	for _, op := range operators() {
		if op >= api.OpEq && op <= api.OpGe {
			continue
		}
		for _, a := range []api.Value{null, no, yes, integer(1), integer(2), text("a")} {
			for _, b := range []api.Value{a, integer(1), yes} {
				if got := value.Test(op, a, b); got != null {
					t.Errorf("Test(%d) of %v = %v, want NULL", op, brief(a, b), brief(got))
				}
			}
		}
	}
}

// P4.3

// operandLists returns every list of at most four operands, those of unknown truth value among them.
func operandLists() []api.Row {
	return rows([]api.Value{null, no, yes, integer(0), integer(1), text("")}, 4)
}

func TestAndOr(t *testing.T) {
	for _, operands := range operandLists() {
		hasFalse, hasTrue := slices.Contains(operands, no), slices.Contains(operands, yes)
		hasUnknown := slices.ContainsFunc(operands, func(v api.Value) bool { return v != no && v != yes })
		and, or := yes, no
		if hasUnknown {
			and, or = null, null
		}
		if hasFalse {
			and = no
		}
		if hasTrue {
			or = yes
		}
		if got := value.And(operands...); got != and {
			t.Errorf("And%v = %v, want %v", brief(operands...), brief(got), brief(and))
		}
		if got := value.Or(operands...); got != or {
			t.Errorf("Or%v = %v, want %v", brief(operands...), brief(got), brief(or))
		}
	}
}

func TestLogicExamples(t *testing.T) {
	for _, c := range []struct {
		name      string
		got, want api.Value
	}{
		{"And()", value.And(), yes},
		{"Or()", value.Or(), no},
		{"And(NULL, false)", value.And(null, no), no},
		{"And(false, NULL)", value.And(no, null), no},
		{"Or(NULL, 1)", value.Or(null, integer(1)), null},
		{"Or(NULL, true)", value.Or(null, yes), yes},
		{"And(1)", value.And(integer(1)), null},
		{"And(0)", value.And(integer(0)), null},
		{"Or(0)", value.Or(integer(0)), null},
		{"Or('')", value.Or(text("")), null},
	} {
		if c.got != c.want {
			t.Errorf("%s = %v, want %v", c.name, brief(c.got), brief(c.want))
		}
	}
}

func TestNot(t *testing.T) {
	for _, v := range ordered() {
		want := null
		if v == no {
			want = yes
		}
		if v == yes {
			want = no
		}
		if got := value.Not(v); got != want {
			t.Errorf("Not%v = %v, want %v", brief(v), brief(got), brief(want))
		}
	}
}

// P4.4

// numbers returns the Ints around every power of two and around the square root of the limit.
func numbers() []int64 {
	all := []int64{0, 3, -3, 7, -7, 3037000499, 3037000500, -3037000499, -3037000500, 4294967296, -4294967295, math.MaxInt64 / 3, math.MinInt64 / 3}
	for k := range 64 {
		power := int64(1) << k
		all = append(all, power, power-1, power+1, -power, -power+1, -power-1)
	}
	return all
}

// exact returns the result of op as an integer of any size, and nil if there is none.
func exact(op int, a, b int64) *big.Int {
	x, y := big.NewInt(a), big.NewInt(b)
	switch op {
	case api.OpAdd:
		return x.Add(x, y)
	case api.OpSub:
		return x.Sub(x, y)
	case api.OpMul:
		return x.Mul(x, y)
	}
	if b == 0 {
		return nil
	}
	if op == api.OpDiv {
		return x.Quo(x, y) // truncates toward zero
	}
	return x.Rem(x, y) // has the sign of x
}

func TestArithIsExactOrNull(t *testing.T) {
	for op := api.OpAdd; op <= api.OpMod; op++ {
		for _, a := range numbers() {
			for _, b := range numbers() {
				want := null
				if n := exact(op, a, b); n != nil && n.IsInt64() {
					want = integer(n.Int64())
				}
				if got := value.Arith(op, integer(a), integer(b)); got != want {
					t.Errorf("Arith(%d, %d, %d) = %v, want %v", op, a, b, brief(got), brief(want))
				}
			}
		}
	}
}

func TestArithExamples(t *testing.T) {
	for _, c := range []struct {
		op   int
		a, b int64
		want api.Value
	}{
		{api.OpDiv, -7, 2, integer(-3)},
		{api.OpDiv, 7, -2, integer(-3)},
		{api.OpMod, -7, 2, integer(-1)},
		{api.OpMod, 7, -2, integer(1)},
		{api.OpDiv, math.MinInt64, -1, null},
		{api.OpMod, math.MinInt64, -1, integer(0)},
		{api.OpMul, math.MinInt64, -1, null},
		{api.OpMul, -1, math.MinInt64, null},
		{api.OpDiv, 1, 0, null},
		{api.OpDiv, 0, 0, null},
		{api.OpMod, 1, 0, null},
		{api.OpMod, 0, 0, null},
		{api.OpAdd, math.MaxInt64, 1, null},
		{api.OpAdd, math.MinInt64, -1, null},
		{api.OpSub, math.MinInt64, 1, null},
		{api.OpSub, 0, math.MinInt64, null},
		{api.OpSub, -1, math.MinInt64, integer(math.MaxInt64)},
		{api.OpMul, 1 << 32, 1 << 31, null},
		{api.OpMul, 1 << 32, 1 << 32, null}, // 0 modulo 2^64
		{api.OpMul, -1 << 32, 1 << 31, integer(math.MinInt64)},
	} {
		if got := value.Arith(c.op, integer(c.a), integer(c.b)); got != c.want {
			t.Errorf("Arith(%d, %d, %d) = %v, want %v", c.op, c.a, c.b, brief(got), brief(c.want))
		}
	}
}

func TestArithOfOtherArgumentsIsNull(t *testing.T) {
	others := []api.Value{null, no, yes, text(""), text("1")}
	for op := api.OpAdd; op <= api.OpMod; op++ {
		for _, a := range others {
			for _, b := range append(others, integer(1), integer(0)) {
				if value.Arith(op, a, b) != null || value.Arith(op, b, a) != null {
					t.Errorf("Arith(%d) of %v, in this order or the other one, is not NULL", op, brief(a, b))
				}
			}
		}
	}
	for _, op := range operators() {
		if got := value.Arith(op, integer(6), integer(3)); (op < api.OpAdd || op > api.OpMod) && got != null {
			t.Errorf("Arith(%d, 6, 3) = %v, want NULL", op, brief(got))
		}
	}
}

func TestNegate(t *testing.T) {
	for _, n := range numbers() {
		want := integer(-n)
		if n == math.MinInt64 {
			want = null
		}
		if got := value.Negate(integer(n)); got != want {
			t.Errorf("Negate(%d) = %v, want %v", n, brief(got), brief(want))
		}
	}
	for _, v := range []api.Value{null, no, yes, text(""), text("1")} {
		if got := value.Negate(v); got != null {
			t.Errorf("Negate%v = %v, want NULL", brief(v), brief(got))
		}
	}
}

func TestConcat(t *testing.T) {
	long := strings.Repeat("x", api.MaxText)
	for _, c := range []struct{ a, b, want api.Value }{
		{text("ab"), text("c"), text("abc")},
		{text(""), text(""), text("")},
		{text(""), text("b"), text("b")},
		{text("a"), text(""), text("a")},
		{text("\x00\xff"), text("\x00"), text("\x00\xff\x00")},
		{text(long), text(""), text(long)},
		{text(""), text(long), text(long)},
		{text(long[1:]), text("y"), text(long[1:] + "y")},
		{text("y"), text(long[1:]), text("y" + long[1:])},
		{text(long), text("y"), null},
		{text("y"), text(long), null},
		{text(long), text(long), null},
		{text("a"), null, null},
		{null, text("a"), null},
		{null, null, null},
		{text("a"), integer(1), null},
		{integer(1), text("a"), null},
		{integer(1), integer(2), null},
		{yes, text("a"), null},
		{text("a"), no, null},
	} {
		if got := value.Concat(c.a, c.b); got != c.want {
			t.Errorf("Concat of %v = %v, want %v", brief(c.a, c.b), brief(got), brief(c.want))
		}
	}
}

// P4.5

func TestAssignable(t *testing.T) {
	for _, typ := range []int{api.Bool, api.Int, api.Text} {
		for _, v := range ordered() {
			for _, notNull := range []bool{false, true} {
				want := api.OK
				if v == null && notNull {
					want = api.ErrNull
				}
				if v != null && v.Kind != typ {
					want = api.ErrType
				}
				for _, name := range []string{"", "c"} {
					c := api.Column{Name: name, Type: typ, NotNull: notNull}
					if got := value.Assignable(v, c); got != want {
						t.Errorf("Assignable of %v to %v = %v, want %v", brief(v), c, got, want)
					}
				}
			}
		}
	}
}

// P4.6

// slowHash follows the definition.
func slowHash(seed uint64, values ...api.Value) uint64 {
	h := checksum.Mix(seed)
	for _, v := range values {
		switch v.Kind {
		case api.Null:
			h = checksum.Mix(h ^ 1)
		case api.Bool:
			h = checksum.Mix(checksum.Mix(h^2) ^ uint64(v.Int))
		case api.Int:
			h = checksum.Mix(checksum.Mix(h^3) ^ uint64(v.Int))
		case api.Text:
			h = checksum.Hash(checksum.Mix(h^4), []byte(v.Text))
		}
	}
	return h
}

// The hashes were computed by a program of its own, without the packages of this one.
func TestHashOfKnownInputs(t *testing.T) {
	for _, c := range []struct {
		seed   uint64
		values []api.Value
		want   uint64
	}{
		{0, nil, 0},
		{5, nil, 0xb6bf613dbebb45dc},
		{0, []api.Value{null}, 0x5692161d100b05e5},
		{0, []api.Value{no}, 0x52ead7e36ea7fea8},
		{0, []api.Value{yes}, 0x3ec2d42f3a45cc6e},
		{0, []api.Value{integer(0)}, 0xd7f030fc3e74beda},
		{0, []api.Value{integer(1)}, 0xb29a3bd06eedafe8},
		{0, []api.Value{integer(-1)}, 0xae58088fa20dc5bc},
		{0, []api.Value{integer(math.MinInt64)}, 0xc14e2c662af8f1ae},
		{0, []api.Value{text("")}, 0xf88db399d47aab91},
		{0, []api.Value{text("a")}, 0xd1e5fe709dff2a27},
		{0, []api.Value{text("12345678")}, 0x314a8ae27e532d96},
		{0, []api.Value{text("123456789")}, 0x206406980147ade6},
		{3, []api.Value{null, yes, integer(-7), text("ab")}, 0xd9b277299f5d73fc},
		{3, []api.Value{text("ab"), integer(-7), yes, null}, 0x62e4f2c91e73e0cc},
		{math.MaxUint64, []api.Value{integer(42)}, 0x213da4f2344c3a7d},
	} {
		if got := value.Hash(c.seed, c.values...); got != c.want {
			t.Errorf("Hash with seed %x of %v = %x, want %x", c.seed, brief(c.values...), got, c.want)
		}
	}
}

func TestHashFollowsTheDefinition(t *testing.T) {
	for _, seed := range []uint64{0, 1, 2, 3, 1 << 63, math.MaxUint64, 0x9E3779B97F4A7C15} {
		for _, a := range ordered() {
			if got, want := value.Hash(seed, a), slowHash(seed, a); got != want {
				t.Errorf("Hash with seed %x of %v = %x, want %x", seed, brief(a), got, want)
			}
			for _, b := range ordered() {
				if got, want := value.Hash(seed, a, b, a), slowHash(seed, a, b, a); got != want {
					t.Errorf("Hash with seed %x of %v = %x, want %x", seed, brief(a, b, a), got, want)
				}
			}
		}
	}
}

func TestHashTellsValuesApart(t *testing.T) {
	seen := map[uint64]api.Row{}
	for _, r := range rows([]api.Value{null, no, yes, integer(0), integer(1), text(""), text("\x00"), text("a")}, 3) {
		h := value.Hash(7, r...)
		if other, ok := seen[h]; ok {
			t.Errorf("%v and %v have the same hash", brief(other...), brief(r...))
		}
		seen[h] = r
	}
}

// P4.7

func TestEncode(t *testing.T) {
	long := strings.Repeat("x", api.MaxText)
	for _, c := range []struct {
		v    api.Value
		want string
	}{
		{null, "\x00"},
		{no, "\x01\x00"},
		{yes, "\x01\x01"},
		{integer(0), "\x02\x00"},
		{integer(-1), "\x02\x01"},
		{integer(1), "\x02\x02"},
		{integer(63), "\x02\x7e"},
		{integer(-64), "\x02\x7f"},
		{integer(64), "\x02\x80\x01"},
		{integer(math.MaxInt64), "\x02\xfe\xff\xff\xff\xff\xff\xff\xff\xff\x01"},
		{integer(math.MinInt64), "\x02\xff\xff\xff\xff\xff\xff\xff\xff\xff\x01"},
		{text(""), "\x03\x00"},
		{text("ab"), "\x03\x02ab"},
		{text("\x00\xff"), "\x03\x02\x00\xff"},
		{text(long[:127]), "\x03\x7f" + long[:127]},
		{text(long[:128]), "\x03\x80\x01" + long[:128]},
		{text(long), "\x03\x80\x20" + long},
	} {
		if got := string(value.Encode(c.v)); got != c.want {
			t.Errorf("Encode%v = %.40x, want %.40x", brief(c.v), got, c.want)
		}
	}
}

func TestDecodeReturnsValueAndNextOffset(t *testing.T) {
	long := strings.Repeat("x", api.MaxText)
	for _, c := range []struct {
		b      string
		offset int
		want   api.Value
		next   int
	}{
		{"\x00", 0, null, 1},
		{"\x01\x00", 0, no, 2},
		{"\x01\x01", 0, yes, 2},
		{"\x02\x01", 0, integer(-1), 2},
		{"\x02\x80\x01", 0, integer(64), 3},
		{"\x02\xff\xff\xff\xff\xff\xff\xff\xff\xff\x01", 0, integer(math.MinInt64), 11},
		{"\x03\x00", 0, text(""), 2},
		{"\x03\x02ab", 0, text("ab"), 4},
		{"\x03\x80\x20" + long, 0, text(long), 3 + api.MaxText},
		{"\x00\xff", 0, null, 1}, // what follows is not read
		{"\x01\x01\xff", 0, yes, 2},
		{"\x02\x02\x80", 0, integer(1), 2},
		{"\x03\x01xyz", 0, text("x"), 3},
		{"\x03\x00\x80", 0, text(""), 2},
		{"\x09\x03\x01x\x00", 1, text("x"), 4},
		{"\x09\x03\x01x\x00", 4, null, 5},
		{"\xff\xff\x01\x01", 2, yes, 4},
	} {
		got, next, e := value.Decode([]byte(c.b), c.offset)
		if got != c.want || next != c.next || e != api.OK {
			t.Errorf("Decode(%.40x, %d) = %v, %d, %v, want %v, %d", c.b, c.offset, brief(got), next, e, brief(c.want), c.next)
		}
	}
}

func TestDecodeErrors(t *testing.T) {
	long := strings.Repeat("x", api.MaxText)
	for _, c := range []struct {
		b      string
		offset int
		want   api.Errno
	}{
		{"\x00", -1, api.ErrArg},
		{"\x00", 2, api.ErrArg},
		{"\x00", math.MinInt, api.ErrArg},
		{"\x00", math.MaxInt, api.ErrArg},
		{"", 1, api.ErrArg},
		{"", 0, api.ErrShort},
		{"\x00", 1, api.ErrShort},
		{"\x04", 0, api.ErrFormat},
		{"\x04\x00\x00", 0, api.ErrFormat},
		{"\x80", 0, api.ErrFormat},
		{"\xff\x01", 0, api.ErrFormat},
		{"\x01", 0, api.ErrShort},
		{"\x00\x01", 1, api.ErrShort},
		{"\x01\x02", 0, api.ErrFormat},
		{"\x01\x80", 0, api.ErrFormat},
		{"\x01\xff\x01", 0, api.ErrFormat},
		{"\x02", 0, api.ErrShort},
		{"\x02\x80", 0, api.ErrShort},
		{"\x02\x80\x00", 0, api.ErrFormat},
		{"\x02\xff\xff\xff\xff\xff\xff\xff\xff\xff\x02", 0, api.ErrFormat},
		{"\x02\xff\xff\xff\xff\xff\xff\xff\xff\xff", 0, api.ErrShort},
		{"\x03", 0, api.ErrShort},
		{"\x03\x81", 0, api.ErrShort},
		{"\x03\x81\x00x", 0, api.ErrFormat},
		{"\x03\x01", 0, api.ErrShort},
		{"\x03\x03ab", 0, api.ErrShort},
		{"\x03\x80\x20", 0, api.ErrShort},
		{"\x03\x80\x20" + long[1:], 0, api.ErrShort},
		{"\x03\x81\x20", 0, api.ErrLong}, // before ErrShort
		{"\x03\x81\x20" + long + "x", 0, api.ErrLong},
		{"\x03\xff\x7f", 0, api.ErrLong},
		{"\x03\x80\x80\x80\x80\x10" + long, 0, api.ErrLong},                     // 2^32
		{"\x03\xff\xff\xff\xff\xff\xff\xff\xff\x7f" + long, 0, api.ErrLong},     // 2^63 - 1
		{"\x03\x80\x80\x80\x80\x80\x80\x80\x80\x80\x01" + long, 0, api.ErrLong}, // 2^63
		{"\x03\xff\xff\xff\xff\xff\xff\xff\xff\xff\x01", 0, api.ErrLong},
	} {
		got, next, e := value.Decode([]byte(c.b), c.offset)
		if got != null || next != 0 || e != c.want {
			t.Errorf("Decode(%.40x, %d) = %v, %d, %v, want NULL, 0, %v", c.b, c.offset, brief(got), next, e, c.want)
		}
	}
}

func TestDecodeReturnsNewMemory(t *testing.T) {
	b := []byte("\x03\x02ab")
	v, _, _ := value.Decode(b, 0)
	if string(b) != "\x03\x02ab" {
		t.Errorf("Decode changed its argument to %x", b)
	}
	b[2] = 'z'
	if v != text("ab") {
		t.Error("the text of Decode's result changes with its argument")
	}
}

// P4.8

func TestSortKey(t *testing.T) {
	for _, c := range []struct {
		values []api.Value
		want   string
	}{
		{nil, ""},
		{[]api.Value{null}, "\x01"},
		{[]api.Value{no}, "\x02\x00"},
		{[]api.Value{yes}, "\x02\x01"},
		{[]api.Value{integer(0)}, "\x03\x80\x00\x00\x00\x00\x00\x00\x00"},
		{[]api.Value{integer(-1)}, "\x03\x7f\xff\xff\xff\xff\xff\xff\xff"},
		{[]api.Value{integer(0x0102030405060708)}, "\x03\x81\x02\x03\x04\x05\x06\x07\x08"},
		{[]api.Value{integer(math.MinInt64)}, "\x03\x00\x00\x00\x00\x00\x00\x00\x00"},
		{[]api.Value{integer(math.MaxInt64)}, "\x03\xff\xff\xff\xff\xff\xff\xff\xff"},
		{[]api.Value{text("")}, "\x04\x00\x00"},
		{[]api.Value{text("a")}, "\x04a\x00\x00"},
		{[]api.Value{text("\x00")}, "\x04\x00\xff\x00\x00"},
		{[]api.Value{text("a\x00\x00\xffb")}, "\x04a\x00\xff\x00\xff\xffb\x00\x00"},
		{[]api.Value{yes, text("a")}, "\x02\x01\x04a\x00\x00"},
		{[]api.Value{text("a"), yes, null, null}, "\x04a\x00\x00\x02\x01\x01\x01"},
	} {
		if got := string(value.SortKey(c.values...)); got != c.want {
			t.Errorf("SortKey%v = %x, want %x", brief(c.values...), got, c.want)
		}
	}
	for _, n := range numbers() {
		want := binary.BigEndian.AppendUint64([]byte{3}, uint64(n)+1<<63)
		if got := value.SortKey(integer(n)); !bytes.Equal(got, want) {
			t.Errorf("SortKey(%d) = %x, want %x", n, got, want)
		}
	}
}

// R1 and R4

func TestInvalidValuesDoNotPanic(t *testing.T) {
	strange := []api.Value{{Kind: -1}, {Kind: 4, Int: 1, Text: "x"}, {Kind: 258, Int: -5}, {Kind: math.MinInt}, {Kind: math.MaxInt}, {Kind: api.Bool, Int: math.MinInt64}, {Kind: api.Text, Text: strings.Repeat("x", 3*api.MaxText)}}
	for _, a := range strange {
		for _, b := range append(strange, null, yes, integer(0), text("a")) {
			for _, op := range operators() {
				value.Test(op, a, b)
				value.Arith(op, b, a)
			}
			value.Compare(a, b)
			value.CompareRows(api.Row{b, a}, api.Row{a, b})
			value.And(a, b)
			value.Or(a, b)
			value.Concat(a, b)
			value.Hash(0, a, b)
			value.SortKey(a, b)
		}
		value.Not(a)
		value.Negate(a)
		value.Encode(a)
		value.Assignable(a, api.Column{Type: a.Kind, NotNull: true})
	}
}

func TestArgumentsAreNotModified(t *testing.T) {
	values := ordered()
	before := slices.Clone(values)
	value.And(values...)
	value.Or(values...)
	value.Hash(1, values...)
	value.SortKey(values...)
	value.CompareRows(values, values)
	if !slices.Equal(values, before) {
		t.Error("a function changed its arguments")
	}
}

// P4.9

func TestCompareIsATotalOrder(t *testing.T) {
	values := ordered()
	slices.Reverse(values)
	for _, a := range values {
		for _, b := range values {
			order := value.Compare(a, b)
			if order != -value.Compare(b, a) || (order == 0) != (a == b) || value.Equal(a, b) != (order == 0) {
				t.Errorf("the order of %v is not antisymmetric", brief(a, b))
			}
			for _, c := range values {
				if order <= 0 && value.Compare(b, c) <= 0 && value.Compare(a, c) > 0 {
					t.Errorf("the order of %v is not transitive", brief(a, b, c))
				}
			}
		}
	}
}

// P4.10

func TestSortKeysOrderRows(t *testing.T) {
	letters := []api.Value{null, no, yes, integer(math.MinInt64), integer(-1), integer(0), integer(256), text(""), text("\x00"), text("\x00\xff"), text("a"), text("a\x00"), text("a\x01"), text("\xff")}
	all := rows(letters, 2)
	for _, v := range ordered() {
		all = append(all, api.Row{v}, api.Row{v, null}, api.Row{v, text("")}, api.Row{v, integer(-1), text("\x00")})
	}
	keys := make([][]byte, len(all))
	for i, r := range all {
		keys[i] = value.SortKey(r...)
	}
	for i, a := range all {
		for k, b := range all {
			if got, want := bytes.Compare(keys[i], keys[k]), value.CompareRows(a, b); got != want {
				t.Errorf("the sort keys of %v and %v compare as %d, the rows as %d", brief(a...), brief(b...), got, want)
			}
		}
	}
}

// P4.11

func TestDecodeInvertsEncode(t *testing.T) {
	values := ordered()
	for _, n := range numbers() {
		values = append(values, integer(n))
	}
	for size := range api.MaxText + 1 {
		values = append(values, text(strings.Repeat("z", size)))
	}
	for _, v := range values {
		b := value.Encode(v)
		if got, next, e := value.Decode(b, 0); got != v || next != len(b) || e != api.OK {
			t.Errorf("Decode(Encode%v, 0) = %v, %d, %v", brief(v), brief(got), next, e)
		}
		within := append(append([]byte{0xff, 0x80}, b...), 0xff)
		if got, next, e := value.Decode(within, 2); got != v || next != len(b)+2 || e != api.OK {
			t.Errorf("Decode of Encode%v among other bytes = %v, %d, %v", brief(v), brief(got), next, e)
		}
	}
}

func TestEncodeInvertsDecode(t *testing.T) {
	for _, b := range shortInputs() {
		v, next, e := value.Decode(b, 0)
		if e != api.OK {
			if v != null || next != 0 {
				t.Errorf("Decode(%x, 0) = %v, %d beside %v", b, brief(v), next, e)
			}
			continue
		}
		if !value.Valid(v) || next > len(b) || !bytes.Equal(value.Encode(v), b[:next]) {
			t.Errorf("Decode(%x, 0) = %v, %d, whose encoding is %x", b, brief(v), next, value.Encode(v))
		}
	}
}

// shortInputs returns all inputs of at most two bytes, and all of three that begin with a kind or the number after them.
func shortInputs() [][]byte {
	all := [][]byte{{}}
	for x := range 256 {
		all = append(all, []byte{byte(x)})
		for y := range 256 {
			all = append(all, []byte{byte(x), byte(y)})
			for z := 0; z < 256 && x <= api.Text+1; z++ {
				all = append(all, []byte{byte(x), byte(y), byte(z)})
			}
		}
	}
	return all
}

func TestDecodeOfAPrefixIsShort(t *testing.T) {
	for _, v := range ordered() {
		b := value.Encode(v)
		for end := range b {
			if got, next, e := value.Decode(b[:end], 0); got != null || next != 0 || e != api.ErrShort {
				t.Errorf("Decode of %d bytes of Encode%v = %v, %d, %v", end, brief(v), brief(got), next, e)
			}
		}
	}
}

// P4.12

func TestNegationsOfLogic(t *testing.T) {
	for _, a := range ordered() {
		for _, b := range ordered() {
			if got, want := value.Not(value.And(a, b)), value.Or(value.Not(a), value.Not(b)); got != want {
				t.Errorf("Not(And) of %v = %v, and Or of the negations %v", brief(a, b), brief(got), brief(want))
			}
		}
	}
}

func TestNegationsOfTests(t *testing.T) {
	negations := map[int]int{api.OpNe: api.OpEq, api.OpGe: api.OpLt, api.OpGt: api.OpLe}
	for _, a := range ordered() {
		for _, b := range ordered() {
			for op, negated := range negations {
				if got, want := value.Test(op, a, b), value.Not(value.Test(negated, a, b)); got != want {
					t.Errorf("Test(%d) of %v = %v, and Not of Test(%d) %v", op, brief(a, b), brief(got), negated, brief(want))
				}
			}
		}
	}
}
