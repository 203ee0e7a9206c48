package literal_test

import (
	"fmt"
	"math"
	"math/big"
	"regexp"
	"slices"
	"strings"
	"testing"

	"lamina/api"
	"lamina/literal"
)

var (
	null = api.Value{}
	no   = api.Value{Kind: api.Bool}
	yes  = api.Value{Kind: api.Bool, Int: 1}
)

func integer(n int64) api.Value { return api.Value{Kind: api.Int, Int: n} }

func text(s string) api.Value { return api.Value{Kind: api.Text, Text: s} }

// words returns every string of at most size parts of the alphabet.
func words(size int, alphabet ...string) []string {
	all := []string{""}
	for start := 0; size > 0; size-- {
		end := len(all)
		for _, word := range all[start:end] {
			for _, part := range alphabet {
				all = append(all, word+part)
			}
		}
		start = end
	}
	return all
}

// numbers returns the Ints around every power of two and of ten.
func numbers() []int64 {
	all := []int64{0, 7, -7, 42, -42, 1234567890, -1234567890, 9080706050403020100}
	for k := range 64 {
		power := int64(1) << k
		all = append(all, power, power-1, power+1, -power, -power+1, -power-1)
	}
	for power := int64(1); power <= math.MaxInt64/10; power *= 10 {
		for digit := int64(1); digit <= 9; digit++ {
			n := power * digit
			all = append(all, n, n-1, n+1, -n, -n+1, -n-1)
		}
	}
	return all
}

// strangeTexts returns texts that are not quite what they look like, in bytes and in characters.
func strangeTexts() []string {
	return []string{
		"", " ", "a", "a\x00b", "\x00", "\n", "\t\r", "\\", "\"", "`", "\x7f", "\x80", "\xff", "\xc3", "é", "日本", "’", "‘a’", "𝟙", "\xf0\x9d\x9f", "\xef\xbf\xbd",
		"'", "''", "'''", "a'", "'a", "it's", "\xc3'", "'\xa9", "\xe2'\x80'\x99", "\xf0'", "%", "_", "null", "true", "-0", "--", "a, b", "','",
	}
}

// sized describes a string in a failure without all bytes of a long one.
func sized(s string) string {
	return fmt.Sprintf("%.40q (%d bytes)", s, len(s))
}

// P5.1

func TestIsIdentOfEveryByte(t *testing.T) {
	letters := "abcdefghijklmnopqrstuvwxyz"
	for b := range 256 {
		s := string([]byte{byte(b)})
		if got, want := literal.IsIdent(s), strings.Contains(letters, s); got != want {
			t.Errorf("IsIdent(%q) = %v, want %v", s, got, want)
		}
		want := strings.Contains(letters+"0123456789_", s)
		for _, whole := range []string{"a" + s, "a" + s + "z", "z_0" + s} {
			if got := literal.IsIdent(whole); got != want {
				t.Errorf("IsIdent(%q) = %v, want %v", whole, got, want)
			}
		}
	}
}

func TestIsIdentOfShortStrings(t *testing.T) {
	form := regexp.MustCompile(`\A[a-z][a-z0-9_]*\z`)
	for _, s := range words(4, "a", "z", "A", "Z", "0", "9", "_", "-", " ", "\n", "`", "{", "/", ":", "é", "\xc3") {
		if got, want := literal.IsIdent(s), form.MatchString(s); got != want {
			t.Errorf("IsIdent(%q) = %v, want %v", s, got, want)
		}
	}
}

func TestIsIdentCountsBytes(t *testing.T) {
	for n := range 3 * api.MaxName {
		for _, s := range []string{strings.Repeat("a", n), strings.Repeat("x_1", n/3) + "yyy"[:n%3]} {
			if got, want := literal.IsIdent(s), 1 <= n && n <= 32; got != want {
				t.Errorf("IsIdent(%q) of %d bytes = %v, want %v", s, n, got, want)
			}
		}
	}
}

func TestIsIdentOfOtherAlphabets(t *testing.T) {
	// The last byte of the number of some of these characters is that of a letter or a digit.
	for _, c := range []rune{'ª', 'à', 'ā', 'š', 'ı', 'ſ', 'а', 'α', '٣', '߁', '１', 'ａ', 'Ａ', '＿', '‿', '𝒂', '𝟘', 0x161, 0x361, 0x130, 0x15f, 0x10061, 0x100061, 0xfffd, 0x10ffff, 0x200b, 0xfeff} {
		for _, s := range []string{string(c), "a" + string(c), string(c) + "a", "a" + string(c) + "a"} {
			if literal.IsIdent(s) {
				t.Errorf("IsIdent(%q) = true", s)
			}
		}
	}
}

func TestFormatInt(t *testing.T) {
	for n, want := range map[int64]string{0: "0", 1: "1", -1: "-1", 9: "9", 10: "10", -10: "-10", 100: "100", 1000000: "1000000", math.MaxInt64: "9223372036854775807", math.MinInt64: "-9223372036854775808", -9007199254740993: "-9007199254740993"} {
		if got := literal.FormatInt(n); got != want {
			t.Errorf("FormatInt(%d) = %q, want %q", n, got, want)
		}
	}
	for _, n := range numbers() {
		if got, want := literal.FormatInt(n), big.NewInt(n).String(); got != want {
			t.Errorf("FormatInt(%d) = %q, want %q", n, got, want)
		}
	}
}

var integerForm = regexp.MustCompile(`\A(0|-?[1-9][0-9]*)\z`)

// wantInt is ParseInt by its definition, with integers of any size.
func wantInt(s string) (int64, api.Errno) {
	if s == "" {
		return 0, api.ErrShort
	}
	if !integerForm.MatchString(s) {
		return 0, api.ErrFormat
	}
	n, _ := new(big.Int).SetString(s, 10)
	if !n.IsInt64() {
		return 0, api.ErrRange
	}
	return n.Int64(), api.OK
}

func checkParseInt(t *testing.T, s string) {
	t.Helper()
	n, e := literal.ParseInt(s)
	want, wantError := wantInt(s)
	if n != want || e != wantError {
		t.Errorf("ParseInt(%s) = %d, %v, want %d, %v", sized(s), n, e, want, wantError)
	}
}

func TestParseIntExamples(t *testing.T) {
	for _, c := range []struct {
		s    string
		want int64
		e    api.Errno
	}{
		{"0", 0, api.OK}, {"7", 7, api.OK}, {"-7", -7, api.OK}, {"10", 10, api.OK}, {"-10", -10, api.OK}, {"101", 101, api.OK},
		{"9223372036854775807", math.MaxInt64, api.OK}, {"-9223372036854775808", math.MinInt64, api.OK},
		{"9223372036854775808", 0, api.ErrRange}, {"-9223372036854775809", 0, api.ErrRange},
		{"18446744073709551615", 0, api.ErrRange}, {"18446744073709551616", 0, api.ErrRange}, {"18446744073709551617", 0, api.ErrRange}, {"-18446744073709551617", 0, api.ErrRange},
		{"10000000000000000000", 0, api.ErrRange}, {"100000000000000000000", 0, api.ErrRange},
		{"", 0, api.ErrShort},
		{"-", 0, api.ErrFormat}, {"--", 0, api.ErrFormat}, {"--1", 0, api.ErrFormat}, {"-0", 0, api.ErrFormat}, {"-00", 0, api.ErrFormat}, {"00", 0, api.ErrFormat},
		{"01", 0, api.ErrFormat}, {"-01", 0, api.ErrFormat}, {"1-", 0, api.ErrFormat}, {"1-1", 0, api.ErrFormat}, {"+1", 0, api.ErrFormat}, {"+", 0, api.ErrFormat}, {"+0", 0, api.ErrFormat},
		{" 1", 0, api.ErrFormat}, {"1 ", 0, api.ErrFormat}, {"- 1", 0, api.ErrFormat}, {" ", 0, api.ErrFormat}, {"1\n", 0, api.ErrFormat}, {"1\x00", 0, api.ErrFormat},
		{"1_000", 0, api.ErrFormat}, {"1,000", 0, api.ErrFormat}, {"1.0", 0, api.ErrFormat}, {"1e3", 0, api.ErrFormat}, {"0x10", 0, api.ErrFormat}, {"0b1", 0, api.ErrFormat}, {"0o7", 0, api.ErrFormat},
		{"a", 0, api.ErrFormat}, {"1a", 0, api.ErrFormat}, {"a1", 0, api.ErrFormat}, {"null", 0, api.ErrFormat},
		{"١", 0, api.ErrFormat}, {"1２", 0, api.ErrFormat}, {"1\xff", 0, api.ErrFormat}, {"\xb11", 0, api.ErrFormat}, {"−1", 0, api.ErrFormat},
		{"99999999999999999999x", 0, api.ErrFormat}, {"099999999999999999999", 0, api.ErrFormat}, {"-09999999999999999999", 0, api.ErrFormat}, // the form comes before the range
	} {
		if n, e := literal.ParseInt(c.s); n != c.want || e != c.e {
			t.Errorf("ParseInt(%q) = %d, %v, want %d, %v", c.s, n, e, c.want, c.e)
		}
		checkParseInt(t, c.s)
	}
}

func TestParseIntOfShortStrings(t *testing.T) {
	for _, s := range words(5, "-", "0", "1", "9", "+", " ", "a", "_", "\x00", "é") {
		checkParseInt(t, s)
	}
	for a := range 256 {
		for b := range 256 {
			checkParseInt(t, string([]byte{byte(a), byte(b)}))
		}
	}
}

func TestParseIntAroundTheLimits(t *testing.T) {
	for _, limit := range []*big.Int{big.NewInt(math.MaxInt64), big.NewInt(math.MinInt64), new(big.Int).SetUint64(math.MaxUint64), new(big.Int).Lsh(big.NewInt(1), 128)} {
		for d := int64(-300); d <= 300; d++ {
			checkParseInt(t, new(big.Int).Add(limit, big.NewInt(d)).String())
		}
	}
	for digit := '0'; digit <= '9'; digit++ {
		for _, size := range []int{17, 18, 19, 20, 21, 39, 100, 10000} {
			digits := strings.Repeat(string(digit), size)
			for _, s := range []string{digits, "-" + digits, "1" + digits, "-1" + digits, "-" + digits + "x", digits + "-"} {
				checkParseInt(t, s)
			}
		}
	}
}

// P5.2

func TestQuote(t *testing.T) {
	for s, want := range map[string]string{"": "''", "a": "'a'", "it's": "'it''s'", "'": "''''", "''": "''''''", "'a'": "'''a'''", "a b": "'a b'", "\\": "'\\'", "\"": "'\"'", "\x00\n\xff": "'\x00\n\xff'", "é’": "'é’'", "\xc3'": "'\xc3'''", "null": "'null'"} {
		if got := literal.Quote(s); got != want {
			t.Errorf("Quote(%q) = %q, want %q", s, got, want)
		}
	}
	for _, s := range words(5, "'", "a", "\x00", "é", "\xc3") {
		if got, want := literal.Quote(s), quoted(s); got != want {
			t.Errorf("Quote(%q) = %q, want %q", s, got, want)
		}
	}
}

// quoted builds a string literal byte by byte.
func quoted(s string) string {
	b := []byte{'\''}
	for i := range len(s) {
		b = append(b, s[i])
		if s[i] == '\'' {
			b = append(b, s[i])
		}
	}
	return string(append(b, '\''))
}

// unquoted reads a string literal byte by byte.
func unquoted(s string) (string, api.Errno) {
	if len(s) < 2 || s[0] != '\'' || s[len(s)-1] != '\'' {
		return "", api.ErrFormat
	}
	var b []byte
	end := len(s) - 1
	for i := 1; i < end; i++ {
		if s[i] == '\'' {
			i++
			if i == end || s[i] != '\'' {
				return "", api.ErrFormat
			}
		}
		b = append(b, s[i])
	}
	return string(b), api.OK
}

func checkUnquote(t *testing.T, s string) {
	t.Helper()
	got, e := literal.Unquote(s)
	want, wantError := unquoted(s)
	if got != want || e != wantError {
		t.Errorf("Unquote(%s) = %s, %v, want %s, %v", sized(s), sized(got), e, sized(want), wantError)
	}
}

func TestUnquoteExamples(t *testing.T) {
	for _, c := range []struct {
		s, want string
		e       api.Errno
	}{
		{"''", "", api.OK}, {"'a'", "a", api.OK}, {"'it''s'", "it's", api.OK}, {"''''", "'", api.OK}, {"''''''", "''", api.OK}, {"'''a'''", "'a'", api.OK}, {"'\xff''\x00'", "\xff'\x00", api.OK},
		{"'\\'", "\\", api.OK}, {"'a\nb'", "a\nb", api.OK}, {"'\"'", "\"", api.OK},
		{"", "", api.ErrFormat}, {"'", "", api.ErrFormat}, {"'''", "", api.ErrFormat}, {"'''''", "", api.ErrFormat}, {"a", "", api.ErrFormat}, {"aa", "", api.ErrFormat},
		{"'a", "", api.ErrFormat}, {"a'", "", api.ErrFormat}, {"'a'b'", "", api.ErrFormat}, {"'a''", "", api.ErrFormat}, {"''a'", "", api.ErrFormat}, {"'a'''b'c'", "", api.ErrFormat}, {"'a''b'''c'", "", api.ErrFormat}, {"'''a'b''", "", api.ErrFormat},
		{" 'a'", "", api.ErrFormat}, {"'a' ", "", api.ErrFormat}, {"\"a\"", "", api.ErrFormat}, {"'\\''", "", api.ErrFormat}, {"'a''b' 'c'", "", api.ErrFormat}, {"‘a’", "", api.ErrFormat}, {"null", "", api.ErrFormat},
	} {
		if got, e := literal.Unquote(c.s); got != c.want || e != c.e {
			t.Errorf("Unquote(%q) = %q, %v, want %q, %v", c.s, got, e, c.want, c.e)
		}
		checkUnquote(t, c.s)
	}
}

func TestUnquoteOfShortStrings(t *testing.T) {
	for _, s := range words(11, "'", "a") {
		checkUnquote(t, s)
	}
	for _, s := range words(6, "'", "\"", "\\", "\xc3", "\xa9") { // two of the parts are one character together
		checkUnquote(t, s)
		checkUnquote(t, "'"+s+"'")
	}
}

func TestUnquoteHasNoLimit(t *testing.T) {
	long := strings.Repeat("x", 1<<20)
	checkUnquote(t, "'"+long+"'")
	checkUnquote(t, "'"+long)
	checkUnquote(t, "'"+long+"'"+long+"'")
	checkUnquote(t, strings.Repeat("'", 1<<20))
	checkUnquote(t, strings.Repeat("'", 1<<20+1))
}

// P5.3

func TestFormat(t *testing.T) {
	for _, c := range []struct {
		v    api.Value
		want string
	}{
		{null, "null"}, {yes, "true"}, {no, "false"}, {integer(0), "0"}, {integer(1), "1"}, {integer(-5), "-5"}, {integer(math.MinInt64), "-9223372036854775808"},
		{text(""), "''"}, {text("a"), "'a'"}, {text("null"), "'null'"}, {text("true"), "'true'"}, {text("1"), "'1'"}, {text("it's"), "'it''s'"}, {text("\xff\x00"), "'\xff\x00'"},
		{text(strings.Repeat("'", api.MaxText)), strings.Repeat("'", 2*api.MaxText+2)},
	} {
		if got := literal.Format(c.v); got != c.want {
			t.Errorf("Format(%d, %d, %s) = %s, want %s", c.v.Kind, c.v.Int, sized(c.v.Text), sized(got), sized(c.want))
		}
	}
	for _, n := range numbers() {
		if got, want := literal.Format(integer(n)), big.NewInt(n).String(); got != want {
			t.Errorf("Format of the Int %d = %q, want %q", n, got, want)
		}
	}
	for _, s := range strangeTexts() {
		if got, want := literal.Format(text(s)), quoted(s); got != want {
			t.Errorf("Format of the Text %q = %q, want %q", s, got, want)
		}
	}
}

// wantValue is Parse by its definition.
func wantValue(s string) (api.Value, api.Errno) {
	switch s {
	case "null":
		return null, api.OK
	case "true":
		return yes, api.OK
	case "false":
		return no, api.OK
	}
	if s == "" || s[0] != '\'' {
		n, e := wantInt(s)
		if e != api.OK {
			return null, e
		}
		return integer(n), api.OK
	}
	content, e := unquoted(s)
	if e != api.OK {
		return null, e
	}
	if len(content) > 4096 {
		return null, api.ErrLong
	}
	return text(content), api.OK
}

func checkParse(t *testing.T, s string) {
	t.Helper()
	v, e := literal.Parse(s)
	want, wantError := wantValue(s)
	if v != want || e != wantError {
		t.Errorf("Parse(%s) = (%d, %d, %s), %v, want (%d, %d, %s), %v", sized(s), v.Kind, v.Int, sized(v.Text), e, want.Kind, want.Int, sized(want.Text), wantError)
	}
}

func TestParseExamples(t *testing.T) {
	for _, c := range []struct {
		s    string
		want api.Value
		e    api.Errno
	}{
		{"null", null, api.OK}, {"true", yes, api.OK}, {"false", no, api.OK},
		{"0", integer(0), api.OK}, {"1", integer(1), api.OK}, {"-12", integer(-12), api.OK}, {"9223372036854775807", integer(math.MaxInt64), api.OK},
		{"''", text(""), api.OK}, {"'null'", text("null"), api.OK}, {"'it''s'", text("it's"), api.OK}, {"'1'", text("1"), api.OK}, {"'\xff'", text("\xff"), api.OK},
		{"", null, api.ErrShort},
		{"nul", null, api.ErrFormat}, {"nulls", null, api.ErrFormat}, {"NULL", null, api.ErrFormat}, {"Null", null, api.ErrFormat}, {" null", null, api.ErrFormat}, {"null ", null, api.ErrFormat}, {"null\x00", null, api.ErrFormat},
		{"True", null, api.ErrFormat}, {"TRUE", null, api.ErrFormat}, {"t", null, api.ErrFormat}, {"false ", null, api.ErrFormat}, {"yes", null, api.ErrFormat},
		{"-", null, api.ErrFormat}, {"-0", null, api.ErrFormat}, {"01", null, api.ErrFormat}, {"1.5", null, api.ErrFormat}, {"1'", null, api.ErrFormat}, {"a", null, api.ErrFormat}, {"\"a\"", null, api.ErrFormat}, {" 'a'", null, api.ErrFormat}, {"1, 2", null, api.ErrFormat},
		{"9223372036854775808", null, api.ErrRange}, {"-9223372036854775809", null, api.ErrRange},
		{"'", null, api.ErrFormat}, {"'''", null, api.ErrFormat}, {"'a", null, api.ErrFormat}, {"'a'b'", null, api.ErrFormat}, {"'a' ", null, api.ErrFormat}, {"'a', 'b'", null, api.ErrFormat},
	} {
		if v, e := literal.Parse(c.s); v != c.want || e != c.e {
			t.Errorf("Parse(%q) = %v, %v, want %v, %v", c.s, v, e, c.want, c.e)
		}
		checkParse(t, c.s)
	}
}

func TestParseOfShortStrings(t *testing.T) {
	for _, s := range words(5, "'", "a", "-", "0", "1", " ", "null", "true", "false") {
		checkParse(t, s)
	}
}

func TestParseLimitsTheTextNotTheLiteral(t *testing.T) {
	for _, c := range []struct {
		size int
		e    api.Errno
	}{{4095, api.OK}, {4096, api.OK}, {4097, api.ErrLong}, {8192, api.ErrLong}, {1 << 20, api.ErrLong}} {
		for _, part := range []string{"x", "'", "\xff", "\x00"} {
			s := quoted(strings.Repeat(part, c.size))
			if v, e := literal.Parse(s); e != c.e || e != api.OK && v != null || e == api.OK && (v.Kind != api.Text || len(v.Text) != c.size) {
				t.Errorf("Parse of a literal of %d times %q = kind %d, %d bytes, %v, want %v", c.size, part, v.Kind, len(v.Text), e, c.e)
			}
			checkParse(t, s)
			checkParse(t, s+" ") // the form comes before the length
			checkParse(t, s[:len(s)-1]+"a'b'")
		}
	}
	checkParse(t, quoted(strings.Repeat("é", api.MaxText/2)))
	checkParse(t, quoted(strings.Repeat("é", api.MaxText/2)+"x")) // fewer characters, but more bytes
}

func TestFormatRow(t *testing.T) {
	for _, c := range []struct {
		r    api.Row
		want string
	}{
		{nil, ""}, {api.Row{}, ""}, {api.Row{null}, "null"}, {api.Row{text("")}, "''"},
		{api.Row{null, integer(1), text("a")}, "null, 1, 'a'"},
		{api.Row{yes, no}, "true, false"},
		{api.Row{text("a, b"), text("it's")}, "'a, b', 'it''s'"},
		{api.Row{null, null, null}, "null, null, null"},
		{slices.Repeat(api.Row{integer(-1)}, 300), strings.Repeat("-1, ", 299) + "-1"},
	} {
		if got := literal.FormatRow(c.r); got != c.want {
			t.Errorf("FormatRow of %d values = %q, want %q", len(c.r), got, c.want)
		}
	}
}

func TestFormatRowLeavesTheRowAlone(t *testing.T) {
	r := api.Row{null, yes, integer(1), text("it's"), text("spare")}
	literal.FormatRow(r[:4])
	if !slices.Equal(r, api.Row{null, yes, integer(1), text("it's"), text("spare")}) {
		t.Errorf("FormatRow changed its argument to %v", r)
	}
}

// P5.4

// matches is Like by its definition: it tries every sequence of bytes for each %.
func matches(pattern, s string) bool {
	if pattern == "" {
		return s == ""
	}
	if pattern[0] == '%' {
		for i := range len(s) + 1 {
			if matches(pattern[1:], s[i:]) {
				return true
			}
		}
		return false
	}
	return s != "" && (pattern[0] == '_' || pattern[0] == s[0]) && matches(pattern[1:], s[1:])
}

func checkLike(t *testing.T, pattern, s string) {
	t.Helper()
	if got, want := literal.Like(pattern, s), matches(pattern, s); got != want {
		t.Errorf("Like(%q, %q) = %v, want %v", pattern, s, got, want)
	}
}

func TestLikeExamples(t *testing.T) {
	for _, c := range []struct {
		pattern, s string
		want       bool
	}{
		{"a%c", "abc", true}, {"%", "", true}, {"_", "a", true}, {"_", "", false}, {"a%", "ba", false},
		{"", "", true}, {"", "a", false}, {"a", "", false}, {"a", "a", true}, {"a", "A", false}, {"ab", "a", false}, {"a", "ab", false}, {"b", "ab", false},
		{"a%", "a", true}, {"%a", "a", true}, {"%a%", "a", true}, {"a%a", "a", false}, {"a%a", "aa", true}, {"ab%ba", "aba", false}, {"ab%ba", "abba", true}, {"%ab%ba%", "xaba", false},
		{"%a%", "bcd", false}, {"%ab", "aab", true}, {"%ab", "abab", true}, {"ab%", "abab", true}, {"%b_%", "ab", false}, {"%b_%", "abc", true},
		{"a%b%c", "abcbc", true}, {"a%b%c", "acbc", true}, {"a%b%c", "acb", false}, {"%aab%", "aaab", true}, {"%a_b%b", "aabab", true}, {"%ab%ab%", "abxab", true}, {"%ab%ab%", "abxa", false}, {"%ab%a", "aab", false},
		{"_%", "", false}, {"%_", "", false}, {"%_%", "x", true}, {"_%_", "x", false}, {"_%_", "xy", true}, {"__", "x", false}, {"__", "xy", true}, {"__", "xyz", false}, {"%_a_%", "xay", true}, {"%_a_%", "ay", false},
		{"%%", "", true}, {"%%", "abc", true}, {"%%a%%", "xax", true}, {"a%%b", "ab", true}, {"a%_%b", "ab", false}, {"a%_%b", "axb", true},
		{"%", "%", true}, {"_", "_", true}, {"_", "%", true}, {"a", "%", false}, {"a", "_", false}, {"%a", "%", false}, {"a%", "a_", true}, // only those in the pattern are wildcards
		{"\\%", "%", false}, {"\\%", "\\abc", true}, {"\\_", "_", false}, {"\\_", "\\x", true}, {"\\", "\\", true}, {"%%", "%", true}, {"__", "_", false}, // nothing escapes them
		{".", "a", false}, {".", ".", true}, {"*", "a", false}, {"*", "", false}, {"?", "a", false}, {"[ab]", "a", false}, {"[ab]", "[ab]", true}, {"a+", "aa", false}, {"^a$", "a", false}, {"(a)", "(a)", true}, {"'", "'", true},
		{"_", "é", false}, {"__", "é", true}, {"_\xa9", "é", true}, {"\xc3_", "é", true}, {"%\xa9", "é", true}, {"é", "é", true}, {"é", "è", false}, {"_", "\xff", true}, {"\xff", "\xfe", false}, {"\xff", "\xef\xbf\xbd", false}, {"\xef\xbf\xbd", "\xff", false},
		{"日_", "日本", false}, {"日___", "日本", true}, {"_", "\x00", true}, {"\x00", "\x00", true}, {"\x00", "", false}, {"a%b", "a\nb", true}, {"a_b", "a\nb", true}, {"a%b", "a\x00\xff\nb", true}, {"a ", "a", false},
	} {
		if got := literal.Like(c.pattern, c.s); got != c.want {
			t.Errorf("Like(%q, %q) = %v, want %v", c.pattern, c.s, got, c.want)
		}
		checkLike(t, c.pattern, c.s)
	}
}

func TestLikeOfShortStrings(t *testing.T) {
	for _, pattern := range words(5, "%", "_", "a", "b") {
		for _, s := range words(6, "a", "b") {
			checkLike(t, pattern, s)
		}
	}
	for _, pattern := range words(3, "%", "_", "a", "\xc3", "\xa9", "é") {
		for _, s := range words(3, "%", "_", "a", "\xc3", "\xa9", "é") {
			checkLike(t, pattern, s)
		}
	}
}

func TestLikeOfLongerStrings(t *testing.T) {
	longer := words(10, "a", "b")
	for _, pattern := range []string{"%aab%", "%abab%", "%aba%aba%", "%a_a%bb", "ab%ab%ab", "a%_b_%a", "%aa%bb%aa%", "aaab%baaa", "%abaab%", "__%ba%__", "%b%b%b%", "a_b%a_b", "%aa_aa%", "%_b_b_%"} {
		for _, s := range longer {
			checkLike(t, pattern, s)
		}
	}
}

// TestLikeOfManyWildcards has patterns for which trying every sequence of bytes for each % would not end.
func TestLikeOfManyWildcards(t *testing.T) {
	s := strings.Repeat("a", api.MaxText)
	for pattern, want := range map[string]bool{
		strings.Repeat("%a", 1000):              true,
		strings.Repeat("%a", 1000) + "%b":       false,
		strings.Repeat("%a", 1000) + "b%":       false,
		strings.Repeat("a%", 1000) + "b%a":      false,
		strings.Repeat("%a", api.MaxText):       true,
		strings.Repeat("%a", api.MaxText+1):     false,
		strings.Repeat("%_", api.MaxText) + "%": true,
		strings.Repeat("%_", api.MaxText+1):     false,
		strings.Repeat("%", 1<<16):              true,
		strings.Repeat("%", 1<<16) + "b":        false,
		"%" + s[:2000] + "b%":                   false,
		"%" + s[:2000] + "%b%":                  false,
		"%" + s[:2000] + "_%" + s[:2000] + "%":  true,
		"%" + s[:2048] + "%" + s[:2049] + "%":   false,
		s[:2048] + "%" + s[:2048]:               true,
		s[:2048] + "%" + s[:2049]:               false,
		s:                                       true,
		s + "%":                                 true,
		s + "_":                                 false,
	} {
		if got := literal.Like(pattern, s); got != want {
			t.Errorf("Like of the pattern %s and %d times a = %v, want %v", sized(pattern), len(s), got, want)
		}
	}
}

// P5.5

func TestParsingInvertsFormatting(t *testing.T) {
	values := []api.Value{null, no, yes}
	for _, n := range numbers() {
		if got, e := literal.ParseInt(literal.FormatInt(n)); got != n || e != api.OK {
			t.Errorf("ParseInt(FormatInt(%d)) = %d, %v", n, got, e)
		}
		values = append(values, integer(n))
	}
	texts := append(strangeTexts(), words(5, "'", "a", "\x00", "\xc3", "\xa9")...)
	texts = append(texts, strings.Repeat("'", api.MaxText), strings.Repeat("'a", api.MaxText/2), strings.Repeat("\xff", api.MaxText))
	for _, s := range texts {
		if got, e := literal.Unquote(literal.Quote(s)); got != s || e != api.OK {
			t.Errorf("Unquote(Quote(%s)) = %s, %v", sized(s), sized(got), e)
		}
		values = append(values, text(s))
	}
	for _, v := range values {
		if got, e := literal.Parse(literal.Format(v)); got != v || e != api.OK {
			t.Errorf("Parse(Format(%d, %d, %s)) = (%d, %d, %s), %v", v.Kind, v.Int, sized(v.Text), got.Kind, got.Int, sized(got.Text), e)
		}
	}
}

func TestFormattingInvertsParsing(t *testing.T) {
	all := words(5, "'", "a", "-", "0", "1", "9", "\xc3", "é")
	all = append(all, words(2, "null", "true", "false", "NULL", " ", "+", "9223372036854775807", "9223372036854775808", "-", "1")...)
	parsed := map[int]int{}
	for _, s := range all {
		if n, e := literal.ParseInt(s); e == api.OK && literal.FormatInt(n) != s {
			t.Errorf("ParseInt accepts %q, which FormatInt writes as %q", s, literal.FormatInt(n))
		}
		if content, e := literal.Unquote(s); e == api.OK && literal.Quote(content) != s {
			t.Errorf("Unquote accepts %q, which Quote writes as %q", s, literal.Quote(content))
		}
		v, e := literal.Parse(s)
		if e != api.OK {
			continue
		}
		parsed[v.Kind]++
		if literal.Format(v) != s {
			t.Errorf("Parse accepts %q, which Format writes as %q", s, literal.Format(v))
		}
	}
	for kind, least := range map[int]int{api.Null: 1, api.Bool: 2, api.Int: 100, api.Text: 100} {
		if parsed[kind] < least {
			t.Errorf("Parse accepts %d values of kind %d, want at least %d", parsed[kind], kind, least)
		}
	}
}

// P5.6

func TestStringsWithoutWildcardsMatchThemselves(t *testing.T) {
	texts := append(strangeTexts(), words(3, "a", "b", "\\", "\x00", "é", "\xff")...)
	texts = slices.DeleteFunc(texts, func(s string) bool { return strings.ContainsAny(s, "%_") })
	for _, pattern := range texts {
		for _, s := range texts {
			if got, want := literal.Like(pattern, s), pattern == s; got != want {
				t.Errorf("Like(%q, %q) = %v, want %v", pattern, s, got, want)
			}
		}
	}
}

func TestPercentMatchesEveryString(t *testing.T) {
	for _, s := range append(strangeTexts(), strings.Repeat("x", 1<<20)) {
		if !literal.Like("%", s) {
			t.Errorf("Like(%q, %s) = false", "%", sized(s))
		}
	}
}

func TestUnderscoresCountBytes(t *testing.T) {
	for n := range 12 {
		for _, s := range append(strangeTexts(), words(3, "a", "%", "_", "é", "日")...) {
			if got, want := literal.Like(strings.Repeat("_", n), s), len(s) == n; got != want {
				t.Errorf("Like of %d underscores and %q = %v, want %v", n, s, got, want)
			}
		}
	}
}

func TestLeadingPercentLooksForASuffix(t *testing.T) {
	for _, p := range words(4, "%", "_", "a", "b") {
		for _, s := range words(4, "a", "b", "é") {
			some := false
			for i := range len(s) + 1 {
				some = some || literal.Like(p, s[i:])
			}
			if got := literal.Like("%"+p, s); got != some {
				t.Errorf("Like(%q, %q) = %v, but %q matches a suffix is %v", "%"+p, s, got, p, some)
			}
		}
	}
}
