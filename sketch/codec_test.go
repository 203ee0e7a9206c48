package sketch_test

import (
	"bytes"
	"encoding/binary"
	"math"
	"slices"
	"strings"
	"testing"

	"lamina/api"
	"lamina/sketch"
	"lamina/value"
	"lamina/varint"
)

// P16.3

// uvarint returns the varint of n.
func uvarint(n uint64) []byte { return binary.AppendUvarint(nil, n) }

// fieldsOf returns the encoding of s by the promise, field by field. These are Rows, Nulls, the number of hashes, the hashes, the byte for Complete, the counters, the number of fences and, for each fence, the value and two ranks.
func fieldsOf(s api.Sketch) [][]byte {
	all := [][]byte{uvarint(uint64(s.Rows)), uvarint(uint64(s.Nulls)), uvarint(uint64(len(s.MinHashes)))}
	for i, h := range s.MinHashes {
		if i > 0 {
			h -= s.MinHashes[i-1]
		}
		all = append(all, uvarint(h))
	}
	if s.Complete {
		all = append(all, []byte{1})
	} else {
		all = append(all, []byte{0})
	}
	for _, c := range s.CountMin {
		all = append(all, uvarint(uint64(c)))
	}
	all = append(all, uvarint(uint64(len(s.Fences))))
	for i, f := range s.Fences {
		all = append(all, value.Encode(f), uvarint(uint64(s.Ranks[2*i])), uvarint(uint64(s.Ranks[2*i+1])))
	}
	return all
}

// encodingOf returns the encoding of s by the promise.
func encodingOf(s api.Sketch) []byte {
	return slices.Concat(fieldsOf(s)...)
}

// coded is a sketch and its encoding.
type coded struct {
	s    api.Sketch
	want string
}

func codes() []coded {
	none := strings.Repeat("\x00", 64)
	at := func(place int, counter string) string { return none[:place] + counter + none[place+1:] }
	// The counters of base.
	four := at(0, "\x04") + at(1, "\x04") + at(63, "\x04") + at(0, "\x04")
	big := strings.Replace(four, "\x04", "\xff\xff\xff\xff\x07", -1)
	texts := base()
	texts.Fences = []api.Value{text(""), text("a"), text("b\x00")}
	far := base()
	far.MinHashes, far.Complete = []uint64{1 << 63, 1<<63 + 300, math.MaxUint64}, true
	full := api.Sketch{Rows: math.MaxInt32, MinHashes: []uint64{0}, Complete: true, CountMin: evenCounters(math.MaxInt32), Fences: []api.Value{number(math.MinInt64), number(math.MaxInt64)}, Ranks: []int{0, 300, 301, math.MaxInt32}}
	bools := base()
	bools.Fences, bools.Ranks = []api.Value{truth(0), truth(1)}, []int{0, 3, 4, 4}
	return []coded{
		{sketch.Build(nil), "\x00\x00\x00\x01" + none + none + none + none + "\x00"},
		{sketch.Build(make([]api.Value, 300)), "\xac\x02\xac\x02\x00\x01" + none + none + none + none + "\x00"},
		{base(), "\x05\x01\x02\x03\x06\x01" + four + "\x03" + "\x02\x02\x00\x01" + "\x02\x04\x02\x02" + "\x02\x06\x03\x04"},
		{texts, "\x05\x01\x02\x03\x06\x01" + four + "\x03" + "\x03\x00\x00\x01" + "\x03\x01a\x02\x02" + "\x03\x02b\x00\x03\x04"},
		{bools, "\x05\x01\x02\x03\x06\x01" + four + "\x02" + "\x01\x00\x00\x03" + "\x01\x01\x04\x04"},
		{far, "\x05\x01\x03\x80\x80\x80\x80\x80\x80\x80\x80\x80\x01\xac\x02\xd3\xfd\xff\xff\xff\xff\xff\xff\x7f\x01" + four + "\x03" + "\x02\x02\x00\x01" + "\x02\x04\x02\x02" + "\x02\x06\x03\x04"},
		{full, "\xff\xff\xff\xff\x07\x00\x01\x00\x01" + big + "\x02" + "\x02\xff\xff\xff\xff\xff\xff\xff\xff\xff\x01\x00\xac\x02" + "\x02\xfe\xff\xff\xff\xff\xff\xff\xff\xff\x01\xad\x02\xff\xff\xff\xff\x07"},
	}
}

func TestEncodeAndDecodeOfAFewSketches(t *testing.T) {
	for _, c := range codes() {
		if !isSketch(c.s) {
			t.Errorf("%v is not valid", c.s)
		}
		if got := sketch.Encode(c.s); string(got) != c.want {
			t.Errorf("Encode(%v) = %x, want %x", c.s, got, c.want)
		}
		if got, next, e := sketch.Decode([]byte(c.want), 0); !same(got, c.s) || next != len(c.want) || e != api.OK {
			t.Errorf("Decode(%x) = %v, %d, error %d", c.want, got, next, e)
		}
	}
}

// checkRefused fails unless Decode reports the error, and nothing beside it.
func checkRefused(t *testing.T, b []byte, offset int, want api.Errno) {
	t.Helper()
	if s, next, e := sketch.Decode(b, offset); !isZero(s) || next != 0 || e != want {
		t.Errorf("Decode(%x, %d) = %v, %d, error %d, want error %d", b, offset, s, next, e, want)
	}
}

func TestDecodeAtAnOffset(t *testing.T) {
	for _, c := range codes() {
		for _, before := range []string{"", "\x80", "\x05\x01\x02"} {
			for _, after := range []string{"", "\x00", "\x80\xff"} {
				b := []byte(before + c.want + after)
				if got, next, e := sketch.Decode(b, len(before)); !same(got, c.s) || next != len(before)+len(c.want) || e != api.OK {
					t.Errorf("Decode(%x, %d) = %v, %d, error %d", b, len(before), got, next, e)
				}
			}
		}
		b := []byte(c.want)
		for _, offset := range []int{math.MinInt, -len(b), -2, -1, len(b) + 1, len(b) + 2, 1 << 32, math.MaxInt} {
			checkRefused(t, b, offset, api.ErrArg)
		}
		checkRefused(t, b, len(b), api.ErrShort)
	}
	for _, offset := range []int{math.MinInt, -1, 1, math.MaxInt} {
		checkRefused(t, nil, offset, api.ErrArg)
	}
	checkRefused(t, nil, 0, api.ErrShort)
}

// with returns the encoding of s with another field in place of the one with the index.
func with(s api.Sketch, field int, replacement string) []byte {
	all := fieldsOf(s)
	all[field] = []byte(replacement)
	return slices.Concat(all...)
}

// Indices of fields of base and of a crowd.
const (
	rowsField        = 0
	nullsField       = 1
	hashesField      = 2
	hashField        = 3
	completeField    = 5
	counterField     = 6
	lastCounterField = 261
	fencesField      = 262
	fenceField       = 263
	rankField        = 264
	lastRankField    = 271

	longestVarint = "\xff\xff\xff\xff\xff\xff\xff\xff\xff\x01" // 2^64 - 1
	beyond        = "\xff\xff\xff\xff\xff\xff\xff\xff\xff\x02" // 2^64 and more
	tooGreat      = "\x80\x80\x80\x80\x08"                     // 2^31
	great         = "\xff\xff\xff\xff\x07"                     // 2^31 - 1
	word          = "\x80\x80\x80\x80\x10"                     // 2^32
)

func TestErrorsOfDecode(t *testing.T) {
	for _, c := range []struct {
		name        string
		field       int
		replacement string
		want        api.Errno
	}{
		{"Rows too long", rowsField, "\x85\x00", api.ErrFormat},
		{"Rows beyond 64 bits", rowsField, beyond, api.ErrFormat},
		{"2^31 Rows", rowsField, tooGreat, api.ErrRange},
		{"2^32 + 5 Rows", rowsField, "\x85\x80\x80\x80\x10", api.ErrRange},
		{"2^64 - 1 Rows", rowsField, longestVarint, api.ErrRange},
		{"2^31 - 1 Rows", rowsField, great, api.ErrFormat},
		{"a row more", rowsField, "\x06", api.ErrFormat},
		{"no rows", rowsField, "\x00", api.ErrFormat},
		{"Nulls too long", nullsField, "\x81\x00", api.ErrFormat},
		{"2^31 Nulls", nullsField, tooGreat, api.ErrRange},
		{"2^64 - 1 Nulls", nullsField, longestVarint, api.ErrRange},
		{"more NULLs than rows", nullsField, "\x06", api.ErrFormat},
		{"number of hashes too long", hashesField, "\x82\x00", api.ErrFormat},
		{"33 hashes", hashesField, "\x21", api.ErrCount},
		{"2^31 - 1 hashes", hashesField, great, api.ErrCount},
		{"2^31 hashes", hashesField, tooGreat, api.ErrRange},
		{"2^32 hashes", hashesField, word, api.ErrRange},
		{"2^64 - 1 hashes", hashesField, longestVarint, api.ErrRange},
		{"hash too long", hashField, "\x83\x00", api.ErrFormat},
		{"hash beyond 64 bits", hashField, beyond, api.ErrFormat},
		{"second hash too long", hashField + 1, "\x83\x00", api.ErrFormat},
		{"second hash equal", hashField + 1, "\x00", api.ErrFormat},
		{"second hash less", hashField + 1, longestVarint, api.ErrFormat},
		{"Complete 2", completeField, "\x02", api.ErrFormat},
		{"Complete 128", completeField, "\x80", api.ErrFormat},
		{"Complete 255", completeField, "\xff", api.ErrFormat},
		{"not complete", completeField, "\x00", api.ErrFormat},
		{"counter too long", counterField, "\x84\x00", api.ErrFormat},
		{"counter 2^31", counterField, tooGreat, api.ErrRange},
		{"counter 2^64 - 4", counterField, "\xfc\xff\xff\xff\xff\xff\xff\xff\xff\x01", api.ErrRange},
		{"counter 2^31 - 1", counterField, great, api.ErrFormat},
		{"counter less", counterField, "\x03", api.ErrFormat},
		{"counter more", counterField, "\x05", api.ErrFormat},
		{"last counter 2^31", lastCounterField, tooGreat, api.ErrRange},
		{"last counter more", lastCounterField, "\x01", api.ErrFormat},
		{"number of fences too long", fencesField, "\x83\x00", api.ErrFormat},
		{"18 fences", fencesField, "\x12", api.ErrCount},
		{"2^31 - 1 fences", fencesField, great, api.ErrCount},
		{"2^31 fences", fencesField, tooGreat, api.ErrRange},
		{"2^64 - 1 fences", fencesField, longestVarint, api.ErrRange},
		{"a fence more", fencesField, "\x04", api.ErrShort},
		{"17 fences", fencesField, "\x11", api.ErrShort},
		{"a fence less", fencesField, "\x02", api.ErrFormat},
		{"no fences", fencesField, "\x00", api.ErrFormat},
		{"fence of kind 4", fenceField, "\x04", api.ErrFormat},
		{"fence NULL", fenceField, "\x00", api.ErrFormat},
		{"fence false", fenceField, "\x01\x00", api.ErrFormat},
		{"fence 2 of kind Bool", fenceField, "\x01\x02", api.ErrFormat},
		{"fence too long", fenceField, "\x02\x82\x00", api.ErrFormat},
		{"fence greater than the next", fenceField, "\x02\x08", api.ErrFormat},
		{"fence equal to the next", fenceField, "\x02\x04", api.ErrFormat},
		{"fence with more than 4096 bytes", fenceField, "\x03\x81\x20" + strings.Repeat("x", 4097), api.ErrLong},
		{"fence a Text", fenceField, "\x03\x01x", api.ErrFormat},
		{"rank too long", rankField, "\x80\x00", api.ErrFormat},
		{"rank 2^31", rankField, tooGreat, api.ErrRange},
		{"rank 2^31 - 1", rankField, great, api.ErrFormat},
		{"first rank 1", rankField, "\x01", api.ErrFormat},
		{"second rank 3", rankField + 1, "\x03", api.ErrFormat},
		{"second rank 2^31", rankField + 1, tooGreat, api.ErrRange},
		{"last rank too long", lastRankField, "\x84\x00", api.ErrFormat},
		{"last rank 2^64 - 1", lastRankField, longestVarint, api.ErrRange},
		{"last rank less", lastRankField, "\x03", api.ErrFormat},
		{"last rank more", lastRankField, "\x05", api.ErrFormat},
	} {
		t.Run(c.name, func(t *testing.T) { checkRefused(t, with(base(), c.field, c.replacement), 0, c.want) })
	}
}

// isVarint reports whether the field of s with the index is a varint.
func isVarint(s api.Sketch, field int) bool {
	complete := hashField + len(s.MinHashes)
	fence := complete + 258
	return field != complete && (field < fence || (field-fence)%3 > 0)
}

// TestErrorsOfFieldsThatAreCut ends the bytes in each field of a sketch, and before it.
func TestErrorsOfFieldsThatAreCut(t *testing.T) {
	for _, s := range []api.Sketch{base(), crowd(), sketch.Build(nil), sketch.Build([]api.Value{text("abc"), text("abcd"), null()})} {
		fields := fieldsOf(s)
		for i := range fields {
			start := slices.Concat(fields[:i]...)
			checkRefused(t, start, 0, api.ErrShort)
			for _, cut := range []string{"\x80", "\xff\xff", "\x85\x80\x80\x80\x80\x80\x80\x80\x80"} {
				if isVarint(s, i) {
					checkRefused(t, append(slices.Clone(start), cut...), 0, api.ErrShort)
				}
			}
		}
		b := slices.Concat(fields...)
		for cut := range b {
			checkRefused(t, b[:cut], 0, api.ErrShort)
		}
	}
	for _, cut := range []string{"\x01", "\x02", "\x02\x80", "\x03", "\x03\x80", "\x03\x04abc"} {
		b := slices.Concat(fieldsOf(base())[:fenceField]...)
		checkRefused(t, append(b, cut...), 0, api.ErrShort)
	}
}

// TestTheFirstErrorOfDecode has more than one error at a time. That of the first field is reported, and any of a field before that of a sketch that is not valid.
func TestTheFirstErrorOfDecode(t *testing.T) {
	errors := []struct {
		field       int
		replacement string
		want        api.Errno
	}{
		{rowsField, tooGreat, api.ErrRange},
		{nullsField, "\x81\x00", api.ErrFormat},
		{hashesField, "\x21", api.ErrCount},
		{hashField + 1, beyond, api.ErrFormat},
		{completeField, "\x02", api.ErrFormat},
		{counterField, longestVarint, api.ErrRange},
		{lastCounterField, "\x80\x00", api.ErrFormat},
		{fencesField, "\x12", api.ErrCount},
		{fenceField, "\x03\x81\x20", api.ErrLong},
		{rankField, tooGreat, api.ErrRange},
		{lastRankField, "\x84\x00", api.ErrFormat},
	}
	for i, first := range errors {
		fields := fieldsOf(base())
		fields[first.field] = []byte(first.replacement)
		checkRefused(t, slices.Concat(fields[:first.field+1]...), 0, first.want)
		for _, second := range errors[i+1:] {
			both := slices.Clone(fields)
			both[second.field] = []byte(second.replacement)
			checkRefused(t, slices.Concat(both...), 0, first.want)
		}
		if i > 0 {
			fields[rowsField] = []byte{6} // one too many
			checkRefused(t, slices.Concat(fields...), 0, first.want)
		}
	}
	fields := fieldsOf(base())
	fields[hashField+1] = []byte{0} // equal hashes
	checkRefused(t, slices.Concat(fields...), 0, api.ErrFormat)
	checkRefused(t, slices.Concat(fields[:lastRankField]...), 0, api.ErrShort)
	fields[lastRankField] = []byte(tooGreat)
	checkRefused(t, slices.Concat(fields...), 0, api.ErrRange)
}

// TestDecodeOfWhatIsNotValid: sketches that are not valid are refused after their fields.
func TestDecodeOfWhatIsNotValid(t *testing.T) {
	refused := 0
	for _, c := range invalidChanges() {
		s := base()
		c.apply(&s)
		// The encoding has a number of counters and ranks that it does not tell.
		if len(s.CountMin) != 256 || len(s.Ranks) != 2*len(s.Fences) || slices.ContainsFunc(s.Fences, func(v api.Value) bool { return !value.Valid(v) }) {
			continue
		}
		if s.Rows < 0 || s.Rows > math.MaxInt32 || s.Nulls < 0 || slices.Min(s.CountMin) < 0 || slices.Max(s.CountMin) > math.MaxInt32 || len(s.Ranks) > 0 && slices.Min(s.Ranks) < 0 {
			checkRefused(t, encodingOf(s), 0, api.ErrRange)
		} else if len(s.MinHashes) > 32 || len(s.Fences) > 17 {
			checkRefused(t, encodingOf(s), 0, api.ErrCount)
		} else {
			checkRefused(t, encodingOf(s), 0, api.ErrFormat)
			refused++
		}
	}
	if refused < 20 {
		t.Errorf("%d sketches were encoded", refused)
	}
}

// model decodes b step by step, as the promise lists the steps.
func model(b []byte, offset int) (api.Sketch, int, api.Errno) {
	s, next, e := modelHead(b, offset)
	if e != api.OK {
		return api.Sketch{}, 0, e
	}
	for range 256 {
		var c int
		if c, next, e = modelNumber(b, next, math.MaxInt32); e != api.OK {
			return api.Sketch{}, 0, e
		}
		s.CountMin = append(s.CountMin, c)
	}
	fences, next, e := modelNumber(b, next, 17)
	if e != api.OK {
		return api.Sketch{}, 0, e
	}
	for range fences {
		var f api.Value
		if f, next, e = value.Decode(b, next); e != api.OK {
			return api.Sketch{}, 0, e
		}
		s.Fences = append(s.Fences, f)
		for range 2 {
			var rank int
			if rank, next, e = modelNumber(b, next, math.MaxInt32); e != api.OK {
				return api.Sketch{}, 0, e
			}
			s.Ranks = append(s.Ranks, rank)
		}
	}
	if !isSketch(s) {
		return api.Sketch{}, 0, api.ErrFormat
	}
	return s, next, api.OK
}

// modelHead decodes the fields up to the byte for Complete.
func modelHead(b []byte, next int) (s api.Sketch, end int, e api.Errno) {
	if s.Rows, next, e = modelNumber(b, next, math.MaxInt32); e != api.OK {
		return s, 0, e
	}
	if s.Nulls, next, e = modelNumber(b, next, math.MaxInt32); e != api.OK {
		return s, 0, e
	}
	count, next, e := modelNumber(b, next, 32)
	if e != api.OK {
		return s, 0, e
	}
	hash := uint64(0)
	for range count {
		var step uint64
		if step, next, e = varint.Decode(b, next); e != api.OK {
			return s, 0, e
		}
		hash += step
		s.MinHashes = append(s.MinHashes, hash)
	}
	if next == len(b) {
		return s, 0, api.ErrShort
	}
	if b[next] > 1 {
		return s, 0, api.ErrFormat
	}
	s.Complete = b[next] == 1
	return s, next + 1, api.OK
}

// modelNumber decodes a number, of which there may be no more than limit.
func modelNumber(b []byte, next, limit int) (int, int, api.Errno) {
	n, next, e := varint.Decode(b, next)
	switch {
	case e != api.OK:
		return 0, 0, e
	case n > math.MaxInt32:
		return 0, 0, api.ErrRange
	case n > uint64(limit):
		return 0, 0, api.ErrCount
	}
	return int(n), next, api.OK
}

// checkAgainstModel compares Decode with the model, and returns whether b was accepted; what is accepted is encoded to the same bytes.
func checkAgainstModel(t *testing.T, b []byte, offset int) bool {
	t.Helper()
	want, wantNext, wantE := model(b, offset)
	got, next, e := sketch.Decode(b, offset)
	if !same(got, want) || next != wantNext || e != wantE {
		t.Fatalf("Decode(%x, %d) = %v, %d, error %d, want %v, %d, error %d", b, offset, got, next, e, want, wantNext, wantE)
	}
	if e != api.OK {
		return false
	}
	if !sketch.Valid(got) {
		t.Fatalf("Decode(%x, %d) = %v, which is not valid", b, offset, got)
	}
	if again := sketch.Encode(got); !bytes.Equal(again, b[offset:next]) {
		t.Fatalf("%x is decoded to %v, which is encoded as %x", b[offset:next], got, again)
	}
	return true
}

// samples are a few sketches of all sorts.
func samples() []api.Sketch {
	var all []api.Sketch
	for _, c := range codes() {
		all = append(all, c.s)
	}
	for i, s := range strangeSketches() {
		if i%40 == 0 {
			all = append(all, s)
		}
	}
	for _, typ := range types() {
		all = append(all, sketch.Build(scattered(typ, 9, 5, true)), sketch.Build(scattered(typ, 90, 60, true)))
	}
	return append(all, crowd())
}

func TestDecodeOfDamagedBytes(t *testing.T) {
	accepted := 0
	for _, s := range samples() {
		b := encodingOf(s)
		for cut := range b {
			checkAgainstModel(t, b[:cut], 0)
		}
		for p := range 8 * len(b) {
			b[p/8] ^= 1 << (p % 8)
			if checkAgainstModel(t, b, 0) {
				accepted++
			}
			b[p/8] ^= 1 << (p % 8)
		}
		for offset := range min(len(b), 40) {
			checkAgainstModel(t, b, offset)
		}
	}
	if accepted < 1000 {
		t.Errorf("%d damaged encodings were accepted", accepted)
	}
}

// TestDecodeOfReplacedFields puts numbers of all sorts in the place of each field.
func TestDecodeOfReplacedFields(t *testing.T) {
	replacements := []string{"", "\x00", "\x01", "\x02", "\x04", "\x05", "\x11", "\x12", "\x20", "\x21", "\x80\x00", "\x80\x01", "\x01\x01", "\x02\x03", "\x03\x02ab", great, tooGreat, word, longestVarint, beyond}
	for i, s := range samples() {
		fields := fieldsOf(s)
		for field := range fields {
			if field > 10 && field < len(fields)-70 && (field+i)%5 > 0 {
				continue // most of the counters
			}
			for _, replacement := range replacements {
				checkAgainstModel(t, with(s, field, replacement), 0)
			}
		}
	}
}

// TestDecodeOfShortStarts tries all short sequences of bytes, followed by enough for the other fields.
func TestDecodeOfShortStarts(t *testing.T) {
	accepted := 0
	for _, start := range sequences([]byte{0, 1, 2, 3, 33, 64, 128, 255}, 5) {
		for _, rest := range []string{"", strings.Repeat("\x00", 300), "\x01\x01" + strings.Repeat("\x00", 255) + "\x01"} {
			if checkAgainstModel(t, append(slices.Clone(start), rest...), 0) {
				accepted++
			}
		}
	}
	if accepted < 3 {
		t.Errorf("%d sequences were accepted", accepted)
	}
}
