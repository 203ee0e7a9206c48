package encoding

import (
	"lamina/api"
	"lamina/delta"
	"lamina/dictionary"
	"lamina/frameref"
	"lamina/frontcode"
	"lamina/rle"
)

// codec encodes and decodes vectors in one encoding. What it encodes lacks the number of the encoding, and what it decodes the type and the Nulls.
type codec struct {
	encode func(v api.Vector) []byte
	size   func(v api.Vector) int // the number of bytes of encode(v)
	decode func(b []byte, offset, n int) (api.Vector, int, api.Errno)
}

// find returns the codec of an encoding for vectors of a type, and whether the encoding applies to the type.
func find(encoding, typ int) (codec, bool) {
	switch typ {
	case api.Bool, api.Int:
		return findForNumbers(encoding, typ)
	case api.Text:
		return findForTexts(encoding)
	}
	return codec{}, false
}

func findForNumbers(encoding, typ int) (codec, bool) {
	switch encoding {
	case api.EncPlain:
		if typ == api.Bool {
			return codecOf(placeOfInts, encodeBools, sizeOfBools, decodeBools), true
		}
		return codecOf(placeOfInts, encodeInts, sizeOfInts, decodeInts), true
	case api.EncRLE:
		return codecOf(placeOfInts, encodeRuns, sizeOfRuns, decodeRuns), true
	case api.EncFrame:
		return codecOf(placeOfInts, frameref.Encode, frameref.Size, frameref.Decode), true
	case api.EncDelta:
		return codecOf(placeOfInts, delta.Encode, delta.Size, delta.Decode), true
	}
	return codec{}, false
}

func findForTexts(encoding int) (codec, bool) {
	switch encoding {
	case api.EncPlain:
		return codecOf(placeOfTexts, encodeTexts, sizeOfTexts, decodeTexts), true
	case api.EncDictionary:
		return codecOf(placeOfTexts, dictionary.Encode, dictionary.Size, dictionary.Decode), true
	case api.EncFront:
		return codecOf(placeOfTexts, frontcode.Encode, frontcode.Size, frontcode.Decode), true
	}
	return codec{}, false
}

func placeOfInts(v *api.Vector) *[]int64 {
	return &v.Ints
}

func placeOfTexts(v *api.Vector) *[]string {
	return &v.Texts
}

// codecOf turns the functions of an encoding of lists into the codec of vectors that have the list at that place.
func codecOf[T any](
	place func(v *api.Vector) *[]T,
	encode func(list []T) []byte,
	size func(list []T) int,
	decode func(b []byte, offset, n int) ([]T, int, api.Errno),
) codec {
	return codec{
		encode: func(v api.Vector) []byte { return encode(*place(&v)) },
		size:   func(v api.Vector) int { return size(*place(&v)) },
		decode: func(b []byte, offset, n int) (api.Vector, int, api.Errno) {
			var v api.Vector
			list, next, e := decode(b, offset, n)
			*place(&v) = list
			return v, next, e
		},
	}
}

// encodeRuns returns the runs of values.
func encodeRuns(values []int64) []byte {
	return rle.Encode(rle.Runs(values))
}

func sizeOfRuns(values []int64) int {
	return len(encodeRuns(values))
}

// decodeRuns reads the runs of n numbers at offset and returns the numbers and the offset after the runs.
func decodeRuns(b []byte, offset, n int) ([]int64, int, api.Errno) {
	runs, next, e := rle.Decode(b, offset)
	if e != api.OK {
		return nil, 0, e
	}
	values, _ := rle.Expand(runs) // runs that were decoded are valid
	if len(values) != n {
		return nil, 0, api.ErrCount
	}
	return values, next, api.OK
}
