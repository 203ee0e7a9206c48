package datafile

import (
	"slices"

	"lamina/api"
)

// Limits of a Config that are not in package api.
const (
	maxMemoryRows  = 1 << 20
	maxBloomBits   = 16
	minCompactTier = 2
	maxCompactTier = 16
)

// validConfig reports whether c, which may be anything, is valid.
func validConfig(c api.Config) bool {
	return isWithin(c.GroupRows, 1, api.MaxGroupRows) &&
		isWithin(c.FileGroups, 1, api.MaxGroups) &&
		isWithin(c.BatchRows, 1, api.MaxBatchRows) &&
		isWithin(c.MemoryRows, 1, maxMemoryRows) &&
		isWithin(c.BloomBits, 0, maxBloomBits) &&
		isWithin(c.CompactTier, minCompactTier, maxCompactTier)
}

func isWithin(n, low, high int) bool {
	return low <= n && n <= high
}

// validColumns reports whether columns, which may be anything, are valid.
func validColumns(columns []api.Column) bool {
	if !isWithin(len(columns), 1, api.MaxColumns) {
		return false
	}
	for i, c := range columns {
		sameName := func(other api.Column) bool { return other.Name == c.Name }
		if !isIdent(c.Name) || !isType(c.Type) || slices.ContainsFunc(columns[:i], sameName) {
			return false
		}
	}
	return true
}

// isIdent reports whether name is an identifier (layer 5). Package literal is not among those that this one may import.
func isIdent(name string) bool {
	if !isWithin(len(name), 1, api.MaxName) {
		return false
	}
	for i, c := range name {
		if !isLetter(c) && (i == 0 || !isDigit(c) && c != '_') {
			return false
		}
	}
	return true
}

func isLetter(c rune) bool { return 'a' <= c && c <= 'z' }
func isDigit(c rune) bool  { return '0' <= c && c <= '9' }

// isType reports whether typ is the type of a column.
func isType(typ int) bool {
	return typ == api.Bool || typ == api.Int || typ == api.Text
}

// validKeys reports whether keys, which may be anything, are valid sort keys of so many columns.
func validKeys(keys []api.SortKey, columns int) bool {
	for i, k := range keys {
		sameColumn := func(other api.SortKey) bool { return other.Column == k.Column }
		if k.Column < 0 || k.Column >= columns || slices.ContainsFunc(keys[:i], sameColumn) {
			return false
		}
	}
	return true
}

// valid reports whether f, whose parts are valid on their own, is the footer of a file in which it has the byte offset start.
func (f footer) valid(start int) bool {
	return validColumns(f.columns) && validKeys(f.keys, len(f.columns)) && f.validGroups(start) && f.validSketches()
}

// validGroups reports whether the row groups are of the columns of f and fill the file from the magic to start.
func (f footer) validGroups(start int) bool {
	end := len(magic) // of the row group before
	for i, g := range f.groups {
		if len(g.Offsets) != len(f.columns)+1 || f.offsets[i] != end || !f.fits(g) {
			return false
		}
		end += groupSize(g)
	}
	return end == start
}

// fits reports whether the row group g, which has as many columns as f, may hold values of their types.
func (f footer) fits(g api.RowGroup) bool {
	for i, z := range g.Zones {
		if z.Min.Kind != api.Null && z.Min.Kind != f.columns[i].Type {
			return false
		}
	}
	return true
}

// validSketches reports whether every sketch has as many rows as the file.
func (f footer) validSketches() bool {
	rows := f.rows()
	return !slices.ContainsFunc(f.sketches, func(s api.Sketch) bool { return s.Rows != rows })
}
