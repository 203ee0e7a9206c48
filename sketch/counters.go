package sketch

import (
	"slices"

	"lamina/api"
	"lamina/value"
)

const (
	counterRows = 4
	counterSeed = 4  // of the first row; each further row has the next seed
	rowCounters = 64 // in each row
	allCounters = counterRows * rowCounters
)

// counters count values by their hashes, in each row by another hash.
type counters [counterRows][rowCounters]int

// countersOf returns the counters that are listed row after row. A sketch that is not valid may have less, or more.
func countersOf(list []int) counters {
	var c counters
	for r := range c {
		start := min(r*rowCounters, len(list))
		copy(c[r][:], list[start:])
	}
	return c
}

// list returns the counters row after row.
func (c *counters) list() []int {
	var all []int
	for r := range c {
		all = append(all, c[r][:]...)
	}
	return all
}

// add counts v in each row.
func (c *counters) add(v api.Value) {
	for r := range c {
		c[r][position(r, v)]++
	}
}

// addAll counts what others have counted.
func (c *counters) addAll(others *counters) {
	for r := range c {
		for i := range c[r] {
			c[r][i] += others[r][i]
		}
	}
}

// atMost returns a number that is not less than how often v has been counted. Each row has such a number, because other values may only add to it.
func (c *counters) atMost(v api.Value) int {
	var counts [counterRows]int
	for r := range c {
		counts[r] = c[r][position(r, v)]
	}
	return slices.Min(counts[:])
}

// position returns the index of the counter of v in row r.
func position(r int, v api.Value) int {
	return int(value.Hash(uint64(counterSeed+r), v) % rowCounters)
}
