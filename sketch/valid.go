package sketch

import (
	"cmp"

	"lamina/api"
	"lamina/value"
)

// Valid reports whether s, which may be anything, is valid (P16.1).
func Valid(s api.Sketch) bool {
	if s.Nulls < 0 || s.Nulls > s.Rows {
		return false
	}
	n := present(s)
	return validHashes(s, n) && validCounters(s.CountMin, n) && validFences(s.Fences, n) && validRanks(s, n)
}

func validHashes(s api.Sketch, n int) bool {
	count := len(s.MinHashes)
	if count > min(n, maxHashes) || count == 0 && n > 0 {
		return false
	}
	return (s.Complete || count == maxHashes) && strictlyIncreasing(s.MinHashes, cmp.Compare)
}

// validCounters reports whether each row counts n values.
func validCounters(list []int, n int) bool {
	if len(list) != allCounters {
		return false
	}
	for _, row := range countersOf(list) {
		left := n // a comparison with what is left cannot overflow, as the sum of the row could
		for _, count := range row {
			if count < 0 || count > left {
				return false
			}
			left -= count
		}
		if left > 0 {
			return false
		}
	}
	return true
}

func validFences(fences []api.Value, n int) bool {
	if len(fences) > maxFences || (len(fences) == 0) != (n == 0) {
		return false
	}
	for _, fence := range fences {
		if isNull(fence) || fence.Kind != fences[0].Kind || !value.Valid(fence) {
			return false
		}
	}
	return strictlyIncreasing(fences, value.Compare)
}

func validRanks(s api.Sketch, n int) bool {
	if len(s.Ranks) != 2*len(s.Fences) {
		return false
	}
	lessMax, atMostMin := 0, 0 // of the fence before
	for i := range s.Fences {
		first, second := s.Ranks[2*i], s.Ranks[2*i+1]
		if first < max(lessMax, atMostMin) || second < atMostMin || first > n || i == 0 && first > 0 {
			return false
		}
		lessMax, atMostMin = first, second
	}
	return atMostMin == n // so none of the second ranks, which do not decrease, is greater
}

func strictlyIncreasing[T any](list []T, compare func(a, b T) int) bool {
	for i := 1; i < len(list); i++ {
		if compare(list[i-1], list[i]) >= 0 {
			return false
		}
	}
	return true
}
