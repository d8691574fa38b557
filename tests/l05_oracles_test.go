package tests

import (
	"fmt"
	"slices"
	"strings"

	"loop.example/g01134/impl"
)

// What the functions of chapter 5 should return is worked out here in other ways, as directly as the document tells it.

// from returns the reader with another start.
func from(r impl.Reader, state int64) impl.Reader {
	r.Start = state
	return r
}

// statesUnlike looks for the first word, of at most a length, that tells two states apart.
func statesUnlike(r impl.Reader, s, t int64, longest int) (string, int64) {
	return firstOf(r.Letters, longest, func(w string) bool { return takes(from(r, s), w) != takes(from(r, t), w) })
}

func rowOf(r impl.Reader, start string, ends []string) []bool {
	var row []bool
	for _, end := range ends {
		row = append(row, takes(r, start+end))
	}
	return row
}

func countRows(r impl.Reader, starts, ends []string) int64 {
	rows := map[string]bool{}
	for _, start := range starts {
		rows[fmt.Sprint(rowOf(r, start, ends))] = true
	}
	return int64(len(rows))
}

// findApart returns the starts and ends for a reader of so few states that words of at most a length tell all of them apart.
func findApart(r impl.Reader, longest int) (starts, ends []string) {
	words := wordsTo(r.Letters, longest)
	classes := map[string]bool{}
	for _, w := range words {
		class := languageOf(from(r, stateAfter(r, w)), words)
		if !classes[class] {
			classes[class] = true
			starts = append(starts, w)
		}
	}
	for {
		end, ok := nextApart(r, starts, ends, words)
		if !ok {
			return starts, ends
		}
		ends = append(ends, end)
	}
}

// nextApart returns the first of some words that tells the first two starts with one row apart.
func nextApart(r impl.Reader, starts, ends, words []string) (string, bool) {
	for i := range starts {
		for k := i + 1; k < len(starts); k++ {
			if !slices.Equal(rowOf(r, starts[i], ends), rowOf(r, starts[k], ends)) {
				continue
			}
			for _, w := range words {
				if takes(r, starts[i]+w) != takes(r, starts[k]+w) {
					return w, true
				}
			}
		}
	}
	return "", false
}

func isFooling(r impl.Reader, pairs []impl.Fooling) bool {
	for i, p := range pairs {
		for k, q := range pairs {
			if i == k && !takes(r, p.Left+p.Right) {
				return false
			}
			if i != k && takes(r, p.Left+q.Right) && takes(r, q.Left+p.Right) {
				return false
			}
		}
	}
	return true
}

// findFooling is for readers as findApart is.
func findFooling(r impl.Reader, longest int) []impl.Fooling {
	starts, apart := findApart(r, longest)
	ends := []string{""}
	for _, end := range apart {
		if end != "" {
			ends = append(ends, end)
		}
	}
	for _, start := range starts {
		end, code := firstOf(r.Letters, longest, func(w string) bool { return takes(r, start+w) })
		if code == impl.OK && !slices.Contains(ends, end) {
			ends = append(ends, end)
		}
	}
	var list []impl.Fooling
	for _, start := range starts {
		for _, end := range ends {
			longer := append(slices.Clone(list), impl.Fooling{Left: start, Right: end})
			if isFooling(r, longer) {
				list = longer
			}
		}
	}
	return list
}

// shapeOf returns the least tail, and for it the least cycle, for a reader of one letter with at most 15 states.
func shapeOf(r impl.Reader) (int64, int64, []bool) {
	const horizon = 60
	var taken []bool
	for length := range horizon {
		taken = append(taken, takes(r, strings.Repeat("a", length)))
	}
	for tail := 0; ; tail++ {
		for cycle := 1; cycle <= 15; cycle++ {
			if slices.Equal(taken[tail:horizon-cycle], taken[tail+cycle:]) {
				return int64(tail), int64(cycle), taken[:tail+cycle]
			}
		}
	}
}

// orders returns the least common multiples of all lists of numbers with so great a sum at most, each with the least sum.
func orders(sum int) map[int64]int {
	least := map[int64]int{1: 0}
	for n := 2; n <= sum; n++ {
		further := map[int64]int{}
		for order, used := range least {
			if used+n <= sum {
				multiple := order
				for multiple%int64(n) != 0 {
					multiple += order
				}
				if old, ok := further[multiple]; !ok || used+n < old {
					further[multiple] = used + n
				}
			}
		}
		for order, used := range further {
			if old, ok := least[order]; !ok || used < old {
				least[order] = used
			}
		}
	}
	return least
}

func fitsBoth(r impl.Reader, yes, no []string) bool {
	for _, w := range yes {
		if !takes(r, w) {
			return false
		}
	}
	for _, w := range no {
		if takes(r, w) {
			return false
		}
	}
	return true
}

// leastCode returns the error of LeastFitting, or OK, if it is not asked whether a reader fits.
func leastCode(letters int64, yes, no []string, states int64) int64 {
	if letters < 1 || letters > 3 || len(yes) > 12 || len(no) > 12 || states < 1 {
		return impl.ErrRange
	}
	for _, w := range slices.Concat(yes, no) {
		if !isWord(letters, w) {
			return impl.ErrInvalid
		}
	}
	if states > []int64{6, 4, 3}[letters-1] {
		return impl.ErrLimit
	}
	return impl.OK
}

// allReaders calls a function with all readers that start in 0, in the order of their lists in Next, and then of Accept, until this returns true.
func allReaders(letters int64, states int, look func(impl.Reader) bool) bool {
	entries := states * int(letters)
	for number := range power(states, entries) {
		r := impl.Reader{Letters: letters, Accept: make([]bool, states), Next: make([][]int64, states)}
		for i := range entries {
			to := number / power(states, entries-1-i) % states
			r.Next[i/int(letters)] = append(r.Next[i/int(letters)], int64(to))
		}
		for accept := range 1 << states {
			for s := range states {
				r.Accept[s] = accept>>(states-1-s)&1 == 1
			}
			if look(r) {
				return true
			}
		}
	}
	return false
}

func power(base, exponent int) int {
	n := 1
	for range exponent {
		n *= base
	}
	return n
}

// leastFitting looks at all readers.
func leastFitting(letters int64, yes, no []string, states int) (least impl.Reader, code int64) {
	look := func(r impl.Reader) bool {
		if fitsBoth(r, yes, no) {
			least = r
			return true
		}
		return false
	}
	for count := 1; count <= states; count++ {
		if allReaders(letters, count, look) {
			return least, impl.OK
		}
	}
	return impl.Reader{}, impl.ErrNotFound
}
