package tests

import (
	"fmt"
	"math"
	"math/rand"
	"slices"
	"strings"
	"testing"

	"loop.example/g01134/impl"
)

// Promise 11.

func TestBoundsExample(t *testing.T) {
	r := mustRead(t, example)
	starts, ends, code := impl.FindApart(r)
	wantApart(t, "FindApart", starts, ends, code, []string{"", "a", "ab"}, []string{"b", ""}, impl.OK)
	pairs, code := impl.FindFooling(r)
	if len(pairs) != 3 || code != impl.OK {
		t.Errorf("FindFooling: %q, %d", pairs, code)
	}
	order, parts, code := impl.GreatestOrder(12)
	if order != 60 || !slices.Equal(parts, []int64{3, 4, 5}) || code != impl.OK {
		t.Errorf("GreatestOrder: %d, %v, %d", order, parts, code)
	}
	least, code := impl.LeastFitting(2, []string{"ab"}, []string{"", "ba"}, 3)
	wantReader(t, "LeastFitting", least, code, "reader 2 2 0\nno 0 1\nyes 0 0\n", impl.OK)
	limits := []int64{impl.MaxBase, impl.MaxCycles, impl.MaxCycle, impl.MaxSum, impl.MaxSample, impl.MaxFits}
	if !slices.Equal(limits, []int64{20, 4, 12, 60, 12, 70000}) {
		t.Errorf("limits: %v", limits)
	}
}

func wantApart(t *testing.T, name string, starts, ends []string, code int64, wantStarts, wantEnds []string, want int64) {
	t.Helper()
	wantCode(t, name, code, want)
	if !slices.Equal(starts, wantStarts) || !slices.Equal(ends, wantEnds) {
		t.Errorf("%s: got %q and %q, want %q and %q", name, starts, ends, wantStarts, wantEnds)
	}
}

func TestStatesUnlike(t *testing.T) {
	rng := rand.New(rand.NewSource(501))
	for range 300 {
		r := randomReader(rng, 1+rng.Int63n(3), 1+rng.Intn(5))
		n := int64(len(r.Accept))
		for s := range n {
			for u := range n {
				want, wanted := statesUnlike(r, s, u, 5)
				w, code := impl.StatesUnlike(r, s, u)
				wantWord(t, fmt.Sprintf("%q, %d, %d", readerText(r), s, u), w, code, want, wanted)
			}
		}
	}
}

func TestStatesUnlikeEdges(t *testing.T) {
	long := strings.Repeat("ab", 30)
	path, tooLong := wordReader(2, long), wordReader(2, long+"b")
	for name, c := range map[string]struct {
		r    impl.Reader
		s, t int64
		word string
		want int64
	}{
		"empty word":           {mustRead(t, example), 0, 2, "", impl.OK},
		"one state":            {mustRead(t, example), 1, 1, "", impl.ErrNotFound},
		"alike":                {cycleReader(300, 300), 0, 299, "", impl.ErrNotFound},
		"alike, both accept":   {mustRead(t, "reader 1 2 0\nyes 1\nyes 0\n"), 0, 1, "", impl.ErrNotFound},
		"exchanged":            {mustRead(t, "reader 2 4 0\nno 1 0\nno 0 2\nyes 2 2\nno 3 3\n"), 0, 1, "b", impl.OK},
		"out of reach":         {mustRead(t, "reader 1 3 0\nno 0\nno 2\nyes 2\n"), 0, 1, "a", impl.OK},
		"both out of reach":    {mustRead(t, "reader 2 4 0\nno 0 0\nno 0 3\nno 0 0\nyes 0 0\n"), 2, 1, "b", impl.OK},
		"shorter comes first":  {mustRead(t, "reader 2 4 0\nno 2 3\nno 2 1\nno 3 3\nyes 3 3\n"), 0, 1, "b", impl.OK},
		"60 letters":           {path, 0, 61, long, impl.OK},
		"60 letters, turned":   {path, 61, 0, long, impl.OK},
		"61 letters":           {tooLong, 0, 62, "", impl.ErrLimit},
		"all but one letter":   {tooLong, 1, 62, long[1:] + "b", impl.OK},
		"298 letters":          {cycleReader(300, 299), 0, 1, "", impl.ErrLimit},
		"near the end":         {cycleReader(300, 299), 297, 298, "a", impl.OK},
		"too great":            {mustRead(t, example), 0, 3, "", impl.ErrRange},
		"first too great":      {mustRead(t, example), 3, 0, "", impl.ErrRange},
		"both too great":       {mustRead(t, example), 3, 3, "", impl.ErrRange},
		"negative":             {mustRead(t, example), -1, 0, "", impl.ErrRange},
		"least":                {mustRead(t, example), 0, math.MinInt64, "", impl.ErrRange},
		"greatest":             {mustRead(t, example), math.MaxInt64, 0, "", impl.ErrRange},
		"range before limit":   {tooLong, 0, 63, "", impl.ErrRange},
		"invalid before range": {cycleReader(301, 0), 0, 301, "", impl.ErrInvalid},
		"invalid":              {impl.Reader{}, 0, 0, "", impl.ErrInvalid},
	} {
		w, code := impl.StatesUnlike(c.r, c.s, c.t)
		wantWord(t, name, w, code, c.word, c.want)
	}
}

func TestRowOfAndCountRows(t *testing.T) {
	rng := rand.New(rand.NewSource(502))
	for i, r := range readersToTry() {
		words := wordsTo(r.Letters, 3)
		for range 20 {
			starts, ends := someWords(rng, words, rng.Intn(21)), someWords(rng, words, rng.Intn(21))
			n, code := impl.CountRows(r, starts, ends)
			if n != countRows(r, starts, ends) || code != impl.OK {
				t.Errorf("CountRows %d %q %q: %d, %d", i, starts, ends, n, code)
			}
			for _, start := range starts {
				row, code := impl.RowOf(r, start, ends)
				if !slices.Equal(row, rowOf(r, start, ends)) || code != impl.OK {
					t.Errorf("RowOf %d %q %q: %v, %d", i, start, ends, row, code)
				}
			}
		}
	}
}

// someWords returns so many words of a list, some of them maybe several times.
func someWords(rng *rand.Rand, words []string, count int) []string {
	var list []string
	for range count {
		list = append(list, words[rng.Intn(len(words))])
	}
	return list
}

func TestCountRowsEdges(t *testing.T) {
	r := mustRead(t, example)
	for _, c := range []struct {
		starts, ends []string
		want         int64
	}{
		{nil, nil, 0},
		{nil, []string{"", "b"}, 0},
		{[]string{""}, nil, 1},
		{[]string{"", "a", "ab"}, nil, 1},
		{[]string{"", "a", "ab"}, []string{""}, 2},
		{[]string{"", "a", "ab"}, []string{"b"}, 2},
		{[]string{"", "a", "ab"}, []string{"b", ""}, 3},
		{[]string{"", "a", "ab"}, []string{"b", "b", "b"}, 2},
		{[]string{"ab", "ab", "aab", "bab"}, []string{"b", ""}, 1},
		{wordsTo(2, 3), []string{"", "b"}, 3},
	} {
		if n, code := impl.CountRows(r, c.starts, c.ends); n != c.want || code != impl.OK {
			t.Errorf("%q and %q: %d, %d", c.starts, c.ends, n, code)
		}
	}
}

// TestRowErrors looks at the order of errors of RowOf, and of CountRows with the lists in both places.
func TestRowErrors(t *testing.T) {
	r, bad := mustRead(t, example), cycleReader(301, 0)
	a := func(length int) string { return strings.Repeat("a", length) }
	many := func(w string, count int) []string { return slices.Repeat([]string{w}, count) }
	for name, c := range map[string]struct {
		r     impl.Reader
		start string
		ends  []string
		want  int64
	}{
		"no ends":                    {r, "", nil, impl.OK},
		"no ends behind 60 letters":  {r, a(60), nil, impl.OK},
		"20 ends":                    {r, "ab", many("", 20), impl.OK},
		"21 ends":                    {r, "ab", many("", 21), impl.ErrRange},
		"60 letters":                 {r, a(30), []string{"", a(30)}, impl.OK},
		"61 letters":                 {r, a(30), []string{"", a(31)}, impl.ErrLimit},
		"61 letters, not the last":   {r, a(31), []string{a(30), ""}, impl.ErrLimit},
		"120 letters":                {r, a(60), []string{a(60)}, impl.ErrLimit},
		"range before limit":         {r, a(60), many(a(60), 21), impl.ErrRange},
		"no word":                    {r, "c", nil, impl.ErrInvalid},
		"no word, too long":          {r, a(61), nil, impl.ErrInvalid},
		"no word as end":             {r, "", []string{"", "c"}, impl.ErrInvalid},
		"an end is too long":         {r, "", []string{a(61)}, impl.ErrInvalid},
		"word before range":          {r, "", append(many("", 21), "c"), impl.ErrInvalid},
		"start before range":         {r, "B", many("", 21), impl.ErrInvalid},
		"word before limit":          {r, a(60), []string{a(60), "\xff"}, impl.ErrInvalid},
		"invalid reader":             {bad, "", nil, impl.ErrInvalid},
		"invalid reader, long lists": {bad, "", many(a(60), 21), impl.ErrInvalid},
	} {
		row, one := impl.RowOf(c.r, c.start, c.ends)
		_, two := impl.CountRows(c.r, []string{c.start}, c.ends)
		_, three := impl.CountRows(c.r, c.ends, []string{c.start})
		wantCode(t, name, one, c.want)
		wantCode(t, name+" of CountRows", two, c.want)
		wantCode(t, name+" of CountRows, exchanged", three, c.want)
		if c.want != impl.OK && len(row) > 0 || c.want == impl.OK && len(row) != len(c.ends) {
			t.Errorf("%s: %v", name, row)
		}
	}
	n, code := impl.CountRows(r, many(a(60), 20), nil)
	if n != 1 || code != impl.OK {
		t.Errorf("no words that are put together: %d, %d", n, code)
	}
}

func TestFindApart(t *testing.T) {
	rng := rand.New(rand.NewSource(503))
	sizes := map[int]int{}
	for range 400 {
		letters := 1 + rng.Int63n(3)
		r := randomReader(rng, letters, 1+rng.Intn(5))
		wantStarts, wantEnds := findApart(r, 4)
		starts, ends, code := impl.FindApart(r)
		wantApart(t, readerText(r), starts, ends, code, wantStarts, wantEnds, impl.OK)
		sizes[len(starts)]++
	}
	for size := 1; size <= 5; size++ {
		if sizes[size] < 10 {
			t.Errorf("only %d readers with %d starts", sizes[size], size)
		}
	}
}

// TestRowsAreNeeded checks that FindApart has as many starts as the tidy reader has states, with different rows.
func TestRowsAreNeeded(t *testing.T) {
	rng := rand.New(rand.NewSource(504))
	for range 300 {
		r := randomReader(rng, 1+rng.Int63n(3), 1+rng.Intn(24))
		tidy, _ := impl.TidyReader(r)
		starts, ends, code := impl.FindApart(r)
		if len(tidy.Accept) > 20 {
			wantApart(t, readerText(r), starts, ends, code, nil, nil, impl.ErrLimit)
			continue
		}
		n, rowsCode := impl.CountRows(r, starts, ends)
		if code != impl.OK || rowsCode != impl.OK || len(starts) != len(tidy.Accept) || n != int64(len(starts)) || len(ends) >= len(starts) {
			t.Fatalf("%q: %q, %q, %d, %d rows, %d", readerText(r), starts, ends, code, n, rowsCode)
		}
		for s, start := range starts {
			if stateAfter(tidy, start) != int64(s) {
				t.Errorf("%q: start %d is %q", readerText(r), s, start)
			}
		}
	}
}

func TestFindApartEdges(t *testing.T) {
	lengths := func(from, to int) (list []string) {
		for n := from; n < to; n++ {
			list = append(list, strings.Repeat("a", n))
		}
		return list
	}
	backwards := func(list []string) []string {
		slices.Reverse(list)
		return list
	}
	for name, c := range map[string]struct {
		r            impl.Reader
		starts, ends []string
		want         int64
	}{
		"takes nothing":     {cycleReader(300, 300), []string{""}, nil, impl.OK},
		"takes all":         {mustRead(t, "reader 3 2 1\nyes 0 1 0\nyes 0 1 1\n"), []string{""}, nil, impl.OK},
		"a far first pair":  {mustRead(t, "reader 2 4 0\nno 1 2\nyes 3 0\nyes 1 3\nno 1 0\n"), []string{"", "a", "b", "aa"}, []string{"", "b", "a"}, impl.OK},
		"unreachable state": {mustRead(t, "reader 1 3 1\nyes 0\nno 2\nyes 1\n"), []string{"", "a"}, []string{""}, impl.OK},
		"20 states":         {cycleReader(20, 19), lengths(0, 20), backwards(lengths(0, 19)), impl.OK},
		"21 states":         {cycleReader(21, 20), nil, nil, impl.ErrLimit},
		"20 of a path":      {wordReader(1, strings.Repeat("a", 18)), lengths(0, 20), append(backwards(lengths(0, 18)), strings.Repeat("a", 18)), impl.OK},
		"21 of a path":      {wordReader(1, strings.Repeat("a", 19)), nil, nil, impl.ErrLimit},
		"300 states":        {cycleReader(300, 0), nil, nil, impl.ErrLimit},
		"invalid":           {cycleReader(301, 0), nil, nil, impl.ErrInvalid},
	} {
		starts, ends, code := impl.FindApart(c.r)
		wantApart(t, name, starts, ends, code, c.starts, c.ends, c.want)
	}
	tidied := cycleReader(300, 0)
	for s := range tidied.Accept {
		tidied.Accept[s] = s%20 == 19
	}
	starts, ends, code := impl.FindApart(tidied)
	wantApart(t, "20 of 300 states", starts, ends, code, lengths(0, 20), backwards(lengths(0, 19)), impl.OK)
}
