package tests

import (
	"fmt"
	"math"
	"math/rand"
	"slices"
	"strings"
	"testing"

	"loop.example/g01134/impl"
)

// Promise 14.

func TestFits(t *testing.T) {
	rng := rand.New(rand.NewSource(531))
	seen := map[bool]int{}
	for range 2000 {
		r := randomReader(rng, 1+rng.Int63n(3), 1+rng.Intn(5))
		words := wordsTo(r.Letters, 3)
		yes, no := someWords(rng, words, rng.Intn(3)), someWords(rng, words, rng.Intn(3))
		want := fitsBoth(r, yes, no)
		if got, code := impl.Fits(r, yes, no); got != want || code != impl.OK {
			t.Fatalf("%q with %q and %q: %v, %d", readerText(r), yes, no, got, code)
		}
		seen[want]++
	}
	if seen[true] < 100 || seen[false] < 100 {
		t.Errorf("only %v", seen)
	}
}

func TestFitsEdges(t *testing.T) {
	r, none := mustRead(t, example), mustRead(t, "reader 1 1 0\nno 0\n")
	a := func(length int) string { return strings.Repeat("a", length) }
	many := func(w string, count int) []string { return slices.Repeat([]string{w}, count) }
	for name, c := range map[string]struct {
		r       impl.Reader
		yes, no []string
		want    bool
		code    int64
	}{
		"empty lists":                {r, nil, nil, true, impl.OK},
		"takes nothing, empty lists": {none, nil, nil, true, impl.OK},
		"takes nothing":              {none, nil, []string{"", "a", a(60)}, true, impl.OK},
		"takes nothing of yes":       {none, []string{""}, nil, false, impl.OK},
		"fits":                       {r, []string{"ab", "aab"}, []string{"", "ba"}, true, impl.OK},
		"last of yes":                {r, []string{"ab", "aab", "b"}, []string{"", "ba"}, false, impl.OK},
		"last of no":                 {r, []string{"ab", "aab"}, []string{"", "ba", "bab"}, false, impl.OK},
		"a word in both":             {r, []string{"ab"}, []string{"ab"}, false, impl.OK},
		"a word that is not taken":   {r, []string{"a"}, []string{"a"}, false, impl.OK},
		"12 words":                   {r, many("ab", 12), many("a", 12), true, impl.OK},
		"13 words in yes":            {r, many("ab", 13), nil, false, impl.ErrRange},
		"13 words in no":             {r, nil, many("a", 13), false, impl.ErrRange},
		"21 words":                   {r, many("ab", 21), many("a", 21), false, impl.ErrRange},
		"60 letters":                 {none, nil, []string{a(60)}, true, impl.OK},
		"61 letters":                 {none, nil, []string{a(61)}, false, impl.ErrInvalid},
		"no word in yes":             {r, []string{"ab", "c"}, nil, false, impl.ErrInvalid},
		"no word in no":              {r, []string{"a"}, []string{"d"}, false, impl.ErrInvalid},
		"no word before range":       {r, append(many("a", 13), "c"), nil, false, impl.ErrInvalid},
		"range of the other list":    {r, many("a", 13), []string{"c"}, false, impl.ErrInvalid},
		"invalid reader":             {cycleReader(301, 0), nil, nil, false, impl.ErrInvalid},
		"invalid before range":       {impl.Reader{}, many("a", 13), nil, false, impl.ErrInvalid},
	} {
		if got, code := impl.Fits(c.r, c.yes, c.no); got != c.want || code != c.code {
			t.Errorf("%s: got %v, %q, want %v, %q", name, got, impl.CodeName(code), c.want, impl.CodeName(c.code))
		}
	}
}

// wantLeast compares LeastFitting and LeastSize with what is wanted.
func wantLeast(t *testing.T, name string, letters int64, yes, no []string, states int64, want impl.Reader, wanted int64) {
	t.Helper()
	r, code := impl.LeastFitting(letters, yes, no, states)
	n, sizeCode := impl.LeastSize(letters, yes, no, states)
	if code != wanted || sizeCode != wanted || n != int64(len(want.Accept)) || !alikeAny(r, want) {
		t.Errorf("%s: got %q, %q and %d, %q, want %q, %q", name, readerText(r), impl.CodeName(code), n, impl.CodeName(sizeCode), readerText(want), impl.CodeName(wanted))
	}
}

// TestLeastFitting compares least readers with the first ones of all readers.
func TestLeastFitting(t *testing.T) {
	rng := rand.New(rand.NewSource(532))
	sizes := map[string]int{}
	for range 2000 {
		letters := 1 + rng.Int63n(3)
		states := 1 + rng.Intn([]int{5, 3, 2}[letters-1])
		words := wordsTo(letters, int(6-letters))
		yes, no := someWords(rng, words, rng.Intn(5)), someWords(rng, words, rng.Intn(5))
		want, code := leastFitting(letters, yes, no, states)
		wantLeast(t, fmt.Sprintf("%d %q %q %d", letters, yes, no, states), letters, yes, no, int64(states), want, code)
		sizes[fmt.Sprint(letters, len(want.Accept))]++
	}
	for _, size := range []string{"1 0", "1 1", "1 2", "1 3", "1 4", "2 0", "2 1", "2 2", "2 3", "3 0", "3 1", "3 2"} {
		if sizes[size] < 5 {
			t.Errorf("letters and states %s: only %d", size, sizes[size])
		}
	}
}

// TestGreatLeastFitting has readers with the greatest numbers of states that are searched.
func TestGreatLeastFitting(t *testing.T) {
	ends := func(letters int64, longest int, end string) (yes, no []string) {
		for _, w := range wordsTo(letters, longest) {
			if strings.HasSuffix(w, end) {
				yes = append(yes, w)
			} else {
				no = append(no, w)
			}
		}
		return yes[:min(len(yes), 12)], no[:min(len(no), 12)]
	}
	yes, no := ends(2, 4, "aba")
	want, code := leastFitting(2, yes, no, 4)
	wantLeast(t, "two letters", 2, yes, no, 4, want, code)
	if len(want.Accept) != 4 {
		t.Errorf("%d states", len(want.Accept))
	}
	yes, no = ends(3, 3, "ab")
	want, code = leastFitting(3, yes, no, 3)
	wantLeast(t, "three letters", 3, yes, no, 3, want, code)
	if len(want.Accept) != 3 {
		t.Errorf("%d states", len(want.Accept))
	}
	a := func(lengths ...int) (words []string) {
		for _, length := range lengths {
			words = append(words, strings.Repeat("a", length))
		}
		return words
	}
	yes, no = a(5, 11, 59), a(0, 1, 2, 3, 4, 6, 7, 8, 9, 10, 58, 60)
	wantLeast(t, "one letter", 1, yes, no, 6, cycleReader(6, 5), impl.OK)
	wantLeast(t, "one letter, no state too few", 1, yes, no, 5, impl.Reader{}, impl.ErrNotFound)
}

func TestLeastFittingEdges(t *testing.T) {
	long := strings.Repeat("ab", 30)
	many := func(w string, count int) []string { return slices.Repeat([]string{w}, count) }
	for name, c := range map[string]struct {
		letters int64
		yes, no []string
		states  int64
		want    string
		code    int64
	}{
		"empty lists":              {3, nil, nil, 3, "reader 3 1 0\nno 0 0 0\n", impl.OK},
		"nothing in yes":           {2, nil, []string{"", "a", "ab"}, 4, "reader 2 1 0\nno 0 0\n", impl.OK},
		"nothing in no":            {1, []string{"", "aaa"}, nil, 6, "reader 1 1 0\nyes 0\n", impl.OK},
		"a word twice":             {1, many("a", 2), []string{"", ""}, 2, "reader 1 2 0\nno 1\nyes 0\n", impl.OK},
		"first list, then Accept":  {2, []string{"b"}, []string{""}, 2, "reader 2 2 0\nno 0 1\nyes 0 0\n", impl.OK},
		"states are not exchanged": {1, []string{"aa"}, []string{"", "a"}, 3, "reader 1 3 0\nno 1\nno 2\nyes 0\n", impl.OK},
		"a word in both":           {2, []string{"ab", "b"}, []string{"a", "b"}, 4, "", impl.ErrNotFound},
		"empty word in both":       {1, []string{""}, []string{""}, 6, "", impl.ErrNotFound},
		"long words in both":       {3, append(many(long[1:], 11), long), append(many(long[2:], 11), long), 3, "", impl.ErrNotFound},
		"a state too few":          {1, []string{"aa"}, []string{"", "a"}, 2, "", impl.ErrNotFound},
		"60 letters":               {2, []string{long}, []string{long[1:]}, 4, "reader 2 2 0\nyes 1 0\nno 0 1\n", impl.OK},
		"61 letters":               {2, []string{long + "a"}, nil, 4, "", impl.ErrInvalid},
		"12 words":                 {1, many("a", 12), many("", 12), 6, "reader 1 2 0\nno 1\nyes 0\n", impl.OK},
		"13 words in yes":          {1, many("a", 13), nil, 2, "", impl.ErrRange},
		"13 words in no":           {1, nil, many("a", 13), 2, "", impl.ErrRange},
		"no letters":               {0, nil, nil, 1, "", impl.ErrRange},
		"four letters":             {4, nil, nil, 1, "", impl.ErrRange},
		"no states":                {1, nil, nil, 0, "", impl.ErrRange},
		"negative states":          {1, nil, nil, math.MinInt64, "", impl.ErrRange},
		"states before word":       {1, []string{"b"}, nil, 0, "", impl.ErrRange},
		"letters before word":      {4, []string{"x"}, nil, 9, "", impl.ErrRange},
		"13 words before word":     {1, many("b", 13), nil, 9, "", impl.ErrRange},
		"13 words before limit":    {1, nil, many("a", 13), 9, "", impl.ErrRange},
		"no word":                  {1, []string{"b"}, nil, 1, "", impl.ErrInvalid},
		"no word in no":            {2, nil, []string{"a", "c"}, 1, "", impl.ErrInvalid},
		"word before limit":        {2, []string{"c"}, nil, 5, "", impl.ErrInvalid},
		"limit before not found":   {2, []string{"a"}, []string{"a"}, 5, "", impl.ErrLimit},
		"limit, one would do":      {3, nil, nil, 4, "", impl.ErrLimit},
		"greatest of one letter":   {1, nil, nil, 6, "reader 1 1 0\nno 0\n", impl.OK},
		"too great, one letter":    {1, nil, nil, 7, "", impl.ErrLimit},
		"greatest of two letters":  {2, nil, nil, 4, "reader 2 1 0\nno 0 0\n", impl.OK},
		"too great, two letters":   {2, nil, nil, 5, "", impl.ErrLimit},
		"70000 states":             {1, nil, nil, 70000, "", impl.ErrLimit},
		"70001 states":             {1, nil, nil, 70001, "", impl.ErrLimit},
		"product overflows to 0":   {2, nil, nil, math.MaxInt64/2 + 1, "", impl.ErrLimit},
		"most states":              {3, nil, nil, math.MaxInt64, "", impl.ErrLimit},
	} {
		want := impl.Reader{}
		if c.want != "" {
			want = mustRead(t, c.want)
		}
		wantLeast(t, name, c.letters, c.yes, c.no, c.states, want, c.code)
	}
}

// TestNoLesserReaderFits checks with many words that least readers fit, and that they are found with just so many states, but not with fewer.
func TestNoLesserReaderFits(t *testing.T) {
	rng := rand.New(rand.NewSource(533))
	for range 200 {
		letters := 1 + rng.Int63n(3)
		most := []int64{6, 4, 3}[letters-1]
		hidden := randomReader(rng, letters, 1+rng.Intn(int(most)))
		hidden.Start = 0
		var yes, no []string
		for _, w := range someWords(rng, wordsTo(letters, 5), 24) {
			if takes(hidden, w) && len(yes) < 12 {
				yes = append(yes, w)
			} else if !takes(hidden, w) && len(no) < 12 {
				no = append(no, w)
			}
		}
		r, code := impl.LeastFitting(letters, yes, no, most)
		n := int64(len(r.Accept))
		if code != impl.OK || !isReader(r) || r.Start != 0 || n > int64(len(hidden.Accept)) || !fitsBoth(r, yes, no) {
			t.Fatalf("%q and %q: %q, %d", yes, no, readerText(r), code)
		}
		wantLeast(t, "so many states", letters, yes, no, n, r, impl.OK)
		if n > 1 {
			wantLeast(t, "fewer states", letters, yes, no, n-1, impl.Reader{}, impl.ErrNotFound)
		}
	}
}
