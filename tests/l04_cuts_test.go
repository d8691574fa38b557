package tests

import (
	"fmt"
	"math"
	"math/rand"
	"slices"
	"strings"
	"testing"

	"loop.example/g01134/impl"
)

// Promise 9.

// TestCutsAndPumps tries all pairs of borders.
func TestCutsAndPumps(t *testing.T) {
	rng := rand.New(rand.NewSource(71))
	equal, different := 0, 0
	for _, u := range crossingTurners() {
		for _, w := range slices.Concat(wordsTo(u.Letters, 4), longWords(rng, u.Letters, 2)) {
			list, stops := crossingsOf(u, w)
			for i := range list {
				for j := i + 1; j < len(list); j++ {
					if !stops || !slices.Equal(list[i], list[j]) {
						different++
						wantUncut(t, u, w, int64(i), int64(j), impl.ErrState)
					} else if len(w) < 5 || rng.Intn(50) == 0 {
						equal++
						wantCut(t, u, w, i, j)
					}
				}
			}
		}
	}
	if equal < 5000 || different < 5000 {
		t.Errorf("%d equal, %d different", equal, different)
	}
}

// wantCut asserts that a word can be cut and pumped, and that this changes no verdict.
func wantCut(t *testing.T, u impl.Turner, w string, i, j int) {
	t.Helper()
	verdict := verdictOf(u, w)
	for times := range 5 {
		want := w[:i] + strings.Repeat(w[i:j], times) + w[j:]
		got, code := impl.PumpWord(u, w, int64(i), int64(j), int64(times))
		if len(want) > 60 {
			wantWord(t, "PumpWord", got, code, "", impl.ErrLimit)
			continue
		}
		if got != want || code != impl.OK || verdictOf(u, got) != verdict {
			t.Fatalf("%q %q, %d, %d, %d times: %q, %d", turnerText(u), w, i, j, times, got, code)
		}
		if cut, code := impl.CutWord(u, w, int64(i), int64(j)); times == 0 && (cut != want || code != impl.OK) {
			t.Fatalf("%q %q, %d, %d: %q, %d", turnerText(u), w, i, j, cut, code)
		}
	}
}

// wantUncut asserts that a word can be neither cut nor pumped.
func wantUncut(t *testing.T, u impl.Turner, w string, i, j, want int64) {
	t.Helper()
	cut, one := impl.CutWord(u, w, i, j)
	pumped, two := impl.PumpWord(u, w, i, j, 1)
	far, three := impl.PumpWord(u, w, i, j, math.MaxInt64)
	if one != want || two != want || three != want || cut+pumped+far != "" {
		t.Fatalf("%q %q, %d, %d: %q, %d, %q, %d, %q, %d", turnerText(u), w, i, j, cut, one, pumped, two, far, three)
	}
}

func TestCutErrors(t *testing.T) {
	u, long := mustTurn(t, example2), strings.Repeat("a", 60)
	loops := mustTurn(t, "turner 1 1 0\nstate 0> 0> 0<\n")
	for name, c := range map[string]struct {
		u    impl.Turner
		w    string
		i, j int64
		want int64
	}{
		"the same border":          {u, "aa", 1, 1, impl.ErrRange},
		"the first border twice":   {u, "aa", 0, 0, impl.ErrRange},
		"exchanged":                {u, "aa", 1, 0, impl.ErrRange},
		"before the first":         {u, "aa", -1, 1, impl.ErrRange},
		"behind the last":          {u, "aa", 0, 3, impl.ErrRange},
		"far before":               {u, "aa", math.MinInt64, 1, impl.ErrRange},
		"far behind":               {u, "aa", 0, math.MaxInt64, impl.ErrRange},
		"far from each other":      {u, "aa", math.MinInt64, math.MaxInt64, impl.ErrRange},
		"both far behind":          {u, "aa", math.MaxInt64 - 1, math.MaxInt64, impl.ErrRange},
		"no letters":               {u, "", 0, 1, impl.ErrRange},
		"no letters, one border":   {u, "", 0, 0, impl.ErrRange},
		"different":                {u, "aa", 0, 2, impl.ErrState},
		"different, the last ones": {u, "aa", 1, 2, impl.ErrState},
		"for ever":                 {loops, "aa", 0, 1, impl.ErrState},
		"range before for ever":    {loops, "aa", 0, 3, impl.ErrRange},
		"order before for ever":    {loops, "aa", 1, 1, impl.ErrRange},
		"last border":              {u, long, 59, 60, impl.ErrState},
		"behind the last of 60":    {u, long, 59, 61, impl.ErrRange},
		"turner before range":      {oddTurners()[17], "aa", 1, 1, impl.ErrInvalid},
		"word before range":        {u, "ab", 1, 1, impl.ErrInvalid},
		"word before sequences":    {u, "ba", 0, 1, impl.ErrInvalid},
		"61 letters":               {u, long + "a", 0, 1, impl.ErrInvalid},
		"no turner":                {impl.Turner{}, "", 0, 0, impl.ErrInvalid},
	} {
		t.Run(name, func(t *testing.T) { wantUncut(t, c.u, c.w, c.i, c.j, c.want) })
	}
}

func TestPumpErrors(t *testing.T) {
	u, long := mustTurn(t, example2), strings.Repeat("a", 60)
	loops := mustTurn(t, "turner 1 1 0\nstate 0> 0> 0<\n")
	for name, c := range map[string]struct {
		u           impl.Turner
		w           string
		i, j, times int64
		want        string
		code        int64
	}{
		"once":                     {u, "aaa", 0, 2, 1, "aaa", impl.OK},
		"not at all":               {u, "aaa", 0, 2, 0, "a", impl.OK},
		"60 letters":               {u, "aaa", 1, 2, 58, long, impl.OK},
		"61 letters":               {u, "aaa", 1, 2, 59, "", impl.ErrLimit},
		"60 letters in twos":       {u, "aaaa", 0, 2, 29, long, impl.OK},
		"59 letters in twos":       {u, "aaa", 0, 2, 29, long[1:], impl.OK},
		"61 letters in twos":       {u, "aaa", 0, 2, 30, "", impl.ErrLimit},
		"62 letters in twos":       {u, "aaaa", 0, 2, 30, "", impl.ErrLimit},
		"60 letters, once":         {u, long, 0, 59, 1, long, impl.OK},
		"60 letters, cut":          {u, long, 0, 59, 0, "a", impl.OK},
		"60 letters, twice":        {u, long, 0, 59, 2, "", impl.ErrLimit},
		"60 letters, one twice":    {u, long, 0, 1, 2, "", impl.ErrLimit},
		"so many times":            {u, "aaa", 0, 1, math.MaxInt64, "", impl.ErrLimit},
		"so many that it wraps":    {u, "aaaaa", 0, 4, math.MaxInt64/2 + 1, "", impl.ErrLimit},
		"so many that it is 0":     {u, "aaaaa", 0, 4, math.MaxInt64/4 + 1, "", impl.ErrLimit},
		"as 32 bits it is 1":       {u, "aaa", 0, 1, 1<<32 + 1, "", impl.ErrLimit},
		"negative":                 {u, "aaa", 0, 1, -1, "", impl.ErrRange},
		"least number":             {u, "aaa", 0, 1, math.MinInt64, "", impl.ErrRange},
		"negative before state":    {u, "aaa", 0, 3, -1, "", impl.ErrRange},
		"negative before for ever": {loops, "aaa", 0, 1, -1, "", impl.ErrRange},
		"for ever before limit":    {loops, "aaa", 0, 1, 99, "", impl.ErrState},
		"state before limit":       {u, "aaa", 0, 3, 99, "", impl.ErrState},
		"invalid before negative":  {u, "aab", 0, 1, -1, "", impl.ErrInvalid},
		"turner before negative":   {oddTurners()[17], "aa", 0, 1, -1, "", impl.ErrInvalid},
		"invalid before limit":     {u, long + "a", 0, 1, 99, "", impl.ErrInvalid},
	} {
		got, code := impl.PumpWord(c.u, c.w, c.i, c.j, c.times)
		wantWord(t, name, got, code, c.want, c.code)
	}
}

func TestLeastCut(t *testing.T) {
	stops := "turner 2 1 0\nstate 0> no 0> yes\n"
	even := "turner 2 2 0\nstate 1> 1> 0> yes\nstate 0> 0> no no\n"
	for name, c := range map[string]struct{ turner, w, want string }{
		"example":                        {example2, strings.Repeat("a", 60), "a"},
		"no letters":                     {example2, "", ""},
		"nothing to cut":                 {example2, "a", "a"},
		"all of it":                      {"turner 1 1 0\nstate yes yes yes\n", "aaaa", ""},
		"before and behind":              {stops, "aaabaaa", "b"},
		"stops at the first":             {stops, "bab", "b"},
		"the least i":                    {even, "aab", "b"},
		"the least i, not the next one":  {even, "aabab", "b"},
		"the greatest j":                 {even, "abaaba", ""},
		"behind what is cut":             {"turner 2 3 0\nstate 1> 0> 0> yes\nstate 2> 1> no no\nstate 0> 2> no no\n", "baabba", ""},
		"in the middle and at the end":   {"turner 2 3 0\nstate 1> 0> 0> yes\nstate 2> 1> no no\nstate 0> 2> no no\n", "bbabbab", "aa"},
		"marks in which it comes back":   {"turner 2 2 0\nstate 0> 0> 0> 1<\nstate 1< yes no no\n", "abaaa", "b"},
		"comes back to the last of some": {"turner 2 2 0\nstate 0> 0> 0> 1<\nstate 1< yes no no\n", "bbabab", "b"},
	} {
		u := mustTurn(t, c.turner)
		if got := leastCut(u, c.w); got != c.want {
			t.Errorf("%s: the oracle has %q, not %q", name, got, c.want)
		}
		got, code := impl.LeastCut(u, c.w)
		wantWord(t, name, got, code, c.want, impl.OK)
	}
}

// TestLeastCutOfWords cuts many words, and looks whether what is left has the same verdict, and nothing that can be cut.
func TestLeastCutOfWords(t *testing.T) {
	rng := rand.New(rand.NewSource(72))
	counts := map[string]int{}
	for _, u := range crossingTurners() {
		for _, w := range crossingWords(rng, u.Letters) {
			got, code := impl.LeastCut(u, w)
			if verdictOf(u, w) == impl.VdLoops {
				counts["for ever"]++
				wantWord(t, "LeastCut", got, code, "", impl.ErrState)
				continue
			}
			want := leastCut(u, w)
			if got != want || code != impl.OK || verdictOf(u, got) != verdictOf(u, w) {
				t.Fatalf("%q %q: %q, %d, not %q", turnerText(u), w, got, code, want)
			}
			list, _ := crossingsOf(u, got)
			sorted := make([]string, len(list))
			for i, c := range list {
				sorted[i] = fmt.Sprint(c)
			}
			slices.Sort(sorted)
			if len(slices.Compact(sorted)) != len(list) {
				t.Fatalf("%q %q: %q can be cut", turnerText(u), w, got)
			}
			counts[fmt.Sprint(len(got))]++
		}
	}
	if counts["for ever"] < 500 || counts["0"] < 100 || counts["1"] < 500 || counts["2"] < 100 || counts["3"] < 20 {
		t.Errorf("lengths: %v", counts)
	}
	for _, u := range append(oddTurners(), plainTurner(1, 1)) {
		got, code := impl.LeastCut(u, "b")
		wantWord(t, "invalid", got, code, "", impl.ErrInvalid)
	}
}
