package tests

import (
	"fmt"
	"math"
	"math/rand"
	"slices"
	"strings"
	"testing"

	"loop.example/g01134/impl"
)

// Promise 20, on words that are tried one after the other.

// wantLongest compares the results of LongestWritten.
func wantLongest(t *testing.T, name string, w impl.Writer, length int64, word string, longest, want int64) {
	t.Helper()
	x, count, code := impl.LongestWritten(w, length)
	if x != word || count != longest || code != want {
		t.Errorf("%s: got %q, %d, %d, want %q, %d, %d", name, x, count, code, word, longest, want)
	}
}

func TestFirstOtherOfSome(t *testing.T) {
	const (
		once     = "turner 2 1 0\nstate 0> 0> 0> yes\nout a b - -\n"
		noB      = "turner 2 1 0\nstate 0> no 0> yes\nout a b - -\n"
		onB      = "turner 2 1 0\nstate 0> 0= 0> yes\nout a b - -\n"
		notEmpty = "turner 2 2 0\nstate 1> 1> 0> no\nstate 1> 1> no yes\nout a b - -\nout a b - -\n"
		last     = "turner 2 1 0\nstate 0> 0> 0> yes\nout a b - c\n"
		early    = "turner 2 1 0\nstate 0> 0> 0> yes\nout a b c -\n"
		stays    = "turner 2 2 0\nstate 0> 0> 1= yes\nstate 0> 0> 0> yes\nout a b - -\nout a c - -\n"
		refusing = "turner 2 1 0\nstate no no no no\nout a b c a\n"
		looping  = "turner 2 1 0\nstate 0= 0= 0= 0=\nout b c a b\n"
	)
	for name, c := range map[string]struct {
		w, v   string
		length int64
		word   string
		want   int64
	}{
		"the same":                        {once, once, 9, "", impl.ErrNotFound},
		"back and once":                   {back2, once, 3, "ab", impl.OK},
		"back and once, exchanged":        {once, back2, 3, "ab", impl.OK},
		"back and once, two letters":      {back2, once, 2, "ab", impl.OK},
		"back and once, one letter":       {back2, once, 1, "", impl.ErrNotFound},
		"back and once, no letter":        {back2, once, 0, "", impl.ErrNotFound},
		"one refuses":                     {once, noB, 5, "b", impl.OK},
		"the other one refuses":           {noB, once, 5, "b", impl.OK},
		"one goes on":                     {once, onB, 5, "b", impl.OK},
		"one goes on, one refuses":        {noB, onB, 9, "", impl.ErrNotFound},
		"the empty word":                  {once, notEmpty, 5, "", impl.OK},
		"the empty word, no letters":      {notEmpty, once, 0, "", impl.OK},
		"the move that stops":             {once, last, 0, "", impl.OK},
		"other moves, the same text":      {early, last, 4, "a", impl.OK},
		"other moves, no letters":         {early, last, 0, "", impl.ErrNotFound},
		"other turners, the same text":    {once, stays, 8, "", impl.ErrNotFound},
		"the empty text is written":       {refusing, "turner 2 1 0\nstate no no yes no\nout - - - -\n", 5, "", impl.OK},
		"both write on no word":           {refusing, looping, 9, "", impl.ErrNotFound},
		"both write on no word, no limit": {refusing, looping, 10, "", impl.ErrLimit},
	} {
		x, code := impl.FirstOther(mustWrite(t, c.w), mustWrite(t, c.v), c.length)
		wantWord(t, name, x, code, c.word, c.want)
	}
}

// TestTriedLengths has lengths with just as many words as are tried, and greater ones.
func TestTriedLengths(t *testing.T) {
	for letters, most := range map[int64]int64{1: 60, 2: 9, 3: 6} {
		once, _ := impl.CopyWriter(letters, 1)
		back, _ := impl.BackWriter(letters)
		other := silentWriter(plainTurner(letters, 1))
		for length, want := range map[int64]int64{0: impl.ErrNotFound, 1: impl.ErrNotFound, most: impl.ErrNotFound, most + 1: impl.ErrLimit, 60: impl.ErrLimit, 61: impl.ErrRange,
			-1: impl.ErrRange, math.MaxInt64: impl.ErrRange, math.MinInt64: impl.ErrRange} {
			if letters == 1 {
				want = map[bool]int64{true: impl.ErrNotFound, false: impl.ErrRange}[length >= 0 && length <= 60]
			}
			name := fmt.Sprint(letters, " letters, length ", length)
			x, code := impl.FirstOther(once, once, length)
			wantWord(t, name, x, code, "", want)
			// The number of words counts, though there is another text before.
			wanted, word := want, ""
			if want == impl.ErrNotFound && letters > 1 && length > 1 {
				wanted, word = impl.OK, "ab"
			}
			x, code = impl.FirstOther(once, back, length)
			wantWord(t, name+", another text", x, code, word, wanted)
			if want == impl.ErrNotFound {
				wantLongest(t, name, once, length, strings.Repeat("a", int(length)), length, impl.OK)
				wantLongest(t, name, other, length, strings.Repeat("a", int(length)), 0, impl.OK)
			} else {
				wantLongest(t, name, once, length, "", 0, want)
			}
		}
	}
}

// wantFirstOther compares words that are tried by the program and by the tests.
func wantFirstOther(t *testing.T, w, v impl.Writer, length int) int64 {
	t.Helper()
	want, wanted := firstOther(w, v, length)
	x, code := impl.FirstOther(w, v, int64(length))
	if x != want || code != wanted {
		t.Fatalf("%q and %q, %d: %q, %d, not %q, %d", writerText(w), writerText(v), length, x, code, want, wanted)
	}
	return code
}

func TestFirstOther(t *testing.T) {
	rng := rand.New(rand.NewSource(231))
	counts, lengths := map[int64]int{}, map[int]int{}
	for _, w := range randomWriters(232, 800, 5) {
		v := impl.Writer{Turner: w.Turner, Out: slices.Clone(w.Out)}
		state := rng.Intn(len(v.Out))
		v.Out[state] = slices.Clone(v.Out[state])
		v.Out[state][rng.Intn(len(v.Out[state]))] += "c"
		if !isWriter(v) {
			continue
		}
		for _, length := range []int{0, 1, 3, 5} {
			code := wantFirstOther(t, w, v, length)
			counts[code]++
			if x, _ := firstOther(w, v, length); code == impl.OK {
				lengths[len(x)]++
			}
		}
		u := randomWriters(rng.Int63(), 1, 3)[0]
		if u.Turner.Letters == w.Turner.Letters {
			counts[wantFirstOther(t, w, u, 4)]++
		}
	}
	if counts[impl.OK] < 200 || counts[impl.ErrNotFound] < 200 || len(lengths) < 3 {
		t.Errorf("codes %v, lengths %v", counts, lengths)
	}
}

// TestTriedLimits has writers that write too many letters on a word of 60 letters alone.
func TestTriedLimits(t *testing.T) {
	fits, over := busyWriter(1, 20), busyWriter(1, 21)
	other := busyWriter(1, 21)
	other.Out[5][0] = "aba"
	once, _ := impl.CopyWriter(1, 1)
	for name, c := range map[string]struct {
		w, v   impl.Writer
		length int64
		word   string
		want   int64
	}{
		"2000 letters":                    {fits, fits, 60, "", impl.ErrNotFound},
		"2001 letters":                    {over, over, 60, "", impl.ErrLimit},
		"2001 letters on a longer word":   {over, over, 59, "", impl.ErrNotFound},
		"behind the word":                 {over, other, 60, "a", impl.OK},
		"behind the word, one writer":     {over, once, 60, "", impl.OK},
		"behind the word, the other one":  {once, over, 60, "", impl.OK},
		"behind the empty word":           {over, fits, 60, "", impl.OK},
		"behind the empty word, no limit": {over, fits, 0, "", impl.OK},
	} {
		x, code := impl.FirstOther(c.w, c.v, c.length)
		wantWord(t, name, x, code, c.word, c.want)
		wantFirstOther(t, c.w, c.v, int(c.length))
	}
	long := strings.Repeat("a", 60)
	wantLongest(t, "2000 letters", fits, 60, long, 2000, impl.OK)
	wantLongest(t, "2001 letters", over, 60, "", 0, impl.ErrLimit)
	wantLongest(t, "2001 letters on a longer word", over, 59, long[1:], 1968, impl.OK)
	over.Turner.Moves[10][2] = impl.Move{To: -2}
	wantLongest(t, "refuses with 2001 letters", over, 60, "", 0, impl.ErrNotFound)
	x, code := impl.FirstOther(over, over, 60)
	wantWord(t, "refuses with 2001 letters", x, code, "", impl.ErrNotFound)
}

func TestFirstOtherErrors(t *testing.T) {
	one, two, three := silentWriter(plainTurner(1, 1)), silentWriter(plainTurner(2, 1)), silentWriter(plainTurner(3, 1))
	odd := writerWith(0, 0, "d")
	for name, c := range map[string]struct {
		w, v   impl.Writer
		length int64
		want   int64
	}{
		"other letters":              {one, two, 1, impl.ErrRange},
		"other letters, exchanged":   {three, two, 1, impl.ErrRange},
		"range before limit":         {three, two, 60, impl.ErrRange},
		"length":                     {three, three, 61, impl.ErrRange},
		"limit before not found":     {three, three, 7, impl.ErrLimit},
		"invalid before letters":     {odd, two, 1, impl.ErrInvalid},
		"second invalid":             {two, odd, 1, impl.ErrInvalid},
		"invalid before length":      {odd, one, -1, impl.ErrInvalid},
		"second invalid, and length": {one, odd, 61, impl.ErrInvalid},
		"both invalid":               {odd, odd, 0, impl.ErrInvalid},
	} {
		x, code := impl.FirstOther(c.w, c.v, c.length)
		wantWord(t, name, x, code, "", c.want)
	}
	for _, odd := range oddWriters() {
		_, first := impl.FirstOther(odd, one, 0)
		_, second := impl.FirstOther(one, odd, 0)
		if first != impl.ErrInvalid || second != impl.ErrInvalid {
			t.Errorf("invalid: %d, %d", first, second)
		}
		wantLongest(t, "invalid", odd, 0, "", 0, impl.ErrInvalid)
		wantLongest(t, "invalid before length", odd, -1, "", 0, impl.ErrInvalid)
	}
}

func TestLongestWrittenOfSome(t *testing.T) {
	const (
		// Writes more for "b", refuses "aa", and does not stop on words with "c".
		some    = "turner 3 2 0\nstate 1> 0> 0= 0> yes\nstate no 0> 0= 1> yes\nout ab cc b - a\nout a b abc - -\n"
		noEmpty = "turner 1 2 0\nstate 1> 0> no\nstate 1> 0> yes\nout - - -\nout - - -\n"
		refuses = "turner 2 1 0\nstate 0> 0> 0> no\nout a b c a\n"
		loops   = "turner 2 1 0\nstate 0> 0> 0> 0=\nout a b c a\n"
		equal   = "turner 3 1 0\nstate 0> 0> 0> 0> yes\nout a bb cc - a\n"
		odd     = "turner 1 2 0\nstate 1> 0> no\nstate 0> no yes\nout ab - c\nout a - c\n"
	)
	for name, c := range map[string]struct {
		writer  string
		length  int64
		word    string
		longest int64
		want    int64
	}{
		"no letters":              {some, 0, "", 1, impl.OK},
		"one letter":              {some, 1, "b", 3, impl.OK},
		"two letters":             {some, 2, "bb", 5, impl.OK},
		"six letters":             {some, 6, "bbbbbb", 13, impl.OK},
		"the first of several":    {equal, 3, "bbb", 7, impl.OK},
		"the empty text":          {noEmpty, 3, "aaa", 0, impl.OK},
		"nothing, no letters":     {noEmpty, 0, "", 0, impl.ErrNotFound},
		"nothing, a refused word": {refuses, 4, "", 0, impl.ErrNotFound},
		"nothing, for ever":       {loops, 4, "", 0, impl.ErrNotFound},
		"nothing of this length":  {odd, 4, "", 0, impl.ErrNotFound},
		"of this length":          {odd, 5, "aaaaa", 9, impl.OK},
		"59 letters":              {odd, 59, strings.Repeat("a", 59), 90, impl.OK},
		"60 letters":              {odd, 60, "", 0, impl.ErrNotFound},
		"limit before not found":  {refuses, 10, "", 0, impl.ErrLimit},
	} {
		wantLongest(t, name, mustWrite(t, c.writer), c.length, c.word, c.longest, c.want)
	}
	mapped, _ := impl.MapWriter(mustWrite(t, back2), []string{"c", "ab", ""})
	wantLongest(t, "mapped", mapped, 2, "bb", 4, impl.OK)
}

func TestLongestWritten(t *testing.T) {
	counts := map[int64]int{}
	for i, w := range randomWriters(233, 600, 6) {
		for _, length := range []int{0, 2, 4 + i%4} {
			word, longest, want := longestWritten(w, length)
			x, count, code := impl.LongestWritten(w, int64(length))
			if x != word || count != longest || code != want {
				t.Fatalf("%q, %d: %q, %d, %d, not %q, %d, %d", writerText(w), length, x, count, code, word, longest, want)
			}
			counts[code]++
		}
	}
	if counts[impl.OK] < 200 || counts[impl.ErrNotFound] < 200 || counts[impl.ErrLimit] < 20 {
		t.Errorf("codes: %v", counts)
	}
}
