package tests

import (
	"math"
	"math/rand"
	"slices"
	"strings"
	"testing"

	"loop.example/g01134/impl"
)

// Promise 2.

func wantCode(t *testing.T, name string, got, want int64) {
	t.Helper()
	if got != want {
		t.Errorf("%s: got %q, want %q", name, impl.CodeName(got), impl.CodeName(want))
	}
}

// wantReader compares a result with the text of the reader that is wanted, or with an error.
func wantReader(t *testing.T, name string, r impl.Reader, code int64, text string, want int64) {
	t.Helper()
	wantCode(t, name, code, want)
	if want != impl.OK {
		if !isZero(r) {
			t.Errorf("%s: %v comes with an error", name, r)
		}
	} else if got := readerText(r); got != text {
		t.Errorf("%s: got %q, want %q", name, got, text)
	}
}

func wantWord(t *testing.T, name string, w string, code int64, word string, want int64) {
	t.Helper()
	wantCode(t, name, code, want)
	if w != word {
		t.Errorf("%s: got %q, want %q", name, w, word)
	}
}

func TestReaderExample(t *testing.T) {
	r, code := impl.ReadReader(example)
	wantReader(t, "ReadReader", r, code, example, impl.OK)
	for _, w := range wordsTo(2, 6) {
		if yes, code := impl.Takes(r, w); yes != strings.HasSuffix(w, "ab") || code != impl.OK {
			t.Errorf("Takes %q: %v, %d", w, yes, code)
		}
	}
	w, code := impl.FirstTaken(r)
	wantWord(t, "FirstTaken", w, code, "ab", impl.OK)
	if n, code := impl.CountTaken(r, 3); n != 2 || code != impl.OK {
		t.Errorf("CountTaken: %d, %d", n, code)
	}
	tidy, code := impl.TidyReader(r)
	wantReader(t, "TidyReader", tidy, code, example, impl.OK)
}

func TestCodeName(t *testing.T) {
	names := []string{"ok", "invalid", "range", "limit", "state", "syntax", "notfound", "budget", "proof"}
	for code, want := range names {
		if got := impl.CodeName(int64(code)); got != want {
			t.Errorf("%d: got %q, want %q", code, got, want)
		}
	}
	for _, code := range []int64{-1, 9, 10, 256, math.MaxInt64, math.MinInt64} {
		if got := impl.CodeName(code); got != "" {
			t.Errorf("%d: got %q", code, got)
		}
	}
	codes := []int64{impl.OK, impl.ErrInvalid, impl.ErrRange, impl.ErrLimit, impl.ErrState, impl.ErrSyntax, impl.ErrNotFound, impl.ErrBudget, impl.ErrProof}
	if !slices.Equal(codes, []int64{0, 1, 2, 3, 4, 5, 6, 7, 8}) {
		t.Errorf("codes: %v", codes)
	}
	limits := []int64{impl.MaxLetters, impl.MaxWord, impl.MaxReader, impl.MaxMany, impl.MaxText}
	if !slices.Equal(limits, []int64{3, 60, 300, 10, 20000}) {
		t.Errorf("limits: %v", limits)
	}
}

func TestValidWord(t *testing.T) {
	words := []string{"", "a", "b", "c", "d", "ab", "ba", "abc", "cab", "abd", "A", "a b", " ", "a\n", "`", "\x00", "\xff", "\xe2\x91", "ä",
		strings.Repeat("a", 60), strings.Repeat("a", 61), strings.Repeat("b", 60), strings.Repeat("c", 59) + "d", strings.Repeat("a", 5000)}
	for _, letters := range []int64{math.MinInt64, -1, 0, 1, 2, 3, 4, 26, math.MaxInt64} {
		for _, w := range words {
			if got, want := impl.ValidWord(letters, w), isWord(letters, w); got != want {
				t.Errorf("%d %q: got %v, want %v", letters, w, got, want)
			}
		}
	}
}

// oddReaders returns readers that are not valid, each for one reason.
func oddReaders() []impl.Reader {
	state := []bool{true}
	loop := [][]int64{{0}}
	return []impl.Reader{
		{},
		{Letters: 1},
		{Letters: 0, Accept: state, Next: [][]int64{{}}},
		{Letters: -1, Accept: state, Next: loop},
		{Letters: math.MinInt64, Accept: state, Next: [][]int64{{}}},
		{Letters: 4, Accept: state, Next: [][]int64{{0, 0, 0, 0}}},
		{Letters: 2, Accept: state, Next: loop},
		{Letters: 1, Accept: state, Next: [][]int64{{0, 0}}},
		{Letters: 1, Accept: state, Next: [][]int64{{}}},
		{Letters: 1, Accept: state},
		{Letters: 1, Accept: state, Next: [][]int64{{0}, {0}}},
		{Letters: 1, Next: loop},
		{Letters: 1, Accept: []bool{true, false}, Next: loop},
		{Letters: 1, Start: -1, Accept: state, Next: loop},
		{Letters: 1, Start: 1, Accept: state, Next: loop},
		{Letters: 1, Start: math.MaxInt64, Accept: state, Next: loop},
		{Letters: 1, Accept: state, Next: [][]int64{{1}}},
		{Letters: 1, Accept: state, Next: [][]int64{{-1}}},
		{Letters: 2, Accept: []bool{false, true}, Next: [][]int64{{0, 1}, {1, 2}}},
		{Letters: 2, Accept: []bool{false, true}, Next: [][]int64{{0, 1}, {math.MinInt64, 0}}},
		cycleReader(301, 0),
	}
}

func TestValidReader(t *testing.T) {
	rng := rand.New(rand.NewSource(1))
	for letters := int64(1); letters <= 3; letters++ {
		for _, states := range []int{1, 2, 5, 299, 300} {
			if r := randomReader(rng, letters, states); !impl.ValidReader(r) {
				t.Errorf("%d letters and %d states are not valid", letters, states)
			}
		}
	}
	for i, r := range oddReaders() {
		if impl.ValidReader(r) {
			t.Errorf("reader %d is valid", i)
		}
	}
}

func TestSameReader(t *testing.T) {
	all := append(oddReaders(), readersToTry()...)
	for i, r := range all {
		for k, s := range all {
			if got := impl.SameReader(r, s); got != (i == k) {
				t.Errorf("%d and %d: %v", i, k, got)
			}
		}
	}
	empty := impl.Reader{Accept: []bool{}, Next: [][]int64{}}
	if !impl.SameReader(impl.Reader{}, empty) || !impl.SameReader(impl.Reader{Next: [][]int64{nil}}, impl.Reader{Next: [][]int64{{}}}) {
		t.Error("nil and empty slices are not the same")
	}
	if impl.SameReader(impl.Reader{Next: [][]int64{nil}}, impl.Reader{}) {
		t.Error("an empty list is no list")
	}
}

// readersToTry returns valid readers, no two of which are the same.
func readersToTry() []impl.Reader {
	rng := rand.New(rand.NewSource(2))
	list := []impl.Reader{
		{Letters: 2, Start: 0, Accept: []bool{false, false, true}, Next: [][]int64{{1, 0}, {1, 2}, {1, 0}}},
		{Letters: 2, Start: 1, Accept: []bool{false, false, true}, Next: [][]int64{{1, 0}, {1, 2}, {1, 0}}},
		{Letters: 2, Start: 0, Accept: []bool{false, true, true}, Next: [][]int64{{1, 0}, {1, 2}, {1, 0}}},
		{Letters: 2, Start: 0, Accept: []bool{false, false, true}, Next: [][]int64{{1, 0}, {1, 2}, {1, 1}}},
		{Letters: 1, Accept: []bool{true}, Next: [][]int64{{0}}},
		{Letters: 1, Accept: []bool{false}, Next: [][]int64{{0}}},
		{Letters: 3, Accept: []bool{true}, Next: [][]int64{{0, 0, 0}}},
		cycleReader(300, 299),
		cycleReader(7, 0),
		cycleReader(43, 1),
		wordReader(1, strings.Repeat("a", 61)),
		wordReader(2, strings.Repeat("ab", 30)),
		wordReader(3, "cab"),
	}
	for _, states := range []int{2, 3, 4, 5, 10, 11} {
		for letters := int64(1); letters <= 3; letters++ {
			list = append(list, randomReader(rng, letters, states))
		}
	}
	return list
}

func TestReaderText(t *testing.T) {
	for i, r := range readersToTry() {
		text := impl.ReaderText(r)
		if want := readerText(r); text != want {
			t.Errorf("%d: got %q, want %q", i, text, want)
		}
		again, code := impl.ReadReader(text)
		if code != impl.OK || !impl.SameReader(r, again) {
			t.Errorf("%d: %v is read as %v, %d", i, r, again, code)
		}
	}
	for i, r := range oddReaders() {
		if got := impl.ReaderText(r); got != "" {
			t.Errorf("reader %d that is not valid: %q", i, got)
		}
	}
}

func TestReadReaderSyntax(t *testing.T) {
	texts := []string{"", "\n", "reader", "reader\n", "reader 2 1 0", "reader 2 1 0\n", "reader 2 0 0\n", "reader 1 1\nyes 0\n", "reader 1 1 0 0\nyes 0\n",
		"reader 1 1 0\nyes 0\n\n", "reader 1 1 0\nyes 0\nyes 0\n", "reader 1 2 0\nyes 0\n", "reader 1 1 0\r\nyes 0\r\n", "\nreader 1 1 0\nyes 0\n",
		"reader 01 1 0\nyes 0\n", "reader 1 1 -0\nyes 0\n", "reader 1 1 0\nyes +0\n", "reader 1 1 0\nyes 0 \n", "reader 1 1 0\nyes  0\n", "reader 1 1 0\n yes 0\n",
		"reader 1 1 0\nYes 0\n", "reader 1 1 0\nyes\n", "reader 1 1 0\nyes 1\n", "reader 1 1 0\nyes 0x0\n", "reader 1 1 0\nyes 0_0\n", "reader 1 1 1\nyes 0\n",
		"reader 4 1 0\nyes 0 0 0 0\n", "reader 0 1 0\nyes\n", "reader 2 1 0\nyes 0\n", "turner 1 1 0\nyes 0\n", "reader 1 1 0\nyes 18446744073709551616\n",
		"reader 1 18446744073709551617 0\nyes 0\n", "reader 1 1 99999999999999999999\nyes 0\n", strings.Repeat("\n", 20000), strings.Repeat("reader 1 1 0\n", 1000)}
	cycle301 := readerText(cycleReader(301, 0))
	for _, text := range append(texts, cycle301) {
		r, code := impl.ReadReader(text)
		wantReader(t, text, r, code, "", impl.ErrSyntax)
	}
}

func TestReadReaderRange(t *testing.T) {
	for length, want := range map[int]int64{20000: impl.ErrSyntax, 20001: impl.ErrRange, 900000: impl.ErrRange} {
		for _, text := range []string{strings.Repeat("a", length), example + strings.Repeat("\n", length-len(example))} {
			r, code := impl.ReadReader(text)
			wantReader(t, text[:20], r, code, "", want)
		}
	}
}

// TestReadReaderChanged reads texts with one byte more, less, or changed.
func TestReadReaderChanged(t *testing.T) {
	read := 0
	for _, text := range []string{example, "reader 1 1 0\nyes 0\n", "reader 3 2 1\nyes 0 1 0\nno 1 1 1\n"} {
		for i := range len(text) + 1 {
			for _, b := range "\n 0123459yesnor+-\t\x00" {
				changed := []string{text[:i] + string(b) + text[i:], text[:i]}
				if i < len(text) {
					changed = append(changed, text[:i]+text[i+1:], text[:i]+string(b)+text[i+1:])
				}
				for _, other := range changed {
					r, code := impl.ReadReader(other)
					want, ok := readerIn(other)
					if ok {
						read++
						wantReader(t, other, r, code, readerText(want), impl.OK)
					} else {
						wantReader(t, other, r, code, "", impl.ErrSyntax)
					}
				}
			}
		}
	}
	if read < 30 {
		t.Errorf("only %d texts have been read", read)
	}
}

func TestStateAfterAndTakes(t *testing.T) {
	for i, r := range readersToTry() {
		words := append(wordsTo(r.Letters, 5), strings.Repeat("a", 60), strings.Repeat("abc"[:r.Letters], 60)[:60])
		for _, w := range words {
			if s, code := impl.StateAfter(r, w); s != stateAfter(r, w) || code != impl.OK {
				t.Errorf("StateAfter %d %q: %d, %d", i, w, s, code)
			}
			if yes, code := impl.Takes(r, w); yes != takes(r, w) || code != impl.OK {
				t.Errorf("Takes %d %q: %v, %d", i, w, yes, code)
			}
		}
	}
}

func TestOppositeReader(t *testing.T) {
	for i, r := range readersToTry() {
		o, code := impl.OppositeReader(r)
		wantCode(t, "OppositeReader", code, impl.OK)
		if o.Letters != r.Letters || o.Start != r.Start || !alikeAny(o.Next, r.Next) {
			t.Errorf("%d: more than Accept is changed: %v", i, o)
		}
		for _, w := range wordsTo(r.Letters, 4) {
			if takes(o, w) == takes(r, w) {
				t.Errorf("%d: both agree on %q", i, w)
			}
		}
		again, _ := impl.OppositeReader(o)
		if !impl.SameReader(r, again) {
			t.Errorf("%d: twice opposite is %v", i, again)
		}
	}
}

func TestBothReaders(t *testing.T) {
	rng := rand.New(rand.NewSource(3))
	for range 200 {
		letters := 1 + rng.Int63n(3)
		r, s := randomReader(rng, letters, 1+rng.Intn(4)), randomReader(rng, letters, 1+rng.Intn(4))
		both, code := impl.BothReaders(r, s)
		wantCode(t, "BothReaders", code, impl.OK)
		if !isReader(both) || !isMetInOrder(both) {
			t.Fatalf("%v and %v: %v", r, s, both)
		}
		type pair [2]int64
		pairs := map[pair]int64{}
		for _, w := range wordsTo(letters, 15/int(letters)) {
			p, state := pair{stateAfter(r, w), stateAfter(s, w)}, stateAfter(both, w)
			if old, ok := pairs[p]; ok && old != state || takes(both, w) != (takes(r, w) && takes(s, w)) {
				t.Fatalf("%v and %v after %q: %v", r, s, w, both)
			}
			pairs[p] = state
		}
		if letters < 3 && len(pairs) != len(both.Accept) {
			t.Fatalf("%v and %v: %d pairs, %v", r, s, len(pairs), both)
		}
	}
}

func TestBothReadersErrors(t *testing.T) {
	b, code := impl.BothReaders(cycleReader(12, 0), cycleReader(25, 3))
	wantCode(t, "300 pairs", code, impl.OK)
	if len(b.Accept) != 300 || !b.Accept[228] || slices.Index(b.Accept, true) != 228 {
		t.Errorf("300 pairs: %v", b)
	}
	one := impl.Reader{Letters: 2, Accept: []bool{true}, Next: [][]int64{{0, 0}}}
	invalid := oddReaders()[0]
	for _, c := range []struct {
		name string
		r, s impl.Reader
		want int64
	}{
		{"301 pairs", cycleReader(7, 0), cycleReader(43, 0), impl.ErrLimit},
		{"89700 pairs", cycleReader(299, 0), cycleReader(300, 0), impl.ErrLimit},
		{"letters", cycleReader(7, 0), one, impl.ErrRange},
		{"letters before limit", cycleReader(299, 0), wordReader(2, strings.Repeat("ab", 100)), impl.ErrRange},
		{"invalid before letters", cycleReader(301, 0), one, impl.ErrInvalid},
		{"second invalid before letters", one, cycleReader(301, 0), impl.ErrInvalid},
		{"invalid", invalid, invalid, impl.ErrInvalid},
	} {
		b, code := impl.BothReaders(c.r, c.s)
		wantReader(t, c.name, b, code, "", c.want)
	}
}

// classesOf counts the states that can be reached and are told apart by words of at most a length.
func classesOf(r impl.Reader, longest int) int {
	rows := map[string]bool{}
	for _, w := range wordsTo(r.Letters, longest) {
		behind := r
		behind.Start = stateAfter(r, w)
		rows[languageOf(behind, wordsTo(r.Letters, longest))] = true
	}
	return len(rows)
}

func TestTidyReader(t *testing.T) {
	rng := rand.New(rand.NewSource(4))
	for range 300 {
		letters := 1 + rng.Int63n(3)
		states := 1 + rng.Intn(5)
		r := randomReader(rng, letters, states)
		tidy, code := impl.TidyReader(r)
		wantCode(t, "TidyReader", code, impl.OK)
		if !isReader(tidy) || !isMetInOrder(tidy) || tidy.Letters != letters || len(tidy.Accept) != classesOf(r, states-1) {
			t.Fatalf("%v: %v", r, tidy)
		}
		words := wordsTo(letters, 7)
		if languageOf(r, words) != languageOf(tidy, words) {
			t.Fatalf("%v takes others than %v", tidy, r)
		}
	}
}

func TestTidyReaderOfMany(t *testing.T) {
	for name, c := range map[string]struct{ text, want string }{
		"unreachable":     {"reader 1 3 2\nyes 1\nno 0\nno 2\n", "reader 1 1 0\nno 0\n"},
		"dead end stays":  {"reader 2 2 1\nno 0 0\nyes 0 0\n", "reader 2 2 0\nyes 1 1\nno 1 1\n"},
		"two dead ends":   {"reader 2 3 0\nyes 1 2\nno 2 1\nno 1 1\n", "reader 2 2 0\nyes 1 1\nno 1 1\n"},
		"order of states": {"reader 2 4 3\nyes 0 0\nno 0 2\nyes 2 1\nno 1 2\n", "reader 2 4 0\nno 1 2\nno 3 2\nyes 2 1\nyes 3 3\n"},
		"all alike":       {"reader 3 2 0\nyes 1 0 1\nyes 0 0 1\n", "reader 3 1 0\nyes 0 0 0\n"},
	} {
		r := mustRead(t, c.text)
		tidy, code := impl.TidyReader(r)
		wantReader(t, name, tidy, code, c.want, impl.OK)
	}
	cycle := cycleReader(300, 299)
	tidy, code := impl.TidyReader(cycle)
	wantReader(t, "300 states", tidy, code, readerText(cycle), impl.OK)
	none := cycleReader(300, 300)
	tidy, code = impl.TidyReader(none)
	wantReader(t, "300 alike", tidy, code, "reader 1 1 0\nno 0\n", impl.OK)
}

// TestTidyReaderTellsLanguages looks at all readers with one letter and 3 states, and at many with two letters.
func TestTidyReaderTellsLanguages(t *testing.T) {
	languages, tidies := map[string]string{}, map[string]string{}
	look := func(r impl.Reader) {
		tidy, _ := impl.TidyReader(r)
		text := readerText(tidy)
		language := languageOf(r, wordsTo(r.Letters, 6))
		if old, ok := tidies[language]; ok && old != text {
			t.Fatalf("%q and %q have one language", old, text)
		}
		if old, ok := languages[text]; ok && old != language {
			t.Fatalf("%q has two languages", text)
		}
		tidies[language], languages[text] = text, language
	}
	for code := range int64(27 * 8 * 3) {
		next, accept := code%27, code/27%8
		look(impl.Reader{Letters: 1, Start: code / 216, Accept: []bool{accept&1 > 0, accept&2 > 0, accept&4 > 0}, Next: [][]int64{{next % 3}, {next / 3 % 3}, {next / 9}}})
	}
	rng := rand.New(rand.NewSource(5))
	for range 2000 {
		look(randomReader(rng, 2, 3))
	}
	if len(tidies) < 500 {
		t.Errorf("only %d languages", len(tidies))
	}
}

// firstOf returns the first word that is wanted.
func firstOf(letters int64, longest int, wanted func(w string) bool) (string, int64) {
	words := wordsTo(letters, longest)
	if i := slices.IndexFunc(words, wanted); i >= 0 {
		return words[i], impl.OK
	}
	return "", impl.ErrNotFound
}

func TestFirstTakenAndFirstUnlike(t *testing.T) {
	rng := rand.New(rand.NewSource(6))
	for range 300 {
		letters := 1 + rng.Int63n(3)
		r, s := randomReader(rng, letters, 1+rng.Intn(4)), randomReader(rng, letters, 1+rng.Intn(4))
		want, wantedCode := firstOf(letters, 7, func(w string) bool { return takes(r, w) })
		w, code := impl.FirstTaken(r)
		wantWord(t, "FirstTaken", w, code, want, wantedCode)
		want, wantedCode = firstOf(letters, 7, func(w string) bool { return takes(r, w) != takes(s, w) })
		w, code = impl.FirstUnlike(r, s)
		wantWord(t, "FirstUnlike", w, code, want, wantedCode)
	}
}

func TestFirstTakenEdges(t *testing.T) {
	long := strings.Repeat("ba", 30)
	for name, c := range map[string]struct {
		r    impl.Reader
		word string
		want int64
	}{
		"empty word":           {cycleReader(1, 0), "", impl.OK},
		"none":                 {cycleReader(300, 300), "", impl.ErrNotFound},
		"out of reach":         {mustRead(t, "reader 1 2 0\nno 0\nyes 1\n"), "", impl.ErrNotFound},
		"60 letters":           {wordReader(2, long), long, impl.OK},
		"61 letters":           {wordReader(2, long+"b"), "", impl.ErrLimit},
		"299 letters":          {cycleReader(300, 299), "", impl.ErrLimit},
		"shorter comes first":  {mustRead(t, "reader 2 4 0\nno 1 2\nno 2 3\nyes 3 3\nno 3 3\n"), "b", impl.OK},
		"letters come in turn": {mustRead(t, "reader 3 4 0\nno 3 1 2\nno 3 3 2\nno 2 2 1\nyes 3 3 3\n"), "a", impl.OK},
		"first of one length":  {mustRead(t, "reader 2 4 0\nno 1 2\nno 1 3\nno 3 2\nyes 3 3\n"), "ab", impl.OK},
		"invalid":              {cycleReader(301, 0), "", impl.ErrInvalid},
	} {
		w, code := impl.FirstTaken(c.r)
		wantWord(t, name, w, code, c.word, c.want)
	}
}

func TestFirstUnlikeEdges(t *testing.T) {
	none, other := cycleReader(1, 1), impl.Reader{Letters: 2, Accept: []bool{false}, Next: [][]int64{{0, 0}}}
	long := strings.Repeat("a", 60)
	for name, c := range map[string]struct {
		r, s impl.Reader
		word string
		want int64
	}{
		"empty word":             {cycleReader(1, 0), cycleReader(2, 1), "", impl.OK},
		"same":                   {cycleReader(300, 299), cycleReader(300, 299), "", impl.ErrNotFound},
		"alike":                  {cycleReader(299, 299), cycleReader(300, 300), "", impl.ErrNotFound},
		"60 letters":             {wordReader(1, long), none, long, impl.OK},
		"60 letters, turned":     {none, wordReader(1, long), long, impl.OK},
		"61 letters":             {none, wordReader(1, long+"a"), "", impl.ErrLimit},
		"letters":                {none, other, "", impl.ErrRange},
		"letters before limit":   {wordReader(1, long+"a"), other, "", impl.ErrRange},
		"invalid before letters": {cycleReader(301, 0), other, "", impl.ErrInvalid},
		"second invalid":         {other, cycleReader(301, 0), "", impl.ErrInvalid},
		"one letter apart":       {wordReader(3, "ac"), wordReader(3, "ab"), "ab", impl.OK},
	} {
		w, code := impl.FirstUnlike(c.r, c.s)
		wantWord(t, name, w, code, c.word, c.want)
	}
}

func TestCountTaken(t *testing.T) {
	rng := rand.New(rand.NewSource(7))
	for range 100 {
		letters := 1 + rng.Int63n(3)
		r := randomReader(rng, letters, 1+rng.Intn(5))
		want := make([]int64, 7)
		for _, w := range wordsTo(letters, 6) {
			if takes(r, w) {
				want[len(w)]++
			}
		}
		for length, count := range want {
			if n, code := impl.CountTaken(r, int64(length)); n != count || code != impl.OK {
				t.Errorf("%v, length %d: %d, %d", r, length, n, code)
			}
		}
	}
	all := mustRead(t, "reader 3 1 0\nyes 0 0 0\n")
	for length, want := range map[int64][2]int64{
		-1: {0, impl.ErrRange}, 0: {1, impl.OK}, 29: {68630377364883, impl.OK}, 30: {205891132094649, impl.OK}, 31: {0, impl.ErrRange},
		math.MinInt64: {0, impl.ErrRange}, math.MaxInt64: {0, impl.ErrRange},
	} {
		if n, code := impl.CountTaken(all, length); [2]int64{n, code} != want {
			t.Errorf("length %d: %d, %d", length, n, code)
		}
	}
	if n, code := impl.CountTaken(cycleReader(301, 0), 31); n != 0 || code != impl.ErrInvalid {
		t.Errorf("invalid before length: %d, %d", n, code)
	}
}
