package tests

import (
	"math/rand"
	"slices"
	"strings"
	"testing"

	"loop.example/g01134/impl"
)

// Promise 12.

// foolingPairs returns the pairs of a word's beginnings and what is left behind them.
func foolingPairs(w string) []impl.Fooling {
	var pairs []impl.Fooling
	for i := range len(w) + 1 {
		pairs = append(pairs, impl.Fooling{Left: w[:i], Right: w[i:]})
	}
	return pairs
}

func wantFooling(t *testing.T, name string, r impl.Reader, pairs []impl.Fooling, want bool, wanted int64) {
	t.Helper()
	yes, code := impl.IsFooling(r, pairs)
	if yes != want || code != wanted {
		t.Errorf("%s: got %v, %q, want %v, %q", name, yes, impl.CodeName(code), want, impl.CodeName(wanted))
	}
}

func TestIsFooling(t *testing.T) {
	rng := rand.New(rand.NewSource(511))
	fooling := map[int]int{}
	for range 3000 {
		r := randomReader(rng, 1+rng.Int63n(3), 1+rng.Intn(5))
		words := wordsTo(r.Letters, 3)
		pairs := someFooling(rng, r, words, 1+rng.Intn(4))
		if rng.Intn(3) == 0 {
			pairs = append(pairs, impl.Fooling{Left: words[rng.Intn(len(words))], Right: words[rng.Intn(len(words))]})
		}
		want := isFooling(r, pairs)
		if want {
			fooling[len(pairs)]++
		} else {
			fooling[-1]++
		}
		wantFooling(t, readerText(r), r, pairs, want, impl.OK)
	}
	for _, size := range []int{-1, 1, 2, 3} {
		if fooling[size] < 20 {
			t.Errorf("only %d lists of the size %d", fooling[size], size)
		}
	}
}

// someFooling returns pairs of words, most of which are taken and go with those before them.
func someFooling(rng *rand.Rand, r impl.Reader, words []string, count int) []impl.Fooling {
	var pairs []impl.Fooling
	for tries := 0; len(pairs) < count && tries < 100; tries++ {
		p := impl.Fooling{Left: words[rng.Intn(len(words))], Right: words[rng.Intn(len(words))]}
		if longer := append(slices.Clone(pairs), p); isFooling(r, longer) {
			pairs = longer
		}
	}
	return pairs
}

func TestIsFoolingEdges(t *testing.T) {
	r, bad := mustRead(t, example), cycleReader(301, 0)
	a := func(length int) string { return strings.Repeat("a", length) }
	pair := func(left, right string) impl.Fooling { return impl.Fooling{Left: left, Right: right} }
	list := func(pairs ...impl.Fooling) []impl.Fooling { return pairs }
	none := mustRead(t, "reader 1 1 0\nno 0\n")
	path := wordReader(1, a(19))
	for name, c := range map[string]struct {
		r     impl.Reader
		pairs []impl.Fooling
		want  bool
		code  int64
	}{
		"empty list":                 {r, nil, true, impl.OK},
		"empty list, takes nothing":  {none, nil, true, impl.OK},
		"takes nothing":              {none, list(pair("", "")), false, impl.OK},
		"one pair":                   {r, list(pair("a", "b")), true, impl.OK},
		"one pair that is not taken": {r, list(pair("b", "a")), false, impl.OK},
		"last pair is not taken":     {r, list(pair("a", "b"), pair("b", "a")), false, impl.OK},
		"one word is not taken":      {r, list(pair("", "ab"), pair("a", "b")), true, impl.OK},
		"both words are taken":       {r, list(pair("", "ab"), pair("a", "ab")), false, impl.OK},
		"far pairs":                  {r, list(pair("", "ab"), pair("ab", ""), pair("b", "ab")), false, impl.OK},
		"one pair twice":             {r, list(pair("a", "b"), pair("a", "b")), false, impl.OK},
		"20 pairs":                   {path, foolingPairs(a(19)), true, impl.OK},
		"20 pairs, one of them bad":  {path, append(foolingPairs(a(19))[:19], pair(a(19), "a")), false, impl.OK},
		"21 pairs":                   {wordReader(1, a(20)), foolingPairs(a(20)), false, impl.ErrRange},
		"60 letters":                 {wordReader(1, a(60)), list(pair(a(30), a(30)), pair(a(29), a(29)), pair("", a(30))), false, impl.OK},
		"60 letters are fooling":     {wordReader(1, a(60)), list(pair(a(30), a(30))), true, impl.OK},
		"61 letters":                 {wordReader(1, a(61)), list(pair(a(30), a(31))), false, impl.ErrLimit},
		"61 letters of two pairs":    {wordReader(1, a(31)), list(pair(a(31), ""), pair("", a(31))), false, impl.ErrLimit},
		"61 letters of later pairs":  {wordReader(1, a(31)), list(pair("", ""), pair("", a(31)), pair(a(30), "a")), false, impl.ErrLimit},
		"range before limit":         {path, slices.Repeat(list(pair(a(60), a(60))), 21), false, impl.ErrRange},
		"no word on the left":        {r, list(pair("c", "")), false, impl.ErrInvalid},
		"no word on the right":       {r, list(pair("ab", ""), pair("", "c")), false, impl.ErrInvalid},
		"a word is too long":         {path, list(pair("", a(61))), false, impl.ErrInvalid},
		"word before range":          {path, append(slices.Repeat(list(pair("", "")), 21), pair("b", "")), false, impl.ErrInvalid},
		"word before limit":          {path, list(pair(a(60), a(60)), pair("", "\x00")), false, impl.ErrInvalid},
		"invalid reader":             {bad, nil, false, impl.ErrInvalid},
		"invalid reader, long list":  {bad, foolingPairs(a(30)), false, impl.ErrInvalid},
	} {
		wantFooling(t, name, c.r, c.pairs, c.want, c.code)
	}
}

func TestFindFooling(t *testing.T) {
	rng := rand.New(rand.NewSource(512))
	sizes := map[int]int{}
	for range 400 {
		r := randomReader(rng, 1+rng.Int63n(3), 1+rng.Intn(5))
		want := findFooling(r, 4)
		pairs, code := impl.FindFooling(r)
		if !slices.Equal(pairs, want) || code != impl.OK {
			t.Fatalf("%q: got %q, %d, want %q", readerText(r), pairs, code, want)
		}
		sizes[len(pairs)]++
	}
	for size := range 5 {
		if sizes[size] < 10 {
			t.Errorf("only %d lists of the size %d", sizes[size], size)
		}
	}
}

func TestFindFoolingEdges(t *testing.T) {
	a := func(length int) string { return strings.Repeat("a", length) }
	var round []impl.Fooling
	for i := range 20 {
		round = append(round, impl.Fooling{Left: a(i), Right: a((20 - i) % 20)})
	}
	for name, c := range map[string]struct {
		r    impl.Reader
		want []impl.Fooling
		code int64
	}{
		"takes nothing":  {cycleReader(300, 300), nil, impl.OK},
		"takes all":      {mustRead(t, "reader 2 1 0\nyes 0 0\n"), []impl.Fooling{{}}, impl.OK},
		"the empty word": {wordReader(2, ""), []impl.Fooling{{}}, impl.OK},
		"one word":       {wordReader(2, "ab"), foolingPairs("ab"), impl.OK},
		// With the end "" of FindApart at its place there, "" would be paired with "a".
		"empty end first": {mustRead(t, "reader 1 3 0\nyes 1\nyes 2\nno 2\n"), []impl.Fooling{{Left: "", Right: ""}}, impl.OK},
		"a further end":   {mustRead(t, example), []impl.Fooling{{Left: "", Right: "ab"}, {Left: "a", Right: "b"}, {Left: "ab", Right: ""}}, impl.OK},
		"20 states":       {cycleReader(20, 0), round, impl.OK},
		"20 of a path":    {wordReader(1, a(18)), foolingPairs(a(18)), impl.OK},
		"21 states":       {cycleReader(21, 0), nil, impl.ErrLimit},
		"21 of a path":    {wordReader(1, a(19)), nil, impl.ErrLimit},
		"invalid":         {cycleReader(301, 0), nil, impl.ErrInvalid},
	} {
		pairs, code := impl.FindFooling(c.r)
		wantCode(t, name, code, c.code)
		if !slices.Equal(pairs, c.want) {
			t.Errorf("%s: got %q, want %q", name, pairs, c.want)
		}
	}
}

// TestFoolingListsAreBounds checks that no fooling list is longer than an automaton with many ways of the language has states.
func TestFoolingListsAreBounds(t *testing.T) {
	rng := rand.New(rand.NewSource(513))
	sharp := 0
	for range 600 {
		m := randomMany(rng, 1+rng.Int63n(3), 1+rng.Intn(6))
		r, _ := impl.ReaderOf(m)
		pairs, code := impl.FindFooling(r)
		if code == impl.ErrLimit {
			continue
		}
		if code != impl.OK || !isFooling(r, pairs) || len(pairs) > len(m.Accept) {
			t.Fatalf("%v: %q, %d", m, pairs, code)
		}
		if yes, code := impl.ManyIsAtLeast(m, r, pairs); !yes || code != impl.OK {
			t.Fatalf("%v with %q: %v, %d", m, pairs, yes, code)
		}
		if len(pairs) == len(m.Accept) && len(pairs) > 1 {
			sharp++
		}
	}
	if sharp < 20 {
		t.Errorf("only %d lists as long as can be", sharp)
	}
}

func TestManyIsAtLeast(t *testing.T) {
	rng := rand.New(rand.NewSource(514))
	seen := map[bool]int{}
	for range 2000 {
		letters := 1 + rng.Int63n(2)
		m, r := randomMany(rng, letters, 1+rng.Intn(3)), randomReader(rng, letters, 1+rng.Intn(3))
		want := true
		// The states of both tell at most 8 sets and 3 states apart.
		for _, w := range wordsTo(letters, 10) {
			want = want && manyTakes(m, w) == takes(r, w)
		}
		pairs, _ := impl.FindFooling(r)
		if yes, code := impl.ManyIsAtLeast(m, r, pairs); yes != want || code != impl.OK {
			t.Fatalf("%v and %q with %q: %v, %d", m, readerText(r), pairs, yes, code)
		}
		seen[want]++
	}
	if seen[true] < 50 || seen[false] < 50 {
		t.Errorf("only %v", seen)
	}
}

func TestManyIsAtLeastEdges(t *testing.T) {
	a := func(length int) string { return strings.Repeat("a", length) }
	r := mustRead(t, example)
	m, _ := impl.ManyOf(r)
	none := impl.Many{Letters: 1, Accept: []bool{false}, Next: [][][]int64{{nil}}}
	odd, bad := impl.Many{Letters: 2, Accept: []bool{true}}, cycleReader(301, 0)
	one, nothing := cycleReader(1, 0), cycleReader(300, 300)
	cycles, _ := impl.ManyOfCycles([][]bool{{true, false}, {true, false, false}, {true, false, false, false, false}})
	period, _ := impl.ReaderOf(cycles)
	fine := []impl.Fooling{{Left: "a", Right: "b"}}
	pairs, long := []impl.Fooling{{Left: "a", Right: "a"}}, []impl.Fooling{{Left: a(30), Right: a(31)}}
	twice := append(fine, fine...)
	for name, c := range map[string]struct {
		m     impl.Many
		r     impl.Reader
		pairs []impl.Fooling
		want  bool
		code  int64
	}{
		"no pairs":                       {m, r, nil, true, impl.OK},
		"pairs":                          {m, r, fine, true, impl.OK},
		"as many as states":              {m, r, []impl.Fooling{{Left: "", Right: "ab"}, {Left: "a", Right: "b"}, {Left: "ab", Right: ""}}, true, impl.OK},
		"two states for two pairs":       {nthLast(1, 2), mustRead(t, "reader 1 2 0\nno 1\nyes 1\n"), []impl.Fooling{{Left: "", Right: "a"}}, true, impl.OK},
		"other words":                    {nthLast(2, 2), r, fine, false, impl.OK},
		"nothing is taken":               {none, nothing, nil, true, impl.OK},
		"300 states, other words":        {none, cycleReader(300, 0), nil, false, impl.OK},
		"differ by 299 letters":          {none, cycleReader(300, 299), nil, false, impl.OK},
		"cycles":                         {cycles, period, []impl.Fooling{{}}, true, impl.OK},
		"not fooling":                    {m, r, pairs, false, impl.ErrState},
		"not fooling, other words":       {nthLast(2, 2), r, pairs, false, impl.ErrState},
		"one pair twice":                 {m, r, twice, false, impl.ErrState},
		"512 sets":                       {nthLast(2, 10), r, fine, false, impl.ErrLimit},
		"256 sets":                       {nthLast(3, 9), mustRead(t, "reader 3 1 0\nyes 0 0 0\n"), nil, false, impl.OK},
		"not fooling before sets":        {nthLast(2, 10), r, pairs, false, impl.ErrState},
		"61 letters":                     {m, r, long, false, impl.ErrLimit},
		"61 letters before not fooling":  {m, r, append(long, pairs...), false, impl.ErrLimit},
		"60 letters":                     {m, r, []impl.Fooling{{Left: a(30), Right: a(29) + "b"}}, true, impl.OK},
		"letters":                        {m, one, nil, false, impl.ErrRange},
		"letters before 61 letters":      {none, r, long, false, impl.ErrRange},
		"letters before not fooling":     {none, r, pairs, false, impl.ErrRange},
		"letters before sets":            {nthLast(2, 10), one, nil, false, impl.ErrRange},
		"20 pairs":                       {none, wordReader(1, a(19)), foolingPairs(a(19)), false, impl.OK},
		"21 pairs":                       {none, wordReader(1, a(20)), foolingPairs(a(20)), false, impl.ErrRange},
		"21 pairs before 61 letters":     {m, r, slices.Repeat(long, 21), false, impl.ErrRange},
		"21 pairs before not fooling":    {m, r, slices.Repeat(pairs, 21), false, impl.ErrRange},
		"no word":                        {m, r, []impl.Fooling{{Left: "c"}}, false, impl.ErrInvalid},
		"no word on the right":           {m, r, append(fine, impl.Fooling{Right: "d"}), false, impl.ErrInvalid},
		"no word of the reader":          {m, one, []impl.Fooling{{Left: "b"}}, false, impl.ErrInvalid},
		"no word of the automaton":       {none, r, fine, false, impl.ErrRange},
		"no word before 21 pairs":        {m, r, append(slices.Repeat(fine, 21), impl.Fooling{Left: "c"}), false, impl.ErrInvalid},
		"no word before letters":         {none, r, []impl.Fooling{{Left: "c"}}, false, impl.ErrInvalid},
		"invalid automaton":              {odd, r, nil, false, impl.ErrInvalid},
		"invalid automaton before range": {odd, one, slices.Repeat(fine, 21), false, impl.ErrInvalid},
		"invalid automaton before state": {odd, r, pairs, false, impl.ErrInvalid},
		"invalid automaton before limit": {odd, r, long, false, impl.ErrInvalid},
		"invalid reader":                 {m, bad, nil, false, impl.ErrInvalid},
		"invalid reader, letters":        {m, impl.Reader{}, nil, false, impl.ErrInvalid},
	} {
		yes, code := impl.ManyIsAtLeast(c.m, c.r, c.pairs)
		if yes != c.want || code != c.code {
			t.Errorf("%s: got %v, %q, want %v, %q", name, yes, impl.CodeName(code), c.want, impl.CodeName(c.code))
		}
	}
}
