package tests

import (
	"math"
	"math/rand"
	"reflect"
	"slices"
	"strings"
	"testing"

	"loop.example/g01134/impl"
)

// Promise 3.

func alikeAny(a, b any) bool {
	return alike(reflect.ValueOf(a), reflect.ValueOf(b))
}

// wantMany compares a result with the automaton that is wanted, or with an error.
func wantMany(t *testing.T, name string, m impl.Many, code int64, want impl.Many, wantedCode int64) {
	t.Helper()
	wantCode(t, name, code, wantedCode)
	if !alikeAny(m, want) {
		t.Errorf("%s: got %v, want %v", name, m, want)
	}
}

// oddManys returns automata that are not valid, each for one reason.
func oddManys() []impl.Many {
	state := []bool{true}
	none := [][][]int64{{nil}}
	eleven := impl.Many{Letters: 1, Accept: make([]bool, 11)}
	for range 11 {
		eleven.Next = append(eleven.Next, [][]int64{nil})
	}
	return []impl.Many{
		{},
		{Letters: 1},
		{Letters: 0, Accept: state, Next: [][][]int64{{}}},
		{Letters: -1, Accept: state, Next: none},
		{Letters: 4, Accept: state, Next: [][][]int64{{nil, nil, nil, nil}}},
		{Letters: math.MaxInt64, Accept: state, Next: none},
		{Letters: 2, Accept: state, Next: none},
		{Letters: 1, Accept: state, Next: [][][]int64{{nil, nil}}},
		{Letters: 1, Accept: state, Next: [][][]int64{{}}},
		{Letters: 1, Accept: state},
		{Letters: 1, Next: none},
		{Letters: 1, Accept: state, Next: [][][]int64{{nil}, {nil}}},
		{Letters: 1, Accept: []bool{true, true}, Next: none},
		{Letters: 1, Starts: []int64{1}, Accept: state, Next: none},
		{Letters: 1, Starts: []int64{-1}, Accept: state, Next: none},
		{Letters: 1, Starts: []int64{0, 0}, Accept: state, Next: none},
		{Letters: 1, Starts: []int64{1, 0}, Accept: []bool{true, true}, Next: [][][]int64{{nil}, {nil}}},
		{Letters: 1, Accept: state, Next: [][][]int64{{{1}}}},
		{Letters: 1, Accept: state, Next: [][][]int64{{{math.MinInt64}}}},
		{Letters: 1, Accept: state, Next: [][][]int64{{{0, 0}}}},
		{Letters: 2, Accept: []bool{true, true}, Next: [][][]int64{{nil, {0}}, {nil, {1, 0}}}},
		eleven,
	}
}

// manysToTry returns valid automata, no two of which are the same.
func manysToTry() []impl.Many {
	rng := rand.New(rand.NewSource(11))
	list := []impl.Many{
		{Letters: 1, Accept: []bool{false}, Next: [][][]int64{{nil}}},
		{Letters: 1, Accept: []bool{true}, Next: [][][]int64{{nil}}},
		{Letters: 1, Starts: []int64{0}, Accept: []bool{true}, Next: [][][]int64{{nil}}},
		{Letters: 1, Starts: []int64{0}, Accept: []bool{true}, Next: [][][]int64{{{0}}}},
		{Letters: 2, Starts: []int64{0, 1}, Accept: []bool{true, false}, Next: [][][]int64{{{0, 1}, nil}, {nil, {1}}}},
		{Letters: 2, Starts: []int64{0, 1}, Accept: []bool{true, false}, Next: [][][]int64{{{0, 1}, nil}, {{1}, nil}}},
		nthLast(2, 9),
		nthLast(3, 10),
	}
	for _, states := range []int{2, 3, 4, 5, 10} {
		for letters := int64(1); letters <= 3; letters++ {
			list = append(list, randomMany(rng, letters, states))
		}
	}
	return list
}

// nthLast takes the words with an "a" so many letters less 1 from the end, and has so many states.
func nthLast(letters int64, states int) impl.Many {
	m := impl.Many{Letters: letters, Starts: []int64{0}, Accept: make([]bool, states)}
	m.Accept[states-1] = true
	for s := range int64(states) {
		lists := make([][]int64, letters)
		for letter := range lists {
			if s > 0 && s < int64(states-1) {
				lists[letter] = []int64{s + 1}
			} else if s == 0 && letter == 0 {
				lists[letter] = []int64{0, 1}
			} else if s == 0 {
				lists[letter] = []int64{0}
			}
		}
		m.Next = append(m.Next, lists)
	}
	return m
}

// manyOfLists returns an automaton of two letters that starts in 0, and in which the last state accepts.
func manyOfLists(next [][][]int64) impl.Many {
	m := impl.Many{Letters: 2, Starts: []int64{0}, Accept: make([]bool, len(next)), Next: next}
	m.Accept[len(next)-1] = true
	return m
}

func TestValidMany(t *testing.T) {
	for i, m := range manysToTry() {
		if !impl.ValidMany(m) {
			t.Errorf("automaton %d is not valid", i)
		}
	}
	for i, m := range oddManys() {
		if impl.ValidMany(m) {
			t.Errorf("automaton %d is valid", i)
		}
	}
}

func TestSameMany(t *testing.T) {
	all := append(oddManys(), manysToTry()...)
	for i, m := range all {
		for k, n := range all {
			if got := impl.SameMany(m, n); got != (i == k) {
				t.Errorf("%d and %d: %v", i, k, got)
			}
		}
	}
	empty := impl.Many{Starts: []int64{}, Accept: []bool{}, Next: [][][]int64{}}
	if !impl.SameMany(impl.Many{}, empty) || !impl.SameMany(impl.Many{Next: [][][]int64{nil, {nil}}}, impl.Many{Next: [][][]int64{{}, {{}}}}) {
		t.Error("nil and empty slices are not the same")
	}
	if impl.SameMany(impl.Many{Next: [][][]int64{nil}}, impl.Many{}) || impl.SameMany(impl.Many{Next: [][][]int64{{nil}}}, impl.Many{Next: [][][]int64{nil}}) {
		t.Error("an empty list is no list")
	}
}

func TestManyAfterAndManyTakes(t *testing.T) {
	for i, m := range manysToTry() {
		for _, w := range wordsTo(m.Letters, 4) {
			if list, code := impl.ManyAfter(m, w); !slices.Equal(list, manyAfter(m, w)) || code != impl.OK {
				t.Errorf("ManyAfter %d %q: %v, %d", i, w, list, code)
			}
			if yes, code := impl.ManyTakes(m, w); yes != manyTakes(m, w) || code != impl.OK {
				t.Errorf("ManyTakes %d %q: %v, %d", i, w, yes, code)
			}
		}
	}
	m := nthLast(2, 10)
	for w, want := range map[string][]int64{
		strings.Repeat("a", 60):        {0, 1, 2, 3, 4, 5, 6, 7, 8, 9},
		strings.Repeat("ab", 30):       {0, 2, 4, 6, 8},
		"a" + strings.Repeat("b", 59):  {0},
		"abaababbb":                    {0, 4, 6, 7, 9},
		strings.Repeat("b", 59) + "a":  {0, 1},
		strings.Repeat("a", 61):        nil,
		strings.Repeat("b", 59) + "c":  nil,
		strings.Repeat("b", 59) + "ab": nil,
	} {
		code := int64(impl.OK)
		if want == nil {
			code = impl.ErrInvalid
		}
		list, got := impl.ManyAfter(m, w)
		yes, gotToo := impl.ManyTakes(m, w)
		if !slices.Equal(list, want) || yes != slices.Contains(want, 9) || got != code || gotToo != code {
			t.Errorf("%q: %v, %d, %v, %d", w, list, got, yes, gotToo)
		}
	}
}

func TestTurnMany(t *testing.T) {
	m := impl.Many{Letters: 2, Starts: []int64{0, 2}, Accept: []bool{false, true, true}, Next: [][][]int64{{{0, 1}, nil}, {{1}, {0, 2}}, {{1, 2}, {2}}}}
	want := impl.Many{Letters: 2, Starts: []int64{1, 2}, Accept: []bool{true, false, true}, Next: [][][]int64{{{0}, {1}}, {{0, 1, 2}, nil}, {{2}, {1, 2}}}}
	back, code := impl.TurnMany(m)
	wantMany(t, "TurnMany", back, code, want, impl.OK)
	for i, m := range manysToTry() {
		back, code := impl.TurnMany(m)
		wantCode(t, "TurnMany", code, impl.OK)
		if !isMany(back) {
			t.Fatalf("%d: %v is not valid", i, back)
		}
		for _, w := range wordsTo(m.Letters, 4) {
			if manyTakes(back, turned(w)) != manyTakes(m, w) {
				t.Errorf("%d: different on %q", i, w)
			}
		}
		again, code := impl.TurnMany(back)
		wantMany(t, "turned twice", again, code, m, impl.OK)
	}
	for i, m := range oddManys() {
		back, code := impl.TurnMany(m)
		wantMany(t, "invalid "+string(rune('a'+i)), back, code, impl.Many{}, impl.ErrInvalid)
	}
}

func TestManyOfAndTurnedReader(t *testing.T) {
	want := impl.Many{Letters: 2, Starts: []int64{0}, Accept: []bool{false, false, true}, Next: [][][]int64{{{1}, {0}}, {{1}, {2}}, {{1}, {0}}}}
	m, code := impl.ManyOf(mustRead(t, example))
	wantMany(t, "ManyOf", m, code, want, impl.OK)
	want = impl.Many{Letters: 2, Starts: []int64{2}, Accept: []bool{true, false, false}, Next: [][][]int64{{nil, {0, 2}}, {{0, 1, 2}, nil}, {nil, {1}}}}
	m, code = impl.TurnedReader(mustRead(t, example))
	wantMany(t, "TurnedReader", m, code, want, impl.OK)
	for i, r := range readersToTry() {
		m, code := impl.ManyOf(r)
		back, backCode := impl.TurnedReader(r)
		if len(r.Accept) > 10 {
			wantMany(t, "ManyOf a large one", m, code, impl.Many{}, impl.ErrLimit)
			wantMany(t, "TurnedReader of a large one", back, backCode, impl.Many{}, impl.ErrLimit)
			continue
		}
		again, _ := impl.TurnMany(m)
		wantMany(t, "TurnedReader", back, backCode, again, impl.OK)
		for _, w := range wordsTo(r.Letters, 5) {
			after, code := impl.ManyAfter(m, w)
			if code != impl.OK || !slices.Equal(after, []int64{stateAfter(r, w)}) || manyTakes(back, turned(w)) != takes(r, w) {
				t.Errorf("%d: different on %q", i, w)
			}
		}
	}
	for _, r := range oddReaders() {
		m, code := impl.ManyOf(r)
		wantMany(t, "ManyOf an invalid one", m, code, impl.Many{}, impl.ErrInvalid)
		m, code = impl.TurnedReader(r)
		wantMany(t, "TurnedReader of an invalid one", m, code, impl.Many{}, impl.ErrInvalid)
	}
}

func TestReaderOf(t *testing.T) {
	rng := rand.New(rand.NewSource(12))
	for range 200 {
		letters := 1 + rng.Int63n(3)
		m := randomMany(rng, letters, 1+rng.Intn(4))
		r, code := impl.ReaderOf(m)
		wantCode(t, "ReaderOf", code, impl.OK)
		if !isReader(r) || !isMetInOrder(r) || r.Letters != letters {
			t.Fatalf("%v: %v", m, r)
		}
		states := map[int64]string{}
		for _, w := range wordsTo(letters, 4) {
			var set strings.Builder
			for _, s := range manyAfter(m, w) {
				set.WriteByte('0' + byte(s))
			}
			s := stateAfter(r, w)
			if old, ok := states[s]; ok && old != set.String() || r.Accept[s] != manyTakes(m, w) {
				t.Fatalf("%v after %q: %v", m, w, r)
			}
			for other, old := range states {
				if other != s && old == set.String() {
					t.Fatalf("%v: two states for the set %q: %v", m, old, r)
				}
			}
			states[s] = set.String()
		}
	}
}

func TestReaderOfEdges(t *testing.T) {
	none := impl.Many{Letters: 2, Accept: []bool{true}, Next: [][][]int64{{{0}, {0}}}}
	r, code := impl.ReaderOf(none)
	wantReader(t, "no starts", r, code, "reader 2 1 0\nno 0 0\n", impl.OK)
	m := impl.Many{Letters: 2, Starts: []int64{0, 1}, Accept: []bool{false, true}, Next: [][][]int64{{nil, {0}}, {{0}, nil}}}
	r, code = impl.ReaderOf(m)
	wantReader(t, "empty set", r, code, "reader 2 3 0\nyes 1 1\nno 2 1\nno 2 2\n", impl.OK)
	r, code = impl.ReaderOf(nthLast(3, 9))
	wantCode(t, "256 sets", code, impl.OK)
	if len(r.Accept) != 256 {
		t.Errorf("%d sets", len(r.Accept))
	}
	full := manyOfLists([][][]int64{{{2}, {6}}, {{9}, {8}}, {{7}, {7}}, {{0, 8}, {1, 9}}, {nil, {9}}, {nil, {0}}, {nil, {5}}, {{0}, {3}}, {{5}, {2}}, {{0, 1}, {1}}})
	r, code = impl.ReaderOf(full)
	wantCode(t, "300 sets", code, impl.OK)
	if len(r.Accept) != 300 || !isMetInOrder(r) {
		t.Errorf("%d sets", len(r.Accept))
	}
	more := manyOfLists([][][]int64{{{5}, {4}}, {{4}, {2}}, {{0}, {5}}, {{9}, {7}}, {{4}, {9}}, {{0}, {0}}, {{5}, {1, 6}}, {{1}, {5, 6}}, {{8}, {3}}, {{5}, {8}}})
	r, code = impl.ReaderOf(more)
	wantReader(t, "301 sets", r, code, "", impl.ErrLimit)
	r, code = impl.ReaderOf(nthLast(2, 10))
	wantReader(t, "512 sets", r, code, "", impl.ErrLimit)
	for _, m := range oddManys() {
		r, code := impl.ReaderOf(m)
		wantReader(t, "invalid", r, code, "", impl.ErrInvalid)
	}
}

// turnedOnce returns the ReaderOf TurnMany of ManyOf a reader, and whether the limits allow it.
func turnedOnce(r impl.Reader) (impl.Reader, bool) {
	m, one := impl.ManyOf(r)
	if one != impl.OK {
		return impl.Reader{}, false
	}
	back, _ := impl.TurnMany(m)
	s, two := impl.ReaderOf(back)
	return s, two == impl.OK
}

func TestTurnedTwiceIsTidy(t *testing.T) {
	rng := rand.New(rand.NewSource(13))
	seen := 0
	for range 2000 {
		r := randomReader(rng, 1+rng.Int63n(3), 1+rng.Intn(6))
		back, ok := turnedOnce(r)
		if !ok {
			t.Fatalf("%v cannot be turned", r)
		}
		again, ok := turnedOnce(back)
		if !ok {
			continue
		}
		seen++
		tidy, _ := impl.TidyReader(r)
		if !impl.SameReader(tidy, again) {
			t.Fatalf("%v: tidy %v, turned twice %v", r, tidy, again)
		}
	}
	if seen < 1000 {
		t.Errorf("only %d readers could be turned twice", seen)
	}
}
