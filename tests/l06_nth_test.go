package tests

import (
	"fmt"
	"math"
	"math/rand"
	"strings"
	"testing"

	"loop.example/g01134/impl"
)

// Promise 17.

// nthLastText writes the turner of the document.
func nthLastText(letters int64, n int) string {
	every := func(word string) string { return strings.Repeat(" "+word, int(letters)) }
	text := fmt.Sprintf("turner %d %d 0\nstate%s 0> 1<\n", letters, n+1, every("0>"))
	for i := 2; i <= n; i++ {
		text += fmt.Sprintf("state%s no no\n", every(fmt.Sprintf("%d<", i)))
	}
	return text + "state yes" + every("no")[3:] + " no no\n"
}

// nthLastMany writes down the lists of the automaton of the document.
func nthLastMany(letters int64, n int) impl.Many {
	m := impl.Many{Letters: letters, Starts: []int64{0}, Accept: make([]bool, n+1), Next: make([][][]int64, n+1)}
	m.Accept[n] = true
	for letter := range letters {
		m.Next[0] = append(m.Next[0], []int64{0})
		for i := 1; i < n; i++ {
			m.Next[i] = append(m.Next[i], []int64{int64(i + 1)})
		}
		m.Next[n] = append(m.Next[n], nil)
		if letter == 0 {
			m.Next[0][0] = append(m.Next[0][0], 1)
		}
	}
	return m
}

func TestNthLast(t *testing.T) {
	rng := rand.New(rand.NewSource(171))
	for letters := int64(1); letters <= 3; letters++ {
		for n := 1; n <= 8; n++ {
			name := fmt.Sprintf("%d letters, %d from the end", letters, n)
			u, one := impl.NthLastTurner(letters, int64(n))
			wantTurner(t, name, u, one, nthLastText(letters, n), impl.OK)
			m, two := impl.NthLastMany(letters, int64(n))
			wantMany(t, name, m, two, nthLastMany(letters, n), impl.OK)
			words := append(wordsTo(letters, 5), longWords(rng, letters, 60)...)
			for short := range n + 2 {
				words = append(words, strings.Repeat("a", short), strings.Repeat("a", 60-short))
			}
			r, three := impl.NthLastReader(letters, int64(n))
			wantLanguage(t, name, r, three, letters, words, func(w string) bool { return isNthLast(w, n) })
			states := 1 << n
			if letters == 1 {
				states = n + 1
			}
			if len(r.Accept) != states {
				t.Errorf("%s: %d states, not %d", name, len(r.Accept), states)
			}
			for _, w := range words {
				want := int64(impl.VdRefuses)
				if isNthLast(w, n) {
					want = impl.VdTakes
				}
				if verdictOf(u, w) != want || manyTakes(m, w) != isNthLast(w, n) {
					t.Fatalf("%s, %q: %d, %v", name, w, verdictOf(u, w), manyTakes(m, w))
				}
			}
		}
	}
}

func TestNthLastOfSome(t *testing.T) {
	u, code := impl.NthLastTurner(2, 1)
	wantTurner(t, "last letter", u, code, "turner 2 2 0\nstate 0> 0> 0> 1<\nstate yes no no no\n", impl.OK)
	u, code = impl.NthLastTurner(3, 3)
	wantTurner(t, "third letter", u, code, "turner 3 4 0\nstate 0> 0> 0> 0> 1<\nstate 2< 2< 2< no no\nstate 3< 3< 3< no no\nstate yes no no no no\n", impl.OK)
	u, code = impl.NthLastTurner(1, 2)
	wantTurner(t, "one letter", u, code, "turner 1 3 0\nstate 0> 0> 1<\nstate 2< no no\nstate yes no no\n", impl.OK)
	r, code := impl.NthLastReader(2, 2)
	wantReader(t, "example", r, code, "reader 2 4 0\nno 1 0\nno 2 3\nyes 2 3\nyes 1 0\n", impl.OK)
	r, code = impl.NthLastReader(1, 2)
	wantReader(t, "reader of one letter", r, code, "reader 1 3 0\nno 1\nno 2\nyes 2\n", impl.OK)
	m, code := impl.NthLastMany(2, 1)
	wantMany(t, "guess", m, code, impl.Many{Letters: 2, Starts: []int64{0}, Accept: []bool{false, true}, Next: [][][]int64{{{0, 1}, {0}}, {nil, nil}}}, impl.OK)
}

// TestNthLastNeeds shows that no reader has fewer states, and that the turner and its own readers take the same words.
func TestNthLastNeeds(t *testing.T) {
	for letters := int64(1); letters <= 3; letters++ {
		for n := int64(1); n <= 8; n++ {
			r, _ := impl.NthLastReader(letters, n)
			u, _ := impl.NthLastTurner(letters, n)
			if other, code := impl.ReaderOfTurner(u); code == impl.OK && readerText(other) != readerText(r) {
				t.Errorf("%d, %d: the turner has another reader", letters, n)
			} else if n <= 5 {
				wantCode(t, "ReaderOfTurner", code, impl.OK)
			}
			other, code := impl.ReaderOfSweeper(u)
			if code == impl.OK && readerText(other) != readerText(r) {
				t.Errorf("%d, %d: the sweeper has another reader", letters, n)
			} else if n <= 5 {
				wantCode(t, "ReaderOfSweeper", code, impl.OK)
			}
			if letters == 1 || n > 4 {
				continue
			}
			var starts, ends []string
			for _, w := range wordsTo(2, int(n)) {
				if len(w) == int(n) {
					starts = append(starts, w)
				} else if strings.Trim(w, "a") == "" {
					ends = append(ends, w)
				}
			}
			if rows, code := impl.CountRows(r, starts, ends); rows != int64(len(r.Accept)) || code != impl.OK {
				t.Errorf("%d, %d: %d rows, %d", letters, n, rows, code)
			}
		}
	}
}

func TestNthLastErrors(t *testing.T) {
	for _, c := range [][2]int64{
		{0, 1}, {4, 1}, {-1, 1}, {2, 0}, {2, 9}, {2, -1}, {3, 9}, {1, 0}, {1, 9}, {0, 0}, {4, 9}, {2, math.MaxInt64}, {2, math.MinInt64},
		{math.MaxInt64, 2}, {math.MinInt64, 2}, {math.MinInt64, math.MaxInt64}, {math.MaxInt64, math.MinInt64},
	} {
		name := fmt.Sprint(c)
		u, one := impl.NthLastTurner(c[0], c[1])
		wantNone(t, name, u, one, impl.ErrRange)
		r, two := impl.NthLastReader(c[0], c[1])
		wantNone(t, name, r, two, impl.ErrRange)
		m, three := impl.NthLastMany(c[0], c[1])
		wantNone(t, name, m, three, impl.ErrRange)
	}
}
