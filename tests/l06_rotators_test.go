package tests

import (
	"fmt"
	"math"
	"math/rand"
	"slices"
	"strings"
	"testing"

	"loop.example/g01134/impl"
)

// Promise 16.

// exampleRotator is the one of the document.
func exampleRotator() impl.Rotator {
	return impl.Rotator{Letters: 1, Next: [][]int64{{1}, {0}}, End: []int64{1, -1}}
}

// stillRotator stays in its states, and has these ends.
func stillRotator(letters int64, ends ...int64) impl.Rotator {
	r := impl.Rotator{Letters: letters, End: ends}
	for s := range ends {
		r.Next = append(r.Next, slices.Repeat([]int64{int64(s)}, int(letters)))
	}
	return r
}

func rotatorWith(change func(r *impl.Rotator)) impl.Rotator {
	r := stillRotator(2, 1, 2, -1)
	change(&r)
	return r
}

// oddRotators returns rotators that are not valid, each for one reason.
func oddRotators() []impl.Rotator {
	return []impl.Rotator{
		{},
		{Letters: 1},
		{Letters: 0, Next: [][]int64{{}}, End: []int64{-1}},
		{Letters: 4, Next: [][]int64{{0, 0, 0, 0}}, End: []int64{-1}},
		{Letters: -1, Next: [][]int64{{}}, End: []int64{-1}},
		{Letters: math.MaxInt64, Next: [][]int64{{0}}, End: []int64{-1}},
		{Letters: math.MinInt64, Next: [][]int64{{0}}, End: []int64{-1}},
		stillRotator(1, 0, 1, 2, 3, 4, 5, 6),
		{Letters: 1, Next: [][]int64{{0}}},
		{Letters: 1, End: []int64{-1}},
		{Letters: 1, Next: [][]int64{{0}}, End: []int64{-1, -1}},
		{Letters: 1, Next: [][]int64{{0}, {0}}, End: []int64{-1}},
		rotatorWith(func(r *impl.Rotator) { r.Start = 3 }),
		rotatorWith(func(r *impl.Rotator) { r.Start = -1 }),
		rotatorWith(func(r *impl.Rotator) { r.Start = math.MaxInt64 }),
		rotatorWith(func(r *impl.Rotator) { r.Letters = 1 }),
		rotatorWith(func(r *impl.Rotator) { r.Letters = 3 }),
		rotatorWith(func(r *impl.Rotator) { r.Next[2] = r.Next[2][:1] }),
		rotatorWith(func(r *impl.Rotator) { r.Next[1] = nil }),
		rotatorWith(func(r *impl.Rotator) { r.Next[1] = []int64{0, 0, 0} }),
		rotatorWith(func(r *impl.Rotator) { r.Next[1][1] = 3 }),
		rotatorWith(func(r *impl.Rotator) { r.Next[0][0] = -1 }),
		rotatorWith(func(r *impl.Rotator) { r.Next[2][1] = -2 }),
		rotatorWith(func(r *impl.Rotator) { r.Next[2][1] = math.MinInt64 }),
		rotatorWith(func(r *impl.Rotator) { r.End[0] = 3 }),
		rotatorWith(func(r *impl.Rotator) { r.End[2] = -3 }),
		rotatorWith(func(r *impl.Rotator) { r.End[2] = math.MaxInt64 }),
		rotatorWith(func(r *impl.Rotator) { r.End[1] = math.MinInt64 }),
	}
}

// A rotator with just as many lists of states as a reader may have states, and one with 1 more. In the first one, letters lead all states to themselves again.
func rotator300() impl.Rotator {
	return impl.Rotator{Letters: 2, Start: 1, Next: [][]int64{{5, 0}, {4, 1}, {1, 0}, {2, 0}, {0, 1}, {3, 3}}, End: []int64{-1, 4, 0, -1, 0, 4}}
}

func rotator301() impl.Rotator {
	return impl.Rotator{Letters: 3, Start: 3, Next: [][]int64{{0, 1, 2}, {4, 4, 3}, {0, 2, 0}, {2, 1, 2}, {1, 1, 4}}, End: []int64{-2, -2, 2, 3, 3}}
}

// rotatorsToTry returns valid rotators, no two of which are the same.
func rotatorsToTry() []impl.Rotator {
	list := []impl.Rotator{
		exampleRotator(), rotator300(), rotator301(),
		stillRotator(1, -1), stillRotator(1, -2), stillRotator(2, 0), stillRotator(3, 1, 2, 3, 4, 5, -1), stillRotator(3, 1, 2, 3, 4, 5, 0),
		rotatorWith(func(r *impl.Rotator) {}),
		rotatorWith(func(r *impl.Rotator) { r.Start = 2 }),
		rotatorWith(func(r *impl.Rotator) { r.Next[0][1] = 2 }),
		rotatorWith(func(r *impl.Rotator) { r.Next[0][0] = 2 }),
		rotatorWith(func(r *impl.Rotator) { r.End[2] = -2 }),
	}
	return append(list, randomRotators(170, 20)...)
}

func TestValidRotator(t *testing.T) {
	for i, r := range rotatorsToTry() {
		if !isRotator(r) || !impl.ValidRotator(r) {
			t.Errorf("rotator %d is not valid", i)
		}
	}
	for i, r := range oddRotators() {
		if isRotator(r) || impl.ValidRotator(r) {
			t.Errorf("rotator %d is valid", i)
		}
	}
	for to := int64(-4); to <= 4; to++ {
		next := rotatorWith(func(r *impl.Rotator) { r.Next[1][1] = to })
		end := rotatorWith(func(r *impl.Rotator) { r.End[1] = to })
		if impl.ValidRotator(next) != (to >= 0 && to <= 2) || impl.ValidRotator(end) != (to >= -2 && to <= 2) {
			t.Errorf("to %d: %v, %v", to, impl.ValidRotator(next), impl.ValidRotator(end))
		}
	}
}

func TestSameRotator(t *testing.T) {
	list := append(rotatorsToTry(), oddRotators()...)
	for i, r := range list {
		for k, s := range list {
			if impl.SameRotator(r, s) != (i == k) {
				t.Errorf("rotators %d and %d: %v", i, k, impl.SameRotator(r, s))
			}
		}
	}
	empty := impl.Rotator{Letters: 1, Next: [][]int64{{}}, End: []int64{}}
	if !impl.SameRotator(empty, impl.Rotator{Letters: 1, Next: [][]int64{nil}}) || impl.SameRotator(empty, impl.Rotator{Letters: 1}) {
		t.Error("empty lists are not compared as they should")
	}
}

func TestRunRotator(t *testing.T) {
	clock := impl.Rotator{Letters: 1, Next: [][]int64{{1}, {2}, {0}}, End: []int64{-1, 1, 2}}
	round := stillRotator(3, 1, 2, 3, 4, 5, 0)
	tail := stillRotator(2, 1, 2, 3, 2)
	for name, c := range map[string]struct {
		r    impl.Rotator
		w    string
		want string
	}{
		"example, a":             {exampleRotator(), "a", "1 1 0"},
		"example, aa":            {exampleRotator(), "aa", "1 2 0"},
		"example, no letters":    {exampleRotator(), "", "1 2 0"},
		"takes at once":          {stillRotator(1, -1), "", "1 1 0"},
		"refuses at once":        {stillRotator(3, -2), "abc", "2 1 0"},
		"goes on in the start":   {stillRotator(1, 0), "a", "3 1 0"},
		"goes on, no letters":    {stillRotator(1, 0), "", "3 1 0"},
		"six ends":               {stillRotator(3, 1, 2, 3, 4, 5, -2), "c", "2 6 0"},
		"goes round":             {round, "abcabc", "3 6 0"},
		"goes round, no letters": {round, "", "3 6 0"},
		"goes round behind":      {tail, "ab", "3 4 0"},
		"clock, 0":               {clock, "", "1 1 0"},
		"clock, 1":               {clock, "a", "1 3 0"},
		"clock, 2":               {clock, "aa", "1 3 0"},
		"clock, 60":              {clock, strings.Repeat("a", 60), "1 1 0"},
		"clock, 59":              {clock, strings.Repeat("a", 59), "1 3 0"},
		"back to another start":  {impl.Rotator{Letters: 1, Start: 1, Next: [][]int64{{1}, {0}}, End: []int64{1, -1}}, "a", "3 1 0"},
		"another start":          {impl.Rotator{Letters: 1, Start: 1, Next: [][]int64{{1}, {0}}, End: []int64{0, -1}}, "a", "1 2 0"},
		"back to another state":  {impl.Rotator{Letters: 1, Next: [][]int64{{1}, {1}}, End: []int64{-1, 0}}, "a", "3 1 0"},
		"no word":                {exampleRotator(), "b", "0 0 1"},
		"no word, two letters":   {tail, "abc", "0 0 1"},
		"too long":               {exampleRotator(), strings.Repeat("a", 61), "0 0 1"},
	} {
		verdict, ends, code := impl.RunRotator(c.r, c.w)
		if got := fmt.Sprint(verdict, ends, code); got != c.want {
			t.Errorf("%s: got %s, want %s", name, got, c.want)
		}
	}
	for i, r := range oddRotators() {
		if verdict, ends, code := impl.RunRotator(r, ""); verdict != 0 || ends != 0 || code != impl.ErrInvalid {
			t.Errorf("rotator %d: %d, %d, %d", i, verdict, ends, code)
		}
	}
}

// TestRotatorRuns compares rotators, their opposites, turners and readers with what is read letter by letter.
func TestRotatorRuns(t *testing.T) {
	rng := rand.New(rand.NewSource(162))
	verdicts, limits := map[int64]int{}, 0
	for _, r := range append(rotatorsToTry(), randomRotators(163, 500)...) {
		name := fmt.Sprint(r)
		words := append(wordsTo(r.Letters, 4), longWords(rng, r.Letters, 8)...)
		not, code := impl.NotRotator(r)
		wantCode(t, name, code, impl.OK)
		u, code := impl.RotatorTurner(r)
		wantCode(t, name, code, impl.OK)
		if !isRotator(not) || !isTurner(u) {
			t.Fatalf("%s: %v, %v", name, not, u)
		}
		for _, w := range words {
			want, times := runRotator(r, w)
			verdict, ends, code := impl.RunRotator(r, w)
			if verdict != want || ends != times || code != impl.OK {
				t.Fatalf("%s, %q: %d, %d, %d, not %d, %d", name, w, verdict, ends, code, want, times)
			}
			verdicts[want]++
			opposite, ends := runRotator(not, w)
			if opposite != map[int64]int64{1: 2, 2: 1, 3: 3}[want] || ends != times {
				t.Fatalf("%s, %q: the opposite has %d", name, w, opposite)
			}
			if got := verdictOf(u, w); got != want {
				t.Fatalf("%s, %q: the turner has %d, not %d", name, w, got, want)
			}
		}
		reader, code := impl.ReaderOfRotator(r)
		if len(rotatorLists(r, 301)) > 300 {
			limits++
			wantNone(t, name, reader, code, impl.ErrLimit)
			continue
		}
		wantLanguage(t, name, reader, code, r.Letters, words, func(w string) bool { return spun(r, w) == impl.VdTakes })
	}
	if len(verdicts) != 3 || limits < 20 {
		t.Errorf("verdicts %v, %d with too many lists", verdicts, limits)
	}
}

func TestRotatorLimits(t *testing.T) {
	for lists, r := range map[int]impl.Rotator{300: rotator300(), 301: rotator301()} {
		if got := len(rotatorLists(r, 400)); got != lists {
			t.Fatalf("%d lists, not %d", got, lists)
		}
		reader, code := impl.ReaderOfRotator(r)
		if lists == 301 {
			wantNone(t, "301 lists", reader, code, impl.ErrLimit)
		} else if code != impl.OK || isZero(reader) {
			t.Errorf("%v, %d", reader, code)
		}
	}
	// All permutations, and more.
	shuffled := impl.Rotator{Letters: 3, Next: [][]int64{{1, 1, 0}, {2, 0, 0}, {3, 2, 2}, {4, 3, 3}, {5, 4, 4}, {0, 5, 5}}, End: []int64{-1, -1, -1, -1, -1, -1}}
	reader, code := impl.ReaderOfRotator(shuffled)
	wantNone(t, "thousands of lists", reader, code, impl.ErrLimit)
	for _, odd := range oddRotators() {
		reader, code := impl.ReaderOfRotator(odd)
		wantNone(t, "invalid", reader, code, impl.ErrInvalid)
	}
}

func TestReaderOfSomeRotators(t *testing.T) {
	for name, c := range map[string]struct {
		r    impl.Rotator
		want string
	}{
		"example":       {exampleRotator(), "reader 1 1 0\nyes 0\n"},
		"refuses":       {stillRotator(2, -2), "reader 2 1 0\nno 0 0\n"},
		"goes on":       {stillRotator(2, 1, 0), "reader 2 1 0\nno 0 0\n"},
		"even":          {impl.Rotator{Letters: 1, Next: [][]int64{{1}, {0}}, End: []int64{-1, -2}}, "reader 1 2 0\nyes 1\nno 0\n"},
		"odd goes on":   {impl.Rotator{Letters: 1, Next: [][]int64{{1}, {0}}, End: []int64{-1, 0}}, "reader 1 2 0\nyes 1\nno 0\n"},
		"2 and 3":       {impl.Rotator{Letters: 1, Next: [][]int64{{1}, {0}, {3}, {4}, {2}}, End: []int64{2, -2, -1, -2, -2}}, "reader 1 6 0\nyes 1\nno 2\nno 3\nno 4\nno 5\nno 0\n"},
		"a and b":       {impl.Rotator{Letters: 2, Next: [][]int64{{1, 0}, {1, 1}, {2, 3}, {3, 3}}, End: []int64{-2, 2, -2, -1}}, "reader 2 4 0\nno 1 2\nno 1 3\nno 3 2\nyes 3 3\n"},
		"another start": {impl.Rotator{Letters: 1, Start: 1, Next: [][]int64{{1}, {0}}, End: []int64{-1, -2}}, "reader 1 2 0\nno 1\nyes 0\n"},
	} {
		r, code := impl.ReaderOfRotator(c.r)
		wantReader(t, name, r, code, c.want, impl.OK)
	}
}

func TestNotRotator(t *testing.T) {
	r := impl.Rotator{Letters: 2, Start: 3, Next: [][]int64{{1, 2}, {0, 3}, {3, 3}, {2, 1}}, End: []int64{-1, -2, 0, 3}}
	not, code := impl.NotRotator(r)
	want := impl.Rotator{Letters: 2, Start: 3, Next: r.Next, End: []int64{-2, -1, 0, 3}}
	if !alikeAny(not, want) || code != impl.OK {
		t.Errorf("%v, %d", not, code)
	}
	for _, r := range rotatorsToTry() {
		not, _ := impl.NotRotator(r)
		if again, code := impl.NotRotator(not); !alikeAny(again, r) || code != impl.OK {
			t.Errorf("%v becomes %v", r, again)
		}
	}
	for _, odd := range oddRotators() {
		not, code := impl.NotRotator(odd)
		wantNone(t, "invalid", not, code, impl.ErrInvalid)
	}
}

func TestThenRotator(t *testing.T) {
	r := impl.Rotator{Letters: 2, Start: 1, Next: [][]int64{{1, 0}, {0, 1}, {2, 2}}, End: []int64{-1, -2, 1}}
	s := impl.Rotator{Letters: 2, Start: 2, Next: [][]int64{{1, 2}, {2, 0}, {0, 1}}, End: []int64{0, -1, -2}}
	both, code := impl.ThenRotator(r, s)
	want := impl.Rotator{Letters: 2, Start: 1, Next: [][]int64{{1, 0}, {0, 1}, {2, 2}, {4, 5}, {5, 3}, {3, 4}}, End: []int64{5, -2, 1, 3, -1, -2}}
	if !alikeAny(both, want) || code != impl.OK {
		t.Errorf("%v, %d", both, code)
	}
	one, three, four := stillRotator(2, -1), stillRotator(2, 1, 2, -1), stillRotator(2, -1, -1, -1, -1)
	other, otherFour := stillRotator(1, -1), stillRotator(1, -1, -1, -1, -1)
	odd := stillRotator(2, 5)
	for name, c := range map[string]struct {
		r, s impl.Rotator
		want int64
	}{
		"six states":           {three, three, impl.OK},
		"seven states":         {three, four, impl.ErrLimit},
		"seven, exchanged":     {four, three, impl.ErrLimit},
		"six and one":          {stillRotator(2, -1, -1, -1, -1, -1, -1), one, impl.ErrLimit},
		"five and one":         {stillRotator(2, -1, -1, -1, -1, -1), one, impl.OK},
		"other letters":        {one, other, impl.ErrRange},
		"range before limit":   {four, otherFour, impl.ErrRange},
		"invalid before range": {odd, other, impl.ErrInvalid},
		"second invalid":       {other, odd, impl.ErrInvalid},
		"invalid before limit": {four, stillRotator(1, 4, 4, 4, 4), impl.ErrInvalid},
	} {
		both, code := impl.ThenRotator(c.r, c.s)
		wantCode(t, name, code, c.want)
		if isZero(both) != (code != impl.OK) {
			t.Errorf("%s: %v", name, both)
		}
	}
	for _, odd := range oddRotators() {
		_, one := impl.ThenRotator(odd, three)
		_, two := impl.ThenRotator(three, odd)
		if one != impl.ErrInvalid || two != impl.ErrInvalid {
			t.Errorf("invalid: %d, %d", one, two)
		}
	}
}

// TestThenVerdicts compares what two rotators do together with what they do one after the other.
func TestThenVerdicts(t *testing.T) {
	rng := rand.New(rand.NewSource(164))
	verdicts := map[string]int{}
	for range 500 {
		letters := 1 + rng.Int63n(3)
		r, s := randomRotator(rng, letters, 1+rng.Intn(3)), randomRotator(rng, letters, 1+rng.Intn(3))
		both, code := impl.ThenRotator(r, s)
		if !isRotator(both) || code != impl.OK {
			t.Fatalf("%v and %v: %v, %d", r, s, both, code)
		}
		for _, w := range append(wordsTo(letters, 3), longWords(rng, letters, 3)...) {
			want, ends := runRotator(r, w)
			if want == impl.VdTakes {
				second, more := runRotator(s, w)
				want, ends = second, ends+more
			}
			got, times := runRotator(both, w)
			if got != want || times != ends {
				t.Fatalf("%v and %v, %q: %d after %d, not %d after %d", r, s, w, got, times, want, ends)
			}
			verdicts[fmt.Sprint(spun(r, w), spun(s, w))]++
		}
	}
	if len(verdicts) != 9 {
		t.Errorf("verdicts: %v", verdicts)
	}
}

func TestRotatorTurner(t *testing.T) {
	for name, c := range map[string]struct {
		r    impl.Rotator
		want string
	}{
		"example":    {exampleRotator(), "turner 1 4 0\nstate 1> 0> 3<\nstate 0> 1> yes\nstate 2< 0> no\nstate 3< 1> no\n"},
		"one state":  {stillRotator(2, -2), "turner 2 2 0\nstate 0> 0> 0> no\nstate 1< 1< 0> no\n"},
		"to itself":  {stillRotator(1, 0), "turner 1 2 0\nstate 0> 0> 1<\nstate 1< 0> no\n"},
		"two states": {impl.Rotator{Letters: 2, Start: 1, Next: [][]int64{{1, 0}, {1, 0}}, End: []int64{-1, 0}}, "turner 2 4 1\nstate 1> 0> 0> yes\nstate 1> 0> 1> 2<\nstate 2< 2< 0> no\nstate 3< 3< 1> no\n"},
	} {
		u, code := impl.RotatorTurner(c.r)
		wantTurner(t, name, u, code, c.want, impl.OK)
	}
	u, code := impl.RotatorTurner(stillRotator(3, 1, 2, 3, 4, 5, -1))
	if len(u.Moves) != 12 || !isTurner(u) || code != impl.OK {
		t.Errorf("six states: %v, %d", u, code)
	}
	for _, odd := range oddRotators() {
		u, code := impl.RotatorTurner(odd)
		wantNone(t, "invalid", u, code, impl.ErrInvalid)
	}
}

// TestRotatorTurners compares the turners of rotators, which are sweeping, with the rotators.
func TestRotatorTurners(t *testing.T) {
	for _, r := range append(rotatorsToTry(), randomRotators(165, 200)...) {
		u, _ := impl.RotatorTurner(r)
		dirs, code := impl.SweepDirections(u)
		half := len(r.Next)
		want := append(slices.Repeat([]int64{1}, half), slices.Repeat([]int64{-1}, half)...)
		if !slices.Equal(dirs, want) || code != impl.OK {
			t.Fatalf("%v: %v, %d", r, dirs, code)
		}
		for _, w := range wordsTo(r.Letters, 3) {
			verdict, ends := runRotator(r, w)
			passes, code := impl.PassesOf(u, w)
			switch {
			case verdict == impl.VdLoops:
				wantCode(t, w, code, impl.ErrNotFound)
			case passes != 2*ends-1 || code != impl.OK:
				t.Fatalf("%v, %q: %d passes, %d ends", r, w, passes, ends)
			}
		}
		one, first := impl.ReaderOfRotator(r)
		other, second := impl.ReaderOfSweeper(u)
		if first == impl.OK && second == impl.OK && readerText(one) != readerText(other) {
			t.Fatalf("%v: %v and %v", r, one, other)
		}
	}
}

// TestExample6 asserts the example at the end of the chapter.
func TestExample6(t *testing.T) {
	r := exampleRotator()
	for length := range 61 {
		want := int64(2 - length%2)
		if verdict, ends, code := impl.RunRotator(r, strings.Repeat("a", length)); verdict != impl.VdTakes || ends != want || code != impl.OK {
			t.Errorf("%d letters: %d after %d, %d", length, verdict, ends, code)
		}
	}
	if reader, code := impl.NthLastReader(2, 2); len(reader.Accept) != 4 || code != impl.OK {
		t.Errorf("%d states, %d", len(reader.Accept), code)
	}
}
