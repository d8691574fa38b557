package tests

import (
	"fmt"
	"math"
	"math/rand"
	"slices"
	"strings"
	"testing"

	"loop.example/g01134/impl"
)

// Promise 15.

func TestConstants6(t *testing.T) {
	got := []int64{impl.MaxRotator, impl.MaxPebbler, impl.MaxNth, impl.PbNone, impl.PbPut, impl.PbTake}
	if !slices.Equal(got, []int64{6, 8, 8, 0, 1, 2}) {
		t.Errorf("constants: %v", got)
	}
}

// Sweeping turners with just as many lists of passes as a reader may have states, and with 1 more. In the one with 300, letters lead all states to themselves again.
const (
	sweeps300 = "turner 3 6 0\nstate 5> 0> 0> 2= yes\nstate 4< 1< 3< 5> 1<\nstate 0> 2> yes 2> 3=\nstate 3< 1< 3< 0> 5=\nstate 1< 4< 1< 2> 3<\nstate 2> 2> 0> 5> 4<\n"
	sweeps301 = "turner 3 4 2\nstate 3> 0> 2> 3> yes\nstate 1> 3> 2> 2= yes\nstate 2> 1> 0> 2> yes\nstate 1> 2> no 2> 0=\n"
)

// turningTurners returns texts of turners that are not sweeping, each for one reason.
func turningTurners() map[string]string {
	return map[string]string{
		"stays at a letter":             "turner 1 1 0\nstate 0= 0> no\n",
		"stays at the second letter":    "turner 2 2 0\nstate 0> 1= 0> no\nstate yes yes no no\n",
		"stays in an unused state":      "turner 1 2 0\nstate 0> 0> no\nstate 1= no no\n",
		"letters in both directions":    "turner 2 2 0\nstate 0> 1< 0> no\nstate no no no no\n",
		"turns at a letter":             "turner 1 2 0\nstate 1> 0> no\nstate 1< no no\n",
		"turns to the right":            "turner 1 2 0\nstate 1< 0= no\nstate 1> no no\n",
		"two come to one, from letters": "turner 1 3 0\nstate 2> 0= no\nstate 2< no no\nstate yes no no\n",
		"from the left mark":            "turner 1 2 0\nstate no 1> no\nstate 1< no no\n",
		"from the left mark to itself":  "turner 1 1 0\nstate 0< 0> no\n",
		"from the right mark":           "turner 1 2 0\nstate 0> 0> 1<\nstate 1> no no\n",
		"from the right mark to itself": "turner 1 1 0\nstate 0> 0> 0<\n",
		"from both marks":               "turner 1 2 0\nstate 0> 1> 1<\nstate yes yes no\n",
		"from an unused state":          "turner 1 3 0\nstate 0> 0> yes\nstate no 2> no\nstate no no 2<\n",
		"from a letter and a mark":      "turner 1 2 0\nstate 1> 0> 1<\nstate yes yes no\n",
	}
}

func TestSweepDirections(t *testing.T) {
	for name, c := range map[string]struct {
		turner string
		want   []int64
	}{
		"to the right":               {"turner 1 1 0\nstate 0> 0> yes\n", []int64{1}},
		"to the left":                {"turner 1 1 0\nstate 0< no 0<\n", []int64{-1}},
		"to the right mark and back": {example2, []int64{1, -1}},
		"there and back":             {"turner 2 2 0\nstate 0> 0> 0> 1<\nstate 1< yes 0> no\n", []int64{1, -1}},
		"both would be right":        {"turner 2 1 0\nstate yes no 0= 0=\n", []int64{1}},
		"both, and one of them":      {"turner 1 3 2\nstate no 0= 2=\nstate 1< 2= 1=\nstate yes 1= 0=\n", []int64{1, -1, 1}},
		"told by a letter":           {"turner 1 2 0\nstate 1< no no\nstate yes no no\n", []int64{-1, -1}},
		"told by the left mark":      {"turner 1 2 0\nstate no 1> no\nstate yes no no\n", []int64{1, 1}},
		"told by the right mark":     {"turner 1 2 0\nstate no no 1<\nstate yes no no\n", []int64{1, -1}},
		"told to itself":             {"turner 1 1 0\nstate yes no 0<\n", []int64{-1}},
		"stays at the marks":         {"turner 1 2 1\nstate 0> 1= 1=\nstate 1< 0= 0=\n", []int64{1, -1}},
		"the start is no reason":     {"turner 1 2 1\nstate 0> 0= 0=\nstate 1< 0> 0=\n", []int64{1, -1}},
		"two letters":                {"turner 2 3 0\nstate no 1< 2> 2=\nstate 1< no 2> 0<\nstate no no no no\n", []int64{-1, -1, 1}},
	} {
		u := mustTurn(t, c.turner)
		dirs, code := impl.SweepDirections(u)
		if !slices.Equal(dirs, c.want) || code != impl.OK {
			t.Errorf("%s: got %v, %d, want %v", name, dirs, code, c.want)
		}
	}
	for name, text := range turningTurners() {
		dirs, code := impl.SweepDirections(mustTurn(t, text))
		wantNone(t, name, dirs, code, impl.ErrState)
	}
	for _, odd := range oddTurners() {
		dirs, code := impl.SweepDirections(odd)
		wantNone(t, "invalid", dirs, code, impl.ErrInvalid)
	}
}

// TestAllSweepDirections compares the directions with all that could be.
func TestAllSweepDirections(t *testing.T) {
	rng := rand.New(rand.NewSource(151))
	var list []impl.Turner
	for i := range 1500 {
		u := randomSweeper(rng, 1+rng.Int63n(3), 1+rng.Intn(6), 1+i%5)
		if i%2 == 0 {
			// One move is replaced by that of any turner.
			s, sign := rng.Intn(len(u.Moves)), rng.Int63n(u.Letters+2)
			u.Moves[s][sign] = randomTurner(rng, u.Letters, len(u.Moves), 9).Moves[0][sign]
		}
		list = append(list, u)
	}
	sweeping, turning := 0, 0
	for _, u := range slices.Concat(list, turnersToTry(), randomTurners(152, 200, 3)) {
		want, ok := sweepDirections(u)
		dirs, code := impl.SweepDirections(u)
		if !ok {
			turning++
			wantNone(t, turnerText(u), dirs, code, impl.ErrState)
			continue
		}
		sweeping++
		if !slices.Equal(dirs, want) || code != impl.OK {
			t.Fatalf("%q: %v, %d, not %v", turnerText(u), dirs, code, want)
		}
	}
	if sweeping < 800 || turning < 300 {
		t.Errorf("%d sweeping, %d not", sweeping, turning)
	}
}

// sweepersToTry returns sweeping turners of all kinds.
func sweepersToTry(seed int64, count int) []impl.Turner {
	rng := rand.New(rand.NewSource(seed))
	list := []impl.Turner{plainTurner(1, 1), plainTurner(3, 12), clocks()}
	for _, text := range []string{
		example2, sweeps300, sweeps301,
		"turner 2 1 0\nstate yes no 0= 0=\n",
		"turner 1 1 0\nstate 0< no 0<\n",
		"turner 2 2 0\nstate 0> 0> 0> 1<\nstate 1< yes 0> no\n",
		"turner 1 2 1\nstate 0> 1= 1=\nstate 1< 0= 0=\n",
		"turner 1 3 2\nstate no 0= 2=\nstate 1< 2= 1=\nstate yes 1= 0=\n",
	} {
		u, _ := turnerIn(text)
		list = append(list, u)
	}
	for _, moduli := range [][]int64{{1}, {3}, {2, 3}, {1, 2, 3, 4}, {5, 7}, {3, 4, 5}} {
		u, _ := impl.ModTurner(2, moduli)
		list = append(list, u)
	}
	for i := range count {
		list = append(list, randomSweeper(rng, 1+rng.Int63n(3), 1+rng.Intn(8), 3+i%15))
	}
	return list
}

func TestPassOf(t *testing.T) {
	back := "turner 2 2 0\nstate 0> 0> 0> 1<\nstate 1< yes 0> no\n"
	swap := "turner 2 4 0\nstate 1> 0> 0> 2<\nstate 0> no 0> no\nstate 3< 2< 0> no\nstate 2< yes 0> no\n"
	for _, c := range []struct {
		turner, w string
		s, want   int64
	}{
		{back, "", 0, 0}, {back, "", 1, 1}, {back, "a", 0, 0}, {back, "ab", 0, 0}, {back, "aa", 1, 1}, {back, "ab", 1, -1}, {back, "ba", 1, -1},
		{swap, "", 3, 3}, {swap, "a", 0, 1}, {swap, "aa", 0, 0}, {swap, "ab", 0, -2}, {swap, "ba", 0, 1}, {swap, "ab", 1, 0}, {swap, "ba", 1, -2},
		{swap, "ab", 2, 3}, {swap, "ba", 2, -1}, {swap, "ab", 3, -1}, {swap, "ba", 3, 2}, {swap, "bba", 3, 2}, {swap, "aba", 2, -1},
		{"turner 2 1 0\nstate yes no 0= 0=\n", "ab", 0, -1},
		{"turner 2 1 0\nstate yes no 0= 0=\n", "ba", 0, -2},
		{"turner 2 1 0\nstate yes no 0= 0=\n", "", 0, 0},
		{"turner 2 1 0\nstate yes no 0= 0<\n", "ab", 0, -2},
		{"turner 2 1 0\nstate yes no 0= 0<\n", "ba", 0, -1},
		{"turner 1 2 0\nstate 1> 0> no\nstate 0> 0> no\n", strings.Repeat("a", 60), 0, 0},
		{"turner 1 2 0\nstate 1> 0> no\nstate 0> 0> no\n", strings.Repeat("a", 59), 0, 1},
	} {
		if got, code := impl.PassOf(mustTurn(t, c.turner), c.w, c.s); got != c.want || code != impl.OK {
			t.Errorf("%q, %q, %d: got %d, %d, want %d", c.turner, c.w, c.s, got, code, c.want)
		}
	}
	for name, c := range map[string]struct {
		turner impl.Turner
		w      string
		s      int64
		want   int64
	}{
		"no state":             {mustTurn(t, back), "ab", 2, impl.ErrRange},
		"state -1":             {mustTurn(t, back), "ab", -1, impl.ErrRange},
		"greatest state":       {mustTurn(t, back), "ab", math.MaxInt64, impl.ErrRange},
		"least state":          {mustTurn(t, back), "", math.MinInt64, impl.ErrRange},
		"not sweeping":         {mustTurn(t, "turner 1 1 0\nstate 0= 0> no\n"), "", 0, impl.ErrState},
		"range before state":   {mustTurn(t, "turner 1 1 0\nstate 0= 0> no\n"), "a", 1, impl.ErrRange},
		"invalid before range": {oddTurners()[16], "", 13, impl.ErrInvalid},
		"no word before range": {mustTurn(t, back), "c", 2, impl.ErrInvalid},
		"no word before state": {mustTurn(t, "turner 1 1 0\nstate 0= 0> no\n"), "b", 0, impl.ErrInvalid},
		"too long":             {mustTurn(t, back), strings.Repeat("a", 61), 0, impl.ErrInvalid},
	} {
		got, code := impl.PassOf(c.turner, c.w, c.s)
		wantNone(t, name, got, code, c.want)
	}
}

// TestPassesOfParts compares the passes through words with those that go cell by cell, and with those through two parts.
func TestPassesOfParts(t *testing.T) {
	rng := rand.New(rand.NewSource(153))
	ends := map[string]int{}
	for _, u := range sweepersToTry(154, 400) {
		dirs, ok := sweepDirections(u)
		if !ok {
			t.Fatalf("%q is not sweeping", turnerText(u))
		}
		words := append(wordsTo(u.Letters, 3), longWords(rng, u.Letters, 6)...)
		for _, w := range words {
			cut := rng.Intn(len(w) + 1)
			for s, dir := range dirs {
				got, code := impl.PassOf(u, w, int64(s))
				if want := passOf(u, w, int64(s), dir); got != want || code != impl.OK {
					t.Fatalf("%q, %q, %d: %d, %d, not %d", turnerText(u), w, s, got, code, want)
				}
				first, second := w[:cut], w[cut:]
				if dir == -1 {
					first, second = second, first
				}
				between, _ := impl.PassOf(u, first, int64(s))
				if between >= 0 {
					between, _ = impl.PassOf(u, second, between)
				}
				if between != got {
					t.Fatalf("%q, %q, %d: %d is not %d", turnerText(u), w, s, got, between)
				}
				ends[fmt.Sprint(dir, " ", min(got, 0))]++
			}
		}
	}
	if len(ends) != 6 {
		t.Errorf("ends: %v", ends)
	}
}

func TestPassesOf(t *testing.T) {
	stays := "turner 1 2 0\nstate 0> 1= 1=\nstate 1< 0> 1<\n"
	for name, c := range map[string]struct {
		turner, w string
		want      int64
	}{
		"once":                     {"turner 1 1 0\nstate 0> 0> yes\n", "aaa", 1},
		"once through no letters":  {"turner 1 1 0\nstate 0> 0> yes\n", "", 1},
		"never, at the left mark":  {"turner 1 1 0\nstate 0> no yes\n", "", 0},
		"never, at a letter":       {"turner 2 1 0\nstate 0> yes 0> yes\n", "aab", 0},
		"after staying":            {"turner 1 2 0\nstate 0> 1= yes\nstate 0> 0> no\n", "a", 1},
		"staying at the end":       {"turner 1 2 0\nstate 0> 0> 1=\nstate 0> 0> no\n", "a", 1},
		"there, and stopping":      {example2, "aa", 1},
		"there and back":           {example2, "", 2},
		"five times":               {"turner 1 5 0\nstate 0> 0> 1<\nstate 1< 2> no\nstate 2> 2> 3<\nstate 3< 4> no\nstate 4> 4> yes\n", strings.Repeat("a", 60), 5},
		"five times, empty":        {"turner 1 5 0\nstate 0> 0> 1<\nstate 1< 2> no\nstate 2> 2> 3<\nstate 3< 4> no\nstate 4> 4> yes\n", "", 5},
		"four times, and one more": {"turner 2 5 0\nstate 0> 0> 0> 1<\nstate 1< 1< 2> no\nstate 2> 2> 2> 3<\nstate 3< 3< 4> no\nstate 4> no 4> yes\n", "aab", 4},
		"back from the left state": {"turner 1 3 1\nstate 0> no 2<\nstate 1< 0> yes\nstate 2< yes no\n", "a", 2},
	} {
		u := mustTurn(t, c.turner)
		if want, _ := passesOf(u, c.w); want != c.want {
			t.Fatalf("%s: %d", name, want)
		}
		if got, code := impl.PassesOf(u, c.w); got != c.want || code != impl.OK {
			t.Errorf("%s: got %d, %d, want %d", name, got, code, c.want)
		}
	}
	for name, c := range map[string]struct {
		turner, w string
		want      int64
	}{
		"on between the marks":   {stays, "a", impl.ErrNotFound},
		"on for no letters":      {stays, "", impl.ErrNotFound},
		"stays at the left mark": {"turner 1 2 0\nstate 0> 1= 0=\nstate 0> 0= 1=\n", "", impl.ErrNotFound},
		"stays at the right one": {"turner 1 2 0\nstate 0> 0> 1=\nstate 0> 0= 0=\n", "aa", impl.ErrNotFound},
		"not sweeping":           {"turner 1 1 0\nstate 0= 0> no\n", "", impl.ErrState},
		"state before not found": {"turner 1 1 0\nstate 0= 0> no\n", "a", impl.ErrState},
		"no word":                {"turner 1 1 0\nstate 0= 0> no\n", "b", impl.ErrInvalid},
		"too long":               {stays, strings.Repeat("a", 61), impl.ErrInvalid},
	} {
		got, code := impl.PassesOf(mustTurn(t, c.turner), c.w)
		wantNone(t, name, got, code, c.want)
	}
	for _, odd := range oddTurners() {
		got, code := impl.PassesOf(odd, "")
		wantNone(t, "invalid", got, code, impl.ErrInvalid)
	}
	for name, text := range turningTurners() {
		got, code := impl.PassesOf(mustTurn(t, text), "")
		wantNone(t, name, got, code, impl.ErrState)
	}
}

// TestPassesOfRuns compares the numbers of passes with the runs.
func TestPassesOfRuns(t *testing.T) {
	rng := rand.New(rand.NewSource(155))
	counts := map[int64]int{}
	for _, u := range sweepersToTry(156, 800) {
		for _, w := range append(wordsTo(u.Letters, 3), longWords(rng, u.Letters, 4)...) {
			want, ok := passesOf(u, w)
			got, code := impl.PassesOf(u, w)
			if !ok {
				counts[-1]++
				wantNone(t, turnerText(u), got, code, impl.ErrNotFound)
				continue
			}
			counts[want]++
			if got != want || code != impl.OK {
				t.Fatalf("%q, %q: %d, %d, not %d", turnerText(u), w, got, code, want)
			}
		}
	}
	if len(counts) < 6 || counts[-1] < 500 {
		t.Errorf("passes: %v", counts)
	}
}

// wantLanguage checks that a reader is tidy, and takes just the words that it should.
func wantLanguage(t *testing.T, name string, r impl.Reader, code, letters int64, words []string, taken func(w string) bool) {
	t.Helper()
	wantCode(t, name, code, impl.OK)
	if !isReader(r) || r.Letters != letters {
		t.Fatalf("%s: %v", name, r)
	}
	for _, w := range words {
		if takes(r, w) != taken(w) {
			t.Fatalf("%s: the reader takes %q: %v", name, w, takes(r, w))
		}
	}
	if tidy, _ := impl.TidyReader(r); readerText(tidy) != readerText(r) {
		t.Fatalf("%s: %v is not tidy", name, r)
	}
}

func TestReaderOfSweeper(t *testing.T) {
	rng := rand.New(rand.NewSource(157))
	limits, compared := 0, 0
	for _, u := range sweepersToTry(158, 500) {
		dirs, _ := sweepDirections(u)
		r, code := impl.ReaderOfSweeper(u)
		if len(sweepLists(u, dirs, 301)) > 300 {
			limits++
			wantNone(t, turnerText(u), r, code, impl.ErrLimit)
			continue
		}
		words := append(wordsTo(u.Letters, 4), longWords(rng, u.Letters, 10)...)
		wantLanguage(t, turnerText(u), r, code, u.Letters, words, func(w string) bool { return verdictOf(u, w) == impl.VdTakes })
		if again, code := impl.ReaderOfTurner(u); code == impl.OK {
			compared++
			if readerText(again) != readerText(r) {
				t.Fatalf("%q: %v and %v", turnerText(u), r, again)
			}
		}
	}
	if limits < 10 || compared < 300 {
		t.Errorf("%d with too many lists, %d with another reader", limits, compared)
	}
}

func TestReaderOfSome(t *testing.T) {
	for name, c := range map[string]struct{ turner, want string }{
		"a last letter":  {example2, "reader 1 2 0\nno 1\nyes 1\n"},
		"a at an end":    {"turner 2 2 0\nstate 0> 0> 0> 1<\nstate yes 1< no no\n", "reader 2 2 0\nno 1 0\nyes 1 1\n"},
		"last letter a":  {"turner 2 2 0\nstate 0> 0> 0> 1<\nstate yes no no no\n", "reader 2 2 0\nno 1 0\nyes 1 0\n"},
		"first letter b": {"turner 2 2 0\nstate no yes 0> no\nstate 1< 1< no no\n", "reader 2 3 0\nno 1 2\nno 1 1\nyes 2 2\n"},
		"goes on":        {"turner 1 2 0\nstate 0> 0> 1<\nstate 1< 0> 0=\n", "reader 1 1 0\nno 0\n"},
		"takes at once":  {"turner 3 1 0\nstate 0< 0< 0< yes no\n", "reader 3 1 0\nyes 0 0 0\n"},
		"stays and ends": {"turner 1 3 0\nstate 1> 0> no\nstate 0> 1> 2=\nstate 2> 2> yes\n", "reader 1 2 0\nno 1\nyes 0\n"},
	} {
		r, code := impl.ReaderOfSweeper(mustTurn(t, c.turner))
		wantReader(t, name, r, code, c.want, impl.OK)
	}
	for name, text := range turningTurners() {
		r, code := impl.ReaderOfSweeper(mustTurn(t, text))
		wantNone(t, name, r, code, impl.ErrState)
	}
	for _, odd := range oddTurners() {
		r, code := impl.ReaderOfSweeper(odd)
		wantNone(t, "invalid", r, code, impl.ErrInvalid)
	}
}

func TestSweepLimits(t *testing.T) {
	for text, lists := range map[string]int{sweeps300: 300, sweeps301: 301} {
		u := mustTurn(t, text)
		dirs, _ := sweepDirections(u)
		if got := len(sweepLists(u, dirs, 400)); got != lists {
			t.Fatalf("%d lists, not %d", got, lists)
		}
		want := int64(impl.OK)
		if lists == 301 {
			want = impl.ErrLimit
		}
		r, code := impl.ReaderOfSweeper(u)
		wantCode(t, "ReaderOfSweeper", code, want)
		if isZero(r) != (code != impl.OK) {
			t.Errorf("%v with %d", r, code)
		}
	}
	many := shuffler()
	r, code := impl.ReaderOfSweeper(many)
	wantNone(t, "millions of lists", r, code, impl.ErrLimit)
	// A further state that stays at a letter comes before the limit.
	stays := impl.Move{To: 11}
	many.Moves[11] = []impl.Move{stays, stays, stays, stays, stays}
	r, code = impl.ReaderOfSweeper(many)
	wantNone(t, "state before limit", r, code, impl.ErrState)
}
