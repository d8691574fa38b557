package tests

import (
	"fmt"
	"math"
	"math/rand"
	"slices"
	"strings"
	"testing"

	"loop.example/g01134/impl"
)

// Promise 5.

// madeWords returns the words on which verdicts are compared: all short ones, and two of the greatest length.
func madeWords(letters int64) []string {
	return append(wordsTo(letters, 4), strings.Repeat("a", 60), strings.Repeat("aabcb"[:2*letters-1], 60)[:60])
}

// wantVerdicts compares the verdicts of a turner that is made of others with those that it should have.
func wantVerdicts(t *testing.T, name string, u impl.Turner, code int64, want func(w string) int64) {
	t.Helper()
	wantCode(t, name, code, impl.OK)
	if !isTurner(u) {
		t.Fatalf("%s: %v is not valid", name, u)
	}
	for _, w := range madeWords(u.Letters) {
		if got, want := verdictOf(u, w), want(w); got != want {
			t.Fatalf("%s: %q has the verdict %d on %q, not %d", name, turnerText(u), got, w, want)
		}
	}
}

// wantTurnerCode compares an error, with which there is no turner.
func wantTurnerCode(t *testing.T, name string, u impl.Turner, code, want int64) {
	t.Helper()
	wantTurner(t, name, u, code, "", want)
}

func TestTurnerOf(t *testing.T) {
	u, code := impl.TurnerOf(mustRead(t, "reader 2 3 1\nno 1 0\nno 1 2\nyes 1 0\n"))
	wantTurner(t, "TurnerOf", u, code, "turner 2 3 1\nstate 1> 0> 0> no\nstate 1> 2> 1> no\nstate 1> 0> 2> yes\n", impl.OK)
	u, code = impl.TurnerOf(cycleReader(1, 0))
	wantTurner(t, "one state", u, code, "turner 1 1 0\nstate 0> 0> yes\n", impl.OK)
	rng := rand.New(rand.NewSource(31))
	for range 200 {
		r := randomReader(rng, 1+rng.Int63n(3), 1+rng.Intn(12))
		u, code := impl.TurnerOf(r)
		wantVerdicts(t, "TurnerOf", u, code, func(w string) int64 {
			if takes(r, w) {
				return impl.VdTakes
			}
			return impl.VdRefuses
		})
		if yes, code := impl.IsOneWay(u); !yes || code != impl.OK || len(u.Moves) != len(r.Accept) || u.Start != r.Start {
			t.Fatalf("%v: %v", r, u)
		}
	}
}

func TestTurnerOfErrors(t *testing.T) {
	u, code := impl.TurnerOf(cycleReader(12, 11))
	wantCode(t, "12 states", code, impl.OK)
	if len(u.Moves) != 12 {
		t.Errorf("12 states: %v", u)
	}
	for _, states := range []int{13, 300} {
		u, code := impl.TurnerOf(cycleReader(states, 0))
		wantTurnerCode(t, "many states", u, code, impl.ErrLimit)
	}
	for _, r := range oddReaders() {
		u, code := impl.TurnerOf(r)
		wantTurnerCode(t, "invalid", u, code, impl.ErrInvalid)
	}
}

func TestIsOneWay(t *testing.T) {
	for text, want := range map[string]bool{
		"turner 1 1 0\nstate 0> 0> 0=\n":                                  true,
		"turner 1 1 0\nstate 0> 0> 0<\n":                                  false,
		"turner 1 1 0\nstate 0> 0= no\n":                                  false,
		"turner 1 1 0\nstate 0= 0> no\n":                                  false,
		"turner 1 1 0\nstate 0< 0> no\n":                                  false,
		"turner 1 1 0\nstate yes no yes\n":                                true,
		"turner 2 2 1\nstate 1> 0> 1> 1=\nstate yes 1> 0> 0=\n":           true,
		"turner 1 2 0\nstate 0> 0> yes\nstate 0> 0> 1<\n":                 false,
		"turner 2 2 0\nstate 0> 0> 0> yes\nstate 0> 1= 0> no\n":           false,
		"turner 3 2 0\nstate 0> 0> 0> 0> yes\nstate 0> 1> 0> 1= no\n":     false,
		"turner 3 2 0\nstate 0> no 0> yes yes\nstate 0> 1> 0> 1> 0=\n":    true,
		"turner 1 3 0\nstate 0> 0> yes\nstate 0> 0> 1=\nstate no 0= no\n": false,
	} {
		if got, code := impl.IsOneWay(mustTurn(t, text)); got != want || code != impl.OK {
			t.Errorf("%q: %v, %d", text, got, code)
		}
	}
	for i, u := range append(turnersToTry(), randomTurners(32, 200, 2)...) {
		want := true
		for _, row := range u.Moves {
			for sign, m := range row {
				atEnd := sign == len(row)-1 && m.Dir == 0
				want = want && (m.To < 0 || m.Dir == 1 || atEnd)
			}
		}
		if got, code := impl.IsOneWay(u); got != want || code != impl.OK {
			t.Errorf("%d: %v, %d", i, got, code)
		}
	}
	for i, u := range oddTurners() {
		if yes, code := impl.IsOneWay(u); yes || code != impl.ErrInvalid {
			t.Errorf("invalid %d: %v, %d", i, yes, code)
		}
	}
}

func TestOppositeTurner(t *testing.T) {
	u, code := impl.OppositeTurner(mustTurn(t, "turner 2 2 1\nstate 0> yes 1= 0<\nstate no 1< 0> yes\n"))
	wantTurner(t, "OppositeTurner", u, code, "turner 2 2 1\nstate 0> no 1= 0<\nstate yes 1< 0> no\n", impl.OK)
	for _, u := range append(turnersToTry(), randomTurners(33, 200, 5)...) {
		o, code := impl.OppositeTurner(u)
		wantVerdicts(t, "OppositeTurner", o, code, func(w string) int64 {
			return []int64{0, impl.VdRefuses, impl.VdTakes, impl.VdLoops}[verdictOf(u, w)]
		})
		again, code := impl.OppositeTurner(o)
		wantTurner(t, "twice opposite", again, code, turnerText(u), impl.OK)
	}
	for _, u := range oddTurners() {
		o, code := impl.OppositeTurner(u)
		wantTurnerCode(t, "invalid", o, code, impl.ErrInvalid)
	}
}

func TestThenTurner(t *testing.T) {
	for name, c := range map[string]struct{ t, u, want string }{
		"at the right mark": {example2, "turner 1 2 1\nstate 0> 1> no\nstate 0> 0> yes\n",
			"turner 1 5 0\nstate 0> 0> 1<\nstate 4< no no\nstate 2> 3> no\nstate 2> 2> yes\nstate 4< 2> 4<\n"},
		"at the left mark": {"turner 1 1 0\nstate 0> yes no\n", "turner 1 2 1\nstate no no yes\nstate 1> 0= 1<\n",
			"turner 1 4 0\nstate 0> 1= no\nstate no no yes\nstate 2> 1= 2<\nstate 3< 1= 3<\n"},
		"both stop at once": {"turner 2 1 0\nstate yes yes yes yes\n", "turner 2 1 0\nstate no no yes no\n",
			"turner 2 3 0\nstate 2< 2< yes 2<\nstate no no yes no\nstate 2< 2< yes 2<\n"},
		"start is kept": {"turner 1 2 1\nstate no no yes\nstate 1= 0> no\n", "turner 1 1 0\nstate yes no no\n",
			"turner 1 4 1\nstate no no 3<\nstate 1= 0> no\nstate yes no no\nstate 3< no 3<\n"},
	} {
		u, code := impl.ThenTurner(mustTurn(t, c.t), mustTurn(t, c.u))
		wantTurner(t, name, u, code, c.want, impl.OK)
	}
	rng := rand.New(rand.NewSource(34))
	for i := range 400 {
		letters := 1 + rng.Int63n(3)
		first, second := randomTurner(rng, letters, 1+rng.Intn(5), 3+i%5), randomTurner(rng, letters, 1+rng.Intn(6), 3+i%5)
		both, code := impl.ThenTurner(first, second)
		wantVerdicts(t, "ThenTurner", both, code, func(w string) int64 {
			if verdict := verdictOf(first, w); verdict != impl.VdTakes {
				return verdict
			}
			return verdictOf(second, w)
		})
	}
}

func TestThenTurnerErrors(t *testing.T) {
	odd := oddTurners()[0]
	for name, c := range map[string]struct {
		t, u impl.Turner
		want int64
	}{
		"12 states":               {plainTurner(1, 5), plainTurner(1, 6), impl.OK},
		"12 states, turned round": {plainTurner(1, 10), plainTurner(1, 1), impl.OK},
		"13 states":               {plainTurner(1, 6), plainTurner(1, 6), impl.ErrLimit},
		"14 states":               {plainTurner(3, 1), plainTurner(3, 12), impl.ErrLimit},
		"25 states":               {plainTurner(2, 12), plainTurner(2, 12), impl.ErrLimit},
		"letters":                 {plainTurner(1, 1), plainTurner(2, 1), impl.ErrRange},
		"letters before limit":    {plainTurner(3, 12), plainTurner(2, 12), impl.ErrRange},
		"invalid before letters":  {odd, plainTurner(2, 1), impl.ErrInvalid},
		"second invalid":          {plainTurner(2, 1), odd, impl.ErrInvalid},
		"invalid before limit":    {plainTurner(1, 13), plainTurner(1, 12), impl.ErrInvalid},
		"both invalid":            {odd, odd, impl.ErrInvalid},
	} {
		u, code := impl.ThenTurner(c.t, c.u)
		wantCode(t, name, code, c.want)
		if code != impl.OK && !isZero(u) || code == impl.OK && len(u.Moves) != 12 {
			t.Errorf("%s: %v, %d", name, u, code)
		}
	}
}

func TestMirrorTurner(t *testing.T) {
	u, code := impl.MirrorTurner(mustTurn(t, "turner 2 2 1\nstate 0> yes 1= 0<\nstate no 1< 0> 1=\n"))
	wantTurner(t, "MirrorTurner", u, code, "turner 2 3 2\nstate 0< yes 0> 1=\nstate no 1> 1= 0<\nstate 2> 2> 2> 0<\n", impl.OK)
	u, code = impl.MirrorTurner(mustTurn(t, "turner 1 1 0\nstate 0> yes 0=\n"))
	wantTurner(t, "stops at once", u, code, "turner 1 2 1\nstate 0< 0= yes\nstate 1> 1> yes\n", impl.OK)
	for _, u := range randomTurners(35, 400, 8) {
		m, code := impl.MirrorTurner(u)
		wantVerdicts(t, "MirrorTurner", m, code, func(w string) int64 { return verdictOf(u, turned(w)) })
	}
	m, code := impl.MirrorTurner(plainTurner(2, 11))
	wantCode(t, "12 states", code, impl.OK)
	if len(m.Moves) != 12 || m.Start != 11 {
		t.Errorf("12 states: %v", m)
	}
	m, code = impl.MirrorTurner(plainTurner(2, 12))
	wantTurnerCode(t, "13 states", m, code, impl.ErrLimit)
	for _, u := range oddTurners() {
		m, code := impl.MirrorTurner(u)
		wantTurnerCode(t, "invalid", m, code, impl.ErrInvalid)
	}
}

// ring returns a turner of one letter that stays at it, going from each state to the next one, and from the last one to the given one.
func ring(states int, back int64) impl.Turner {
	t := plainTurner(1, states)
	for s := range t.Moves {
		t.Moves[s][0] = impl.Move{To: int64(s) + 1}
	}
	t.Moves[states-1][0] = impl.Move{To: back}
	return t
}

func TestWithoutStays(t *testing.T) {
	for name, c := range map[string]struct {
		text, want string
		code       int64
	}{
		"nothing stays":    {example2, example2, impl.OK},
		"goes on":          {"turner 1 2 0\nstate 1= 0> no\nstate 0> 1> yes\n", "turner 1 2 0\nstate 0> 0> no\nstate 0> 1> yes\n", impl.OK},
		"stops":            {"turner 1 3 0\nstate 1= 1= 2=\nstate 2= yes no\nstate no 1= 1=\n", "turner 1 3 0\nstate no yes no\nstate no yes no\nstate no yes no\n", impl.OK},
		"at the marks":     {"turner 1 2 1\nstate 0> 1= 1=\nstate 0< 0> 0<\n", "turner 1 2 1\nstate 0> 0> 0<\nstate 0< 0> 0<\n", impl.OK},
		"for ever":         {"turner 1 1 0\nstate 0= 0> no\n", "", impl.ErrState},
		"at the left one":  {"turner 1 2 0\nstate 0> 1= no\nstate 0> 0= no\n", "", impl.ErrState},
		"at the right one": {"turner 1 1 0\nstate 0> 0> 0=\n", "", impl.ErrState},
		"unused":           {"turner 1 2 0\nstate 0> 0> yes\nstate 1= no no\n", "", impl.ErrState},
		"in the end":       {"turner 1 3 0\nstate 1= 0> yes\nstate 2= no no\nstate 1= no no\n", "", impl.ErrState},
		"third letter":     {"turner 3 1 0\nstate 0> 0> 0= 0> yes\n", "", impl.ErrState},
	} {
		u, code := impl.WithoutStays(mustTurn(t, c.text))
		wantTurner(t, name, u, code, c.want, c.code)
	}
	long := ring(12, -1)
	u, code := impl.WithoutStays(long)
	for s := range long.Moves {
		long.Moves[s][0] = impl.Move{To: -1}
	}
	wantTurner(t, "12 states", u, code, turnerText(long), impl.OK)
	for back := range int64(12) {
		u, code := impl.WithoutStays(ring(12, back))
		wantTurnerCode(t, fmt.Sprint("12 states and back to ", back), u, code, impl.ErrState)
	}
	for _, u := range oddTurners() {
		v, code := impl.WithoutStays(u)
		wantTurnerCode(t, "invalid", v, code, impl.ErrInvalid)
	}
}

// staysForEver reports whether a turner stays for ever, beginning in some state with some letter or mark.
func staysForEver(u impl.Turner) bool {
	for state := range u.Moves {
		for sign := range u.Moves[state] {
			m := u.Moves[state][sign]
			for range 100 {
				if m.To >= 0 && m.Dir == 0 {
					m = u.Moves[m.To][sign]
				}
			}
			if m.To >= 0 && m.Dir == 0 {
				return true
			}
		}
	}
	return false
}

func TestWithoutStaysOfMany(t *testing.T) {
	done := 0
	for _, u := range append(randomTurners(36, 600, 5), randomTurners(37, 100, 12)...) {
		v, code := impl.WithoutStays(u)
		if staysForEver(u) {
			wantTurnerCode(t, turnerText(u), v, code, impl.ErrState)
			continue
		}
		done++
		wantVerdicts(t, "WithoutStays", v, code, func(w string) int64 { return verdictOf(u, w) })
		if strings.Contains(turnerText(v), "=") || len(v.Moves) != len(u.Moves) || v.Start != u.Start {
			t.Fatalf("%v: %v", u, v)
		}
		for state, row := range u.Moves {
			for sign, m := range row {
				if (m.To < 0 || m.Dir != 0) && v.Moves[state][sign] != m {
					t.Fatalf("%v: a move that does not stay is changed: %v", u, v)
				}
			}
		}
	}
	if done < 100 {
		t.Errorf("only %d turners without stays", done)
	}
}

// usedStates adds states until nothing is added.
func usedStates(u impl.Turner) []int64 {
	used := map[int64]bool{u.Start: true}
	for range u.Moves {
		for state, row := range u.Moves {
			for _, m := range row {
				if used[int64(state)] && m.To >= 0 {
					used[m.To] = true
				}
			}
		}
	}
	var list []int64
	for state := range int64(len(u.Moves)) {
		if used[state] {
			list = append(list, state)
		}
	}
	return list
}

func TestUsedStatesAndTrimTurner(t *testing.T) {
	for name, c := range map[string]struct {
		text string
		used []int64
		want string
	}{
		"all":             {example2, []int64{0, 1}, example2},
		"start alone":     {"turner 1 3 1\nstate 0> 1> yes\nstate no 1> yes\nstate 0> 1= 2<\n", []int64{1}, "turner 1 1 0\nstate no 0> yes\n"},
		"by a stay":       {"turner 1 3 2\nstate 0> 1> yes\nstate no no no\nstate 1= no no\n", []int64{1, 2}, "turner 1 2 1\nstate no no no\nstate 0= no no\n"},
		"whatever stands": {"turner 1 3 0\nstate no 0> 2<\nstate 1> 1> yes\nstate 0< no no\n", []int64{0, 2}, "turner 1 2 0\nstate no 0> 1<\nstate 0< no no\n"},
		"downwards":       {"turner 1 4 3\nstate yes 0> 0=\nstate 0> no no\nstate 2> 2> 2<\nstate 1> no no\n", []int64{0, 1, 3}, "turner 1 3 2\nstate yes 0> 0=\nstate 0> no no\nstate 1> no no\n"},
	} {
		u := mustTurn(t, c.text)
		if used, code := impl.UsedStates(u); !slices.Equal(used, c.used) || code != impl.OK {
			t.Errorf("%s: %v, %d", name, used, code)
		}
		trimmed, code := impl.TrimTurner(u)
		wantTurner(t, name, trimmed, code, c.want, impl.OK)
	}
	for _, u := range append(turnersToTry(), randomTurners(38, 400, 12)...) {
		used, code := impl.UsedStates(u)
		if !slices.Equal(used, usedStates(u)) || code != impl.OK {
			t.Fatalf("UsedStates %q: %v, %d", turnerText(u), used, code)
		}
		trimmed, code := impl.TrimTurner(u)
		wantVerdicts(t, "TrimTurner", trimmed, code, func(w string) int64 { return verdictOf(u, w) })
		if len(trimmed.Moves) != len(used) || len(usedStates(trimmed)) != len(used) {
			t.Fatalf("TrimTurner %q: %v", turnerText(u), trimmed)
		}
		for state, row := range trimmed.Moves {
			for sign, m := range row {
				if m.To >= 0 {
					m.To = used[m.To]
				}
				if u.Moves[used[state]][sign] != m {
					t.Fatalf("TrimTurner %q: %v", turnerText(u), trimmed)
				}
			}
		}
	}
	for _, u := range oddTurners() {
		used, one := impl.UsedStates(u)
		trimmed, two := impl.TrimTurner(u)
		if one != impl.ErrInvalid || len(used) > 0 {
			t.Errorf("UsedStates of an invalid one: %v, %d", used, one)
		}
		wantTurnerCode(t, "invalid", trimmed, two, impl.ErrInvalid)
	}
}

// moduliTo returns all lists of numbers with at most a sum.
func moduliTo(sum int64) [][]int64 {
	lists := [][]int64{nil}
	for i := 0; i < len(lists); i++ {
		left := sum
		for _, m := range lists[i] {
			left -= m
		}
		for m := int64(1); m <= left; m++ {
			lists = append(lists, append(slices.Clone(lists[i]), m))
		}
	}
	return lists[1:]
}

func TestModTurner(t *testing.T) {
	for _, c := range []struct {
		letters int64
		moduli  []int64
		want    string
	}{
		{1, []int64{1}, "turner 1 1 0\nstate 0> 0> yes\n"},
		{2, []int64{3}, "turner 2 3 0\nstate 1> 1> 0> yes\nstate 2> 2> 1> no\nstate 0> 0> 2> no\n"},
		{1, []int64{2, 1}, "turner 1 3 0\nstate 1> 0> 2<\nstate 0> 1> no\nstate 2< yes 2<\n"},
		{1, []int64{1, 2, 1}, "turner 1 4 0\nstate 0> 0> 1<\nstate 2< 3> 1<\nstate 1< no 2<\nstate 3> 3> yes\n"},
	} {
		u, code := impl.ModTurner(c.letters, c.moduli)
		wantTurner(t, fmt.Sprint(c.moduli), u, code, c.want, impl.OK)
	}
	for i, moduli := range moduliTo(8) {
		u, code := impl.ModTurner(int64(1+i%3), moduli)
		wantVerdicts(t, fmt.Sprint(moduli), u, code, func(w string) int64 {
			for _, m := range moduli {
				if int64(len(w))%m != 0 {
					return impl.VdRefuses
				}
			}
			return impl.VdTakes
		})
		if u.Start != 0 || u.Letters != int64(1+i%3) {
			t.Errorf("%v: %v", moduli, u)
		}
	}
	u, _ := impl.ModTurner(2, []int64{3, 4, 5})
	for length := range 61 {
		want := int64(impl.VdRefuses)
		if length == 0 || length == 60 {
			want = impl.VdTakes
		}
		if got := verdictOf(u, strings.Repeat("ab", 30)[:length]); got != want {
			t.Errorf("%d letters: %d", length, got)
		}
	}
}

func TestModTurnerErrors(t *testing.T) {
	ones := make([]int64, 13)
	for i := range ones {
		ones[i] = 1
	}
	for name, c := range map[string]struct {
		letters int64
		moduli  []int64
		want    int64
	}{
		"12 states":             {3, []int64{12}, impl.OK},
		"12 states, 12 passes":  {1, ones[:12], impl.OK},
		"12 states, 2 passes":   {1, []int64{5, 7}, impl.OK},
		"13 states":             {1, []int64{13}, impl.ErrLimit},
		"13 states, 13 passes":  {1, ones, impl.ErrLimit},
		"13 states, 3 passes":   {1, []int64{5, 7, 1}, impl.ErrLimit},
		"greatest number":       {1, []int64{math.MaxInt64}, impl.ErrLimit},
		"greatest numbers":      {1, []int64{math.MaxInt64, math.MaxInt64, 14}, impl.ErrLimit},
		"greatest number later": {1, []int64{12, math.MaxInt64 - 3}, impl.ErrLimit},
		"no letters":            {0, []int64{1}, impl.ErrRange},
		"4 letters":             {4, []int64{1}, impl.ErrRange},
		"negative letters":      {math.MinInt64, []int64{1}, impl.ErrRange},
		"most letters":          {math.MaxInt64, []int64{1}, impl.ErrRange},
		"no moduli":             {1, nil, impl.ErrRange},
		"empty moduli":          {1, []int64{}, impl.ErrRange},
		"modulus 0":             {1, []int64{2, 0}, impl.ErrRange},
		"negative modulus":      {1, []int64{-1, 2}, impl.ErrRange},
		"least number":          {1, []int64{2, math.MinInt64}, impl.ErrRange},
		"range before limit":    {1, []int64{13, 0}, impl.ErrRange},
		"letters before limit":  {4, []int64{13}, impl.ErrRange},
		"range in the middle":   {1, []int64{13, 0, 13}, impl.ErrRange},
	} {
		u, code := impl.ModTurner(c.letters, c.moduli)
		wantCode(t, name, code, c.want)
		if code != impl.OK && !isZero(u) || code == impl.OK && (len(u.Moves) != 12 || !isTurner(u)) {
			t.Errorf("%s: %v, %d", name, u, code)
		}
	}
}
