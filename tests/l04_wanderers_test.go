package tests

import (
	"fmt"
	"math"
	"math/rand"
	"slices"
	"strings"
	"testing"

	"loop.example/g01134/impl"
)

// Promise 10, on what wanderers are and how they are made.

// wantWanderer compares a result with the text of the wanderer that is wanted, or with an error.
func wantWanderer(t *testing.T, name string, m impl.Wanderer, code int64, text string, want int64) {
	t.Helper()
	wantCode(t, name, code, want)
	if want != impl.OK {
		if !isZero(m) {
			t.Errorf("%s: %v comes with an error", name, m)
		}
	} else if got := wandererText(m); !isWanderer(m) || got != text {
		t.Errorf("%s: got %q, want %q", name, got, text)
	}
}

func TestConstants4(t *testing.T) {
	if impl.MaxWander != 5 {
		t.Errorf("MaxWander is %d", impl.MaxWander)
	}
}

// wandererWith returns a wanderer of one letter and two states, in which one list of moves is replaced.
func wandererWith(state, sign int, list ...impl.Move) impl.Wanderer {
	m := impl.Wanderer{Letters: 1, Starts: []int64{0}}
	for range 2 {
		m.Moves = append(m.Moves, [][]impl.Move{{{To: 1}}, {{To: 0, Dir: 1}}, {{To: -1}, {To: 1, Dir: -1}}})
	}
	m.Moves[state][sign] = list
	return m
}

// idleWanderer has so many states, and no moves.
func idleWanderer(letters int64, states int) impl.Wanderer {
	m := impl.Wanderer{Letters: letters}
	for range states {
		m.Moves = append(m.Moves, make([][]impl.Move, letters+2))
	}
	return m
}

func startsIn(m impl.Wanderer, starts ...int64) impl.Wanderer {
	m.Starts = starts
	return m
}

// oddWanderers returns wanderers that are not valid, each for one reason.
func oddWanderers() []impl.Wanderer {
	row := make([][]impl.Move, 3)
	return []impl.Wanderer{
		{},
		{Letters: 1},
		{Letters: 0, Moves: [][][]impl.Move{row[:2]}},
		{Letters: -1, Moves: [][][]impl.Move{row[:1]}},
		{Letters: -2, Moves: [][][]impl.Move{{}}},
		{Letters: 4, Moves: [][][]impl.Move{make([][]impl.Move, 6)}},
		{Letters: math.MaxInt64, Moves: [][][]impl.Move{row}},
		{Letters: math.MinInt64, Moves: [][][]impl.Move{row}},
		{Letters: 2, Moves: [][][]impl.Move{row}},
		{Letters: 1, Moves: [][][]impl.Move{row[:2]}},
		{Letters: 1, Moves: [][][]impl.Move{row, nil}},
		{Letters: 1, Moves: [][][]impl.Move{row, make([][]impl.Move, 4)}},
		idleWanderer(1, 6),
		startsIn(idleWanderer(1, 1), 1),
		startsIn(idleWanderer(1, 1), -1),
		startsIn(idleWanderer(1, 2), 0, 2),
		startsIn(idleWanderer(1, 2), 1, 0),
		startsIn(idleWanderer(1, 2), 1, 1),
		startsIn(idleWanderer(1, 5), 0, 1, 2, 3, 4, 5),
		startsIn(idleWanderer(1, 2), math.MinInt64),
		startsIn(idleWanderer(1, 2), 0, math.MaxInt64),
		wandererWith(0, 0, impl.Move{To: -2}),
		wandererWith(1, 2, impl.Move{To: -2}),
		wandererWith(0, 1, impl.Move{To: -2}, impl.Move{To: -1}),
		wandererWith(1, 0, impl.Move{To: -3}),
		wandererWith(1, 0, impl.Move{To: 2}),
		wandererWith(0, 0, impl.Move{To: 0, Dir: 2}),
		wandererWith(0, 0, impl.Move{To: 0, Dir: -2}),
		wandererWith(0, 0, impl.Move{To: -1, Dir: 1}),
		wandererWith(0, 2, impl.Move{To: -1, Dir: -1}),
		wandererWith(0, 1, impl.Move{To: 0, Dir: -1}),
		wandererWith(1, 2, impl.Move{To: 0, Dir: 1}),
		wandererWith(0, 0, impl.Move{To: math.MinInt64}),
		wandererWith(0, 0, impl.Move{To: math.MaxInt64}),
		wandererWith(0, 0, impl.Move{To: 0, Dir: math.MaxInt64}),
		wandererWith(0, 0, impl.Move{To: 0}, impl.Move{To: 0}),
		wandererWith(0, 0, impl.Move{To: -1}, impl.Move{To: -1}),
		wandererWith(0, 0, impl.Move{To: 0}, impl.Move{To: -1}),
		wandererWith(0, 0, impl.Move{To: 1}, impl.Move{To: 0}),
		wandererWith(0, 0, impl.Move{To: 1, Dir: -1}, impl.Move{To: 0, Dir: 1}),
		wandererWith(0, 0, impl.Move{To: 0, Dir: 1}, impl.Move{To: 0}),
		wandererWith(0, 0, impl.Move{To: 0}, impl.Move{To: 0, Dir: -1}),
		wandererWith(0, 0, impl.Move{To: 0}, impl.Move{To: 1}, impl.Move{To: 1}),
		wandererWith(0, 0, impl.Move{To: 0}, impl.Move{To: 1}, impl.Move{To: 0, Dir: 1}),
	}
}

// wanderersToTry returns valid wanderers, no two of which are the same.
func wanderersToTry() []impl.Wanderer {
	u, _ := turnerIn(example2)
	list := []impl.Wanderer{
		wandererOf(u), wandererOf(plainTurner(1, 1)), wandererOf(plainTurner(3, 5)),
		idleWanderer(1, 1), startsIn(idleWanderer(1, 1), 0), startsIn(idleWanderer(3, 5), 0, 1, 2, 3, 4), startsIn(idleWanderer(2, 3), 0, 2), startsIn(idleWanderer(2, 3), 2),
		wandererWith(0, 0), wandererWith(0, 0, impl.Move{To: 1}), wandererWith(0, 0, impl.Move{To: 0}), wandererWith(0, 0, impl.Move{To: 0, Dir: -1}),
		wandererWith(0, 0, impl.Move{To: -1}, impl.Move{To: 0, Dir: -1}, impl.Move{To: 0}, impl.Move{To: 0, Dir: 1}, impl.Move{To: 1, Dir: -1}, impl.Move{To: 1}, impl.Move{To: 1, Dir: 1}),
		wandererWith(1, 1, impl.Move{To: -1}, impl.Move{To: 0}, impl.Move{To: 0, Dir: 1}, impl.Move{To: 1}, impl.Move{To: 1, Dir: 1}),
		wandererWith(1, 2, impl.Move{To: -1}, impl.Move{To: 0, Dir: -1}, impl.Move{To: 0}, impl.Move{To: 1, Dir: -1}, impl.Move{To: 1}),
		wandererWith(0, 0, impl.Move{To: 0, Dir: 1}, impl.Move{To: 1, Dir: -1}),
	}
	return append(list, randomWanderers(81, 18)...)
}

func TestValidWanderer(t *testing.T) {
	for i, m := range wanderersToTry() {
		if !isWanderer(m) || !impl.ValidWanderer(m) {
			t.Errorf("wanderer %d is not valid", i)
		}
	}
	for i, m := range oddWanderers() {
		if isWanderer(m) || impl.ValidWanderer(m) {
			t.Errorf("wanderer %d is valid", i)
		}
	}
}

// TestValidMoveLists tries all lists of one move, and of two, above all signs.
func TestValidMoveLists(t *testing.T) {
	var moves []impl.Move
	for to := int64(-3); to <= 2; to++ {
		for dir := int64(-2); dir <= 2; dir++ {
			moves = append(moves, impl.Move{To: to, Dir: dir})
		}
	}
	valid := 0
	for sign := range 3 {
		for _, one := range moves {
			for _, two := range moves {
				for _, m := range []impl.Wanderer{wandererWith(1, sign, one), wandererWith(0, sign, one, two)} {
					want := isWanderer(m)
					if got := impl.ValidWanderer(m); got != want {
						t.Fatalf("%v, %v: %v", one, two, got)
					}
					if want {
						valid++
					}
				}
			}
		}
	}
	if valid < 500 {
		t.Errorf("only %d wanderers are valid", valid)
	}
}

func TestSameWanderer(t *testing.T) {
	all := append(oddWanderers(), wanderersToTry()...)
	for i, m := range all {
		for k, n := range all {
			if got := impl.SameWanderer(m, n); got != (i == k) {
				t.Errorf("%d and %d: %v", i, k, got)
			}
		}
	}
	m, n := idleWanderer(1, 1), idleWanderer(1, 1)
	n.Starts, n.Moves[0][1] = []int64{}, []impl.Move{}
	if !impl.SameWanderer(m, n) || !impl.SameWanderer(impl.Wanderer{}, impl.Wanderer{Moves: [][][]impl.Move{}}) {
		t.Error("nil and empty slices are not the same")
	}
}

func TestWandererOf(t *testing.T) {
	m, code := impl.WandererOf(mustTurn(t, example2))
	wantWanderer(t, "example", m, code, "wanderer 1 2 0\nstate 0> 0> 1<\nstate yes - -\n", impl.OK)
	m, code = impl.WandererOf(mustTurn(t, "turner 2 2 1\nstate 1= no 1> yes\nstate no no 0= 0<\n"))
	wantWanderer(t, "refusing", m, code, "wanderer 2 2 1\nstate 1= - 1> yes\nstate - - 0= 0<\n", impl.OK)
	made := 0
	for _, u := range crossingTurners() {
		m, code := impl.WandererOf(u)
		if len(u.Moves) > 5 {
			wantWanderer(t, "many states", m, code, "", impl.ErrLimit)
			continue
		}
		made++
		wantWanderer(t, turnerText(u), m, code, wandererText(wandererOf(u)), impl.OK)
	}
	if made < 300 {
		t.Errorf("only %d wanderers", made)
	}
	for states, want := range map[int]int64{1: impl.OK, 5: impl.OK, 6: impl.ErrLimit, 12: impl.ErrLimit, 13: impl.ErrInvalid} {
		m, code := impl.WandererOf(plainTurner(2, states))
		wantWanderer(t, fmt.Sprint(states), m, code, wandererText(wandererOf(plainTurner(2, states))), want)
	}
	for _, odd := range oddTurners() {
		m, code := impl.WandererOf(odd)
		wantWanderer(t, "invalid", m, code, "", impl.ErrInvalid)
	}
}

// TestWandererOfVerdicts compares what wanderers of turners take with the verdicts of runs.
func TestWandererOfVerdicts(t *testing.T) {
	for _, u := range crossingTurners() {
		m, code := impl.WandererOf(u)
		if code != impl.OK {
			continue
		}
		for _, w := range runWords(u.Letters) {
			yes, code := impl.WandererTakes(m, w)
			if yes != (verdictOf(u, w) == impl.VdTakes) || code != impl.OK {
				t.Fatalf("%q %q: %v, %d", turnerText(u), w, yes, code)
			}
		}
	}
}

func TestEitherWanderer(t *testing.T) {
	m := mustWander(t, "wanderer 1 2 0\nstate 0> 0> 1<\nstate yes - -\n")
	n := mustWander(t, "wanderer 1 3 0,2\nstate yes,0<,2= - -\nstate 1>,2< 0>,1= yes,2<\nstate - 2> yes\n")
	either, code := impl.EitherWanderer(m, n)
	wantWanderer(t, "two and three", either, code, "wanderer 1 5 0,2,4\nstate 0> 0> 1<\nstate yes - -\nstate yes,2<,4= - -\nstate 3>,4< 2>,3= yes,4<\nstate - 4> yes\n", impl.OK)
	either, code = impl.EitherWanderer(n, m)
	wantWanderer(t, "three and two", either, code, "wanderer 1 5 0,2,3\nstate yes,0<,2= - -\nstate 1>,2< 0>,1= yes,2<\nstate - 2> yes\nstate 3> 3> 4<\nstate yes - -\n", impl.OK)
	either, code = impl.EitherWanderer(idleWanderer(1, 1), m)
	wantWanderer(t, "without a start", either, code, "wanderer 1 3 1\nstate - - -\nstate 1> 1> 2<\nstate yes - -\n", impl.OK)
	rng := rand.New(rand.NewSource(82))
	kinds := map[string]int{}
	all := randomWanderers(83, 400)
	for range 4000 {
		m, n := all[rng.Intn(len(all))], all[rng.Intn(len(all))]
		if m.Letters != n.Letters || len(m.Moves)+len(n.Moves) > 5 {
			continue
		}
		either, code := impl.EitherWanderer(m, n)
		wantCode(t, "EitherWanderer", code, impl.OK)
		if !isWanderer(either) {
			t.Fatalf("%q %q: %v", wandererText(m), wandererText(n), either)
		}
		for _, w := range wordsTo(m.Letters, 2) {
			one, two := wandererTakes(m, w), wandererTakes(n, w)
			kinds[fmt.Sprint(one, two)]++
			if wandererTakes(either, w) != (one || two) {
				t.Fatalf("%q %q: %q is taken wrongly", wandererText(m), wandererText(n), w)
			}
		}
	}
	for _, kind := range []string{"false false", "false true", "true false", "true true"} {
		if kinds[kind] < 50 {
			t.Errorf("%s comes only %d times", kind, kinds[kind])
		}
	}
}

func TestEitherWandererErrors(t *testing.T) {
	one, three, odd := idleWanderer(1, 1), idleWanderer(1, 3), oddWanderers()[21]
	for name, c := range map[string]struct {
		m, n impl.Wanderer
		want int64
	}{
		"5 states":              {idleWanderer(2, 4), idleWanderer(2, 1), impl.OK},
		"5 states, exchanged":   {idleWanderer(2, 1), idleWanderer(2, 4), impl.OK},
		"6 states":              {idleWanderer(2, 3), idleWanderer(2, 3), impl.ErrLimit},
		"6 states, 5 and 1":     {idleWanderer(2, 5), idleWanderer(2, 1), impl.ErrLimit},
		"10 states":             {idleWanderer(1, 5), idleWanderer(1, 5), impl.ErrLimit},
		"letters":               {one, idleWanderer(2, 1), impl.ErrRange},
		"letters, exchanged":    {idleWanderer(3, 1), idleWanderer(2, 1), impl.ErrRange},
		"letters before limit":  {idleWanderer(1, 5), idleWanderer(2, 5), impl.ErrRange},
		"first invalid":         {odd, three, impl.ErrInvalid},
		"second invalid":        {three, odd, impl.ErrInvalid},
		"both invalid":          {odd, odd, impl.ErrInvalid},
		"invalid before letter": {idleWanderer(2, 1), odd, impl.ErrInvalid},
		"invalid before limit":  {idleWanderer(1, 5), idleWanderer(1, 6), impl.ErrInvalid},
		"nothing":               {impl.Wanderer{}, impl.Wanderer{}, impl.ErrInvalid},
	} {
		m, code := impl.EitherWanderer(c.m, c.n)
		wantWanderer(t, name, m, code, wandererText(idleWanderer(c.m.Letters, len(c.m.Moves)+len(c.n.Moves))), c.want)
	}
	for _, odd := range oddWanderers() {
		m, first := impl.EitherWanderer(odd, one)
		n, second := impl.EitherWanderer(one, odd)
		wantWanderer(t, "first odd", m, first, "", impl.ErrInvalid)
		wantWanderer(t, "second odd", n, second, "", impl.ErrInvalid)
	}
}

// wandererWords returns short words, and some long ones.
func wandererWords(rng *rand.Rand, letters int64) []string {
	return slices.Concat(wordsTo(letters, 2), longWords(rng, letters, 1), []string{strings.Repeat("abc"[:letters], 60)[:60]})
}

func TestNextPlaces(t *testing.T) {
	m := mustWander(t, "wanderer 1 3 0\nstate yes,0<,0=,1>,2<,2> yes,1=,2> -\nstate 0<,0=,0> - yes\nstate - 0> 0<,1<,2=\n")
	for _, c := range []struct {
		p    impl.Place
		want string
	}{
		{impl.Place{State: 0, At: 1}, "[{0 0} {0 1} {1 2} {2 0} {2 2}] true 0"},
		{impl.Place{State: 1, At: 1}, "[{0 0} {0 1} {0 2}] false 0"},
		{impl.Place{State: 2, At: 1}, "[] false 0"},
		{impl.Place{State: 0, At: 0}, "[{1 0} {2 1}] true 0"},
		{impl.Place{State: 1, At: 0}, "[] false 0"},
		{impl.Place{State: 2, At: 0}, "[{0 1}] false 0"},
		{impl.Place{State: 0, At: 2}, "[] false 0"},
		{impl.Place{State: 1, At: 2}, "[] true 0"},
		{impl.Place{State: 2, At: 2}, "[{0 1} {1 1} {2 2}] false 0"},
		{impl.Place{State: 3, At: 1}, "[] false 2"},
		{impl.Place{State: -1, At: 1}, "[] false 2"},
		{impl.Place{State: 0, At: 3}, "[] false 2"},
		{impl.Place{State: 0, At: -1}, "[] false 2"},
		{impl.Place{State: math.MaxInt64, At: math.MaxInt64}, "[] false 2"},
		{impl.Place{State: math.MinInt64, At: math.MinInt64}, "[] false 2"},
	} {
		list, yes, code := impl.NextPlaces(m, "a", c.p)
		if got := fmt.Sprint(list, yes, code); got != c.want {
			t.Errorf("%v: got %s, want %s", c.p, got, c.want)
		}
	}
	rng := rand.New(rand.NewSource(84))
	for _, m := range append(wanderersToTry(), randomWanderers(85, 200)...) {
		w := longWords(rng, m.Letters, 1)[0]
		for range 20 {
			p := impl.Place{State: rng.Int63n(int64(len(m.Moves))), At: rng.Int63n(int64(len(w)) + 2)}
			want, wanted := nextPlaces(m, w, p)
			list, yes, code := impl.NextPlaces(m, w, p)
			if !slices.Equal(list, want) || yes != wanted || code != impl.OK {
				t.Fatalf("%q %q %v: %v, %v, %d", wandererText(m), w, p, list, yes, code)
			}
		}
	}
}

// TestWandererErrors gives wanderers and words that are not valid to all functions, together with other faults.
func TestWandererErrors(t *testing.T) {
	m := wanderersToTry()[0]
	type pair struct {
		m impl.Wanderer
		w string
	}
	pairs := []pair{{m, "b"}, {m, "<"}, {m, strings.Repeat("a", 61)}, {m, strings.Repeat("a", 900000)}, {idleWanderer(1, 6), "a"}}
	for _, odd := range oddWanderers() {
		pairs = append(pairs, pair{odd, ""})
	}
	far := impl.Place{State: 9, At: 99}
	for _, c := range pairs {
		next, yes, one := impl.NextPlaces(c.m, c.w, far)
		places, taken, two := impl.ReachedPlaces(c.m, c.w)
		takes, three := impl.WandererTakes(c.m, c.w)
		way, four := impl.FirstWay(c.m, c.w)
		good, five := impl.CheckWay(c.m, c.w, []impl.Place{far})
		labels, six := impl.LabelsOf(c.m, c.w)
		shown, seven := impl.CheckLabels(c.m, c.w, nil)
		for i, code := range []int64{one, two, three, four, five, six, seven} {
			wantCode(t, fmt.Sprint("function ", i, " with ", c.w[:min(9, len(c.w))]), code, impl.ErrInvalid)
		}
		if len(next)+len(places)+len(way)+len(labels) > 0 || yes || taken || takes || good || shown {
			t.Errorf("%v: something comes with an error", c.m)
		}
	}
}
