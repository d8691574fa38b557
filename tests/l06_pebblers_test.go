package tests

import (
	"fmt"
	"math"
	"math/rand"
	"slices"
	"strings"
	"testing"

	"loop.example/g01134/impl"
)

// Promise 18.

// pebblerIn returns a pebbler of so many letters, which starts in 0. Moves are written as those of turners, with "+" or "-" in front if the pebble is put or taken, and "/" between both moves of a sign; without it, they are the same.
func pebblerIn(t *testing.T, letters int64, rows ...string) impl.Pebbler {
	t.Helper()
	p := impl.Pebbler{Letters: letters}
	for _, row := range rows {
		var moves []impl.PebbleMove
		for _, both := range strings.Fields(row) {
			first, second, differ := strings.Cut(both, "/")
			if !differ {
				second = first
			}
			moves = append(moves, pebbleMove(first), pebbleMove(second))
		}
		p.Moves = append(p.Moves, moves)
	}
	if !isPebbler(p) {
		t.Fatalf("no pebbler: %q", rows)
	}
	return p
}

func pebbleMove(word string) impl.PebbleMove {
	m := impl.PebbleMove{To: map[string]int64{"yes": -1, "no": -2}[word]}
	if m.To == 0 {
		m.Does = map[byte]int64{'+': impl.PbPut, '-': impl.PbTake}[word[0]]
		last := len(word) - 1
		fmt.Sscan(strings.Trim(word[:last], "+-"), &m.To)
		m.Dir = map[byte]int64{'<': -1, '=': 0, '>': 1}[word[last]]
	}
	return m
}

// pebblerWith returns a pebbler of one letter and two states, in which one move is replaced.
func pebblerWith(state, column int, m impl.PebbleMove) impl.Pebbler {
	stay := impl.PebbleMove{To: 1}
	p := impl.Pebbler{Letters: 1, Moves: [][]impl.PebbleMove{slices.Repeat([]impl.PebbleMove{stay}, 6), slices.Repeat([]impl.PebbleMove{stay}, 6)}}
	p.Moves[state][column] = m
	return p
}

// oddPebblers returns pebblers that are not valid, each for one reason.
func oddPebblers() []impl.Pebbler {
	row := slices.Repeat([]impl.PebbleMove{{To: -1}}, 6)
	one := [][]impl.PebbleMove{row}
	return []impl.Pebbler{
		{},
		{Letters: 1},
		{Letters: 0, Moves: [][]impl.PebbleMove{row[:4]}},
		{Letters: -1, Moves: [][]impl.PebbleMove{row[:2]}},
		{Letters: -2, Moves: [][]impl.PebbleMove{{}}},
		{Letters: 4, Moves: [][]impl.PebbleMove{slices.Repeat(row, 2)}},
		{Letters: math.MaxInt64, Moves: one},
		{Letters: math.MinInt64, Moves: one},
		{Letters: 2, Moves: one},
		{Letters: 1, Moves: [][]impl.PebbleMove{row[:3]}},
		{Letters: 1, Moves: [][]impl.PebbleMove{row[:5]}},
		{Letters: 1, Moves: [][]impl.PebbleMove{row, nil}},
		{Letters: 1, Moves: [][]impl.PebbleMove{row, slices.Repeat([]impl.PebbleMove{{To: -1}}, 7)}},
		{Letters: 1, Start: 1, Moves: one},
		{Letters: 1, Start: -1, Moves: one},
		{Letters: 1, Start: math.MaxInt64, Moves: one},
		pebblerOf(plainTurner(1, 9)),
		pebblerWith(0, 0, impl.PebbleMove{To: 2}),
		pebblerWith(1, 1, impl.PebbleMove{To: -3}),
		pebblerWith(1, 2, impl.PebbleMove{To: math.MinInt64}),
		pebblerWith(1, 2, impl.PebbleMove{To: math.MaxInt64}),
		pebblerWith(0, 0, impl.PebbleMove{To: 0, Dir: 2}),
		pebblerWith(0, 1, impl.PebbleMove{To: 0, Dir: -2}),
		pebblerWith(0, 1, impl.PebbleMove{To: 0, Dir: math.MaxInt64}),
		pebblerWith(0, 1, impl.PebbleMove{To: -1, Dir: 1}),
		pebblerWith(0, 0, impl.PebbleMove{To: -2, Dir: -1}),
		pebblerWith(0, 2, impl.PebbleMove{To: 0, Dir: -1}),
		pebblerWith(0, 3, impl.PebbleMove{To: 0, Dir: -1}),
		pebblerWith(1, 4, impl.PebbleMove{To: 0, Dir: 1}),
		pebblerWith(1, 5, impl.PebbleMove{To: 0, Dir: 1}),
		pebblerWith(0, 0, impl.PebbleMove{To: 0, Does: 3}),
		pebblerWith(0, 1, impl.PebbleMove{To: 0, Does: -1}),
		pebblerWith(0, 1, impl.PebbleMove{To: 0, Does: math.MinInt64}),
		pebblerWith(0, 0, impl.PebbleMove{To: 0, Does: impl.PbTake}),
		pebblerWith(0, 1, impl.PebbleMove{To: 0, Does: impl.PbPut}),
		pebblerWith(1, 2, impl.PebbleMove{To: 0, Does: impl.PbTake}),
		pebblerWith(1, 5, impl.PebbleMove{To: 0, Does: impl.PbPut}),
		pebblerWith(0, 0, impl.PebbleMove{To: -1, Does: impl.PbPut}),
		pebblerWith(0, 0, impl.PebbleMove{To: -2, Does: impl.PbPut}),
		pebblerWith(0, 1, impl.PebbleMove{To: -1, Does: impl.PbTake}),
		pebblerWith(0, 3, impl.PebbleMove{To: -2, Does: impl.PbTake}),
		pebblerWith(0, 3, impl.PebbleMove{To: -2, Does: 3}),
	}
}

// pebblersToTry returns valid pebblers, no two of which are the same.
func pebblersToTry() []impl.Pebbler {
	u, _ := turnerIn(example2)
	list := []impl.Pebbler{
		pebblerOf(u), pebblerOf(plainTurner(1, 1)), pebblerOf(plainTurner(3, 8)),
		pebblerWith(0, 0, impl.PebbleMove{To: 0, Dir: -1}), pebblerWith(0, 0, impl.PebbleMove{To: 0, Dir: 1}), pebblerWith(0, 0, impl.PebbleMove{To: -1}),
		pebblerWith(0, 0, impl.PebbleMove{To: 0, Does: impl.PbPut}), pebblerWith(0, 1, impl.PebbleMove{To: 0, Does: impl.PbTake}),
		pebblerWith(0, 2, impl.PebbleMove{To: 0, Dir: 1, Does: impl.PbPut}), pebblerWith(0, 3, impl.PebbleMove{To: 1, Dir: 1, Does: impl.PbTake}),
		pebblerWith(1, 4, impl.PebbleMove{To: 0, Dir: -1, Does: impl.PbPut}), pebblerWith(1, 5, impl.PebbleMove{To: 1, Dir: -1, Does: impl.PbTake}),
	}
	return append(list, randomPebblers(181, 20)...)
}

func TestValidPebbler(t *testing.T) {
	for i, p := range pebblersToTry() {
		if !isPebbler(p) || !impl.ValidPebbler(p) {
			t.Errorf("pebbler %d is not valid", i)
		}
	}
	for i, p := range oddPebblers() {
		if isPebbler(p) || impl.ValidPebbler(p) {
			t.Errorf("pebbler %d is valid", i)
		}
	}
}

// TestValidPebbleMoves tries all moves above all signs, with and without the pebble.
func TestValidPebbleMoves(t *testing.T) {
	valid := 0
	for column := range 6 {
		for to := int64(-4); to <= 3; to++ {
			for dir := int64(-2); dir <= 2; dir++ {
				for does := int64(-1); does <= 4; does++ {
					p := pebblerWith(1, column, impl.PebbleMove{To: to, Dir: dir, Does: does})
					if got := impl.ValidPebbler(p); got != isPebbler(p) {
						t.Errorf("column %d, to %d, direction %d, does %d: %v", column, to, dir, does, got)
					} else if got {
						valid++
					}
				}
			}
		}
	}
	// Two stops, and to two states in 3, 2 and 2 directions with two things to do, with and without the pebble.
	if valid != 6*2+2*(2*3*2+2*2*2+2*2*2) {
		t.Errorf("%d moves are valid", valid)
	}
}

func TestSamePebbler(t *testing.T) {
	list := append(pebblersToTry(), oddPebblers()...)
	for i, p := range list {
		for k, q := range list {
			if impl.SamePebbler(p, q) != (i == k) {
				t.Errorf("pebblers %d and %d: %v", i, k, impl.SamePebbler(p, q))
			}
		}
	}
	empty := impl.Pebbler{Letters: 1, Moves: [][]impl.PebbleMove{{}}}
	if !impl.SamePebbler(empty, impl.Pebbler{Letters: 1, Moves: [][]impl.PebbleMove{nil}}) || impl.SamePebbler(empty, impl.Pebbler{Letters: 1}) {
		t.Error("empty lists are not compared as they should")
	}
	if !impl.SamePebbler(impl.Pebbler{}, impl.Pebbler{Moves: [][]impl.PebbleMove{}}) {
		t.Error("no lists are not compared as they should")
	}
}

func wantPebbles(t *testing.T, name string, p impl.Pebbler, w string, wantVerdict, wantMoves int64) {
	t.Helper()
	verdict, moves, code := impl.RunPebbler(p, w)
	if verdict != wantVerdict || moves != wantMoves || code != impl.OK {
		t.Errorf("%s, %q: %d after %d, %d, not %d after %d", name, w, verdict, moves, code, wantVerdict, wantMoves)
	}
}

// carriers returns pebblers of one letter that are told in full. The first row of them is that of the state 0: what is done at the letter, at the left mark, and at the right one.
func carriers() map[string][]string {
	return map[string][]string{
		"takes at once":       {"no yes no"},
		"refuses at once":     {"no no no"},
		"stays":               {"no 0= no"},
		"puts":                {"no +0=/yes no"},
		"puts and takes":      {"no +0=/-0= no"},
		"puts and stays":      {"no +0=/0= no"},
		"puts twice":          {"+0>/no +0>/no yes"},
		"left mark with it":   {"no +1>/no no", "2< no no", "no no/yes no"},
		"left mark without":   {"no 1>/no no", "2< no no", "no no/yes no"},
		"right mark with it":  {"0> 0> +1</no", "2> no no", "no no no/yes"},
		"right mark without":  {"0> 0> 1</no", "2> no no", "no no no/yes"},
		"takes, puts again":   {"no +1>/no no", "2< no no", "no no/-3> no", "+4=/no no no", "no/yes no no"},
		"leaves, puts again":  {"no +1>/no no", "2< no no", "no no/3> no", "+4=/no no no", "no/yes no no"},
		"takes it away":       {"no +1>/no no", "2< no no", "no no/-3> no", "4< no no", "no yes/no no"},
		"comes back":          {"+0</yes 0> no"},
		"comes back for ever": {"+0</0< 0> no"},
		"back to the start":   {"+0</-0< 0> no"},
		"to and fro":          {"+1</no 0> yes", "1< 2> no", "2>/-0> no no"},
	}
}

func TestRunPebbler(t *testing.T) {
	for _, c := range []struct {
		name, w        string
		verdict, moves int64
	}{
		{"takes at once", "a", impl.VdTakes, 0},
		{"refuses at once", "", impl.VdRefuses, 0},
		{"stays", "a", impl.VdLoops, 1},
		{"puts", "", impl.VdTakes, 1},
		{"puts and takes", "", impl.VdLoops, 2},
		{"puts and stays", "", impl.VdLoops, 2},
		{"puts twice", "a", impl.VdRefuses, 1},
		{"puts twice", "", impl.VdTakes, 1},
		{"left mark with it", "a", impl.VdTakes, 2},
		{"left mark without", "a", impl.VdRefuses, 2},
		{"right mark with it", "a", impl.VdTakes, 4},
		{"right mark with it", "", impl.VdRefuses, 2},
		{"right mark without", "a", impl.VdRefuses, 4},
		{"takes, puts again", "a", impl.VdTakes, 4},
		{"leaves, puts again", "a", impl.VdRefuses, 3},
		{"takes it away", "a", impl.VdTakes, 4},
		{"comes back", "a", impl.VdTakes, 3},
		{"comes back for ever", "a", impl.VdLoops, 4},
		{"back to the start", "a", impl.VdLoops, 4},
	} {
		wantPebbles(t, c.name, pebblerIn(t, 1, carriers()[c.name]...), c.w, c.verdict, c.moves)
	}
	// It carries the pebble to each letter, and goes back from there to the left mark.
	fro := pebblerIn(t, 1, carriers()["to and fro"]...)
	for length := range int64(61) {
		wantPebbles(t, "to and fro", fro, strings.Repeat("a", int(length)), impl.VdTakes, (length+1)*(length+1))
	}
	for name, w := range map[string]string{"other letter": "b", "capital": "A", "too long": strings.Repeat("a", 61)} {
		if verdict, moves, code := impl.RunPebbler(fro, w); verdict != 0 || moves != 0 || code != impl.ErrInvalid {
			t.Errorf("%s: %d, %d, %d", name, verdict, moves, code)
		}
	}
	for i, p := range oddPebblers() {
		if verdict, moves, code := impl.RunPebbler(p, ""); verdict != 0 || moves != 0 || code != impl.ErrInvalid {
			t.Errorf("pebbler %d: %d, %d, %d", i, verdict, moves, code)
		}
	}
}

// TestPebblerRuns compares pebblers with what is written down move by move; none makes more moves than there are states, cells, and places of the pebble.
func TestPebblerRuns(t *testing.T) {
	rng := rand.New(rand.NewSource(182))
	verdicts, greatest := map[int64]int{}, int64(0)
	for _, p := range append(pebblersToTry(), randomPebblers(183, 1500)...) {
		for _, w := range append(wordsTo(p.Letters, 3), longWords(rng, p.Letters, 6)...) {
			want, made := runPebbler(p, w)
			verdict, moves, code := impl.RunPebbler(p, w)
			if verdict != want || moves != made || code != impl.OK {
				t.Fatalf("%v, %q: %d, %d, %d, not %d, %d", p, w, verdict, moves, code, want, made)
			}
			if cells := len(w) + 2; moves > int64(len(p.Moves)*cells*(cells+1)) {
				t.Fatalf("%v, %q: %d moves", p, w, moves)
			}
			verdicts[want]++
			greatest = max(greatest, moves)
		}
	}
	if len(verdicts) != 3 || greatest < 200 {
		t.Errorf("verdicts %v, at most %d moves", verdicts, greatest)
	}
}

func TestPebblerOf(t *testing.T) {
	p, code := impl.PebblerOf(mustTurn(t, "turner 1 2 1\nstate 0> 1= 1<\nstate yes 0> no\n"))
	want := pebblerIn(t, 1, "0> 1= 1<", "yes 0> no")
	want.Start = 1
	if !alikeAny(p, want) || code != impl.OK {
		t.Errorf("%v, %d", p, code)
	}
	p, code = impl.PebblerOf(plainTurner(3, 8))
	if !alikeAny(p, pebblerOf(plainTurner(3, 8))) || code != impl.OK {
		t.Errorf("8 states: %v, %d", p, code)
	}
	for _, states := range []int{9, 12} {
		p, code := impl.PebblerOf(plainTurner(1, states))
		wantNone(t, "many states", p, code, impl.ErrLimit)
	}
	for _, odd := range oddTurners() {
		p, code := impl.PebblerOf(odd)
		wantNone(t, "invalid", p, code, impl.ErrInvalid)
	}
}

// TestPebblersOfTurners compares pebblers with the turners from which they are made.
func TestPebblersOfTurners(t *testing.T) {
	rng := rand.New(rand.NewSource(184))
	verdicts := map[int64]int{}
	for _, u := range append(turnersToTry(), randomTurners(185, 500, 8)...) {
		p, code := impl.PebblerOf(u)
		if len(u.Moves) > 8 {
			wantNone(t, turnerText(u), p, code, impl.ErrLimit)
			continue
		}
		if !isPebbler(p) || !alikeAny(p, pebblerOf(u)) || code != impl.OK {
			t.Fatalf("%q: %v, %d", turnerText(u), p, code)
		}
		for _, w := range append(wordsTo(u.Letters, 3), longWords(rng, u.Letters, 5)...) {
			run, want := runOf(u, w)
			made := int64(len(run))
			if want != impl.VdLoops {
				made--
			}
			verdicts[want]++
			if verdict, moves, code := impl.RunPebbler(p, w); verdict != want || moves != made || code != impl.OK {
				t.Fatalf("%q, %q: %d, %d, %d, not %d, %d", turnerText(u), w, verdict, moves, code, want, made)
			}
		}
	}
	if len(verdicts) != 3 {
		t.Errorf("verdicts %v", verdicts)
	}
}
