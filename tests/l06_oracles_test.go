package tests

import (
	"fmt"
	"math/rand"
	"slices"
	"strings"

	"loop.example/g01134/impl"
)

// What the functions of chapter 6 should return is worked out here in other ways, as directly as the document tells it.

// areDirections reports whether these directions of the states are such as those of a sweeping turner.
func areDirections(t impl.Turner, dirs []int64) bool {
	for s, row := range t.Moves {
		for sign, m := range row {
			switch {
			case m.To < 0:
			case sign < int(t.Letters):
				if m.Dir != dirs[s] || dirs[m.To] != dirs[s] {
					return false
				}
			case sign == int(t.Letters) && m.Dir == 1 && dirs[m.To] != 1:
				return false
			case sign > int(t.Letters) && m.Dir == -1 && dirs[m.To] != -1:
				return false
			}
		}
	}
	return true
}

// sweepDirections tries all directions of the states; those to the right come first, so that the first ones that are such as they should have most of them.
func sweepDirections(t impl.Turner) ([]int64, bool) {
	for choice := range 1 << len(t.Moves) {
		dirs := make([]int64, len(t.Moves))
		for s := range dirs {
			dirs[s] = 1 - 2*int64(choice>>s&1)
		}
		if areDirections(t, dirs) {
			return dirs, true
		}
	}
	return nil, false
}

// passOf goes through a text of any length in a direction; -1 and -2 are for stops.
func passOf(t impl.Turner, text string, s, dir int64) int64 {
	at := 0
	if dir < 0 {
		at = len(text) - 1
	}
	e := exitOf(t, text, s, at, int(dir))
	if e.Side != dir && e.Side != 0 {
		panic("a turner turns at a letter")
	}
	return e.To
}

// passesOf counts in a run how often the mark is another one than that before.
func passesOf(t impl.Turner, w string) (int64, bool) {
	run, verdict := runOf(t, w)
	passes, last := int64(0), int64(0)
	for _, p := range run {
		if end := int64(len(w)) + 1; p.At != last && (p.At == 0 || p.At == end) {
			passes++
			last = p.At
		}
	}
	return passes, verdict != impl.VdLoops
}

// sweepLists returns the first texts of all lists of passes, at most so many.
func sweepLists(t impl.Turner, dirs []int64, most int) []string {
	return keyed(t.Letters, most, func(text string) string {
		var list []int64
		for s, dir := range dirs {
			list = append(list, passOf(t, text, int64(s), dir))
		}
		return fmt.Sprint(list)
	})
}

// randomSweeper returns a turner whose states have directions of their own, and that stops with one of so many moves.
func randomSweeper(rng *rand.Rand, letters int64, states, stops int) impl.Turner {
	t := impl.Turner{Letters: letters, Start: rng.Int63n(int64(states))}
	sides := map[int64][]int64{}
	dirs := make([]int64, states)
	for s := range dirs {
		dirs[s] = 2*rng.Int63n(2) - 1
		sides[dirs[s]] = append(sides[dirs[s]], int64(s))
	}
	// move leads to a state with the direction, or stops.
	move := func(dir int64) impl.Move {
		if len(sides[dir]) == 0 || rng.Intn(stops) == 0 {
			return impl.Move{To: -1 - rng.Int63n(2)}
		}
		return impl.Move{To: sides[dir][rng.Intn(len(sides[dir]))], Dir: dir}
	}
	for s := range states {
		var row []impl.Move
		for range letters {
			row = append(row, move(dirs[s]))
		}
		row = append(row, move(1), move(-1))
		for i := range row[letters:] {
			if rng.Intn(6) == 0 {
				row[int(letters)+i] = impl.Move{To: rng.Int63n(int64(states))}
			}
		}
		t.Moves = append(t.Moves, row)
	}
	return t
}

func isRotator(r impl.Rotator) bool {
	n := len(r.Next)
	ok := r.Letters >= 1 && r.Letters <= 3 && n >= 1 && n <= 6 && inList(n, r.Start) && len(r.End) == n
	for _, row := range r.Next {
		ok = ok && len(row) == int(r.Letters) && inList(n, row...)
	}
	for _, end := range r.End {
		ok = ok && (end == -1 || end == -2 || inList(n, end))
	}
	return ok
}

// runRotator reads a text of any length again and again.
func runRotator(r impl.Rotator, text string) (verdict, ends int64) {
	var begun []int64
	for s := r.Start; !slices.Contains(begun, s); {
		begun = append(begun, s)
		for _, letter := range text {
			s = r.Next[s][letter-'a']
		}
		s = r.End[s]
		if s < 0 {
			return -s, int64(len(begun))
		}
	}
	return impl.VdLoops, int64(len(begun))
}

func spun(r impl.Rotator, w string) int64 {
	verdict, _ := runRotator(r, w)
	return verdict
}

// rotatorLists returns the first texts of all lists of states to which all states come, at most so many.
func rotatorLists(r impl.Rotator, most int) []string {
	return keyed(r.Letters, most, func(text string) string {
		var list []int64
		for s := range r.Next {
			for _, letter := range text {
				s = int(r.Next[s][letter-'a'])
			}
			list = append(list, int64(s))
		}
		return fmt.Sprint(list)
	})
}

func randomRotator(rng *rand.Rand, letters int64, states int) impl.Rotator {
	r := impl.Rotator{Letters: letters, Start: rng.Int63n(int64(states))}
	for range states {
		var row []int64
		for range letters {
			row = append(row, rng.Int63n(int64(states)))
		}
		r.Next = append(r.Next, row)
		end := rng.Int63n(int64(states))
		if rng.Intn(3) == 0 {
			end = -1 - rng.Int63n(2)
		}
		r.End = append(r.End, end)
	}
	return r
}

func randomRotators(seed int64, count int) []impl.Rotator {
	rng := rand.New(rand.NewSource(seed))
	var list []impl.Rotator
	for range count {
		list = append(list, randomRotator(rng, 1+rng.Int63n(3), 1+rng.Intn(6)))
	}
	return list
}

// isNthLast reports whether the letter with this number from the end is "a".
func isNthLast(w string, n int) bool {
	return len(w) >= n && w[len(w)-n] == 'a'
}

func isPebbler(p impl.Pebbler) bool {
	n := len(p.Moves)
	if p.Letters < 1 || p.Letters > 3 || n < 1 || n > 8 || !inList(n, p.Start) {
		return false
	}
	for _, row := range p.Moves {
		if len(row) != 2*int(p.Letters)+4 {
			return false
		}
		for i, m := range row {
			signs := strings.Repeat("a", int(p.Letters)) + "<>"
			sign, lies := signs[i/2], i%2 == 1
			stops := (m.To == -1 || m.To == -2) && m.Dir == 0 && m.Does == 0
			goes := inList(n, m.To) && m.Dir >= -1 && m.Dir <= 1
			falls := sign == '<' && m.Dir == -1 || sign == '>' && m.Dir == 1
			does := m.Does == 0 || m.Does == 1 && !lies || m.Does == 2 && lies
			if !stops && !goes || falls || !does {
				return false
			}
		}
	}
	return true
}

// runPebbler writes down state, cell and pebble until they come again. The pebble is a "*" in a text of the cells.
func runPebbler(p impl.Pebbler, w string) (verdict, moves int64) {
	signs := "abc"[:p.Letters] + "<>"
	cells := []byte("<" + w + ">")
	floor := []byte(strings.Repeat(".", len(cells)))
	met := map[string]bool{}
	for s, at := p.Start, int64(0); ; moves++ {
		now := fmt.Sprint(s, " ", at, " ", string(floor))
		if met[now] {
			return impl.VdLoops, moves
		}
		met[now] = true
		lies := 0
		if floor[at] == '*' {
			lies = 1
		}
		m := p.Moves[s][2*strings.IndexByte(signs, cells[at])+lies]
		switch {
		case m.To < 0:
			return -m.To, moves
		case m.Does == impl.PbPut && strings.Contains(string(floor), "*"):
			return impl.VdRefuses, moves
		case m.Does == impl.PbPut:
			floor[at] = '*'
		case m.Does == impl.PbTake:
			floor[at] = '.'
		}
		s, at = m.To, at+m.Dir
	}
}

// randomPebbler returns a pebbler that stops with one of so many moves.
func randomPebbler(rng *rand.Rand, letters int64, states, stops int) impl.Pebbler {
	t := randomTurner(rng, letters, states, stops)
	p := impl.Pebbler{Letters: letters, Start: t.Start}
	for _, row := range t.Moves {
		other := randomTurner(rng, letters, states, stops).Moves[0]
		var moves []impl.PebbleMove
		for sign, m := range row {
			without := impl.PebbleMove{To: m.To, Dir: m.Dir}
			with := impl.PebbleMove{To: other[sign].To, Dir: other[sign].Dir}
			if without.To >= 0 && rng.Intn(3) == 0 {
				without.Does = impl.PbPut
			}
			if with.To >= 0 && rng.Intn(2) == 0 {
				with.Does = impl.PbTake
			}
			moves = append(moves, without, with)
		}
		p.Moves = append(p.Moves, moves)
	}
	return p
}

func randomPebblers(seed int64, count int) []impl.Pebbler {
	rng := rand.New(rand.NewSource(seed))
	var list []impl.Pebbler
	for i := range count {
		list = append(list, randomPebbler(rng, 1+rng.Int63n(3), 1+rng.Intn(8), 5+i%12))
	}
	return list
}

// pebblerOf returns a turner as a pebbler, each of its moves coming twice.
func pebblerOf(t impl.Turner) impl.Pebbler {
	p := impl.Pebbler{Letters: t.Letters, Start: t.Start}
	for _, row := range t.Moves {
		moves := make([]impl.PebbleMove, 2*len(row))
		for i := range moves {
			moves[i].To, moves[i].Dir = row[i/2].To, row[i/2].Dir
		}
		p.Moves = append(p.Moves, moves)
	}
	return p
}
