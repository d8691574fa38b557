package tests

import (
	"cmp"
	"fmt"
	"math/rand"
	"slices"
	"strings"
	"testing"

	"loop.example/g01134/impl"
)

// What the functions of chapter 4 should return is worked out here border by border, move by move and place by place.

// crossingsOf looks at each border for itself; false if the run goes on for ever.
func crossingsOf(t impl.Turner, w string) ([][]int64, bool) {
	run, verdict := runOf(t, w)
	list := make([][]int64, len(w)+1)
	for border := range list {
		for i := 1; i < len(run); i++ {
			if (run[i-1].At <= int64(border)) != (run[i].At <= int64(border)) {
				list[border] = append(list[border], run[i].State)
			}
		}
	}
	return list, verdict != impl.VdLoops
}

// fits goes move by move through a cell, in which it already is.
func fits(t impl.Turner, cell string, state int64, left, right []int64, stays int) (bool, int64) {
	m := t.Moves[state][strings.Index("abc"[:t.Letters]+"<>", cell)]
	border, other := left, right
	if m.Dir > 0 {
		border, other = right, left
	}
	switch {
	case m.To < 0:
		if len(left)+len(right) > 0 {
			return false, 0
		}
		return true, -m.To
	case m.Dir == 0:
		if stays == len(t.Moves) {
			return false, 0
		}
		return fits(t, cell, m.To, left, right, stays+1)
	case len(border) == 0 || border[0] != m.To:
		return false, 0
	case len(border) == 1:
		return len(other) == 0, 0
	case m.Dir > 0:
		return fits(t, cell, right[1], left, right[2:], 0)
	}
	return fits(t, cell, left[1], left[2:], right, 0)
}

// cellFits reports whether a cell fits two sequences, and the verdict in it.
func cellFits(t impl.Turner, cell string, left, right []int64) (bool, int64) {
	if cell == "<" {
		if len(left) > 0 {
			return false, 0
		}
		return fits(t, cell, t.Start, nil, right, 0)
	}
	if len(left) == 0 {
		return len(right) == 0, 0
	}
	return fits(t, cell, left[0], left[1:], right, 0)
}

// leastCut cuts the first pair of equal sequences, without looking at what the turner does on the cut word.
func leastCut(t impl.Turner, w string) string {
	list, _ := crossingsOf(t, w)
	for i := 0; i < len(list); i++ {
		last := i
		for k := range list {
			if k > i && slices.Equal(list[i], list[k]) {
				last = k
			}
		}
		w = w[:i] + w[last:]
		list = slices.Delete(list, i, last)
	}
	return w
}

func isWanderer(m impl.Wanderer) bool {
	n := len(m.Moves)
	if m.Letters < 1 || m.Letters > 3 || n < 1 || n > 5 || !isRising(n, m.Starts) {
		return false
	}
	for _, lists := range m.Moves {
		if len(lists) != int(m.Letters)+2 {
			return false
		}
		for sign, list := range lists {
			last := int64(-100)
			for _, x := range list {
				takes := x == impl.Move{To: -1}
				goes := inList(n, x.To) && x.Dir >= -1 && x.Dir <= 1
				falls := sign == len(lists)-2 && x.Dir == -1 || sign == len(lists)-1 && x.Dir == 1
				if !takes && !goes || falls || 10*x.To+x.Dir <= last {
					return false
				}
				last = 10*x.To + x.Dir
			}
		}
	}
	return true
}

func isRising(states int, list []int64) bool {
	return inList(states, list...) && slices.IsSorted(list) && len(slices.Compact(slices.Clone(list))) == len(list)
}

func isPlaceOf(m impl.Wanderer, w string, p impl.Place) bool {
	return inList(len(m.Moves), p.State) && inList(len(w)+2, p.At)
}

// nextPlaces returns where the moves from a place lead, in their order, and whether one of them takes.
func nextPlaces(m impl.Wanderer, w string, p impl.Place) (list []impl.Place, takes bool) {
	for _, x := range m.Moves[p.State][strings.IndexByte("abc"[:m.Letters]+"<>", ("<" + w + ">")[p.At])] {
		if x.To < 0 {
			takes = true
		} else {
			list = append(list, impl.Place{State: x.To, At: p.At + x.Dir})
		}
	}
	return list, takes
}

func byCells(a, b impl.Place) int {
	return cmp.Compare(1000*a.At+a.State, 1000*b.At+b.State)
}

func firstPlaces(m impl.Wanderer) (list []impl.Place) {
	for _, s := range m.Starts {
		list = append(list, impl.Place{State: s})
	}
	return list
}

// reachedPlaces adds places to which moves lead until there are no more, and tells whether one of them takes.
func reachedPlaces(m impl.Wanderer, w string) (list []impl.Place, taken bool) {
	list = firstPlaces(m)
	for i := 0; i < len(list); i++ {
		next, takes := nextPlaces(m, w, list[i])
		taken = taken || takes
		for _, p := range next {
			if !slices.Contains(list, p) {
				list = append(list, p)
			}
		}
	}
	slices.SortFunc(list, byCells)
	return list, taken
}

func wandererTakes(m impl.Wanderer, w string) bool {
	_, taken := reachedPlaces(m, w)
	return taken
}

// firstWay tries all lengths, and for each of them all ways in their order.
func firstWay(m impl.Wanderer, w string) []impl.Place {
	if !wandererTakes(m, w) {
		return nil
	}
	for length := 1; ; length++ {
		if way := wayOf(m, w, firstPlaces(m), length, map[string]bool{}); way != nil {
			return way
		}
	}
}

// wayOf returns the first way of a length that begins in one of some places; dead remembers where there is none.
func wayOf(m impl.Wanderer, w string, from []impl.Place, length int, dead map[string]bool) []impl.Place {
	slices.SortFunc(from, byCells)
	for _, p := range from {
		key := fmt.Sprint(p, length)
		if dead[key] {
			continue
		}
		next, takes := nextPlaces(m, w, p)
		if length == 1 && takes {
			return []impl.Place{p}
		}
		if length > 1 {
			if rest := wayOf(m, w, next, length-1, dead); rest != nil {
				return append([]impl.Place{p}, rest...)
			}
		}
		dead[key] = true
	}
	return nil
}

// isWay reports whether places are a way.
func isWay(m impl.Wanderer, w string, way []impl.Place) bool {
	if len(way) == 0 || way[0].At != 0 || !slices.Contains(m.Starts, way[0].State) {
		return false
	}
	for i, p := range way[1:] {
		if next, _ := nextPlaces(m, w, way[i]); !slices.Contains(next, p) {
			return false
		}
	}
	_, takes := nextPlaces(m, w, way[len(way)-1])
	return takes
}

// areLabels reports whether labels show that a word is not taken.
func areLabels(m impl.Wanderer, w string, labels [][]int64) bool {
	labelled := func(p impl.Place) bool { return slices.Contains(labels[p.At], p.State) }
	ok := true
	for _, p := range firstPlaces(m) {
		ok = ok && labelled(p)
	}
	for cell, list := range labels {
		for _, s := range list {
			next, takes := nextPlaces(m, w, impl.Place{State: s, At: int64(cell)})
			ok = ok && !takes
			for _, p := range next {
				ok = ok && labelled(p)
			}
		}
	}
	return ok
}

// openingOf tells for the left mark and a text what can come of it, from Starts and from the right: the states in which the wanderer comes out, and whether it takes.
func openingOf(m impl.Wanderer, text string) string {
	key := outcomeOf(m, text, firstPlaces(m))
	for s := range m.Moves {
		key += ";" + outcomeOf(m, text, []impl.Place{{State: int64(s), At: int64(len(text))}})
	}
	return key
}

func outcomeOf(m impl.Wanderer, text string, list []impl.Place) string {
	end := int64(len(text)) + 1
	var out [5]bool
	taken := false
	for i := 0; i < len(list); i++ {
		if list[i].At == end {
			out[list[i].State] = true
			continue
		}
		next, takes := nextPlaces(m, text, list[i])
		taken = taken || takes
		for _, p := range next {
			if !slices.Contains(list, p) {
				list = append(list, p)
			}
		}
	}
	return fmt.Sprint(out, taken)
}

// firstOpenings returns the first texts of all tables of beginnings, at most so many.
func firstOpenings(m impl.Wanderer, most int) []string {
	return keyed(m.Letters, most, func(text string) string { return openingOf(m, text) })
}

// wandererOf returns the wanderer of a turner.
func wandererOf(t impl.Turner) impl.Wanderer {
	m := impl.Wanderer{Letters: t.Letters, Starts: []int64{t.Start}}
	for _, row := range t.Moves {
		var lists [][]impl.Move
		for _, x := range row {
			var list []impl.Move
			if x.To != -2 {
				list = []impl.Move{x}
			}
			lists = append(lists, list)
		}
		m.Moves = append(m.Moves, lists)
	}
	return m
}

// randomWanderer returns a wanderer that makes each possible move once in so many times.
func randomWanderer(rng *rand.Rand, letters int64, states, seldom int) impl.Wanderer {
	m := impl.Wanderer{Letters: letters, Starts: randomList(rng, states)}
	for range states {
		var lists [][]impl.Move
		for sign := range letters + 2 {
			var list []impl.Move
			if rng.Intn(10) == 0 {
				list = append(list, impl.Move{To: -1})
			}
			for to := range int64(states) {
				for dir := int64(-1); dir <= 1; dir++ {
					falls := sign == letters && dir < 0 || sign > letters && dir > 0
					if !falls && rng.Intn(seldom) == 0 {
						list = append(list, impl.Move{To: to, Dir: dir})
					}
				}
			}
			lists = append(lists, list)
		}
		m.Moves = append(m.Moves, lists)
	}
	return m
}

// randomWanderers returns wanderers of all sizes, with few and with many ways.
func randomWanderers(seed int64, count int) []impl.Wanderer {
	rng := rand.New(rand.NewSource(seed))
	var list []impl.Wanderer
	for i := range count {
		states := 1 + rng.Intn(5)
		m := randomWanderer(rng, 1+rng.Int63n(3), states, 2+states+i%(4*states))
		if len(m.Starts) == 0 && i%9 > 0 {
			m.Starts = []int64{int64(rng.Intn(states))}
		}
		for _, s := range m.Starts {
			if lists := m.Moves[s]; i%4 > 0 && len(lists[m.Letters]) == 0 {
				lists[m.Letters] = []impl.Move{{To: s, Dir: 1}}
			}
		}
		list = append(list, m)
	}
	return list
}

// Wanderers are written in the tests as turners are, with lists of starts and of moves in which commas stand, and "-" for the empty one.

func wandererText(m impl.Wanderer) string {
	list := func(words []string) string {
		if len(words) == 0 {
			return "-"
		}
		return strings.Join(words, ",")
	}
	var starts []string
	for _, s := range m.Starts {
		starts = append(starts, fmt.Sprint(s))
	}
	text := fmt.Sprintf("wanderer %d %d %s\n", m.Letters, len(m.Moves), list(starts))
	for _, lists := range m.Moves {
		text += "state"
		for _, moves := range lists {
			var words []string
			for _, x := range moves {
				words = append(words, moveText(x))
			}
			text += " " + list(words)
		}
		text += "\n"
	}
	return text
}

// mustWander returns the wanderer with a text that has one.
func mustWander(t *testing.T, text string) impl.Wanderer {
	t.Helper()
	var m impl.Wanderer
	for _, line := range strings.Split(strings.TrimSuffix(text, "\n"), "\n") {
		words := strings.Fields(line)
		if words[0] == "wanderer" {
			fmt.Sscan(words[1], &m.Letters)
			for _, s := range strings.Split(strings.Trim(words[3], "-"), ",") {
				if s != "" {
					m.Starts = append(m.Starts, int64(s[0]-'0'))
				}
			}
			continue
		}
		var lists [][]impl.Move
		for _, word := range words[1:] {
			var list []impl.Move
			for _, x := range strings.Split(strings.Trim(word, "-"), ",") {
				switch x {
				case "":
				case "yes":
					list = append(list, impl.Move{To: -1})
				default:
					list = append(list, impl.Move{To: int64(x[0] - '0'), Dir: int64(strings.IndexByte("<=>", x[1])) - 1})
				}
			}
			lists = append(lists, list)
		}
		m.Moves = append(m.Moves, lists)
	}
	if wandererText(m) != text || !isWanderer(m) {
		t.Fatalf("no wanderer: %q is read as %q", text, wandererText(m))
	}
	return m
}

// Wanderers with just as many tables of beginnings as are listed, and with 1 more.
const (
	openings300 = "wanderer 3 4 1,3\nstate 1<,2> 1> 3> yes,1= -\nstate 1>,2< 3> 1< - -\nstate 3> 2=,3< 1>,2< 0=,1= 2=,3<\nstate 0>,1<,2< 2>,3< 2> 0>,1=,2> 0<\n"
	openings301 = "wanderer 3 5 2\nstate 1<,1>,3> 1< 3< 1= -\nstate 0<,1=,4> 1> 2< 2> -\nstate 1>,3< 0<,2<,3= 0< 4= -\nstate - yes 1>,4< 3> 3=\nstate 0=,4= 2> 4> 0>,1>,2=,2>,4= 3<\n"
)
