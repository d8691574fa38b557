package tests

import (
	"math"
	"slices"
	"strings"
	"testing"

	"loop.example/g01134/impl"
)

// Promise 1 for chapter 4.

func TestPurityOfChapter4(t *testing.T) {
	t.Parallel()
	long := strings.Repeat("a", 60)
	texts := []string{"", "a", "ab", "<", ">", "\xff", long, long + "a"}
	numbers := []int64{math.MinInt64, 0, 1, 2, math.MaxInt64}
	lists := [][]int64{nil, {0}, {1}, {0, 1}, {0, 0, 0}, {1, 1, 1, 1}, {0, 0, 0, 0, 0}, {-1}, {2}, {math.MaxInt64}, {0, math.MinInt64}}
	borders := [][][]int64{nil, {{}}, {{0}, {0, 1}}, {{0}, {0}}, {{0, 1}, {0}, {}}, {{0}, {0}, {0, 1}}, {{0}, {0}, {0}, {0}}, {{0, 0}, {}}, {{}, {9}}, {{-1}, {}, {}},
		{{math.MaxInt64}}, make([][]int64, 61), make([][]int64, 62), {make([]int64, 25)}, {{0, 1, 2, 3, 4}, {0, 1, 2, 3, 4}}}
	p := poolOf(slices.Concat(oddTurners()[15:18], turnersToTry()[4:14]), append(oddWanderers()[17:27], wanderersToTry()[:24]...), texts, numbers, lists, borders, placesToTry(), waysToTry())
	for name, fn := range map[string]any{"ValidWanderer": impl.ValidWanderer, "SameWanderer": impl.SameWanderer} {
		p.sweep(t, name, fn, noFault)
	}
	for name, fn := range map[string]any{
		"CrossingsOf": impl.CrossingsOf, "LongestCrossing": impl.LongestCrossing, "CheckCrossings": impl.CheckCrossings, "CutWord": impl.CutWord,
		"PumpWord": impl.PumpWord, "LeastCut": impl.LeastCut, "WandererOf": impl.WandererOf, "EitherWanderer": impl.EitherWanderer,
		"NextPlaces": impl.NextPlaces, "ReachedPlaces": impl.ReachedPlaces, "WandererTakes": impl.WandererTakes, "FirstWay": impl.FirstWay,
		"CheckWay": impl.CheckWay, "LabelsOf": impl.LabelsOf, "CheckLabels": impl.CheckLabels, "ReaderOfWanderer": impl.ReaderOfWanderer,
	} {
		p.sweep(t, name, fn, codeFault)
	}
	p.sweep(t, "CellFits", impl.CellFits, cellFault)
}

// cellFault is codeFault for a call with a turner and a cell, of which only the letters are words.
func cellFault(args, results []any) string {
	cell := args[1].(string)
	switch {
	case cell == "<" || cell == ">":
		return codeFault(args[:1], results)
	case len(cell) != 1:
		return codeFault([]any{args[0], "?"}, results)
	}
	return codeFault(args, results)
}

func placesToTry() []impl.Place {
	return []impl.Place{{}, {State: 1, At: 1}, {State: 0, At: 2}, {State: 1, At: 61}, {State: 4, At: 1}, {State: 0, At: 62}, {State: 5}, {State: -1}, {At: -1},
		{State: math.MaxInt64, At: math.MaxInt64}, {State: math.MinInt64, At: math.MinInt64}, {At: math.MaxInt64}}
}

func waysToTry() [][]impl.Place {
	list := [][]impl.Place{nil, {{State: 0, At: 0}, {State: 0, At: 1}, {State: 0, At: 2}, {State: 1, At: 1}}, {{State: 0, At: 0}, {State: 0, At: 1}}, slices.Repeat([]impl.Place{{}}, 50)}
	for _, p := range placesToTry() {
		list = append(list, []impl.Place{p}, []impl.Place{{}, p})
	}
	return list
}

// TestLargeWanderers calls the functions with many elements, of which the sweep would make too many copies.
func TestLargeWanderers(t *testing.T) {
	moves := make([]impl.Move, 300000)
	for i := range moves {
		moves[i] = impl.Move{To: int64(i)}
	}
	starts := make([]int64, 300000)
	for i := range starts {
		starts[i] = int64(i)
	}
	wide := wandererWith(0, 0, moves...)
	broad := impl.Wanderer{Letters: 299998, Moves: [][][]impl.Move{make([][]impl.Move, 300000)}}
	all := []impl.Wanderer{wide, broad, idleWanderer(1, 300000), startsIn(idleWanderer(1, 5), starts...)}
	for i, m := range all {
		_, one := impl.EitherWanderer(m, m)
		_, _, two := impl.NextPlaces(m, "", impl.Place{})
		_, three := impl.FirstWay(m, "")
		_, four := impl.LabelsOf(m, "")
		_, five := impl.ReaderOfWanderer(m)
		_, six := impl.CheckLabels(m, "", [][]int64{starts, starts})
		if impl.ValidWanderer(m) || one != impl.ErrInvalid || two != one || three != one || four != one || five != one || six != one {
			t.Errorf("the large wanderer %d is valid", i)
		}
		for k, n := range all {
			if impl.SameWanderer(m, n) != (i == k) {
				t.Errorf("the large wanderers %d and %d are not compared as they should", i, k)
			}
		}
	}
	m := idleWanderer(1, 5)
	if _, code := impl.CheckLabels(m, "", [][]int64{starts, nil}); code != impl.ErrRange {
		t.Errorf("many labels: %d", code)
	}
	if _, code := impl.CheckLabels(m, "", make([][]int64, 900000)); code != impl.ErrRange {
		t.Errorf("many lists: %d", code)
	}
	if yes, code := impl.CheckWay(m, "", make([]impl.Place, 900000)); yes || code != impl.OK {
		t.Errorf("a long list: %v, %d", yes, code)
	}
}
