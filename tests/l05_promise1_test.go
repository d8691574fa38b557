package tests

import (
	"math"
	"slices"
	"strings"
	"testing"

	"loop.example/g01134/impl"
)

// Promise 1 for chapter 5.

func TestPurityOfChapter5(t *testing.T) {
	t.Parallel()
	long := strings.Repeat("a", 60)
	texts := []string{"", "a", "ab", "c", "\xff", long, long + "a"}
	lists := [][]string{nil, {""}, {"", "b"}, {"a", "ba", "ab"}, {"c"}, {"", "\x00"}, {long}, {long, long + "b"}, slices.Repeat([]string{"a"}, 12), slices.Repeat([]string{"a"}, 13),
		slices.Repeat([]string{""}, 20), slices.Repeat([]string{""}, 21)}
	pairs := [][]impl.Fooling{nil, {{}}, {{Left: "a", Right: "b"}}, {{Left: "", Right: "ab"}, {Left: "ab"}}, {{Left: "c"}}, {{}, {Right: "\xff"}}, {{Left: long, Right: long}}, {{Left: long, Right: long + "a"}},
		make([]impl.Fooling, 20), make([]impl.Fooling, 21)}
	numbers := []int64{math.MinInt64, -1, 0, 1, 2, 3, 4, 6, 12, 13, 60, 61, 299, 300, math.MaxInt64}
	someNumbers := [][]int64{nil, {0}, {1}, {4, 6}, {12, 11, 9, 7}, {13}, {1, 1, 1, 1, 1}, {math.MaxInt64, math.MinInt64}}
	takes := [][]bool{nil, {true}, {false, true, true}, make([]bool, 300), make([]bool, 301)}
	cycles := [][][]bool{nil, {{}}, {{true}}, {{true, false}, {false, true, false}}, {make([]bool, 12)}, {make([]bool, 13)}, make([][]bool, 5)}
	readers := append(oddReaders(), readersToTry()...)
	p := poolOf(readers, append(oddManys()[16:], manysToTry()[:16]...), texts, lists, pairs, numbers, someNumbers, takes, cycles)
	for name, fn := range map[string]any{
		"StatesUnlike": impl.StatesUnlike, "RowOf": impl.RowOf, "CountRows": impl.CountRows, "FindApart": impl.FindApart, "IsFooling": impl.IsFooling,
		"FindFooling": impl.FindFooling, "ShapeOf": impl.ShapeOf, "ReaderOfShape": impl.ReaderOfShape, "ManyOfCycles": impl.ManyOfCycles,
		"CommonCycle": impl.CommonCycle, "GreatestOrder": impl.GreatestOrder, "Fits": impl.Fits,
	} {
		p.sweep(t, name, fn, codeFault)
	}
	few := poolOf(append(oddReaders()[12:], readersToTry()[:14]...), append(oddManys()[16:], manysToTry()[:16]...), pairs, lists, []int64{math.MinInt64, 0, 1, 2, 3, 4, 5, 7, math.MaxInt64})
	few.sweep(t, "ManyIsAtLeast", impl.ManyIsAtLeast, codeFault)
	few.sweep(t, "LeastFitting", impl.LeastFitting, leastFault)
	few.sweep(t, "LeastSize", impl.LeastSize, leastFault)
}

// leastFault tells what is wrong with the errors of LeastFitting or LeastSize, in which ErrRange comes first.
func leastFault(args, results []any) string {
	want := leastCode(args[0].(int64), args[1].([]string), args[2].([]string), args[3].(int64))
	code := results[1].(int64)
	if code != want && !(code == impl.ErrNotFound && want == impl.OK) {
		return "wrong error: " + impl.CodeName(code)
	}
	if code != impl.OK && !isZero(results[0]) {
		return "a result with " + impl.CodeName(code)
	}
	return ""
}

// TestLargeBounds calls the functions with many elements, of which the sweep would make too many copies.
func TestLargeBounds(t *testing.T) {
	r := mustRead(t, example)
	m, _ := impl.ManyOf(r)
	words, pairs := make([]string, 400000), make([]impl.Fooling, 300000)
	for _, last := range []string{"", "c"} {
		words[len(words)-1], pairs[len(pairs)-1].Right = last, last
		want, least := int64(impl.ErrRange), int64(impl.ErrRange)
		if last == "c" {
			want = impl.ErrInvalid
		}
		_, one := impl.RowOf(r, "", words)
		_, two := impl.CountRows(r, words, words)
		_, three := impl.IsFooling(r, pairs)
		_, four := impl.ManyIsAtLeast(m, r, pairs)
		_, five := impl.Fits(r, words, words)
		_, six := impl.LeastFitting(2, words, words, 2)
		if one != want || two != want || three != want || four != want || five != want || six != least {
			t.Errorf("with %q: %d, %d, %d, %d, %d, %d", last, one, two, three, four, five, six)
		}
	}
	wide := impl.Reader{Letters: 300000, Accept: []bool{true}, Next: [][]int64{make([]int64, 300000)}}
	_, one := impl.StatesUnlike(wide, 0, 0)
	_, _, two := impl.FindApart(wide)
	_, _, _, three := impl.ShapeOf(wide)
	if one != impl.ErrInvalid || two != impl.ErrInvalid || three != impl.ErrInvalid {
		t.Errorf("a large reader is valid: %d, %d, %d", one, two, three)
	}
}
