package tests

import (
	"math"
	"slices"
	"strings"
	"testing"

	"loop.example/g01134/impl"
)

// Promise 1 for chapter 6.

func TestPurityOfChapter6(t *testing.T) {
	t.Parallel()
	long := strings.Repeat("a", 60)
	texts := []string{"", "a", "ab", "ba", "cab", "d", "\x00", "\xff", long, long + "a"}
	numbers := []int64{math.MinInt64, -2, -1, 0, 1, 2, 3, 4, 8, 9, 12, math.MaxInt64}
	turners := slices.Concat(oddTurners(), turnersToTry(), sweepersToTry(191, 30))
	for _, text := range turningTurners() {
		turners = append(turners, mustTurn(t, text))
	}
	p := poolOf(append(turners, shuffler()), append(oddRotators(), rotatorsToTry()...), append(oddPebblers(), pebblersToTry()...), texts, numbers)
	for name, fn := range map[string]any{
		"ValidRotator": impl.ValidRotator, "SameRotator": impl.SameRotator, "ValidPebbler": impl.ValidPebbler, "SamePebbler": impl.SamePebbler,
	} {
		p.sweep(t, name, fn, noFault)
	}
	for name, fn := range map[string]any{
		"SweepDirections": impl.SweepDirections, "PassOf": impl.PassOf, "PassesOf": impl.PassesOf, "ReaderOfSweeper": impl.ReaderOfSweeper,
		"RunRotator": impl.RunRotator, "NotRotator": impl.NotRotator, "ThenRotator": impl.ThenRotator, "RotatorTurner": impl.RotatorTurner,
		"ReaderOfRotator": impl.ReaderOfRotator, "NthLastTurner": impl.NthLastTurner, "NthLastReader": impl.NthLastReader, "NthLastMany": impl.NthLastMany,
		"RunPebbler": impl.RunPebbler, "PebblerOf": impl.PebblerOf,
	} {
		p.sweep(t, name, fn, codeFault)
	}
}

// TestLargeSweepers calls the functions with many elements, of which the sweep would make too many copies.
func TestLargeSweepers(t *testing.T) {
	row := make([]int64, 300000)
	rotators := []impl.Rotator{
		{Letters: 300000, Next: [][]int64{row}, End: []int64{-1}},
		{Letters: 1, Next: make([][]int64, 300000), End: row},
		{Letters: 1, Next: [][]int64{{0}}, End: row},
	}
	for i, r := range rotators {
		_, _, one := impl.RunRotator(r, "")
		_, two := impl.NotRotator(r)
		_, three := impl.ThenRotator(r, r)
		_, four := impl.RotatorTurner(r)
		_, five := impl.ReaderOfRotator(r)
		if impl.ValidRotator(r) || one != impl.ErrInvalid || two != one || three != one || four != one || five != one {
			t.Errorf("the large rotator %d is valid", i)
		}
		for k, s := range rotators {
			if impl.SameRotator(r, s) != (i == k) {
				t.Errorf("the large rotators %d and %d are not compared as they should", i, k)
			}
		}
	}
	moves := make([]impl.PebbleMove, 300000)
	pebblers := []impl.Pebbler{
		{Letters: 149998, Moves: [][]impl.PebbleMove{moves}},
		{Letters: 1, Moves: make([][]impl.PebbleMove, 900000)},
		{Letters: 1, Moves: [][]impl.PebbleMove{moves}},
	}
	for i, p := range pebblers {
		_, _, code := impl.RunPebbler(p, "")
		if impl.ValidPebbler(p) || code != impl.ErrInvalid {
			t.Errorf("the large pebbler %d is valid", i)
		}
		for k, q := range pebblers {
			if impl.SamePebbler(p, q) != (i == k) {
				t.Errorf("the large pebblers %d and %d are not compared as they should", i, k)
			}
		}
	}
	large := impl.Turner{Letters: 1, Moves: make([][]impl.Move, 900000)}
	_, one := impl.SweepDirections(large)
	_, two := impl.PassOf(large, strings.Repeat("a", 900000), 0)
	_, three := impl.PassesOf(large, "")
	_, four := impl.ReaderOfSweeper(large)
	_, five := impl.PebblerOf(large)
	if one != impl.ErrInvalid || two != one || three != one || four != one || five != one {
		t.Errorf("a large turner: %d, %d, %d, %d, %d", one, two, three, four, five)
	}
}
