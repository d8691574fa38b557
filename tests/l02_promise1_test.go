package tests

import (
	"math"
	"strings"
	"testing"

	"loop.example/g01134/impl"
)

// Promise 1 for chapter 2.

func TestPurityOfChapter2(t *testing.T) {
	t.Parallel()
	long := strings.Repeat("a", 60)
	texts := []string{"", "a", "ab", "cab", "d", "\x00", "\xff", long, long + "a", example2, "turner 1 2 0", "turner 1 1 0\nstate  no no\n", strings.Repeat("a", 20001)}
	numbers := []int64{math.MinInt64, -1, 0, 1, 2, 3, 4, math.MaxInt64}
	moduli := [][]int64{nil, {1}, {0}, {-1}, {2, 1}, {12}, {6, 7}, {math.MaxInt64, math.MaxInt64}, {1, math.MinInt64}, {3, 4, 5}}
	places := []impl.Place{{}, {State: 1, At: 1}, {State: 0, At: 2}, {State: 1, At: 61}, {State: 0, At: 62}, {State: 12}, {State: -1}, {At: -1},
		{State: math.MaxInt64, At: math.MaxInt64}, {State: math.MinInt64, At: math.MinInt64}, {At: math.MaxInt64}}
	p := poolOf(append(oddTurners(), turnersToTry()...), append(oddReaders()[:8], readersToTry()...), texts, numbers, moduli, places)
	for name, fn := range map[string]any{
		"ValidTurner": impl.ValidTurner, "SameTurner": impl.SameTurner, "TurnerText": impl.TurnerText, "ReadTurner": impl.ReadTurner,
	} {
		p.sweep(t, name, fn, noFault)
	}
	for name, fn := range map[string]any{
		"StepOf": impl.StepOf, "RunTurner": impl.RunTurner, "VerdictOf": impl.VerdictOf, "LoopOf": impl.LoopOf, "VisitsOf": impl.VisitsOf,
		"TurnsOf": impl.TurnsOf, "TurnerOf": impl.TurnerOf, "IsOneWay": impl.IsOneWay, "OppositeTurner": impl.OppositeTurner,
		"ThenTurner": impl.ThenTurner, "MirrorTurner": impl.MirrorTurner, "WithoutStays": impl.WithoutStays, "UsedStates": impl.UsedStates,
		"TrimTurner": impl.TrimTurner, "ModTurner": impl.ModTurner,
	} {
		p.sweep(t, name, fn, codeFault)
	}
}

// TestLargeTurners calls the functions with many elements, of which the sweep would make too many copies.
func TestLargeTurners(t *testing.T) {
	wide := impl.Turner{Letters: 299998, Moves: [][]impl.Move{make([]impl.Move, 300000)}}
	long := impl.Turner{Letters: 1, Start: 299999, Moves: make([][]impl.Move, 300000)}
	for i := range long.Moves {
		long.Moves[i] = []impl.Move{{To: -1}, {To: -1}, {To: -1}}
	}
	for _, u := range []impl.Turner{wide, long} {
		_, one := impl.VerdictOf(u, "")
		_, two := impl.ThenTurner(plainTurner(1, 1), u)
		_, three := impl.WithoutStays(u)
		_, four := impl.TrimTurner(u)
		_, five := impl.StepOf(u, "", impl.Place{})
		if impl.ValidTurner(u) || impl.TurnerText(u) != "" || one != impl.ErrInvalid || two != one || three != one || four != one || five != one {
			t.Error("a large turner is valid")
		}
		if !impl.SameTurner(u, u) {
			t.Error("a large turner is not compared as it should")
		}
	}
	if impl.SameTurner(wide, long) {
		t.Error("large turners are the same")
	}
	moduli := make([]int64, 900000)
	_, zeros := impl.ModTurner(1, moduli)
	for i := range moduli {
		moduli[i] = 1
	}
	_, ones := impl.ModTurner(1, moduli)
	if zeros != impl.ErrRange || ones != impl.ErrLimit {
		t.Errorf("many moduli: %d, %d", zeros, ones)
	}
}
