package tests

import (
	"fmt"
	"math"
	"strings"
	"testing"

	"loop.example/g01134/impl"
)

// Promise 22, on rows and tokens.

func TestRobotConstants(t *testing.T) {
	got := fmt.Sprint(impl.MaxServers, impl.MaxWire, impl.MaxDeeds, impl.MaxScriptText, impl.MaxScriptLines,
		impl.DdMove, impl.DdSend, impl.DdTell, impl.DdSave, impl.DdCrash, impl.DdDeliver, impl.DdCopy, impl.DdDrop)
	if got != "4 12 300 20000 120 1 2 3 4 5 6 7 8" {
		t.Errorf("constants: %s", got)
	}
}

// oddRows returns rows that are not valid, each for one reason.
func oddRows() []impl.Row {
	u := plainTurner(2, 1)
	list := []impl.Row{
		{},
		{Turner: u, Word: "abc"},
		{Turner: u, Word: "a b"},
		{Turner: u, Word: strings.Repeat("a", 61)},
		{Turner: u, Word: "abab", Cuts: []int64{0}},
		{Turner: u, Word: "abab", Cuts: []int64{-1}},
		{Turner: u, Word: "abab", Cuts: []int64{0, 1}},
		{Turner: u, Word: "abab", Cuts: []int64{6}},
		{Turner: u, Word: "abab", Cuts: []int64{5, 6}},
		{Turner: u, Word: "abab", Cuts: []int64{2, 2}},
		{Turner: u, Word: "abab", Cuts: []int64{1, 4, 4}},
		{Turner: u, Word: "abab", Cuts: []int64{3, 2}},
		{Turner: u, Word: "abab", Cuts: []int64{1, 3, 2}},
		{Turner: u, Word: "abab", Cuts: []int64{1, 2, 3, 4}},
		{Turner: u, Word: "abab", Cuts: []int64{1, 2, 3, 4, 5}},
		{Turner: u, Word: "", Cuts: []int64{2}},
		{Turner: u, Word: "", Cuts: []int64{1, 2}},
		{Turner: u, Word: "abab", Cuts: []int64{math.MinInt64}},
		{Turner: u, Word: "abab", Cuts: []int64{math.MaxInt64}},
	}
	for _, odd := range oddTurners() {
		list = append(list, impl.Row{Turner: odd, Cuts: []int64{1}})
	}
	return list
}

// rowsToTry returns valid rows.
func rowsToTry(t *testing.T) []impl.Row {
	long := strings.Repeat("ab", 30)
	list := []impl.Row{
		rowOver(t, example2, "a", 2), rowOver(t, example2, "a"), rowOver(t, example2, "", 1), rowOver(t, example2, "aa", 1, 2, 3),
		rowOver(t, shuttle, ""), rowOver(t, shuttle, "", 1), rowOver(t, shuttle, "a", 1, 2), rowOver(t, shuttle, strings.Repeat("a", 60), 1),
		rowOver(t, atOnce, "", 1), rowOver(t, notAtAll, "aaaa", 1, 2, 3),
		{Turner: plainTurner(2, 12), Word: long, Cuts: []int64{1, 60, 61}}, {Turner: plainTurner(3, 1), Word: "abc", Cuts: []int64{4}},
	}
	return append(list, randomRows(81, 30, 12)...)
}

func TestValidRow(t *testing.T) {
	for i, r := range rowsToTry(t) {
		if !impl.ValidRow(r) {
			t.Errorf("row %d is not valid", i)
		}
	}
	for i, r := range oddRows() {
		if impl.ValidRow(r) {
			t.Errorf("row %d is valid", i)
		}
	}
	if !impl.ValidRow(impl.Row{Turner: plainTurner(1, 1), Cuts: []int64{}}) {
		t.Error("an empty list of cuts is not valid")
	}
}

// TestValidCuts tries all lists of two cuts.
func TestValidCuts(t *testing.T) {
	for w := range 4 {
		for i := int64(-1); i <= 6; i++ {
			for k := int64(-1); k <= 6; k++ {
				r := impl.Row{Turner: plainTurner(1, 1), Word: strings.Repeat("a", w), Cuts: []int64{i, k}}
				if got := impl.ValidRow(r); got != isRow(r) {
					t.Errorf("%d letters, the cuts %d and %d: %v", w, i, k, got)
				}
			}
		}
	}
}

func TestOwnerOf(t *testing.T) {
	for _, r := range rowsToTry(t) {
		cells := int64(len(r.Word)) + 2
		for cell := range cells {
			owner, code := impl.OwnerOf(r, cell)
			if owner != int64(ownerOf(r, cell)) || code != impl.OK {
				t.Errorf("%v, the cell %d: %d, %d", r, cell, owner, code)
			}
		}
		for _, cell := range []int64{-1, cells, cells + 1, math.MinInt64, math.MaxInt64} {
			owner, code := impl.OwnerOf(r, cell)
			wantNone(t, "no cell", owner, code, impl.ErrRange)
		}
	}
	owners := ""
	for cell := range int64(6) {
		owner, _ := impl.OwnerOf(impl.Row{Turner: plainTurner(2, 1), Word: "abab", Cuts: []int64{1, 3, 5}}, cell)
		owners += fmt.Sprint(owner)
	}
	if owners != "011223" {
		t.Errorf("owners: %s", owners)
	}
	for _, r := range oddRows() {
		owner, code := impl.OwnerOf(r, -1)
		wantNone(t, "no row", owner, code, impl.ErrInvalid)
	}
}

func TestTokenAfter(t *testing.T) {
	for _, r := range append(rowsToTry(t), randomRows(82, 300, 12)...) {
		tokens := tokensOf(r)
		last := int64(len(tokens)) - 1
		for steps, want := range tokens {
			if got, code := impl.TokenAfter(r, int64(steps)); got != want || code != impl.OK {
				t.Fatalf("%v: %v, %d after %d steps, not %v", r, got, code, steps, want)
			}
		}
		for _, steps := range []int64{last + 1, last + 2, 999, 100000, math.MaxInt64} {
			if got, code := impl.TokenAfter(r, max(steps, last)); got != tokens[last] || code != impl.OK {
				t.Errorf("%v: %v, %d after %d steps, not %v", r, got, code, steps, tokens[last])
			}
		}
		for _, steps := range []int64{-1, math.MinInt64} {
			got, code := impl.TokenAfter(r, steps)
			wantNone(t, "a negative number of steps", got, code, impl.ErrRange)
		}
	}
	for _, r := range oddRows() {
		got, code := impl.TokenAfter(r, -1)
		wantNone(t, "no row", got, code, impl.ErrInvalid)
	}
}

// TestTokens has tokens as the document tells them.
func TestTokens(t *testing.T) {
	for name, c := range map[string]struct {
		row  impl.Row
		want string
	}{
		"takes":             {rowOver(t, example2, "a", 2), "[{0 0 0 0} {1 0 1 0} {2 0 2 0} {3 1 1 0} {3 1 1 1} {3 1 1 1}]"},
		"refuses":           {rowOver(t, example2, ""), "[{0 0 0 0} {1 0 1 0} {2 1 0 0} {2 1 0 2} {2 1 0 2} {2 1 0 2}]"},
		"takes at once":     {rowOver(t, atOnce, "a"), "[{0 0 0 0} {0 0 0 1} {0 0 0 1} {0 0 0 1} {0 0 0 1} {0 0 0 1}]"},
		"loops":             {rowOver(t, shuttle, ""), "[{0 0 0 0} {1 1 1 0} {2 0 0 0} {3 1 1 0} {4 0 0 3} {4 0 0 3}]"},
		"stays for ever":    {rowOver(t, "turner 1 1 0\nstate 0= 0= 0=\n", "a"), "[{0 0 0 0} {1 0 0 0} {2 0 0 0} {3 0 0 3} {3 0 0 3} {3 0 0 3}]"},
		"starts elsewhere":  {rowOver(t, "turner 1 2 1\nstate yes yes yes\nstate no 0> no\n", ""), "[{0 1 0 0} {1 0 1 0} {1 0 1 1} {1 0 1 1} {1 0 1 1} {1 0 1 1}]"},
		"all places, stops": {rowOver(t, "turner 1 2 0\nstate yes 0> 1=\nstate no no 1<\n", ""), "[{0 0 0 0} {1 0 1 0} {2 1 1 0} {3 1 0 0} {3 1 0 2} {3 1 0 2}]"},
	} {
		var got []impl.Token
		for steps := range int64(6) {
			x, code := impl.TokenAfter(c.row, steps)
			wantCode(t, name, code, impl.OK)
			got = append(got, x)
		}
		if fmt.Sprint(got) != c.want {
			t.Errorf("%s: got %v, want %s", name, got, c.want)
		}
	}
}

// TestTokensLoopLate has a run whose first place comes again long before all places are counted.
func TestTokensLoopLate(t *testing.T) {
	r := rowOver(t, shuttle, strings.Repeat("a", 60), 1, 30, 61)
	for steps, want := range map[int64]string{123: "{123 1 1 0}", 124: "{124 0 0 3}", 125: "{124 0 0 3}"} {
		if got, code := impl.TokenAfter(r, steps); fmt.Sprint(got) != want || code != impl.OK {
			t.Errorf("%d steps: %v, %d", steps, got, code)
		}
	}
	most := impl.Row{Turner: impl.Turner{Letters: 1}, Word: r.Word}
	for range 12 {
		most.Turner.Moves = append(most.Turner.Moves, []impl.Move{{}, {}, {}})
	}
	for steps, want := range map[int64]string{743: "{743 0 0 0}", 744: "{744 0 0 3}", math.MaxInt64: "{744 0 0 3}"} {
		if got, code := impl.TokenAfter(most, steps); fmt.Sprint(got) != want || code != impl.OK {
			t.Errorf("%d steps: %v, %d", steps, got, code)
		}
	}
}
