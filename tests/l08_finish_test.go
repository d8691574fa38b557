package tests

import (
	"fmt"
	"math/rand"
	"slices"
	"strings"
	"testing"

	"loop.example/g01134/impl"
)

// Promise 22, on deeds that finish.

func wantPlan(t *testing.T, name string, r impl.Row, deeds, want string) {
	t.Helper()
	plan, code := impl.FinishDeeds(r, mustDo(t, deeds))
	if got := deedTexts(plan); got != want || code != impl.OK {
		t.Errorf("%s: got %s, %d, want %s", name, got, code, want)
	}
}

func TestRobotExample(t *testing.T) {
	r := rowOver(t, example2, "a", 2)
	owners := ""
	for cell := range int64(3) {
		owner, code := impl.OwnerOf(r, cell)
		wantCode(t, "OwnerOf", code, impl.OK)
		owners += fmt.Sprint(owner)
	}
	if owners != "001" {
		t.Errorf("owners: %s", owners)
	}
	wantPlan(t, "the example", r, "", "move 0 999; save 0; send 0; deliver 0; move 1 999; save 1; send 1; deliver 0; move 0 999; save 0; tell 0 1; deliver 0; save 1")
	plan, _ := impl.FinishDeeds(r, nil)
	verdicts, code := impl.KnownVerdicts(r, plan)
	if !slices.Equal(verdicts, []int64{impl.VdTakes, impl.VdTakes}) || code != impl.OK {
		t.Errorf("KnownVerdicts: %v, %d", verdicts, code)
	}
}

// TestFinishFrom has deeds in many situations.
func TestFinishFrom(t *testing.T) {
	const half = "move 0 2; save 0; send 0; deliver 0; "
	const rest = "save 1; send 1; deliver 0; move 0 999; save 0; tell 0 1; deliver 0; save 1"
	r := rowOver(t, example2, "a", 2)
	for deeds, want := range map[string]string{
		"move 0 1": "move 0 999; save 0; send 0; deliver 0; move 1 999; " + rest,
		"move 0 2": "save 0; send 0; deliver 0; move 1 999; " + rest,
		// Both have as many steps, so S is the first one, and has to send, although the other one has the token.
		"move 0 2; save 0; send 0; deliver 0":                  "save 0; send 0; deliver 0; move 1 999; " + rest,
		half + "crash 0":                                       "save 0; send 0; deliver 0; move 1 999; " + rest,
		half + "move 1 1":                                      rest,
		half + "move 1 1; crash 1":                             "save 0; send 0; deliver 0; move 1 999; " + rest,
		"send 1":                                               "drop 0; move 0 999; save 0; send 0; deliver 0; move 1 999; " + rest,
		"send 1; send 1; send 1; move 0 2":                     "drop 0; drop 0; drop 0; save 0; send 0; deliver 0; move 1 999; " + rest,
		"move 0 2; save 0; send 0; copy 0":                     "drop 0; save 0; send 0; deliver 0; move 1 999; " + rest,
		"move 0 2; save 0; send 0; copy 0; move 1 1; save 1":   "drop 0; " + rest,
		half + "move 1 1; save 1; send 1; deliver 0":           "move 0 999; save 0; tell 0 1; deliver 0; save 1",
		half + "move 1 1; save 1; send 1; deliver 0; move 0 1": "save 0; tell 0 1; deliver 0; save 1",
		half + "move 1 1; save 1; send 1; deliver 0; move 0 1; save 0; tell 0 1; deliver 0": "save 0",
	} {
		wantPlan(t, deeds, r, deeds, want)
	}
	full := strings.TrimSuffix(strings.Repeat("send 1; ", 12), "; ")
	drops := strings.Repeat("drop 0; ", 12)
	wantPlan(t, "a full wire", r, full, drops+"move 0 999; save 0; send 0; deliver 0; move 1 999; "+rest)
	wantPlan(t, "a full wire, and deeds that are left out", r, full+"; send 1; tell 0 1", drops+"move 0 999; save 0; send 0; deliver 0; move 1 999; "+rest)
}

// TestFinishOtherRows has rows with one server, with four of them, with the empty word, and with a loop.
func TestFinishOtherRows(t *testing.T) {
	for name, c := range map[string]struct {
		row         impl.Row
		deeds, want string
	}{
		"no cut":               {rowOver(t, example2, "aaa"), "", "move 0 999; save 0"},
		"no cut, finished":     {rowOver(t, atOnce, ""), "move 0 1", "save 0"},
		"at once":              {rowOver(t, notAtAll, "aa", 1, 2, 3), "", "move 0 999; save 0; tell 0 1; deliver 0; save 1; tell 0 2; deliver 0; save 2; tell 0 3; deliver 0; save 3"},
		"one knows":            {rowOver(t, notAtAll, "aa", 1, 2, 3), "move 0 1; save 0; tell 0 2; deliver 0; crash 0", "save 0; tell 0 1; deliver 0; save 1; tell 0 3; deliver 0; save 3"},
		"the last one knows":   {rowOver(t, atOnce, "a", 1, 2), "move 0 1; save 0; tell 0 2; deliver 0; send 1; deliver 0", "save 0; tell 0 1; deliver 0; save 1"},
		"the empty word":       {rowOver(t, example2, "", 1), "", "move 0 999; save 0; send 0; deliver 0; move 1 999; save 1; send 1; deliver 0; move 0 999; save 0; tell 0 1; deliver 0; save 1"},
		"a loop":               {rowOver(t, shuttle, ""), "", "move 0 999; save 0"},
		"a loop of two":        {rowOver(t, shuttle, "", 1), "", "move 0 999; save 0; send 0; deliver 0; move 1 999; save 1; send 1; deliver 0; move 0 999; save 0; send 0; deliver 0; move 1 999; save 1; tell 1 0; deliver 0; save 0"},
		"from behind its cell": {rowOver(t, "turner 1 1 0\nstate 0> 0> yes\n", "a", 1, 2), "move 0 1; save 0; send 0; deliver 0; move 1 1; save 1; send 1; deliver 0; move 2 1; save 2; tell 2 1; deliver 0", "save 1; tell 1 0; deliver 0; save 0"},
	} {
		wantPlan(t, name, c.row, c.deeds, c.want)
	}
}

// TestFinishWhoKnows has servers that have as many steps, not all of which know the verdict.
func TestFinishWhoKnows(t *testing.T) {
	r := rowOver(t, atOnce, "a", 1, 2)
	wantPlan(t, "the first two", r, "move 0 1; save 0; tell 0 1; deliver 0", "save 0; tell 0 2; deliver 0; save 2")
	// The first server has sent the token with as many steps, and the second one has seen that its move stops.
	right := rowOver(t, "turner 1 1 0\nstate 0= 0> yes\n", "", 1)
	wantPlan(t, "the second one", right, "move 0 1; save 0; send 0; deliver 0; move 1 1", "save 1; tell 1 0; deliver 0; save 0")
}

// TestFinishLimit has deeds that finish with just as many as there may be, and beyond it.
func TestFinishLimit(t *testing.T) {
	for name, r := range map[string]impl.Row{"the example": rowOver(t, example2, "a", 2), "a loop": rowOver(t, shuttle, strings.Repeat("a", 20), 1, 2), "one server": rowOver(t, atOnce, "")} {
		plan, code := impl.FinishDeeds(r, nil)
		if code != impl.OK {
			t.Fatalf("%s: %d", name, code)
		}
		// Such a deed changes nothing, and counts also if it is left out.
		for _, d := range []impl.Deed{{Kind: impl.DdSave}, {Kind: impl.DdDrop, A: 3}} {
			before := slices.Repeat([]impl.Deed{d}, 300-len(plan))
			again, code := impl.FinishDeeds(r, before)
			if !slices.Equal(again, plan) || code != impl.OK {
				t.Errorf("%s, as many as there may be: %s, %d", name, deedTexts(again), code)
			}
			verdicts, code := impl.KnownVerdicts(r, append(before, plan...))
			if verdict := verdictOf(r.Turner, r.Word); verdicts[0] != verdict || code != impl.OK {
				t.Errorf("%s: %v, %d", name, verdicts, code)
			}
			none, code := impl.FinishDeeds(r, append(before, d))
			wantNone(t, name+", one more", none, code, impl.ErrLimit)
			none, code = impl.FinishDeeds(r, slices.Repeat(before[:1], 300))
			wantNone(t, name+", 300 before", none, code, impl.ErrLimit)
			none, code = impl.FinishDeeds(r, slices.Repeat(before[:1], 301))
			wantNone(t, name+", 301 before", none, code, impl.ErrRange)
		}
	}
	none, code := impl.FinishDeeds(rowOver(t, shuttle, strings.Repeat("a", 60), 1), nil)
	wantNone(t, "many of them", none, code, impl.ErrLimit)
	alone, code := impl.FinishDeeds(rowOver(t, shuttle, strings.Repeat("a", 60), 2), nil)
	if got := deedTexts(alone); got != "move 0 999; save 0; tell 0 1; deliver 0; save 1" || code != impl.OK {
		t.Errorf("no cut on the way: %s, %d", got, code)
	}
}

// TestRandomFinish finishes after random deeds.
func TestRandomFinish(t *testing.T) {
	t.Parallel()
	rng := rand.New(rand.NewSource(89))
	seen := map[int64]int{}
	for _, r := range append(rowsToTry(t), randomRows(90, 800, 12)...) {
		b := bandOf(r)
		deeds := b.randomDeeds(rng, rng.Intn(301))
		want := mustDo(t, b.finish())
		plan, code := impl.FinishDeeds(r, deeds)
		seen[code]++
		if len(deeds)+len(want) > 300 {
			wantNone(t, "FinishDeeds", plan, code, impl.ErrLimit)
			continue
		}
		if !slices.Equal(plan, want) || code != impl.OK {
			t.Fatalf("%v, %s: got %s, %d, want %s", r, deedTexts(deeds), deedTexts(plan), code, deedTexts(want))
		}
		_, before, _ := impl.RobotsAfter(r, deeds)
		robots, done, _ := impl.RobotsAfter(r, append(deeds, plan...))
		if done != before+int64(len(plan)) {
			t.Fatalf("%v, %s: just %d of %s are done", r, deedTexts(deeds), done-before, deedTexts(plan))
		}
		verdict := verdictOf(r.Turner, r.Word)
		for _, d := range robots.Desks {
			if d.Token.Verdict != verdict {
				t.Fatalf("%v, %s: %v, but the verdict is %d", r, deedTexts(deeds), robots, verdict)
			}
		}
	}
	if seen[impl.OK] < 300 || seen[impl.ErrLimit] < 10 {
		t.Errorf("codes: %v", seen)
	}
}
