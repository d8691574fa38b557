package tests

import (
	"fmt"
	"math/rand"
	"slices"
	"strings"
	"testing"

	"loop.example/g01134/impl"
)

// Promise 22, on deeds, parcels and what has been saved.

// wantRobots compares what deeds leave behind with what a text tells.
func wantRobots(t *testing.T, name string, r impl.Row, deeds []impl.Deed, want string) {
	t.Helper()
	robots, done, code := impl.RobotsAfter(r, deeds)
	if got := fmt.Sprint(robots.Desks, robots.Wire, done); got != want || code != impl.OK {
		t.Errorf("%s: got %s, %d, want %s", name, got, code, want)
	}
}

// TestEffects has deeds of all kinds, and what is then.
func TestEffects(t *testing.T) {
	const (
		begin = "{{0 0 0 0} {0 0 0 0}}"
		other = " {0 0 0 0}}"
	)
	r := rowOver(t, example2, "a", 2)
	for name, c := range map[string]struct{ deeds, want string }{
		"nothing":                       {"", "[" + begin + " " + begin + "] [] 0"},
		"one step":                      {"move 0 1", "[{{1 0 1 0}" + other + " " + begin + "] [] 1"},
		"up to the cut":                 {"move 0 999", "[{{2 0 2 0}" + other + " " + begin + "] [] 1"},
		"just as far":                   {"move 0 2", "[{{2 0 2 0}" + other + " " + begin + "] [] 1"},
		"step by step":                  {"move 0 1; move 0 1; move 0 1", "[{{2 0 2 0}" + other + " " + begin + "] [] 2"},
		"crash before saving":           {"move 0 999; crash 0", "[" + begin + " " + begin + "] [] 2"},
		"crash after saving":            {"move 0 1; save 0; move 0 1; crash 0", "[{{1 0 1 0} {1 0 1 0}} " + begin + "] [] 4"},
		"crash of another one":          {"move 0 1; crash 1", "[{{1 0 1 0}" + other + " " + begin + "] [] 2"},
		"saved is not the token later":  {"move 0 1; save 0; move 0 1", "[{{2 0 2 0} {1 0 1 0}} " + begin + "] [] 3"},
		"saved by another one":          {"move 0 1; save 1; crash 0", "[" + begin + " " + begin + "] [] 3"},
		"saved again after a crash":     {"move 0 1; save 0; move 0 1; crash 0; save 0; move 0 1; crash 0", "[{{1 0 1 0} {1 0 1 0}} " + begin + "] [] 7"},
		"sent":                          {"move 0 2; save 0; send 0", "[{{2 0 2 0} {2 0 2 0}} " + begin + "] [{0 1 {2 0 2 0}}] 3"},
		"sent twice":                    {"move 0 2; save 0; send 0; send 0", "[{{2 0 2 0} {2 0 2 0}} " + begin + "] [{0 1 {2 0 2 0}} {0 1 {2 0 2 0}}] 4"},
		"sent, from where it is not":    {"send 1", "[" + begin + " " + begin + "] [{1 0 {0 0 0 0}}] 1"},
		"delivered":                     {"move 0 2; save 0; send 0; deliver 0", "[{{2 0 2 0} {2 0 2 0}} {{2 0 2 0}" + other + "] [] 4"},
		"not saved by coming in":        {"move 0 2; save 0; send 0; deliver 0; crash 1", "[{{2 0 2 0} {2 0 2 0}} " + begin + "] [] 5"},
		"copied":                        {"move 0 2; save 0; send 0; copy 0", "[{{2 0 2 0} {2 0 2 0}} {{2 0 2 0}" + other + "] [{0 1 {2 0 2 0}}] 4"},
		"dropped":                       {"move 0 2; save 0; send 0; drop 0", "[{{2 0 2 0} {2 0 2 0}} " + begin + "] [] 4"},
		"comes in twice":                {"move 0 2; save 0; send 0; copy 0; move 1 1; save 1; deliver 0", "[{{2 0 2 0} {2 0 2 0}} {{3 1 1 0} {3 1 1 0}}] [] 7"},
		"comes in again after a crash":  {"move 0 2; save 0; send 0; copy 0; move 1 1; crash 1; deliver 0", "[{{2 0 2 0} {2 0 2 0}} {{2 0 2 0}" + other + "] [] 7"},
		"an old one comes in":           {"send 1; move 0 2; save 0; deliver 0", "[{{2 0 2 0} {2 0 2 0}} " + begin + "] [] 4"},
		"a crash does not reach Wire":   {"move 0 2; save 0; send 0; crash 0; drop 0; move 0 1; crash 0", "[{{2 0 2 0} {2 0 2 0}} " + begin + "] [] 6"},
		"the second one is delivered":   {"send 1; move 0 2; save 0; send 0; deliver 1", "[{{2 0 2 0} {2 0 2 0}} {{2 0 2 0}" + other + "] [{1 0 {0 0 0 0}}] 5"},
		"the first one is dropped":      {"send 1; move 0 2; save 0; send 0; drop 0", "[{{2 0 2 0} {2 0 2 0}} " + begin + "] [{0 1 {2 0 2 0}}] 5"},
		"with a verdict, not yet saved": {"move 0 2; save 0; send 0; deliver 0; move 1 1; save 1; send 1; deliver 0; move 0 1", "[{{3 1 1 1} {2 0 2 0}} {{3 1 1 0} {3 1 1 0}}] [] 9"},
		"a verdict that is told": {"move 0 2; save 0; send 0; deliver 0; move 1 1; save 1; send 1; deliver 0; move 0 1; save 0; tell 0 1",
			"[{{3 1 1 1} {3 1 1 1}} {{3 1 1 0} {3 1 1 0}}] [{0 1 {3 1 1 1}}] 11"},
		"a verdict that comes in": {"move 0 2; save 0; send 0; deliver 0; move 1 1; save 1; send 1; deliver 0; move 0 1; save 0; tell 0 1; deliver 0",
			"[{{3 1 1 1} {3 1 1 1}} {{3 1 1 1} {3 1 1 0}}] [] 12"},
		"no verdict takes one away": {"move 0 2; save 0; send 0; deliver 0; move 1 1; save 1; send 1; send 1; deliver 0; move 0 1; save 0; deliver 0",
			"[{{3 1 1 1} {3 1 1 1}} {{3 1 1 0} {3 1 1 0}}] [] 12"},
	} {
		wantRobots(t, name, r, mustDo(t, c.deeds), c.want)
	}
}

// TestOtherRows has rows with one server, with four of them, with the empty word, and with a loop.
func TestOtherRows(t *testing.T) {
	for name, c := range map[string]struct {
		row         impl.Row
		deeds, want string
	}{
		"no cut":                     {rowOver(t, example2, "a"), "move 0 4; save 0", "[{{3 1 1 1} {3 1 1 1}}] [] 2"},
		"no cut, one step less":      {rowOver(t, example2, "a"), "move 0 3", "[{{3 1 1 0} {0 0 0 0}}] [] 1"},
		"the step that stops":        {rowOver(t, atOnce, "", 1), "move 0 1; move 0 1", "[{{0 0 0 1} {0 0 0 0}} {{0 0 0 0} {0 0 0 0}}] [] 1"},
		"told with as many steps":    {rowOver(t, notAtAll, "", 1), "move 0 1; save 0; tell 0 1; deliver 0", "[{{0 0 0 2} {0 0 0 2}} {{0 0 0 2} {0 0 0 0}}] [] 4"},
		"a verdict stays":            {rowOver(t, notAtAll, "", 1), "send 1; move 0 1; deliver 0", "[{{0 0 0 2} {0 0 0 0}} {{0 0 0 0} {0 0 0 0}}] [] 3"},
		"a loop":                     {rowOver(t, shuttle, ""), "move 0 3; move 0 999", "[{{4 0 0 3} {0 0 0 0}}] [] 2"},
		"a loop, counted up to":      {rowOver(t, shuttle, ""), "move 0 4", "[{{4 0 0 3} {0 0 0 0}}] [] 1"},
		"a loop, sent with verdict":  {rowOver(t, shuttle, "", 1), "move 0 9; save 0; send 0; deliver 0; move 1 9; save 1; send 1; deliver 0; move 0 9; save 0; send 0; deliver 0; move 1 9; save 1; move 0 1; send 1; deliver 0; move 0 1", "[{{4 0 0 3} {3 1 1 0}} {{4 0 0 3} {4 0 0 3}}] [] 16"},
		"four servers":               {rowOver(t, example2, "aa", 1, 2, 3), "move 0 9; move 1 9; save 0; send 0; deliver 0; move 1 9; save 1; send 1; send 3; send 0", "[{{1 0 1 0} {1 0 1 0}} {{2 0 2 0} {2 0 2 0}} {{0 0 0 0} {0 0 0 0}} {{0 0 0 0} {0 0 0 0}}] [{1 2 {2 0 2 0}} {3 0 {0 0 0 0}} {0 1 {1 0 1 0}}] 9"},
		"starts in another state":    {rowOver(t, "turner 1 2 1\nstate yes yes yes\nstate no 0> no\n", "", 1), "crash 0; save 1", "[{{0 1 0 0} {0 1 0 0}} {{0 1 0 0} {0 1 0 0}}] [] 2"},
		"two servers make the steps": {rowOver(t, example2, "a", 2), "move 0 2; save 0; send 0; crash 0; copy 0; move 1 9; save 1; send 1; deliver 1; move 0 9; copy 0; deliver 0", "[{{3 1 1 1} {2 0 2 0}} {{3 1 1 0} {3 1 1 0}}] [] 12"},
	} {
		wantRobots(t, name, c.row, mustDo(t, c.deeds), c.want)
	}
}

// TestRefusals has deeds of which just the last one is left out.
func TestRefusals(t *testing.T) {
	const whole = "move 0 2; save 0; send 0; deliver 0; move 1 1; save 1; send 1; deliver 0; move 0 1; "
	full := strings.Repeat("send 1; ", 12)
	r := rowOver(t, example2, "a", 2)
	for deeds, want := range map[string]int64{
		"move 2 1": impl.ErrRange, "move 999 0": impl.ErrRange, "move 0 0": impl.ErrRange, "move 1 0": impl.ErrRange, "move 1 1": impl.ErrState, "move 0 2; move 0 1": impl.ErrState, "move 0 2; move 0 0": impl.ErrRange,
		whole + "move 0 1": impl.ErrState, whole + "move 0 0": impl.ErrRange, whole + "move 2 1": impl.ErrRange, whole + "move 1 1": impl.ErrState,
		"send 2": impl.ErrRange, "send 999": impl.ErrRange, "send 0": impl.ErrState, "move 0 1; send 0": impl.ErrState, "move 0 2; send 0": impl.ErrState, "save 0; move 0 2; send 0": impl.ErrState,
		"move 0 1; save 0; move 0 1; send 0": impl.ErrState, "move 0 2; save 0; send 0; deliver 0; send 1": impl.ErrState, "move 0 2; save 1; send 0": impl.ErrState, "move 0 2; save 0; crash 0; move 0 1": impl.ErrState,
		"tell 2 0": impl.ErrRange, "tell 0 2": impl.ErrRange, "tell 0 0": impl.ErrRange, "tell 2 2": impl.ErrRange, "tell 999 999": impl.ErrRange, "tell 0 1": impl.ErrState, "tell 1 0": impl.ErrState,
		whole + "tell 0 1": impl.ErrState, whole + "save 1; tell 0 1": impl.ErrState, whole + "save 0; tell 0 0": impl.ErrRange, whole + "save 0; tell 0 2": impl.ErrRange, whole + "save 0; tell 1 0": impl.ErrState, whole + "save 0; send 0": impl.ErrState,
		whole + "save 0; crash 0; tell 0 1; deliver 0; tell 1 0": impl.ErrState, whole + "crash 0; tell 0 1": impl.ErrState,
		"save 2": impl.ErrRange, "save 999": impl.ErrRange, "crash 2": impl.ErrRange, "crash 999": impl.ErrRange,
		"deliver 0": impl.ErrRange, "copy 0": impl.ErrRange, "drop 0": impl.ErrRange, "send 1; deliver 1": impl.ErrRange, "send 1; copy 1": impl.ErrRange, "send 1; drop 1": impl.ErrRange,
		"send 1; deliver 0; deliver 0": impl.ErrRange, "send 1; drop 0; copy 0": impl.ErrRange, "send 1; copy 0; drop 0; drop 0": impl.ErrRange, "send 1; send 1; deliver 0; deliver 1": impl.ErrRange,
		full + "send 1": impl.ErrLimit, full + "send 0": impl.ErrState, full + "send 2": impl.ErrRange, full + "tell 0 1": impl.ErrState, full + "tell 0 0": impl.ErrRange, full + "deliver 12": impl.ErrRange,
		full + "copy 11; send 1": impl.ErrLimit, full + "deliver 11; send 1; send 1": impl.ErrLimit, full + "drop 0; send 1; send 1": impl.ErrLimit, full + "move 0 2; save 0; send 0": impl.ErrLimit, full + "move 0 2; send 0": impl.ErrState,
	} {
		list := mustDo(t, deeds)
		last := int64(len(list)) - 1
		if at, bad, code := impl.RefusedDeed(r, list); at != last || bad != want || code != impl.OK {
			t.Errorf("%s: %d, %d, %d, not %d, %d", deeds, at, bad, code, last, want)
		}
		before, _, _ := impl.RobotsAfter(r, list[:last])
		after, done, code := impl.RobotsAfter(r, list)
		if !alikeAny(before, after) || done != last || code != impl.OK {
			t.Errorf("%s: %v becomes %v, %d", deeds, before, after, done)
		}
		at, bad, code := impl.RefusedDeed(r, list[:last])
		wantNone(t, deeds+", without the last one", []int64{at, bad}[:0], code, impl.ErrNotFound)
		if at != 0 || bad != 0 {
			t.Errorf("%s: %d, %d come with an error", deeds, at, bad)
		}
	}
	stops := rowOver(t, atOnce, "", 1)
	for deeds, want := range map[string]int64{full + "move 0 1; save 0; tell 0 1": impl.ErrLimit, full + "move 0 1; tell 0 1": impl.ErrState, full + "move 0 1; save 0; tell 0 2": impl.ErrRange, full[8:] + "move 0 1; save 0; tell 0 1; tell 0 1": impl.ErrLimit} {
		list := mustDo(t, deeds)
		if at, bad, code := impl.RefusedDeed(stops, list); at != int64(len(list))-1 || bad != want || code != impl.OK {
			t.Errorf("%s: %d, %d, %d", deeds, at, bad, code)
		}
	}
}

// TestLeftOut has deeds that are left out between others.
func TestLeftOut(t *testing.T) {
	r := rowOver(t, example2, "a", 2)
	deeds := mustDo(t, "deliver 0; move 0 2; send 0; tell 0 1; save 0; save 2; send 0; deliver 1; deliver 0; move 0 1; move 1 9")
	wantRobots(t, "left out", r, deeds, "[{{2 0 2 0} {2 0 2 0}} {{3 1 1 0} {0 0 0 0}}] [] 5")
	at, bad, code := impl.RefusedDeed(r, deeds)
	if at != 0 || bad != impl.ErrRange || code != impl.OK {
		t.Errorf("the first one: %d, %d, %d", at, bad, code)
	}
	at, bad, code = impl.RefusedDeed(r, deeds[1:])
	if at != 1 || bad != impl.ErrState || code != impl.OK {
		t.Errorf("the next one: %d, %d, %d", at, bad, code)
	}
}

// TestDeedLimits has as many deeds as there may be, more of them, and such that are not valid.
func TestDeedLimits(t *testing.T) {
	r := rowOver(t, atOnce, "a", 2)
	saves := slices.Repeat([]impl.Deed{{Kind: impl.DdSave}}, 300)
	wantRobots(t, "300 deeds", r, saves, "[{{0 0 0 0} {0 0 0 0}} {{0 0 0 0} {0 0 0 0}}] [] 300")
	at, bad, code := impl.RefusedDeed(r, saves)
	if at != 0 || bad != 0 || code != impl.ErrNotFound {
		t.Errorf("300 deeds that are done: %d, %d, %d", at, bad, code)
	}
	late := append(slices.Clone(saves[:299]), impl.Deed{Kind: impl.DdDrop})
	if at, bad, code := impl.RefusedDeed(r, late); at != 299 || bad != impl.ErrRange || code != impl.OK {
		t.Errorf("the last one of 300 deeds: %d, %d, %d", at, bad, code)
	}
	verdicts, code := impl.KnownVerdicts(r, append(slices.Clone(saves[:299]), impl.Deed{Kind: impl.DdMove, B: 1}))
	if !slices.Equal(verdicts, []int64{1, 0}) || code != impl.OK {
		t.Errorf("KnownVerdicts: %v, %d", verdicts, code)
	}
	wantDeedCode(t, "301 deeds", r, append(saves[:300:300], saves[0]), impl.ErrRange)
	wantDeedCode(t, "301 deeds, one not valid", r, append(saves[:300:300], impl.Deed{}), impl.ErrInvalid)
	wantDeedCode(t, "301 deeds, no row", impl.Row{}, append(saves[:300:300], saves[0]), impl.ErrInvalid)
	for _, d := range deedsToTry() {
		if !isDeed(d) {
			wantDeedCode(t, fmt.Sprint(d), r, []impl.Deed{saves[0], d}, impl.ErrInvalid)
		}
	}
	for i, odd := range oddRows() {
		wantDeedCode(t, fmt.Sprint("odd row ", i), odd, nil, impl.ErrInvalid)
	}
}

// wantDeedCode wants an error of all functions with deeds.
func wantDeedCode(t *testing.T, name string, r impl.Row, deeds []impl.Deed, want int64) {
	t.Helper()
	robots, done, code := impl.RobotsAfter(r, deeds)
	wantNone(t, name+": RobotsAfter", robots, code, want)
	at, bad, code := impl.RefusedDeed(r, deeds)
	wantNone(t, name+": RefusedDeed", [3]int64{at, bad, done}, code, want)
	verdicts, code := impl.KnownVerdicts(r, deeds)
	wantNone(t, name+": KnownVerdicts", verdicts, code, want)
	plan, code := impl.FinishDeeds(r, deeds)
	wantNone(t, name+": FinishDeeds", plan, code, want)
}

// wantBand compares what the functions tell of deeds with what a band does.
func wantBand(t *testing.T, r impl.Row, deeds []impl.Deed) {
	t.Helper()
	b := bandOf(r)
	codes := b.doAll(deeds)
	wantDone, wantAt, wantBad, wantCode := int64(0), int64(0), int64(0), int64(impl.ErrNotFound)
	for i, code := range codes {
		if code == impl.OK {
			wantDone++
		} else if wantCode != impl.OK {
			wantAt, wantBad, wantCode = int64(i), code, impl.OK
		}
	}
	robots, done, code := impl.RobotsAfter(r, deeds)
	if !alikeAny(robots, b.robots()) || done != wantDone || code != impl.OK {
		t.Fatalf("%v, %s: got %v, %d, %d, want %v, %d", r, deedTexts(deeds), robots, done, code, b.robots(), wantDone)
	}
	at, bad, code := impl.RefusedDeed(r, deeds)
	if at != wantAt || bad != wantBad || code != wantCode {
		t.Fatalf("%v, %s: got %d, %d, %d, want %d, %d, %d", r, deedTexts(deeds), at, bad, code, wantAt, wantBad, wantCode)
	}
	verdicts, code := impl.KnownVerdicts(r, deeds)
	if !slices.Equal(verdicts, b.verdicts()) || code != impl.OK {
		t.Fatalf("%v, %s: got %v, %d, want %v", r, deedTexts(deeds), verdicts, code, b.verdicts())
	}
}

// TestRandomDeeds does random deeds.
func TestRandomDeeds(t *testing.T) {
	t.Parallel()
	rng := rand.New(rand.NewSource(85))
	seen := map[int64]int{}
	for _, r := range append(rowsToTry(t), randomRows(86, 600, 6)...) {
		deeds := bandOf(r).randomDeeds(rng, rng.Intn(301))
		for _, code := range bandOf(r).doAll(deeds) {
			seen[code]++
		}
		wantBand(t, r, deeds)
		wantBand(t, r, deeds[:rng.Intn(len(deeds)+1)])
	}
	for _, code := range []int64{impl.OK, impl.ErrRange, impl.ErrState, impl.ErrLimit} {
		if seen[code] < 20 {
			t.Errorf("%q comes %d times", impl.CodeName(code), seen[code])
		}
	}
}

// TestAllShortLists tries all lists of a few deeds with a row of two servers.
func TestAllShortLists(t *testing.T) {
	t.Parallel()
	deeds := mustDo(t, "move 0 1; move 0 2; move 1 1; send 0; send 1; tell 0 1; tell 1 0; save 0; save 1; crash 0; crash 1; deliver 0; copy 0; drop 0; deliver 1")
	rows := []impl.Row{rowOver(t, atOnce, "", 1), rowOver(t, example2, "", 1), rowOver(t, shuttle, "", 1)}
	for _, first := range deeds {
		for _, second := range deeds {
			for _, third := range deeds {
				for _, fourth := range deeds[3:14] {
					for _, r := range rows {
						wantBand(t, r, []impl.Deed{first, second, third, fourth})
					}
				}
			}
		}
	}
}

// TestTokensAreThoseOfTheRun looks at all tokens behind random deeds.
func TestTokensAreThoseOfTheRun(t *testing.T) {
	t.Parallel()
	rng := rand.New(rand.NewSource(87))
	known := map[int64]int{}
	for _, r := range append(rowsToTry(t), randomRows(88, 600, 6)...) {
		robots, _, _ := impl.RobotsAfter(r, bandOf(r).randomDeeds(rng, 1+rng.Intn(300)))
		var tokens []impl.Token
		for _, d := range robots.Desks {
			tokens = append(tokens, d.Token, d.Saved)
		}
		for _, p := range robots.Wire {
			tokens = append(tokens, p.Token)
		}
		run, verdict, _ := impl.RunTurner(r.Turner, r.Word)
		for _, x := range tokens {
			known[x.Verdict]++
			steps := x.Steps
			if x.Verdict != 0 {
				steps++
			}
			after, code := impl.TokenAfter(r, steps)
			if x != after || code != impl.OK {
				t.Fatalf("%v: the token %v, not %v", r, x, after)
			}
			if x.Verdict != 0 && x.Verdict != verdict {
				t.Fatalf("%v: the token %v, but the verdict %d", r, x, verdict)
			}
			if x.Steps < int64(len(run)) && run[x.Steps] != (impl.Place{State: x.State, At: x.At}) {
				t.Fatalf("%v: the token %v, but the place %v", r, x, run[x.Steps])
			}
		}
	}
	for verdict := range int64(4) {
		if known[verdict] < 100 {
			t.Errorf("the verdict %d comes %d times", verdict, known[verdict])
		}
	}
}
