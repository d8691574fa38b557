package tests

import (
	"math"
	"math/rand"
	"slices"
	"strings"
	"testing"

	"loop.example/g01134/impl"
)

// Promise 1 for chapter 8.

// deedListsToTry returns lists of deeds, some of which are not valid or too long.
func deedListsToTry(t *testing.T, rows []impl.Row) [][]impl.Deed {
	rng := rand.New(rand.NewSource(91))
	saves := slices.Repeat([]impl.Deed{{Kind: impl.DdSave}}, 301)
	odd := impl.Deed{Kind: impl.DdSave, B: 1}
	list := [][]impl.Deed{nil, {{}}, {odd}, {saves[0], odd}, {{Kind: 9}}, {{Kind: 1, A: math.MaxInt64}}, {{Kind: 1, B: math.MinInt64}}, saves[:300], saves, append(saves[:301:301], odd)}
	list = append(list, mustDo(t, strings.Repeat("send 1; ", 12)+"send 1"), mustDo(t, "move 0 999; save 0; send 0; copy 0; move 1 999; crash 1; deliver 0; move 1 999; save 1; tell 1 0; tell 0 1; drop 0"))
	for _, r := range rows {
		list = append(list, bandOf(r).randomDeeds(rng, rng.Intn(150)))
	}
	return list
}

func TestPurityOfChapter8(t *testing.T) {
	t.Parallel()
	rows := rowsToTry(t)[:24]
	script := "move 0 999\nsave 0\nsend 0\ncopy 0\ntoken 1\nmove 1 999\ncrash 1\nverdicts\ndeliver 0\n\nwhat\ndrop 0\n"
	texts := []string{"", "\n", "move 0 1", "move 0", "save 999", "save 1000", "token 0", "verdicts", script, "\x00", "\xff", strings.Repeat("\n", 120), strings.Repeat("\n", 121), strings.Repeat("x", 20001)}
	numbers := []int64{math.MinInt64, -1, 0, 1, 2, 3, 60, 61, 62, 744, math.MaxInt64}
	p := poolOf(append(oddRows(), rows...), deedListsToTry(t, rows), deedsToTry(), numbers, texts)
	for name, fn := range map[string]any{
		"ValidRow": impl.ValidRow, "ValidDeed": impl.ValidDeed, "DeedText": impl.DeedText, "ReadDeed": impl.ReadDeed,
	} {
		p.sweep(t, name, fn, noFault)
	}
	for name, fn := range map[string]any{
		"OwnerOf": impl.OwnerOf, "TokenAfter": impl.TokenAfter, "RobotsAfter": impl.RobotsAfter, "RefusedDeed": impl.RefusedDeed,
		"KnownVerdicts": impl.KnownVerdicts, "FinishDeeds": impl.FinishDeeds,
	} {
		p.sweep(t, name, fn, codeFault)
	}
	p.sweep(t, "RunRow", impl.RunRow, scriptFault)
}

// scriptFault is codeFault for RunRow, whose text is no word.
func scriptFault(args, results []any) string { return codeFault(args[:1], results) }

// TestLargeRows calls the functions with many elements, of which the sweep would make too many copies.
func TestLargeRows(t *testing.T) {
	cuts := make([]int64, 300000)
	for i := range cuts {
		cuts[i] = int64(i) + 1
	}
	u := plainTurner(1, 1)
	saves := slices.Repeat([]impl.Deed{{Kind: impl.DdSave}}, 300000)
	for name, r := range map[string]impl.Row{
		"cuts": {Turner: u, Cuts: cuts}, "letters": {Turner: u, Word: strings.Repeat("a", 900000)}, "states": {Turner: impl.Turner{Letters: 1, Moves: make([][]impl.Move, 300000)}},
	} {
		wantDeedCode(t, "a large row: "+name, r, saves, impl.ErrInvalid)
		_, one := impl.OwnerOf(r, 0)
		_, two := impl.TokenAfter(r, 0)
		_, three := impl.RunRow(r, "")
		if impl.ValidRow(r) || one != impl.ErrInvalid || two != one || three != one {
			t.Errorf("a large row: %s", name)
		}
	}
	r := impl.Row{Turner: u, Word: "a", Cuts: []int64{1, 2}}
	wantDeedCode(t, "many deeds", r, saves, impl.ErrRange)
	saves[299999].B = 1
	wantDeedCode(t, "many deeds, the last one of which is not valid", r, saves, impl.ErrInvalid)
	for _, text := range []string{strings.Repeat("\n", 900000), strings.Repeat("save 0\n", 100000), strings.Repeat("a", 900000), strings.Repeat(" ", 900000)} {
		out, code := impl.RunRow(r, text)
		wantNone(t, "a large text", out, code, impl.ErrRange)
		d, code := impl.ReadDeed(text)
		wantNone(t, "a large text", d, code, impl.ErrSyntax)
	}
}
