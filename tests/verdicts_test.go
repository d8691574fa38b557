package tests

import (
	"fmt"
	"math/rand"
	"strings"
	"testing"

	"loop.example/g01134/impl"
)

// Promise 23: all ways to a verdict come to the same one. Each of the functions below tells it in one of these ways; 0 stands for one that is not known.

// teller returns a verdict on a word.
type teller func(t *testing.T, w string) int64

func byRun(u impl.Turner) teller {
	return func(t *testing.T, w string) int64 {
		run, verdict, code := impl.RunTurner(u, w)
		wantCode(t, "RunTurner", code, impl.OK)
		again, code := impl.VerdictOf(u, w)
		wantCode(t, "VerdictOf", code, impl.OK)
		if again != verdict {
			t.Errorf("VerdictOf: %d and %d", verdict, again)
		}
		// The last place stops just if the run does not go on for ever.
		if _, code := impl.StepOf(u, w, run[len(run)-1]); (code == impl.OK) != (verdict == impl.VdLoops) {
			t.Errorf("StepOf: %d behind the run with the verdict %d", code, verdict)
		}
		return verdict
	}
}

func byTable(u impl.Turner) teller {
	return func(t *testing.T, w string) int64 {
		x, code := impl.TableOf(u, w)
		wantCode(t, "TableOf", code, impl.OK)
		verdict, code := impl.VerdictBy(u, x)
		wantCode(t, "VerdictBy", code, impl.OK)
		return verdict
	}
}

// byReaders asks the readers of all verdicts, of which just one has to take a word; it returns nil if they would be too large.
func byReaders(t *testing.T, u impl.Turner) teller {
	readers := map[int64]impl.Reader{}
	for verdict := int64(1); verdict <= 3; verdict++ {
		r, code := impl.VerdictReader(u, verdict)
		if code == impl.ErrLimit {
			return nil
		}
		wantCode(t, "VerdictReader", code, impl.OK)
		readers[verdict] = r
	}
	r, code := impl.ReaderOfTurner(u)
	wantCode(t, "ReaderOfTurner", code, impl.OK)
	return func(t *testing.T, w string) int64 {
		sum := int64(0)
		for verdict, reader := range readers {
			if takes, _ := impl.Takes(reader, w); takes {
				sum += 10 + verdict
			}
		}
		if takes, _ := impl.Takes(r, w); takes != (sum == 10+impl.VdTakes) {
			t.Errorf("ReaderOfTurner: %v", takes)
		}
		return sum - 10
	}
}

func byCrossings(u impl.Turner) teller {
	return func(t *testing.T, w string) int64 {
		list, code := impl.CrossingsOf(u, w)
		if code == impl.ErrState {
			return impl.VdLoops
		}
		wantCode(t, "CrossingsOf", code, impl.OK)
		verdict, code := impl.CheckCrossings(u, w, list)
		wantCode(t, "CheckCrossings", code, impl.OK)
		return verdict
	}
}

// byWanderer tells only whether a word is taken, by a way or by labels, and by a reader; it returns nil for turners of too many states.
func byWanderer(t *testing.T, u impl.Turner) teller {
	m, code := impl.WandererOf(u)
	if code == impl.ErrLimit {
		return nil
	}
	wantCode(t, "WandererOf", code, impl.OK)
	r, readerCode := impl.ReaderOfWanderer(m)
	return func(t *testing.T, w string) int64 {
		takes, code := impl.WandererTakes(m, w)
		wantCode(t, "WandererTakes", code, impl.OK)
		if readerCode == impl.OK {
			if again, _ := impl.Takes(r, w); again != takes {
				t.Errorf("ReaderOfWanderer: %v", again)
			}
		}
		proved := false
		if takes {
			way, _ := impl.FirstWay(m, w)
			proved, code = impl.CheckWay(m, w, way)
		} else {
			labels, _ := impl.LabelsOf(m, w)
			proved, code = impl.CheckLabels(m, w, labels)
		}
		if !proved || code != impl.OK {
			t.Errorf("there is no proof that the wanderer takes: %v", takes)
		}
		if takes {
			return impl.VdTakes
		}
		return 0
	}
}

// byPebbler returns nil for turners of too many states.
func byPebbler(t *testing.T, u impl.Turner) teller {
	p, code := impl.PebblerOf(u)
	if code == impl.ErrLimit {
		return nil
	}
	wantCode(t, "PebblerOf", code, impl.OK)
	return func(t *testing.T, w string) int64 {
		verdict, _, code := impl.RunPebbler(p, w)
		wantCode(t, "RunPebbler", code, impl.OK)
		return verdict
	}
}

// byRow asks all servers of a row, after some deeds by which parcels are lost and come twice, and servers crash; 0 if too many deeds would be needed.
func byRow(u impl.Turner, rng *rand.Rand) teller {
	return func(t *testing.T, w string) int64 {
		r := impl.Row{Turner: u, Word: w, Cuts: randomCuts(rng, w)}
		deeds := bandOf(r).randomDeeds(rng, rng.Intn(40))
		plan, code := impl.FinishDeeds(r, deeds)
		if code == impl.ErrLimit {
			return 0
		}
		wantCode(t, "FinishDeeds", code, impl.OK)
		verdicts, code := impl.KnownVerdicts(r, append(deeds, plan...))
		wantCode(t, "KnownVerdicts", code, impl.OK)
		for _, verdict := range verdicts {
			if verdict != verdicts[0] {
				t.Errorf("KnownVerdicts: %v", verdicts)
			}
		}
		return verdicts[0]
	}
}

// tellersOf returns all ways that a turner is not too large for.
func tellersOf(t *testing.T, u impl.Turner, rng *rand.Rand) map[string]teller {
	all := map[string]teller{
		"run": byRun(u), "table": byTable(u), "readers": byReaders(t, u), "crossings": byCrossings(u), "wanderer": byWanderer(t, u), "pebbler": byPebbler(t, u), "row": byRow(u, rng),
	}
	for name, tells := range all {
		if tells == nil {
			delete(all, name)
		}
	}
	return all
}

func TestAllWaysToOneVerdict(t *testing.T) {
	t.Parallel()
	rng := rand.New(rand.NewSource(92))
	told := map[string]int{}
	for _, u := range append(append(turnersToTry(), randomTurners(93, 60, 5)...), randomTurners(94, 30, 12)...) {
		tellers := tellersOf(t, u, rng)
		for _, w := range append(madeWords(u.Letters), longWords(rng, u.Letters, 3)...) {
			want := verdictOf(u, w)
			for name, tells := range tellers {
				got := tells(t, w)
				if name == "wanderer" {
					// A wanderer that does not take a word may refuse it or go on for ever.
					if (got == impl.VdTakes) != (want == impl.VdTakes) {
						t.Errorf("the wanderer takes: %v", got == impl.VdTakes)
					}
				} else if got != want && (name != "row" || got != 0) {
					t.Errorf("%s: the verdict %d, not %d", name, got, want)
				}
				if got != 0 {
					told[fmt.Sprint(name, " ", got)]++
				}
			}
			if t.Failed() {
				t.Fatalf("for %q, on %q", turnerText(u), w)
			}
		}
	}
	for _, name := range []string{"run", "table", "readers", "crossings", "pebbler", "row"} {
		for verdict := 1; verdict <= 3; verdict++ {
			if count := told[fmt.Sprint(name, " ", verdict)]; count < 500 {
				t.Errorf("%s: the verdict %d is told %d times", name, verdict, count)
			}
		}
	}
	if told["wanderer 1"] < 500 {
		t.Errorf("wanderer: %d words are taken", told["wanderer 1"])
	}
}

// TestOneVerdictOfAllRows has all cuts of words, also of the empty one.
func TestOneVerdictOfAllRows(t *testing.T) {
	for _, text := range []string{example2, shuttle, atOnce, notAtAll, "turner 1 3 0\nstate 0> 0> 1<\nstate 2< no 1<\nstate 1< yes no\n"} {
		u := mustTurn(t, text)
		for _, w := range wordsTo(1, 4) {
			want, _ := impl.VerdictOf(u, w)
			cells := int64(len(w)) + 2
			rows := []impl.Row{{Turner: u, Word: w}}
			for i := int64(1); i < cells; i++ {
				rows = append(rows, impl.Row{Turner: u, Word: w, Cuts: []int64{i}})
				for k := i + 1; k < cells; k++ {
					rows = append(rows, impl.Row{Turner: u, Word: w, Cuts: []int64{i, k}})
					for j := k + 1; j < cells; j++ {
						rows = append(rows, impl.Row{Turner: u, Word: w, Cuts: []int64{i, k, j}})
					}
				}
			}
			for _, r := range rows {
				plan, _ := impl.FinishDeeds(r, nil)
				verdicts, code := impl.KnownVerdicts(r, plan)
				wantCode(t, "KnownVerdicts", code, impl.OK)
				if got, all := fmt.Sprint(verdicts), fmt.Sprint(want); strings.Trim(got, "[] "+all) != "" || len(verdicts) != len(r.Cuts)+1 {
					t.Errorf("%q, %q, %v: %s, not %s", text, w, r.Cuts, got, all)
				}
			}
		}
	}
}

// TestNoVerdict has turners and words that are not valid: no way comes to a verdict.
func TestNoVerdict(t *testing.T) {
	type pair struct {
		turner impl.Turner
		word   string
	}
	pairs := []pair{{plainTurner(1, 1), "b"}, {plainTurner(2, 1), "abc"}, {plainTurner(1, 1), strings.Repeat("a", 61)}, {plainTurner(3, 5), "A"}}
	for _, odd := range oddTurners() {
		pairs = append(pairs, pair{odd, ""})
	}
	for i, p := range pairs {
		_, verdict, run := impl.RunTurner(p.turner, p.word)
		x, table := impl.TableOf(p.turner, p.word)
		list, crossings := impl.CrossingsOf(p.turner, p.word)
		m, wanderer := impl.WandererOf(p.turner)
		if wanderer == impl.OK {
			_, wanderer = impl.WandererTakes(m, p.word)
		}
		b, pebbler := impl.PebblerOf(p.turner)
		if pebbler == impl.OK {
			_, _, pebbler = impl.RunPebbler(b, p.word)
		}
		r, reader := impl.ReaderOfTurner(p.turner)
		if reader == impl.OK {
			_, reader = impl.Takes(r, p.word)
		}
		verdicts, row := impl.KnownVerdicts(impl.Row{Turner: p.turner, Word: p.word}, nil)
		for _, code := range []int64{run, table, crossings, wanderer, pebbler, reader, row} {
			wantCode(t, fmt.Sprint("the pair ", i), code, impl.ErrInvalid)
		}
		if verdict != 0 || !isZero(x) || !isZero(list) || !isZero(verdicts) {
			t.Errorf("the pair %d: %d, %v, %v, %v", i, verdict, x, list, verdicts)
		}
	}
}
