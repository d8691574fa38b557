package tests

import (
	"fmt"
	"math"
	"slices"
	"strings"
	"testing"

	"loop.example/g01134/impl"
)

// Promise 4.

// wantTurner compares a result with the text of the turner that is wanted, or with an error.
func wantTurner(t *testing.T, name string, u impl.Turner, code int64, text string, want int64) {
	t.Helper()
	wantCode(t, name, code, want)
	if want != impl.OK {
		if !isZero(u) {
			t.Errorf("%s: %v comes with an error", name, u)
		}
	} else if got := turnerText(u); got != text {
		t.Errorf("%s: got %q, want %q", name, got, text)
	}
}

func TestTurnerExample(t *testing.T) {
	u, code := impl.ReadTurner(example2)
	wantTurner(t, "ReadTurner", u, code, example2, impl.OK)
	for length := range 61 {
		want := int64(impl.VdTakes)
		if length == 0 {
			want = impl.VdRefuses
		}
		w := strings.Repeat("a", length)
		if verdict, code := impl.VerdictOf(u, w); verdict != want || code != impl.OK {
			t.Errorf("%d letters: %d, %d", length, verdict, code)
		}
	}
	run, verdict, code := impl.RunTurner(u, "a")
	if got := fmt.Sprint(run, verdict, code); got != "[{0 0} {0 1} {0 2} {1 1}] 1 0" {
		t.Errorf("RunTurner: %s", got)
	}
	if turns, code := impl.TurnsOf(u, "a"); !slices.Equal(turns, []int64{2}) || code != impl.OK {
		t.Errorf("TurnsOf: %v, %d", turns, code)
	}
}

func TestTurnerConstants(t *testing.T) {
	got := []int64{impl.MaxTurner, impl.MvLeft, impl.MvStay, impl.MvRight, impl.VdTakes, impl.VdRefuses, impl.VdLoops}
	if !slices.Equal(got, []int64{12, -1, 0, 1, 1, 2, 3}) {
		t.Errorf("constants: %v", got)
	}
}

// turnerWith returns a turner of one letter and two states, in which one move is replaced.
func turnerWith(state, sign int, m impl.Move) impl.Turner {
	stay := impl.Move{To: 1}
	t := impl.Turner{Letters: 1, Moves: [][]impl.Move{{stay, stay, stay}, {stay, stay, stay}}}
	t.Moves[state][sign] = m
	return t
}

// oddTurners returns turners that are not valid, each for one reason.
func oddTurners() []impl.Turner {
	no := impl.Move{To: -2}
	row := []impl.Move{no, no, no}
	one := [][]impl.Move{row}
	return []impl.Turner{
		{},
		{Letters: 1},
		{Letters: 0, Moves: [][]impl.Move{{no, no}}},
		{Letters: -1, Moves: [][]impl.Move{{no}}},
		{Letters: -2, Moves: [][]impl.Move{{}}},
		{Letters: math.MinInt64, Moves: one},
		{Letters: math.MaxInt64, Moves: one},
		{Letters: 4, Moves: [][]impl.Move{{no, no, no, no, no, no}}},
		{Letters: 2, Moves: one},
		{Letters: 1, Moves: [][]impl.Move{{no, no}}},
		{Letters: 1, Moves: [][]impl.Move{{no, no, no, no}}},
		{Letters: 1, Moves: [][]impl.Move{row, {}}},
		{Letters: 1, Start: 1, Moves: one},
		{Letters: 1, Start: -1, Moves: one},
		{Letters: 1, Start: -2, Moves: one},
		{Letters: 1, Start: math.MaxInt64, Moves: one},
		plainTurner(1, 13),
		turnerWith(0, 0, impl.Move{To: 2, Dir: 1}),
		turnerWith(1, 1, impl.Move{To: 2}),
		turnerWith(1, 2, impl.Move{To: -3}),
		turnerWith(0, 0, impl.Move{To: math.MinInt64}),
		turnerWith(0, 0, impl.Move{To: math.MaxInt64}),
		turnerWith(0, 0, impl.Move{To: 0, Dir: 2}),
		turnerWith(0, 0, impl.Move{To: 0, Dir: -2}),
		turnerWith(0, 0, impl.Move{To: 0, Dir: math.MinInt64}),
		turnerWith(0, 0, impl.Move{To: -1, Dir: 1}),
		turnerWith(0, 0, impl.Move{To: -1, Dir: -1}),
		turnerWith(0, 0, impl.Move{To: -2, Dir: 1}),
		turnerWith(0, 2, impl.Move{To: -2, Dir: -1}),
		turnerWith(0, 1, impl.Move{To: -1, Dir: 1}),
		turnerWith(1, 1, impl.Move{To: 0, Dir: -1}),
		turnerWith(1, 2, impl.Move{To: 0, Dir: 1}),
	}
}

// turnersToTry returns valid turners, no two of which are the same.
func turnersToTry() []impl.Turner {
	list := []impl.Turner{
		plainTurner(1, 1), plainTurner(3, 1), plainTurner(2, 11), plainTurner(3, 12),
		turnerWith(0, 0, impl.Move{To: 0, Dir: -1}), turnerWith(0, 0, impl.Move{To: 0, Dir: 1}),
		turnerWith(1, 1, impl.Move{To: 0, Dir: 1}), turnerWith(1, 2, impl.Move{To: 0, Dir: -1}),
		turnerWith(0, 1, impl.Move{To: -1}), turnerWith(0, 2, impl.Move{To: -1}), turnerWith(0, 2, impl.Move{To: -2}),
	}
	for _, text := range []string{
		example2,
		"turner 1 2 1\nstate 0> 0> 1<\nstate yes no no\n",
		"turner 1 2 0\nstate 1> 0> 1<\nstate 1< 1> 1<\n",
		"turner 1 3 0\nstate 1= 0> no\nstate 1> 1= yes\nstate 0> 0> no\n",
		"turner 2 3 2\nstate 0< 1< 2= yes\nstate 2> 0> 1> 2<\nstate 1> 2> 2> 0<\n",
		"turner 2 2 0\nstate 0> 1< 0> 1=\nstate 1< 0= 0= yes\n",
	} {
		u, _ := turnerIn(text)
		list = append(list, u)
	}
	return append(list, randomTurners(21, 15, 12)...)
}

func TestValidTurner(t *testing.T) {
	for i, u := range turnersToTry() {
		if !impl.ValidTurner(u) {
			t.Errorf("turner %d is not valid", i)
		}
	}
	for i, u := range oddTurners() {
		if impl.ValidTurner(u) {
			t.Errorf("turner %d is valid", i)
		}
	}
}

// TestValidMoves tries all moves with all signs.
func TestValidMoves(t *testing.T) {
	for sign := range 3 {
		for to := int64(-4); to <= 3; to++ {
			for dir := int64(-2); dir <= 2; dir++ {
				u := turnerWith(0, sign, impl.Move{To: to, Dir: dir})
				if got := impl.ValidTurner(u); got != isTurner(u) {
					t.Errorf("sign %d, to %d, direction %d: %v", sign, to, dir, got)
				}
			}
		}
	}
}

func TestSameTurner(t *testing.T) {
	all := append(oddTurners(), turnersToTry()...)
	for i, u := range all {
		for k, v := range all {
			if got := impl.SameTurner(u, v); got != (i == k) {
				t.Errorf("%d and %d: %v", i, k, got)
			}
		}
	}
	if !impl.SameTurner(impl.Turner{Moves: [][]impl.Move{nil}}, impl.Turner{Moves: [][]impl.Move{{}}}) || !impl.SameTurner(impl.Turner{}, impl.Turner{Moves: [][]impl.Move{}}) {
		t.Error("nil and empty slices are not the same")
	}
	if impl.SameTurner(impl.Turner{Moves: [][]impl.Move{nil}}, impl.Turner{}) {
		t.Error("an empty list is no list")
	}
}

func TestTurnerText(t *testing.T) {
	for i, u := range turnersToTry() {
		text := impl.TurnerText(u)
		if want := turnerText(u); text != want {
			t.Errorf("%d: got %q, want %q", i, text, want)
		}
		again, code := impl.ReadTurner(text)
		if code != impl.OK || !alikeAny(u, again) {
			t.Errorf("%d: %v is read as %v, %d", i, u, again, code)
		}
	}
	for i, u := range oddTurners() {
		if got := impl.TurnerText(u); got != "" {
			t.Errorf("turner %d that is not valid: %q", i, got)
		}
	}
}

func TestReadTurnerSyntax(t *testing.T) {
	const head = "turner 1 1 0\n"
	texts := []string{"", "\n", "turner", "turner\n", head, "turner 1 1 0", "turner 1 0 0\n", "turner 1 1\nstate no no no\n", "turner 1 1 0 0\nstate no no no\n",
		"reader 1 1 0\nstate no no no\n", "turner 2 1 0\nstate no no no\n", "turner 0 1 0\nstate no no\n", "turner 4 1 0\nstate no no no no no no\n",
		"turner 1 2 0\nstate no no no\n", "turner 1 1 1\nstate no no no\n", "turner 1 1 -1\nstate no no no\n", "turner 01 1 0\nstate no no no\n",
		"turner 1 1 0\r\nstate no no no\r\n", "\n" + head + "state no no no\n", "turner 1 1 99999999999999999999\nstate no no no\n",
		strings.Repeat("\n", 20000), strings.Repeat(head, 1500), strings.Repeat("turner ", 2857), turnerText(plainTurner(3, 13))}
	for _, line := range []string{"", "\n", "state\n", "state no no no", "state no no\n", "state no no no no\n", "State no no no\n", " state no no no\n", "state no no no \n",
		"state  no no no\n", "state no\tno no\n", "state no no no\n\n", "state no no no\nstate no no no\n", "state no no maybe\n", "state no no Yes\n",
		"state 0 no no\n", "state > no no\n", "state 0>> no no\n", "state 00> no no\n", "state +0> no no\n", "state -0> no no\n", "state -1= no no\n", "state -2= no no\n",
		"state -1> no no\n", "state 0 > no no\n", "state 0x0> no no\n", "state 0_0= no no\n", "state 1> no no\n", "state no 0< no\n", "state no no 0>\n", "state yes= no no\n",
		"state =0 no no\n", "state 0! no no\n", "state 0? no no\n", "state 0; no no\n", "state 18446744073709551616> no no\n", "state yes, no no\n", "yes no no no\n"} {
		texts = append(texts, head+line)
	}
	for _, text := range texts {
		u, code := impl.ReadTurner(text)
		wantTurner(t, text, u, code, "", impl.ErrSyntax)
	}
}

func TestReadTurnerRange(t *testing.T) {
	for length, want := range map[int]int64{20000: impl.ErrSyntax, 20001: impl.ErrRange, 900000: impl.ErrRange} {
		for _, text := range []string{strings.Repeat("a", length), example2 + strings.Repeat("\n", length-len(example2)), example2 + strings.Repeat("state yes no no\n", length/16) + "state yes no no\n"[:length%16]} {
			u, code := impl.ReadTurner(text[:length])
			wantTurner(t, text[:20], u, code, "", want)
		}
	}
}

// TestReadTurnerChanged reads texts with one byte more, less, or changed.
func TestReadTurnerChanged(t *testing.T) {
	read := 0
	for _, text := range []string{example2, "turner 1 1 0\nstate 0= no 0<\n", "turner 3 2 1\nstate 0> 1= yes 1> no\nstate 1< 0< 1> 0= 1<\n", turnerText(plainTurner(1, 12))} {
		for i := range len(text) + 1 {
			for _, b := range "\n 0129<=>;?yesnotaru+-\x00" {
				changed := []string{text[:i] + string(b) + text[i:], text[:i]}
				if i < len(text) {
					changed = append(changed, text[:i]+text[i+1:], text[:i]+string(b)+text[i+1:])
				}
				for _, other := range changed {
					u, code := impl.ReadTurner(other)
					want, ok := turnerIn(other)
					if ok {
						read++
						wantTurner(t, other, u, code, turnerText(want), impl.OK)
					} else {
						wantTurner(t, other, u, code, "", impl.ErrSyntax)
					}
				}
			}
		}
	}
	if read < 100 {
		t.Errorf("only %d texts have been read", read)
	}
}

// runWords returns short words over so many letters, and longest ones.
func runWords(letters int64) []string {
	return append(wordsTo(letters, 3), strings.Repeat("a", 60), strings.Repeat("abc"[:letters], 60)[:60])
}

func TestStepOf(t *testing.T) {
	for i, u := range turnersToTry() {
		for _, w := range runWords(u.Letters) {
			for state := range u.Moves {
				for at := range len(w) + 2 {
					p := impl.Place{State: int64(state), At: int64(at)}
					m := moveAt(u, w, p)
					want, wantedCode := impl.Place{State: m.To, At: p.At + m.Dir}, int64(impl.OK)
					if m.To < 0 {
						want, wantedCode = impl.Place{}, impl.ErrState
					}
					if got, code := impl.StepOf(u, w, p); got != want || code != wantedCode {
						t.Errorf("%d, %q, %v: got %v, %d, want %v, %d", i, w, p, got, code, want, wantedCode)
					}
				}
			}
		}
	}
}

func TestStepOfErrors(t *testing.T) {
	u := mustTurn(t, example2)
	for name, c := range map[string]struct {
		u    impl.Turner
		w    string
		p    impl.Place
		want int64
	}{
		"right mark":             {u, "aa", impl.Place{State: 0, At: 3}, impl.OK},
		"behind the right mark":  {u, "aa", impl.Place{State: 0, At: 4}, impl.ErrRange},
		"before the left mark":   {u, "aa", impl.Place{State: 0, At: -1}, impl.ErrRange},
		"far away":               {u, "aa", impl.Place{State: 0, At: math.MaxInt64}, impl.ErrRange},
		"far back":               {u, "aa", impl.Place{State: 0, At: math.MinInt64}, impl.ErrRange},
		"state 2":                {u, "aa", impl.Place{State: 2, At: 0}, impl.ErrRange},
		"state -1":               {u, "aa", impl.Place{State: -1, At: 0}, impl.ErrRange},
		"state -2":               {u, "", impl.Place{State: -2, At: 1}, impl.ErrRange},
		"empty word":             {u, "", impl.Place{State: 0, At: 2}, impl.ErrRange},
		"stops":                  {u, "aa", impl.Place{State: 1, At: 1}, impl.ErrState},
		"stops at the left mark": {u, "", impl.Place{State: 1, At: 0}, impl.ErrState},
		"word before place":      {u, "ab", impl.Place{State: 0, At: 9}, impl.ErrInvalid},
		"long word before place": {u, strings.Repeat("a", 61), impl.Place{State: 9}, impl.ErrInvalid},
		"turner before place":    {oddTurners()[0], "", impl.Place{State: 9}, impl.ErrInvalid},
	} {
		p, code := impl.StepOf(c.u, c.w, c.p)
		wantCode(t, name, code, c.want)
		if code != impl.OK && p != (impl.Place{}) {
			t.Errorf("%s: %v comes with an error", name, p)
		}
	}
}

func TestRuns(t *testing.T) {
	verdicts := map[int64]int{}
	for _, u := range append(turnersToTry(), randomTurners(22, 600, 6)...) {
		for _, w := range runWords(u.Letters) {
			wantRun(t, u, w)
			verdicts[verdictOf(u, w)]++
		}
	}
	if verdicts[1] < 1000 || verdicts[2] < 1000 || verdicts[3] < 1000 {
		t.Errorf("verdicts: %v", verdicts)
	}
}

// wantRun compares all that is told of a run.
func wantRun(t *testing.T, u impl.Turner, w string) {
	t.Helper()
	wantedRun, wantedVerdict := runOf(u, w)
	run, verdict, one := impl.RunTurner(u, w)
	if !slices.Equal(run, wantedRun) || verdict != wantedVerdict || one != impl.OK {
		t.Fatalf("RunTurner %q %q: %v, %d, %d", turnerText(u), w, run, verdict, one)
	}
	if verdict, code := impl.VerdictOf(u, w); verdict != wantedVerdict || code != impl.OK {
		t.Fatalf("VerdictOf %q %q: %d, %d", turnerText(u), w, verdict, code)
	}
	loop, two := impl.LoopOf(u, w)
	if !slices.Equal(loop, loopOf(u, w)) || (two == impl.ErrNotFound) != (wantedVerdict != impl.VdLoops) || two != impl.OK && two != impl.ErrNotFound {
		t.Fatalf("LoopOf %q %q: %v, %d", turnerText(u), w, loop, two)
	}
	wantedVisits := make([]int64, len(w)+2)
	for _, p := range wantedRun {
		wantedVisits[p.At]++
	}
	if visits, code := impl.VisitsOf(u, w); !slices.Equal(visits, wantedVisits) || code != impl.OK {
		t.Fatalf("VisitsOf %q %q: %v, %d", turnerText(u), w, visits, code)
	}
	if turns, code := impl.TurnsOf(u, w); !slices.Equal(turns, turnsOf(u, w)) || code != impl.OK {
		t.Fatalf("TurnsOf %q %q: %v, %d", turnerText(u), w, turns, code)
	}
}

// TestRunsOfMany asserts what is told of some runs, written down by hand.
func TestRunsOfMany(t *testing.T) {
	for name, c := range map[string]struct{ text, w, want string }{
		"stops at once":        {"turner 1 1 0\nstate no yes no\n", "", "[{0 0}] 1 [] [1 0] []"},
		"refuses at once":      {"turner 1 1 0\nstate no no no\n", "aa", "[{0 0}] 2 [] [1 0 0 0] []"},
		"stays for ever":       {"turner 1 1 0\nstate no 0= no\n", "a", "[{0 0}] 3 [{0 0}] [1 0 0] []"},
		"stays in two states":  {"turner 1 3 2\nstate no 1= no\nstate no 0= no\nstate no 1= no\n", "", "[{2 0} {1 0} {0 0}] 3 [{1 0} {0 0}] [3 0] []"},
		"empty word":           {example2, "", "[{0 0} {0 1} {1 0}] 2 [] [2 1] [1]"},
		"to and fro":           {"turner 1 1 0\nstate 0> 0> 0<\n", "", "[{0 0} {0 1}] 3 [{0 0} {0 1}] [1 1] [1]"},
		"late loop":            {"turner 1 2 0\nstate 1> 0> 1<\nstate 1< 1> 1<\n", "a", "[{0 0} {0 1} {1 2} {1 1} {1 0}] 3 [{1 1} {1 0}] [2 2 1] [2 0]"},
		"stays before turning": {"turner 1 3 0\nstate 0> 0> 1=\nstate yes 2= 2=\nstate no 2= 1<\n", "a", "[{0 0} {0 1} {0 2} {1 2} {2 2} {1 1}] 1 [] [1 2 3] [2]"},
		"stays and goes on":    {"turner 1 2 0\nstate 1= 0> yes\nstate 0> no no\n", "a", "[{0 0} {0 1} {1 1} {0 2}] 1 [] [1 2 1] []"},
		"turns at both marks":  {"turner 1 3 0\nstate 0> 0> 1<\nstate 1< 2> no\nstate 2> no yes\n", "a", "[{0 0} {0 1} {0 2} {1 1} {1 0} {2 1} {2 2}] 1 [] [2 3 2] [2 0]"},
	} {
		u := mustTurn(t, c.text)
		run, verdict, _ := impl.RunTurner(u, c.w)
		loop, _ := impl.LoopOf(u, c.w)
		visits, _ := impl.VisitsOf(u, c.w)
		turns, _ := impl.TurnsOf(u, c.w)
		if got := fmt.Sprint(run, verdict, loop, visits, turns); got != c.want {
			t.Errorf("%s: got %s, want %s", name, got, c.want)
		}
	}
}

// TestLongestRun goes over the longest word as often as the greatest turner can.
func TestLongestRun(t *testing.T) {
	moduli := make([]int64, 12)
	for i := range moduli {
		moduli[i] = 1
	}
	u, code := impl.ModTurner(3, moduli)
	wantCode(t, "ModTurner", code, impl.OK)
	w := strings.Repeat("cab", 20)
	wantRun(t, u, w)
	run, verdict, code := impl.RunTurner(u, w)
	if len(run) != 12*61+1 || verdict != impl.VdTakes || code != impl.OK {
		t.Errorf("%d places, %d, %d", len(run), verdict, code)
	}
}

// TestRunErrors calls the functions that run with what is not valid.
func TestRunErrors(t *testing.T) {
	u := mustTurn(t, example2)
	type call struct {
		u impl.Turner
		w string
	}
	calls := []call{{u, "b"}, {u, "A"}, {u, strings.Repeat("a", 61)}, {u, "a "}}
	for _, odd := range oddTurners() {
		calls = append(calls, call{odd, ""}, call{odd, "d"})
	}
	for i, c := range calls {
		run, verdict, one := impl.RunTurner(c.u, c.w)
		alone, two := impl.VerdictOf(c.u, c.w)
		loop, three := impl.LoopOf(c.u, c.w)
		visits, four := impl.VisitsOf(c.u, c.w)
		turns, five := impl.TurnsOf(c.u, c.w)
		if len(run)+len(loop)+len(visits)+len(turns) > 0 || verdict != 0 || alone != 0 {
			t.Errorf("%d: a result comes with an error", i)
		}
		if codes := fmt.Sprint(one, two, three, four, five); codes != "1 1 1 1 1" {
			t.Errorf("%d: codes %s", i, codes)
		}
	}
}
