package tests

import (
	"fmt"
	"math/rand"
	"regexp"
	"slices"
	"strconv"
	"strings"
	"testing"

	"loop.example/g01134/impl"
)

// What the functions of chapter 2 should return is worked out here in other ways, as directly as the document tells it.

const example2 = "turner 1 2 0\nstate 0> 0> 1<\nstate yes no no\n"

func isTurner(t impl.Turner) bool {
	n := len(t.Moves)
	if t.Letters < 1 || t.Letters > 3 || n < 1 || n > 12 || !inList(n, t.Start) {
		return false
	}
	for _, row := range t.Moves {
		if len(row) != int(t.Letters)+2 {
			return false
		}
		for i, m := range row {
			stops := (m.To == -1 || m.To == -2) && m.Dir == 0
			goes := inList(n, m.To) && m.Dir >= -1 && m.Dir <= 1
			falls := i == len(row)-2 && m.Dir == -1 || i == len(row)-1 && m.Dir == 1
			if !stops && !goes || falls {
				return false
			}
		}
	}
	return true
}

func moveText(m impl.Move) string {
	switch m.To {
	case -1:
		return "yes"
	case -2:
		return "no"
	}
	return fmt.Sprint(m.To) + map[int64]string{-1: "<", 0: "=", 1: ">"}[m.Dir]
}

func turnerText(t impl.Turner) string {
	text := fmt.Sprintf("turner %d %d %d\n", t.Letters, len(t.Moves), t.Start)
	for _, row := range t.Moves {
		text += "state"
		for _, m := range row {
			text += " " + moveText(m)
		}
		text += "\n"
	}
	return text
}

var turnerForm = regexp.MustCompile(`^turner ([123]) ([1-9][0-9]?) ([0-9]|1[01])\n((state( (yes|no|([0-9]|1[01])[<=>])){3,5}\n)+)$`)

// turnerIn returns the turner with a text, if there is one.
func turnerIn(text string) (impl.Turner, bool) {
	parts := turnerForm.FindStringSubmatch(text)
	if parts == nil {
		return impl.Turner{}, false
	}
	t := impl.Turner{Letters: int64(parts[1][0] - '0')}
	t.Start, _ = strconv.ParseInt(parts[3], 10, 64)
	for _, line := range strings.Split(strings.TrimSuffix(parts[4], "\n"), "\n") {
		var row []impl.Move
		for _, word := range strings.Fields(line)[1:] {
			m := impl.Move{To: -1}
			if word == "no" {
				m.To = -2
			} else if word != "yes" {
				last := len(word) - 1
				m.To, _ = strconv.ParseInt(word[:last], 10, 64)
				m.Dir = map[byte]int64{'<': -1, '=': 0, '>': 1}[word[last]]
			}
			row = append(row, m)
		}
		t.Moves = append(t.Moves, row)
	}
	return t, isTurner(t) && parts[2] == fmt.Sprint(len(t.Moves))
}

// mustTurn returns the turner with a text that has one.
func mustTurn(t *testing.T, text string) impl.Turner {
	t.Helper()
	u, ok := turnerIn(text)
	if !ok {
		t.Fatalf("no turner: %q", text)
	}
	return u
}

// moveAt returns the move of a turner in a place of a word.
func moveAt(t impl.Turner, w string, p impl.Place) impl.Move {
	signs := "abc"[:t.Letters] + "<>"
	return t.Moves[p.State][strings.IndexByte(signs, ("<" + w + ">")[p.At])]
}

func runOf(t impl.Turner, w string) (run []impl.Place, verdict int64) {
	p := impl.Place{State: t.Start}
	for !slices.Contains(run, p) {
		run = append(run, p)
		m := moveAt(t, w, p)
		if m.To < 0 {
			return run, -m.To
		}
		p = impl.Place{State: m.To, At: p.At + m.Dir}
	}
	return run, impl.VdLoops
}

func verdictOf(t impl.Turner, w string) int64 {
	_, verdict := runOf(t, w)
	return verdict
}

// loopOf follows a run that goes on for ever until it is surely in its loop, and then once round; the loop begins with its place that comes first in the run.
func loopOf(t impl.Turner, w string) []impl.Place {
	run, verdict := runOf(t, w)
	if verdict != impl.VdLoops {
		return nil
	}
	last := run[len(run)-1]
	m := moveAt(t, w, last)
	return run[slices.Index(run, impl.Place{State: m.To, At: last.At + m.Dir}):]
}

// turnsOf writes the directions of a run as a text and looks for those that differ.
func turnsOf(t impl.Turner, w string) []int64 {
	var cells []int64
	path := ""
	run, _ := runOf(t, w)
	for _, p := range run {
		if m := moveAt(t, w, p); m.Dir != 0 {
			path += map[int64]string{-1: "<", 1: ">"}[m.Dir]
			if strings.HasSuffix(path, "<>") || strings.HasSuffix(path, "><") {
				cells = append(cells, p.At)
			}
		}
	}
	return cells
}

// randomTurner returns a turner that stops with one of so many moves.
func randomTurner(rng *rand.Rand, letters int64, states, stops int) impl.Turner {
	t := impl.Turner{Letters: letters, Start: rng.Int63n(int64(states))}
	for range states {
		var row []impl.Move
		for sign := range letters + 2 {
			m := impl.Move{To: rng.Int63n(int64(states)), Dir: rng.Int63n(3) - 1}
			if sign == letters && m.Dir < 0 || sign > letters && m.Dir > 0 {
				m.Dir = -m.Dir
			}
			if rng.Intn(stops) == 0 {
				m = impl.Move{To: -1 - rng.Int63n(2)}
			}
			row = append(row, m)
		}
		t.Moves = append(t.Moves, row)
	}
	return t
}

// randomTurners returns turners of all sizes up to some states.
func randomTurners(seed int64, count, states int) []impl.Turner {
	rng := rand.New(rand.NewSource(seed))
	var list []impl.Turner
	for i := range count {
		list = append(list, randomTurner(rng, 1+rng.Int63n(3), 1+rng.Intn(states), 4+i%9))
	}
	return list
}

// plainTurner goes to the right in its state, and takes at the right mark.
func plainTurner(letters int64, states int) impl.Turner {
	t := impl.Turner{Letters: letters}
	for s := range int64(states) {
		row := []impl.Move{{To: -1}}
		for range letters + 1 {
			row = append([]impl.Move{{To: s, Dir: 1}}, row...)
		}
		t.Moves = append(t.Moves, row)
	}
	return t
}
