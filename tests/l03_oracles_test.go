package tests

import (
	"fmt"
	"math/rand"
	"regexp"
	"slices"
	"strings"
	"testing"

	"loop.example/g01134/impl"
)

// What the functions of chapter 3 should return is worked out here by going through texts cell by cell.

func isTable(x impl.Table) bool {
	n := len(x.FromLeft)
	ok := n >= 1 && n <= 12 && len(x.FromRight) == n
	for _, e := range slices.Concat(x.FromLeft, x.FromRight) {
		goes := (e.Side == -1 || e.Side == 1) && inList(n, e.To)
		stays := e.Side == 0 && e.To <= -1 && e.To >= -3
		ok = ok && (goes || stays)
	}
	return ok
}

func exitsText(exits []impl.Exit) string {
	text := ""
	for _, e := range exits {
		if e.Side == 0 {
			text += " " + []string{"on", "no", "yes"}[e.To+3]
		} else {
			text += fmt.Sprint(map[int64]string{-1: " <", 1: " >"}[e.Side], e.To)
		}
	}
	return text + "\n"
}

func tableText(x impl.Table) string {
	return "left" + exitsText(x.FromLeft) + "right" + exitsText(x.FromRight)
}

var tableForm = regexp.MustCompile(`^left(( (yes|no|on|[<>]([0-9]|1[01]))){1,12})\nright(( (yes|no|on|[<>]([0-9]|1[01]))){1,12})\n$`)

// tableIn returns the table with a text, if there is one.
func tableIn(text string) (impl.Table, bool) {
	parts := tableForm.FindStringSubmatch(text)
	if parts == nil {
		return impl.Table{}, false
	}
	exits := func(list string) []impl.Exit {
		var exits []impl.Exit
		for _, word := range strings.Fields(list) {
			e := impl.Exit{To: map[string]int64{"yes": -1, "no": -2, "on": -3}[word]}
			if e.To == 0 {
				fmt.Sscan(word[1:], &e.To)
				e.Side = map[byte]int64{'<': -1, '>': 1}[word[0]]
			}
			exits = append(exits, e)
		}
		return exits
	}
	x := impl.Table{FromLeft: exits(parts[1]), FromRight: exits(parts[5])}
	return x, isTable(x)
}

func mustTable(t *testing.T, text string) impl.Table {
	t.Helper()
	x, ok := tableIn(text)
	if !ok {
		t.Fatalf("no table: %q", text)
	}
	return x
}

// exitOf goes through a text, of which "<" may be the left mark, from a cell on; an empty text is passed in the direction of coming.
func exitOf(t impl.Turner, text string, state int64, at, coming int) impl.Exit {
	if text == "" {
		return impl.Exit{Side: int64(coming), To: state}
	}
	signs := "abc"[:t.Letters] + "<>"
	for range len(t.Moves)*len(text) + 1 {
		m := t.Moves[state][strings.IndexByte(signs, text[at])]
		if m.To < 0 {
			return impl.Exit{Side: 0, To: m.To}
		}
		state, at = m.To, at+int(m.Dir)
		if at < 0 {
			return impl.Exit{Side: -1, To: state}
		}
		if at == len(text) {
			return impl.Exit{Side: 1, To: state}
		}
	}
	return impl.Exit{Side: 0, To: -3}
}

// tableOf returns the table of a text of any length.
func tableOf(t impl.Turner, text string) impl.Table {
	var x impl.Table
	for state := range int64(len(t.Moves)) {
		x.FromLeft = append(x.FromLeft, exitOf(t, text, state, 0, 1))
		x.FromRight = append(x.FromRight, exitOf(t, text, state, len(text)-1, -1))
	}
	return x
}

// classOf tells how the turner leaves the left mark and a text for the first time, and when it comes back.
func classOf(t impl.Turner, text string) string {
	exits := []impl.Exit{exitOf(t, "<"+text, t.Start, 0, 1)}
	for state := range int64(len(t.Moves)) {
		exits = append(exits, exitOf(t, "<"+text, state, len(text), -1))
	}
	return exitsText(exits)
}

// passParts goes from part to part, each with the exits from the left and from the right, until it comes out or has surely come again.
func passParts(parts [][2][]impl.Exit, part int, side, state int64) impl.Exit {
	for range 1000 {
		e := parts[part][(1-side)/2][state]
		if e.Side == 0 {
			return e
		}
		part += int(e.Side)
		side, state = e.Side, e.To
		if part < 0 || part == len(parts) {
			return e
		}
	}
	return impl.Exit{Side: 0, To: -3}
}

// joinOf returns the table of several tables, one behind the other.
func joinOf(tables ...impl.Table) impl.Table {
	var parts [][2][]impl.Exit
	for _, x := range tables {
		parts = append(parts, [2][]impl.Exit{x.FromLeft, x.FromRight})
	}
	var both impl.Table
	for state := range int64(len(tables[0].FromLeft)) {
		both.FromLeft = append(both.FromLeft, passParts(parts, 0, 1, state))
		both.FromRight = append(both.FromRight, passParts(parts, len(parts)-1, -1, state))
	}
	return both
}

// verdictBy returns the verdict on a word with a table between the marks.
func verdictBy(t impl.Turner, x impl.Table) int64 {
	left, right := tableOf(t, "<"), tableOf(t, ">")
	whole := joinOf(left, x, right)
	return -whole.FromLeft[t.Start].To
}

// keyed returns the first texts, in the order of words, of all keys that texts have, at most so many; texts with the same key must have the same keys with more letters behind them.
func keyed(letters int64, most int, key func(text string) string) []string {
	list := []string{""}
	met := map[string]bool{key(""): true}
	for i := 0; i < len(list) && len(list) < most; i++ {
		for _, letter := range "abc"[:letters] {
			text := list[i] + string(letter)
			if k := key(text); !met[k] && len(list) < most {
				met[k] = true
				list = append(list, text)
			}
		}
	}
	return list
}

// firstTexts returns the first texts of all tables, at most so many.
func firstTexts(t impl.Turner, most int) []string {
	return keyed(t.Letters, most, func(text string) string { return tableText(tableOf(t, text)) })
}

// firstClasses returns the first texts of all classes, at most so many.
func firstClasses(t impl.Turner, most int) []string {
	return keyed(t.Letters, most, func(text string) string { return classOf(t, text) })
}

// randomTable returns a table of so many states, which no turner needs to have.
func randomTable(rng *rand.Rand, states int) impl.Table {
	exits := func() []impl.Exit {
		var list []impl.Exit
		for range states {
			e := impl.Exit{Side: 2*rng.Int63n(2) - 1, To: rng.Int63n(int64(states))}
			if rng.Intn(8) == 0 {
				e = impl.Exit{Side: 0, To: -1 - rng.Int63n(3)}
			}
			list = append(list, e)
		}
		return list
	}
	return impl.Table{FromLeft: exits(), FromRight: exits()}
}

// Turners with just as many tables, and as many classes, as are listed, and with 1 more.
const (
	tables200  = "turner 3 5 0\nstate 1< 0> 3< yes 3<\nstate yes 0< yes 1> 0<\nstate 3> yes yes 0> 4<\nstate 4> 3< 1> 4> no\nstate 1> no 0< 0> 0<\n"
	tables201  = "turner 3 6 0\nstate 4> 2< 0> 0> 1<\nstate 0> no 5> yes 4<\nstate yes 4> 3> 2> 3<\nstate 0< no 2> 3> 0<\nstate 1< yes 0< 2> 5<\nstate 5> 5> 2< no 5<\n"
	classes300 = "turner 3 7 0\nstate 5< 3> 0< 3> 0<\nstate 6< 0> 1> yes 1<\nstate no 6< 1< 2> 3<\nstate 4> 3< 3< 2> yes\nstate 5> yes 6< 4> 0<\nstate 5> 4< 6< 1> 6<\nstate 2< 0< no 1> 5<\n"
	classes301 = "turner 3 7 0\nstate 5> 6> 0> 3> 4<\nstate 3< 5< 5< yes 2<\nstate 6> 3< 0< 3> 4<\nstate 6< yes 1> 1> 0<\nstate 4< 2< 2> 6> 4<\nstate 2> 6< no 5> 2<\nstate 5> 1< 6< 1> yes\n"
)

// clocks returns a turner of two letters that only goes to the right and turns clocks of 3, 4 and 5 hours with "a"; with "b" it stops, and takes at 0.
func clocks() impl.Turner {
	t := impl.Turner{Letters: 2}
	for _, hours := range []int64{3, 4, 5} {
		first := int64(len(t.Moves))
		for hour := range hours {
			ring := impl.Move{To: -2}
			if hour == 0 {
				ring.To = -1
			}
			t.Moves = append(t.Moves, []impl.Move{{To: first + (hour+1)%hours, Dir: 1}, ring, {To: first + hour, Dir: 1}, {To: -2}})
		}
	}
	return t
}

// digits tell for 4 digits and 3 letters which digit, 0 to 2, follows each one with this letter, or -1 for none. They lead by one letter after the other through 81 numbers.
var digits = [4][3][3]int{
	{{2, 0, 1}, {0, 1, 2}, {2, 0, 1}},
	{{0, 2, 1}, {-1, -1, 0}, {1, 2, 0}},
	{{1, 0, 2}, {1, -1, 0}, {0, 2, 1}},
	{{1, 2, -1}, {-1, -1, 0}, {-1, -1, 0}},
}

// digitsAfter returns the 4 digits after a text, beginning with 0; false if there are none.
func digitsAfter(text string) ([4]int, bool) {
	var number [4]int
	for _, letter := range text {
		for i, d := range number {
			number[i] = digits[i][letter-'a'][d]
			if number[i] < 0 {
				return [4]int{}, false
			}
		}
	}
	return number, true
}

// farText returns the first text that leads to the digits to which no shorter one than with so many letters leads.
func farText(letters int) string {
	for _, text := range keyed(3, 100, func(text string) string { return fmt.Sprint(digitsAfter(text)) }) {
		if _, ok := digitsAfter(text); ok && len(text) == letters {
			return text
		}
	}
	return "?"
}

// farTurner takes the texts that lead to the same digits as the given one, looking at each digit in a pass of its own: to the right from its beginning on, and to the left, backwards, from its end on.
func farTurner(text string) impl.Turner {
	t := impl.Turner{Letters: 3}
	goal, _ := digitsAfter(text)
	starts := []int64{0, int64(3 + goal[1]), 6, int64(9 + goal[3])}
	for pass := range 4 {
		for d := range 3 {
			no := impl.Move{To: -2}
			row := []impl.Move{no, no, no, no, no}
			for letter := range 3 {
				next, dir := digits[pass][letter][d], int64(1)
				if pass%2 == 1 {
					next, dir = slices.Index(digits[pass][letter][:], d), -1
				}
				if next >= 0 {
					row[letter] = impl.Move{To: int64(3*pass + next), Dir: dir}
				}
			}
			if pass == 0 {
				row[3] = impl.Move{To: int64(d), Dir: 1}
			}
			switch {
			case pass == 3 && d == 0:
				row[3] = impl.Move{To: -1}
			case pass == 1 && d == 0:
				row[3] = impl.Move{To: starts[2], Dir: 1}
			case pass%2 == 0 && d == goal[pass]:
				row[4] = impl.Move{To: starts[pass+1], Dir: -1}
			}
			t.Moves = append(t.Moves, row)
		}
	}
	return t
}
