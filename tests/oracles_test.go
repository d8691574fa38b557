package tests

import (
	"fmt"
	"math/rand"
	"regexp"
	"slices"
	"strconv"
	"strings"
	"testing"

	"loop.example/g01134/impl"
)

// What the functions of chapter 1 should return is worked out here in other ways, as directly as the document tells it.

const example = "reader 2 3 0\nno 1 0\nno 1 2\nyes 1 0\n"

// wordsTo returns all words of at most a length, in their order.
func wordsTo(letters int64, longest int) []string {
	list := []string{""}
	last := list
	for range longest {
		var longer []string
		for _, w := range last {
			for _, letter := range "abc"[:letters] {
				longer = append(longer, w+string(letter))
			}
		}
		list = append(list, longer...)
		last = longer
	}
	return list
}

func turned(w string) string {
	letters := []byte(w)
	slices.Reverse(letters)
	return string(letters)
}

func isWord(letters int64, w string) bool {
	return letters >= 1 && letters <= 3 && len(w) <= 60 && strings.Trim(w, "abc"[:letters]) == ""
}

func inList(states int, list ...int64) bool {
	for _, s := range list {
		if s < 0 || s >= int64(states) {
			return false
		}
	}
	return true
}

func isReader(r impl.Reader) bool {
	n := len(r.Accept)
	ok := r.Letters >= 1 && r.Letters <= 3 && n >= 1 && n <= 300 && inList(n, r.Start) && len(r.Next) == n
	for _, row := range r.Next {
		ok = ok && len(row) == int(r.Letters) && inList(n, row...)
	}
	return ok
}

func isMany(m impl.Many) bool {
	n := len(m.Accept)
	rises := func(list []int64) bool {
		return inList(n, list...) && slices.IsSorted(list) && len(slices.Compact(slices.Clone(list))) == len(list)
	}
	ok := m.Letters >= 1 && m.Letters <= 3 && n >= 1 && n <= 10 && len(m.Next) == n && rises(m.Starts)
	for _, lists := range m.Next {
		ok = ok && len(lists) == int(m.Letters)
		for _, list := range lists {
			ok = ok && rises(list)
		}
	}
	return ok
}

func readerText(r impl.Reader) string {
	text := fmt.Sprintf("reader %d %d %d\n", r.Letters, len(r.Accept), r.Start)
	for s, row := range r.Next {
		text += map[bool]string{true: "yes", false: "no"}[r.Accept[s]]
		for _, to := range row {
			text += fmt.Sprintf(" %d", to)
		}
		text += "\n"
	}
	return text
}

var readerForm = regexp.MustCompile(`^reader ([123]) (0|[1-9][0-9]{0,2}) (0|[1-9][0-9]{0,2})\n(((yes|no)( (0|[1-9][0-9]{0,2})){1,3}\n)+)$`)

// readerIn returns the reader with a text, if there is one.
func readerIn(text string) (impl.Reader, bool) {
	parts := readerForm.FindStringSubmatch(text)
	if parts == nil {
		return impl.Reader{}, false
	}
	number := func(text string) int64 {
		n, _ := strconv.ParseInt(text, 10, 64)
		return n
	}
	r := impl.Reader{Letters: number(parts[1]), Start: number(parts[3])}
	for _, line := range strings.Fields(strings.ReplaceAll(strings.TrimSpace(parts[4]), " ", ",") + "\n") {
		words := strings.Split(line, ",")
		var row []int64
		for _, w := range words[1:] {
			row = append(row, number(w))
		}
		r.Accept = append(r.Accept, words[0] == "yes")
		r.Next = append(r.Next, row)
	}
	return r, isReader(r) && number(parts[2]) == int64(len(r.Accept))
}

// mustRead returns the reader with a text that has one.
func mustRead(t *testing.T, text string) impl.Reader {
	t.Helper()
	r, ok := readerIn(text)
	if !ok {
		t.Fatalf("no reader: %q", text)
	}
	return r
}

func stateAfter(r impl.Reader, w string) int64 {
	s := r.Start
	for _, letter := range w {
		s = r.Next[s][letter-'a']
	}
	return s
}

func takes(r impl.Reader, w string) bool {
	return r.Accept[stateAfter(r, w)]
}

// leads reports whether a word can lead from one state to another one.
func leads(m impl.Many, from, to int64, w string) bool {
	if w == "" {
		return from == to
	}
	for _, s := range m.Next[from][w[0]-'a'] {
		if leads(m, s, to, w[1:]) {
			return true
		}
	}
	return false
}

func manyAfter(m impl.Many, w string) []int64 {
	var list []int64
	for to := range int64(len(m.Accept)) {
		if slices.ContainsFunc(m.Starts, func(s int64) bool { return leads(m, s, to, w) }) {
			list = append(list, to)
		}
	}
	return list
}

func manyTakes(m impl.Many, w string) bool {
	return slices.ContainsFunc(manyAfter(m, w), func(s int64) bool { return m.Accept[s] })
}

// randomReader returns a reader with the given size, not all of whose states need to be reached.
func randomReader(rng *rand.Rand, letters int64, states int) impl.Reader {
	r := impl.Reader{Letters: letters, Start: rng.Int63n(int64(states))}
	for range states {
		var row []int64
		for range letters {
			row = append(row, rng.Int63n(int64(states)))
		}
		r.Accept = append(r.Accept, rng.Intn(2) == 0)
		r.Next = append(r.Next, row)
	}
	return r
}

func randomList(rng *rand.Rand, states int) []int64 {
	var list []int64
	for s := range int64(states) {
		if rng.Intn(3) == 0 {
			list = append(list, s)
		}
	}
	return list
}

func randomMany(rng *rand.Rand, letters int64, states int) impl.Many {
	m := impl.Many{Letters: letters, Starts: randomList(rng, states)}
	for range states {
		var lists [][]int64
		for range letters {
			lists = append(lists, randomList(rng, states))
		}
		m.Accept = append(m.Accept, rng.Intn(2) == 0)
		m.Next = append(m.Next, lists)
	}
	return m
}

// cycleReader reads one letter in a circle; only the state with the given number accepts.
func cycleReader(states, accepting int) impl.Reader {
	r := impl.Reader{Letters: 1}
	for s := range states {
		r.Accept = append(r.Accept, s == accepting)
		r.Next = append(r.Next, []int64{int64((s + 1) % states)})
	}
	return r
}

// wordReader takes one word alone.
func wordReader(letters int64, w string) impl.Reader {
	r := impl.Reader{Letters: letters}
	for i := range len(w) + 2 {
		row := make([]int64, letters)
		for letter := range row {
			row[letter] = int64(len(w) + 1)
		}
		if i < len(w) {
			row[w[i]-'a'] = int64(i + 1)
		}
		r.Accept = append(r.Accept, i == len(w))
		r.Next = append(r.Next, row)
	}
	return r
}

// isMetInOrder reports whether all states of a reader can be reached, and are numbered as they are met first.
func isMetInOrder(r impl.Reader) bool {
	order := []int64{r.Start}
	for i := 0; i < len(order); i++ {
		for _, to := range r.Next[order[i]] {
			if !slices.Contains(order, to) {
				order = append(order, to)
			}
		}
	}
	for i, s := range order {
		if s != int64(i) {
			return false
		}
	}
	return len(order) == len(r.Accept)
}

// languageOf tells which of some words are taken.
func languageOf(r impl.Reader, words []string) string {
	var b strings.Builder
	for _, w := range words {
		b.WriteString(map[bool]string{true: "1", false: "0"}[takes(r, w)])
	}
	return b.String()
}
