package tests

import (
	"math/rand"
	"regexp"
	"slices"
	"strings"
	"testing"

	"loop.example/g01134/impl"
)

// What the functions of chapter 7 should return is worked out here by going along runs, and by trying words one after the other.

func isOut(text string) bool {
	return len(text) <= 3 && strings.Trim(text, "abc") == ""
}

func isWriter(w impl.Writer) bool {
	ok := isTurner(w.Turner) && len(w.Out) == len(w.Turner.Moves)
	for _, row := range w.Out {
		ok = ok && len(row) == int(w.Turner.Letters)+2
		for _, text := range row {
			ok = ok && isOut(text)
		}
	}
	return ok
}

func writerText(w impl.Writer) string {
	text := turnerText(w.Turner)
	for _, row := range w.Out {
		text += "out"
		for _, out := range row {
			text += " " + map[bool]string{true: "-", false: out}[out == ""]
		}
		text += "\n"
	}
	return text
}

var outsForm = regexp.MustCompile(`^(out( (-|[abc]{1,3})){3,5}\n)+$`)

// writerIn returns the writer with a text, if there is one.
func writerIn(text string) (impl.Writer, bool) {
	front, back, ok := strings.Cut(text, "out")
	u, good := turnerIn(front)
	if !ok || !good || !outsForm.MatchString("out"+back) {
		return impl.Writer{}, false
	}
	w := impl.Writer{Turner: u}
	for _, line := range strings.Split(strings.TrimSuffix("out"+back, "\n"), "\n") {
		var outs []string
		for _, word := range strings.Fields(line)[1:] {
			outs = append(outs, strings.Trim(word, "-"))
		}
		w.Out = append(w.Out, outs)
	}
	return w, isWriter(w)
}

// mustWrite returns the writer with a text that has one.
func mustWrite(t *testing.T, text string) impl.Writer {
	t.Helper()
	w, ok := writerIn(text)
	if !ok {
		t.Fatalf("no writer: %q", text)
	}
	return w
}

// writtenOn returns what is written on a word, however long it is, and the cell of each letter; false if nothing is written.
func writtenOn(w impl.Writer, x string) (text string, cells []int64, ok bool) {
	run, verdict := runOf(w.Turner, x)
	if verdict != impl.VdTakes {
		return "", nil, false
	}
	signs := "abc"[:w.Turner.Letters] + "<>"
	for _, p := range run {
		out := w.Out[p.State][strings.IndexByte(signs, ("<" + x + ">")[p.At])]
		text += out
		cells = append(cells, slices.Repeat([]int64{p.At}, len(out))...)
	}
	return text, cells, true
}

// writtenCode returns what is written, and the error that comes instead of it.
func writtenCode(w impl.Writer, x string) (string, int64) {
	text, _, ok := writtenOn(w, x)
	switch {
	case !ok:
		return "", impl.ErrState
	case len(text) > 2000:
		return "", impl.ErrLimit
	}
	return text, impl.OK
}

// countWords counts the words of at most a length, up to some number.
func countWords(letters int64, length int) int {
	count, words := 1, 1
	for range length {
		words *= int(letters)
		count += words
		if count > 5000 {
			break
		}
	}
	return count
}

// firstOther tries all words of at most a length.
func firstOther(w, v impl.Writer, length int) (string, int64) {
	if countWords(w.Turner.Letters, length) > 2000 {
		return "", impl.ErrLimit
	}
	for _, x := range wordsTo(w.Turner.Letters, length) {
		one, first := writtenCode(w, x)
		two, second := writtenCode(v, x)
		if first == impl.ErrLimit || second == impl.ErrLimit {
			return "", impl.ErrLimit
		}
		if one != two || first != second {
			return x, impl.OK
		}
	}
	return "", impl.ErrNotFound
}

// longestWritten tries all words of a length.
func longestWritten(w impl.Writer, length int) (string, int64, int64) {
	if countWords(w.Turner.Letters, length) > 2000 {
		return "", 0, impl.ErrLimit
	}
	var words, texts []string
	for _, x := range wordsTo(w.Turner.Letters, length) {
		text, code := writtenCode(w, x)
		switch {
		case len(x) < length || code == impl.ErrState:
		case code == impl.ErrLimit:
			return "", 0, impl.ErrLimit
		default:
			words, texts = append(words, x), append(texts, text)
		}
	}
	if len(words) == 0 {
		return "", 0, impl.ErrNotFound
	}
	most := slices.MaxFunc(texts, func(a, b string) int { return len(a) - len(b) })
	first := slices.IndexFunc(texts, func(text string) bool { return len(text) == len(most) })
	return words[first], int64(len(most)), impl.OK
}

// productOf returns the turner of pairs of a writer and a reader of what is written, which may have any number of states.
func productOf(w impl.Writer, r impl.Reader) impl.Turner {
	n := int64(len(r.Accept))
	t := impl.Turner{Letters: w.Turner.Letters, Start: w.Turner.Start*n + r.Start}
	for state, row := range w.Turner.Moves {
		for read := range n {
			var moves []impl.Move
			for sign, m := range row {
				from := impl.Reader{Letters: 3, Start: read, Accept: r.Accept, Next: r.Next}
				end := stateAfter(from, w.Out[state][sign])
				switch {
				case m.To >= 0:
					m.To = m.To*n + end
				case m.To == -1 && !r.Accept[end]:
					m.To = -2
				}
				moves = append(moves, m)
			}
			t.Moves = append(t.Moves, moves)
		}
	}
	return t
}

// writerOver returns a writer with a turner, which writes with each move a text of at most so many letters.
func writerOver(rng *rand.Rand, u impl.Turner, most int) impl.Writer {
	w := impl.Writer{Turner: u}
	for _, row := range u.Moves {
		var outs []string
		for range row {
			text := ""
			for range rng.Intn(most + 1) {
				text += string("abc"[rng.Intn(3)])
			}
			outs = append(outs, text)
		}
		w.Out = append(w.Out, outs)
	}
	return w
}

// randomWriters returns writers of all sizes up to some states.
func randomWriters(seed int64, count, states int) []impl.Writer {
	rng := rand.New(rand.NewSource(seed))
	var list []impl.Writer
	for _, u := range randomTurners(seed, count, states) {
		list = append(list, writerOver(rng, u, 3))
	}
	return list
}

// busyWriter goes through the word 11 times, as CopyWriter of 6 times does, and writes 3 letters with each letter of the word; at the marks, in which it is 12 times, it writes so many more.
func busyWriter(letters int64, marks int) impl.Writer {
	w := impl.Writer{Turner: impl.Turner{Letters: letters}}
	markOut := func(isThere bool) string {
		if !isThere {
			return ""
		}
		count := min(marks, 3)
		marks -= count
		return "ccc"[:count]
	}
	for s := range int64(11) {
		dir := 1 - 2*(s%2)
		row := slices.Repeat([]impl.Move{{To: s, Dir: dir}}, int(letters)+2)
		turn := impl.Move{To: s + 1, Dir: -dir}
		if s == 10 {
			turn = impl.Move{To: -1}
		}
		row[letters+(1+dir)/2] = turn
		outs := slices.Repeat([]string{"abc"}, int(letters))
		w.Turner.Moves = append(w.Turner.Moves, row)
		w.Out = append(w.Out, append(outs, markOut(s == 0 || dir < 0), markOut(dir > 0)))
	}
	return w
}
