package tests

import (
	"fmt"
	"math/rand"
	"slices"
	"strings"
	"testing"

	"loop.example/g01134/impl"
)

// Promise 19.

// back2 is BackWriter of 2 letters.
const back2 = "turner 2 2 0\nstate 0> 0> 0> 1<\nstate 1< 1< yes 1<\nout - - - -\nout a b - -\n"

// wantWriter compares a result with the text of the writer that is wanted, or with an error.
func wantWriter(t *testing.T, name string, w impl.Writer, code int64, text string, want int64) {
	t.Helper()
	wantCode(t, name, code, want)
	if want != impl.OK {
		if !isZero(w) {
			t.Errorf("%s: %v comes with an error", name, w)
		}
	} else if got := writerText(w); got != text || !isWriter(w) {
		t.Errorf("%s: got %q, want %q", name, got, text)
	}
}

// wantWritten compares what is written, or the error, and the origins.
func wantWritten(t *testing.T, name string, w impl.Writer, x, text string, want int64, origins ...int64) {
	t.Helper()
	got, code := impl.Written(w, x)
	wantWord(t, name, got, code, text, want)
	cells, code := impl.OriginsOf(w, x)
	wantCode(t, name, code, want)
	if !slices.Equal(cells, origins) {
		t.Errorf("%s: got the origins %v, want %v", name, cells, origins)
	}
}

// TestWriterExample asserts the example at the end of the chapter.
func TestWriterExample(t *testing.T) {
	back, one := impl.BackWriter(2)
	twice, two := impl.CopyWriter(2, 2)
	once, three := impl.CopyWriter(2, 1)
	if one != impl.OK || two != impl.OK || three != impl.OK {
		t.Fatalf("codes %d, %d, %d", one, two, three)
	}
	wantWritten(t, "BackWriter", back, "aab", "baa", impl.OK, 3, 2, 1)
	wantWritten(t, "CopyWriter", twice, "ab", "abab", impl.OK, 1, 2, 1, 2)
	wantWritten(t, "BackWriter of a letter", back, "a", "a", impl.OK, 1)
	wantWritten(t, "CopyWriter of a letter", once, "a", "a", impl.OK, 1)
	x, code := impl.FirstOther(back, once, 3)
	wantWord(t, "FirstOther", x, code, "ab", impl.OK)
}

func TestConstants7(t *testing.T) {
	if got := []int64{impl.MaxOut, impl.MaxWritten, impl.MaxTried}; !slices.Equal(got, []int64{3, 2000, 2000}) {
		t.Errorf("constants: %v", got)
	}
}

// writerWith returns a writer of one letter and two states, in which one text is replaced.
func writerWith(state, sign int, text string) impl.Writer {
	w := impl.Writer{Turner: turnerWith(0, 0, impl.Move{To: 1}), Out: [][]string{{"a", "", "abc"}, {"", "c", "bb"}}}
	w.Out[state][sign] = text
	return w
}

// silentWriter returns a writer with a turner that writes nothing.
func silentWriter(u impl.Turner) impl.Writer {
	w := impl.Writer{Turner: u}
	for _, row := range u.Moves {
		w.Out = append(w.Out, make([]string, len(row)))
	}
	return w
}

// oddWriters returns writers that are not valid, each for one reason.
func oddWriters() []impl.Writer {
	list := []impl.Writer{
		writerWith(0, 0, "d"), writerWith(0, 0, "abca"), writerWith(1, 2, "ad"), writerWith(1, 2, "-"), writerWith(0, 1, " "),
		writerWith(0, 1, "A"), writerWith(1, 1, "\x00"), writerWith(1, 0, "\xff"), writerWith(1, 0, "`"), writerWith(0, 2, strings.Repeat("a", 61)),
		writerWith(0, 2, "ab\n"), writerWith(0, 2, "é"),
	}
	plain := writerWith(0, 0, "")
	for _, out := range [][][]string{
		nil, plain.Out[:1], append(plain.Out[:2:2], []string{"", "", ""}), {plain.Out[0], nil}, {plain.Out[0], {"", ""}},
		{{"", "", "", ""}, plain.Out[1]}, {{}, {}},
	} {
		list = append(list, impl.Writer{Turner: plain.Turner, Out: out})
	}
	for _, u := range oddTurners() {
		list = append(list, silentWriter(u))
	}
	return list
}

// writersToTry returns valid writers, no two of which are the same.
func writersToTry() []impl.Writer {
	list := []impl.Writer{
		writerWith(0, 0, ""), writerWith(0, 0, "a"), writerWith(0, 0, "b"), writerWith(0, 0, "cab"), writerWith(0, 2, "ab"), writerWith(1, 2, "ccc"), writerWith(1, 0, "c"),
		busyWriter(1, 20), busyWriter(1, 21), busyWriter(3, 36),
		silentWriter(plainTurner(1, 1)), silentWriter(plainTurner(3, 12)),
	}
	for _, text := range []string{
		back2,
		"turner 1 1 0\nstate 0> 0> yes\nout a - -\n",
		"turner 3 1 0\nstate 0> 0> 0> 0> yes\nout b c a - -\n",
		"turner 2 1 0\nstate 0> 0> yes no\nout b c abc -\n",
		"turner 1 2 1\nstate 1> yes 1<\nstate 0> 1> 0=\nout a ab abc\nout b bb bbb\n",
	} {
		w, _ := writerIn(text)
		list = append(list, w)
	}
	return append(list, randomWriters(201, 20, 12)...)
}

func TestValidWriter(t *testing.T) {
	for i, w := range writersToTry() {
		if !isWriter(w) || !impl.ValidWriter(w) {
			t.Errorf("writer %d is not valid", i)
		}
	}
	for i, w := range oddWriters() {
		if isWriter(w) || impl.ValidWriter(w) {
			t.Errorf("writer %d is valid", i)
		}
	}
	// The letters that are written are not those that are read.
	for _, text := range append(wordsTo(3, 4), "abcd", "d", "ad", "aD") {
		want := len(text) <= 3 && !strings.ContainsAny(text, "dD")
		for state := range 2 {
			for sign := range 3 {
				if got := impl.ValidWriter(writerWith(state, sign, text)); got != want {
					t.Errorf("%q in the state %d: %v", text, state, got)
				}
			}
		}
	}
}

func TestSameWriter(t *testing.T) {
	list := append(writersToTry(), oddWriters()...)
	for i, w := range list {
		for k, v := range list {
			if impl.SameWriter(w, v) != (i == k) {
				t.Errorf("writers %d and %d: %v", i, k, impl.SameWriter(w, v))
			}
		}
	}
	empty := impl.Writer{Out: [][]string{{}}}
	if !impl.SameWriter(empty, impl.Writer{Out: [][]string{nil}}) || impl.SameWriter(empty, impl.Writer{}) {
		t.Error("empty lists are not compared as they should")
	}
}

func TestWriterText(t *testing.T) {
	for i, w := range writersToTry() {
		text := impl.WriterText(w)
		if want := writerText(w); text != want {
			t.Errorf("%d: got %q, want %q", i, text, want)
		}
		again, code := impl.ReadWriter(text)
		if code != impl.OK || !alikeAny(w, again) {
			t.Errorf("%d: %v is read as %v, %d", i, w, again, code)
		}
	}
	for i, w := range oddWriters() {
		if got := impl.WriterText(w); got != "" {
			t.Errorf("writer %d that is not valid: %q", i, got)
		}
	}
	if got := impl.WriterText(writerWith(0, 0, "")); got != "turner 1 2 0\nstate 1= 1= 1=\nstate 1= 1= 1=\nout - - abc\nout - c bb\n" {
		t.Errorf("got %q", got)
	}
}

func TestReadWriterSyntax(t *testing.T) {
	const head = "turner 1 1 0\nstate 0> 0> yes\n"
	texts := []string{"", "\n", "out", "out\n", "\nout", "\nout - - -\n", "out - - -\n", head, "writer 1 1 0\nstate 0> 0> yes\nout - - -\n",
		"out - - -\n" + head, "turner 1 1 0\nout - - -\nstate 0> 0> yes\n", "turner 1 1 0\nstate 0> 0> maybe\nout - - -\n", "turner 1 1 1\nstate 0> 0> yes\nout - - -\n",
		"turner 1 2 0\nstate 0> 0> yes\nout - - -\nout - - -\n", "turner 1 1 0\nstate 0> 0> yes\n\nout - - -\n", " " + head + "out - - -\n", head[:len(head)-1] + "out - - -\n",
		"turner 1 1 0\nstate 0> 0> yesout - - -\n", strings.Repeat("\nout", 5000), strings.Repeat("out ", 5000), example2, example2 + "out - - -\n", back2 + back2, back2 + "out - - - -\n",
		writerText(silentWriter(plainTurner(3, 13)))}
	for _, line := range []string{"out", "out\n", "out \n", "out - -\n", "out - - - -\n", "out - - -", "out - - - \n", "out  - - -\n", "out -  - -\n", "out - -  -\n", " out - - -\n",
		"Out - - -\n", "outs - - -\n", "ou - - -\n", "out - - -\n\n", "\nout - - -\n", "out - - -\nout - - -\n", "out - - -\r\n", "out\t-\t-\t-\n", "out - - --\n", "out - - a-\n", "out - - -a\n",
		"out abca - -\n", "out - abca -\n", "out - - abca\n", "out d - -\n", "out - - A\n", "out - - _\n", "out - - 0\n", "out - - yes\n", "out - - \x00\n", "out - - é\n", "out - - -\nstate 0> 0> yes\n",
		"out - - " + strings.Repeat("a", 61) + "\n", "a - - -\n", "- - - -\n", "state - - -\n"} {
		texts = append(texts, head+line)
	}
	for _, text := range texts {
		w, code := impl.ReadWriter(text)
		wantWriter(t, text, w, code, "", impl.ErrSyntax)
	}
	for _, line := range []string{"out - - -\n", "out a b c\n", "out abc cba bbb\n", "out - - ac\n"} {
		w, code := impl.ReadWriter(head + line)
		wantWriter(t, line, w, code, head+line, impl.OK)
	}
}

func TestReadWriterRange(t *testing.T) {
	for length, want := range map[int]int64{19999: impl.ErrSyntax, 20000: impl.ErrSyntax, 20001: impl.ErrRange, 900000: impl.ErrRange} {
		for _, text := range []string{strings.Repeat("a", length), strings.Repeat("\nout - - -", length), back2 + strings.Repeat("\n", length), back2 + strings.Repeat("out a b - -\n", length)} {
			w, code := impl.ReadWriter(text[:length])
			wantWriter(t, text[:20], w, code, "", want)
		}
	}
}

// TestReadWriterChanged reads texts with one byte more, less, or changed.
func TestReadWriterChanged(t *testing.T) {
	read := 0
	for _, text := range []string{back2, "turner 1 1 0\nstate 0= no 0<\nout a bc cab\n", writerText(silentWriter(plainTurner(1, 2)))} {
		for i := range len(text) + 1 {
			for _, b := range "\n 01<=>abcd-outyesn_\x00" {
				changed := []string{text[:i] + string(b) + text[i:], text[:i]}
				if i < len(text) {
					changed = append(changed, text[:i]+text[i+1:], text[:i]+string(b)+text[i+1:])
				}
				for _, other := range changed {
					w, code := impl.ReadWriter(other)
					want, ok := writerIn(other)
					if ok {
						read++
						wantWriter(t, other, w, code, writerText(want), impl.OK)
					} else {
						wantWriter(t, other, w, code, "", impl.ErrSyntax)
					}
				}
			}
		}
	}
	if read < 200 {
		t.Errorf("only %d texts have been read", read)
	}
}

func TestWritten(t *testing.T) {
	all := "turner 1 1 0\nstate 0> 0> yes\nout a b c\n"
	atOnce := "turner 2 1 0\nstate 0> 0> yes no\nout a b cab c\n"
	inside := "turner 2 2 0\nstate 1= 0> 0> no\nstate yes no no no\nout b - a -\nout cc bbb bbb bbb\n"
	round := "turner 2 2 0\nstate 0> 0= 0> 1<\nstate 1< no yes no\nout a b - c\nout b - ab -\n"
	silent := "turner 1 1 0\nstate 0> 0> yes\nout - - -\n"
	for name, c := range map[string]struct {
		writer, x, want string
		code            int64
		origins         []int64
	}{
		"the move that stops":                {all, "", "bc", impl.OK, []int64{0, 1}},
		"the move that stops, two letters":   {all, "aa", "baac", impl.OK, []int64{0, 1, 2, 3}},
		"stops at once":                      {atOnce, "abba", "cab", impl.OK, []int64{0, 0, 0}},
		"stops at once, no letters":          {atOnce, "", "cab", impl.OK, []int64{0, 0, 0}},
		"stops at a letter":                  {inside, "abb", "abcc", impl.OK, []int64{0, 1, 1, 1}},
		"stops at a later letter":            {inside, "ba", "abcc", impl.OK, []int64{0, 2, 2, 2}},
		"refuses":                            {inside, "bb", "", impl.ErrState, nil},
		"refuses, no letters":                {inside, "", "", impl.ErrState, nil},
		"to the right and back":              {round, "aa", "aacbbab", impl.OK, []int64{1, 2, 3, 2, 1, 0, 0}},
		"to the right and back, no letters":  {round, "", "cab", impl.OK, []int64{1, 0, 0}},
		"goes on for ever":                   {round, "ab", "", impl.ErrState, nil},
		"nothing but the empty text":         {silent, "aaa", "", impl.OK, nil},
		"nothing but the empty text, at all": {silent, "", "", impl.OK, nil},
		"back":                               {back2, "abb", "bba", impl.OK, []int64{3, 2, 1}},
		"back, no letters":                   {back2, "", "", impl.OK, nil},
		"another letter":                     {back2, "abc", "", impl.ErrInvalid, nil},
		"too long":                           {back2, strings.Repeat("a", 61), "", impl.ErrInvalid, nil},
		"invalid before state":               {inside, "c", "", impl.ErrInvalid, nil},
	} {
		wantWritten(t, name, mustWrite(t, c.writer), c.x, c.want, c.code, c.origins...)
	}
	for i, w := range oddWriters() {
		wantWritten(t, fmt.Sprint("invalid ", i), w, "", "", impl.ErrInvalid)
	}
}

// TestWrittenLimit writes just as many letters as may be written, and one more.
func TestWrittenLimit(t *testing.T) {
	long, short := strings.Repeat("ab", 30), strings.Repeat("ab", 29)+"a"
	for marks, want := range map[int]int64{0: impl.OK, 19: impl.OK, 20: impl.OK, 21: impl.ErrLimit, 36: impl.ErrLimit} {
		w := busyWriter(2, marks)
		text, cells, ok := writtenOn(w, long)
		if len(text) != 1980+marks || !ok {
			t.Fatalf("%d letters, %v", len(text), ok)
		}
		if want != impl.OK {
			text, cells = "", nil
		}
		wantWritten(t, fmt.Sprint(marks), w, long, text, want, cells...)
		if text, code := impl.Written(w, short); len(text) != 1947+marks || code != impl.OK {
			t.Errorf("%d: %d letters, %d", marks, len(text), code)
		}
		if want, _, _ := writtenOn(w, ""); len(want) != marks {
			t.Errorf("%d: %q on the empty word", marks, want)
		}
		// The error of the state comes first.
		last := &w.Turner.Moves[10][3]
		*last = impl.Move{To: -2}
		wantWritten(t, "refuses", w, long, "", impl.ErrState)
		*last = impl.Move{To: 10}
		wantWritten(t, "goes on for ever", w, long, "", impl.ErrState)
		wantWritten(t, "goes on for ever, too long", w, long+"a", "", impl.ErrInvalid)
	}
}

// TestWrittenOnWords compares what is written with the texts of the moves along runs.
func TestWrittenOnWords(t *testing.T) {
	rng := rand.New(rand.NewSource(202))
	counts := map[int64]int{}
	for _, w := range slices.Concat(writersToTry(), randomWriters(203, 400, 8)) {
		for _, x := range append(madeWords(w.Turner.Letters), longWords(rng, w.Turner.Letters, 6)...) {
			text, want := writtenCode(w, x)
			_, cells, _ := writtenOn(w, x)
			if want != impl.OK {
				cells = nil
			}
			got, code := impl.Written(w, x)
			origins, other := impl.OriginsOf(w, x)
			if got != text || code != want || other != want || !slices.Equal(origins, cells) {
				t.Fatalf("%q, %q: %q, %v, %d, not %q, %v, %d", writerText(w), x, got, origins, code, text, cells, want)
			}
			counts[code]++
		}
	}
	if counts[impl.OK] < 3000 || counts[impl.ErrState] < 3000 || counts[impl.ErrLimit] < 2 {
		t.Errorf("codes: %v", counts)
	}
}
