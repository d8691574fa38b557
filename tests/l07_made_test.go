package tests

import (
	"fmt"
	"math"
	"math/rand"
	"slices"
	"strings"
	"testing"

	"loop.example/g01134/impl"
)

// Promise 20, on writers that are made of others.

// wantTexts compares what a writer that is made of others writes with what it should; false stands for nothing.
func wantTexts(t *testing.T, name string, w impl.Writer, code int64, want func(x string) (string, bool)) {
	t.Helper()
	wantCode(t, name, code, impl.OK)
	if !isWriter(w) {
		t.Fatalf("%s: %v is not valid", name, w)
	}
	for _, x := range madeWords(w.Turner.Letters) {
		text, _, ok := writtenOn(w, x)
		if wanted, yes := want(x); text != wanted || ok != yes {
			t.Fatalf("%s: %q writes %q, %v on %q, not %q, %v", name, writerText(w), text, ok, x, wanted, yes)
		}
	}
}

func TestCopyWriter(t *testing.T) {
	for name, c := range map[string]struct {
		letters, times int64
		want           string
	}{
		"once":                {2, 1, "turner 2 1 0\nstate 0> 0> 0> yes\nout a b - -\n"},
		"once, one letter":    {1, 1, "turner 1 1 0\nstate 0> 0> yes\nout a - -\n"},
		"twice":               {1, 2, "turner 1 3 0\nstate 0> 0> 1<\nstate 1< 2> 1<\nstate 2> 2> yes\nout a - -\nout - - -\nout a - -\n"},
		"twice, letters":      {3, 2, "turner 3 3 0\nstate 0> 0> 0> 0> 1<\nstate 1< 1< 1< 2> 1<\nstate 2> 2> 2> 2> yes\nout a b c - -\nout - - - - -\nout a b c - -\n"},
		"three times, letter": {1, 3, "turner 1 5 0\nstate 0> 0> 1<\nstate 1< 2> 1<\nstate 2> 2> 3<\nstate 3< 4> 3<\nstate 4> 4> yes\nout a - -\nout - - -\nout a - -\nout - - -\nout a - -\n"},
	} {
		w, code := impl.CopyWriter(c.letters, c.times)
		wantWriter(t, name, w, code, c.want, impl.OK)
	}
	for letters := int64(1); letters <= 3; letters++ {
		for times := int64(1); times <= 6; times++ {
			w, code := impl.CopyWriter(letters, times)
			wantTexts(t, "CopyWriter", w, code, func(x string) (string, bool) { return strings.Repeat(x, int(times)), true })
			if len(w.Turner.Moves) != int(2*times-1) || w.Turner.Start != 0 {
				t.Errorf("%d times: %v", times, w)
			}
		}
	}
}

func TestBackWriter(t *testing.T) {
	for letters, want := range map[int64]string{
		1: "turner 1 2 0\nstate 0> 0> 1<\nstate 1< yes 1<\nout - - -\nout a - -\n",
		2: back2,
		3: "turner 3 2 0\nstate 0> 0> 0> 0> 1<\nstate 1< 1< 1< yes 1<\nout - - - - -\nout a b c - -\n",
	} {
		w, code := impl.BackWriter(letters)
		wantWriter(t, "BackWriter", w, code, want, impl.OK)
		wantTexts(t, "BackWriter", w, code, func(x string) (string, bool) { return turned(x), true })
	}
}

func TestCopyAndBackErrors(t *testing.T) {
	for name, c := range map[string]struct{ letters, times, want int64 }{
		"11 states":          {3, 6, impl.OK},
		"13 states":          {3, 7, impl.ErrLimit},
		"15 states":          {1, 8, impl.ErrLimit},
		"many":               {1, math.MaxInt64, impl.ErrLimit},
		"half of many":       {1, math.MaxInt64/2 + 1, impl.ErrLimit},
		"a bit more":         {1, math.MaxInt64/2 + 2, impl.ErrLimit},
		"no times":           {1, 0, impl.ErrRange},
		"less":               {1, -1, impl.ErrRange},
		"least":              {2, math.MinInt64, impl.ErrRange},
		"half of least":      {2, math.MinInt64/2 + 1, impl.ErrRange},
		"no letters":         {0, 1, impl.ErrRange},
		"4 letters":          {4, 1, impl.ErrRange},
		"-1 letters":         {-1, 1, impl.ErrRange},
		"range before limit": {4, 7, impl.ErrRange},
	} {
		w, code := impl.CopyWriter(c.letters, c.times)
		wantCode(t, name, code, c.want)
		if isZero(w) != (code != impl.OK) {
			t.Errorf("%s: %v", name, w)
		}
	}
	for _, letters := range []int64{0, -1, 4, math.MinInt64, math.MaxInt64} {
		w, code := impl.BackWriter(letters)
		wantWriter(t, "BackWriter", w, code, "", impl.ErrRange)
	}
}

func TestJoinWriters(t *testing.T) {
	for name, c := range map[string]struct{ w, v, want string }{
		// The further state writes what v writes in its Start at the left mark alone.
		"at the right mark": {
			"turner 1 1 0\nstate 0> 0> yes\nout a b c\n",
			"turner 1 2 1\nstate 0> 1> no\nstate 0> 0> yes\nout aa bb cc\nout aaa bbb ccc\n",
			"turner 1 4 0\nstate 0> 0> 3<\nstate 1> 2> no\nstate 1> 1> yes\nstate 3< 1> 3<\nout a b c\nout aa bb cc\nout aaa bbb ccc\nout - bbb -\n"},
		// A move that takes at the left mark writes what both write there, in each state; one that refuses writes its own text.
		"at the left mark": {
			"turner 1 2 0\nstate no yes no\nstate yes no yes\nout a b c\nout bc ca ab\n",
			"turner 1 1 0\nstate 0> 0> yes\nout c ab ba\n",
			"turner 1 4 0\nstate no 2> no\nstate 3< no 3<\nstate 2> 2> yes\nstate 3< 2> 3<\nout a bab c\nout bc ca ab\nout c ab ba\nout - ab -\n"},
		"both stop at once": {
			"turner 2 1 0\nstate yes yes yes yes\nout a b c aa\n",
			"turner 2 1 0\nstate no no yes no\nout aaa bbb c ccc\n",
			"turner 2 3 0\nstate 2< 2< yes 2<\nstate no no yes no\nstate 2< 2< yes 2<\nout a b cc aa\nout aaa bbb c ccc\nout - - c -\n"},
		"the second refuses at once": {
			"turner 1 1 0\nstate no yes no\nout - a -\n",
			"turner 1 1 0\nstate no no no\nout - bc -\n",
			"turner 1 3 0\nstate no no no\nstate no no no\nstate 2< no 2<\nout - abc -\nout - bc -\nout - bc -\n"},
		"starts": {
			"turner 1 2 1\nstate 0> yes no\nstate 0> 0= yes\nout a b c\nout aa bb cc\n",
			"turner 1 2 1\nstate no no no\nstate 0= 0> yes\nout aaa bbb ccc\nout - ca a\n",
			"turner 1 5 1\nstate 0> 2> no\nstate 0> 0= 4<\nstate no no no\nstate 2= 2> yes\nstate 4< 2> 4<\nout a bca c\nout aa bb cc\nout aaa bbb ccc\nout - ca a\nout - ca -\n"},
		"three letters": {
			"turner 1 1 0\nstate 0> yes no\nout - abc -\n",
			"turner 1 1 0\nstate 0> yes no\nout bcb - cc\n",
			"turner 1 3 0\nstate 0> yes no\nstate 1> yes no\nstate 2< yes 2<\nout - abc -\nout bcb - cc\nout - - -\n"},
	} {
		w, code := impl.JoinWriters(mustWrite(t, c.w), mustWrite(t, c.v))
		wantWriter(t, name, w, code, c.want, impl.OK)
	}
	once, _ := impl.CopyWriter(2, 1)
	w, code := impl.JoinWriters(mustWrite(t, back2), once)
	wantTexts(t, "back and once", w, code, func(x string) (string, bool) { return turned(x) + x, true })
}

// isTooLong reports whether a text would have more than 3 letters when two writers are joined.
func isTooLong(w, v impl.Writer) bool {
	left := w.Turner.Letters
	for state, row := range w.Turner.Moves {
		if row[left].To == -1 && len(w.Out[state][left])+len(v.Out[v.Turner.Start][left]) > 3 {
			return true
		}
	}
	return false
}

// TestJoinedTexts compares what joined writers write with what both write.
func TestJoinedTexts(t *testing.T) {
	rng := rand.New(rand.NewSource(211))
	counts := map[string]int{}
	for i := range 600 {
		letters := 1 + rng.Int63n(3)
		w := writerOver(rng, randomTurner(rng, letters, 1+rng.Intn(5), 3+i%5), 3)
		v := writerOver(rng, randomTurner(rng, letters, 1+rng.Intn(6), 3+i%5), 3)
		both, code := impl.JoinWriters(w, v)
		if isTooLong(w, v) {
			counts["too long"]++
			wantWriter(t, "too long", both, code, "", impl.ErrLimit)
			continue
		}
		wantTexts(t, "JoinWriters", both, code, func(x string) (string, bool) {
			one, _, first := writtenOn(w, x)
			two, _, second := writtenOn(v, x)
			counts[fmt.Sprint(first, second)]++
			if !first || !second {
				return "", false
			}
			return one + two, true
		})
		u, _ := impl.ThenTurner(w.Turner, v.Turner)
		if !alikeAny(both.Turner, u) {
			t.Fatalf("%v and %v: %v", w, v, both)
		}
		for state, row := range v.Out {
			if !slices.Equal(both.Out[len(w.Out)+state], row) {
				t.Fatalf("%v and %v: %v", w, v, both)
			}
		}
	}
	if len(counts) != 5 || counts["too long"] < 30 || counts["true true"] < 1000 {
		t.Errorf("counts: %v", counts)
	}
}

func TestJoinWritersErrors(t *testing.T) {
	plain := func(letters int64, states int) impl.Writer { return silentWriter(plainTurner(letters, states)) }
	odd := writerWith(0, 0, "abca")
	leftOut := func(state int, move, text string) impl.Writer {
		w := mustWrite(t, "turner 1 2 0\nstate 0> "+move+" yes\nstate 0> "+move+" no\nout - - -\nout - - -\n")
		w.Out[state][1] = text
		return w
	}
	for name, c := range map[string]struct {
		w, v impl.Writer
		want int64
	}{
		"12 states":                  {plain(1, 5), plain(1, 6), impl.OK},
		"12 states, exchanged":       {plain(1, 6), plain(1, 5), impl.OK},
		"13 states":                  {plain(1, 6), plain(1, 6), impl.ErrLimit},
		"25 states":                  {plain(3, 12), plain(3, 12), impl.ErrLimit},
		"letters":                    {plain(1, 1), plain(2, 1), impl.ErrRange},
		"letters before limit":       {plain(3, 12), plain(2, 12), impl.ErrRange},
		"letters before long":        {leftOut(0, "yes", "abc"), writerOver(rand.New(rand.NewSource(2)), plainTurner(2, 1), 3), impl.ErrRange},
		"invalid before letters":     {odd, plain(2, 1), impl.ErrInvalid},
		"second invalid":             {plain(2, 1), odd, impl.ErrInvalid},
		"invalid before limit":       {plain(1, 12), silentWriter(plainTurner(1, 13)), impl.ErrInvalid},
		"3 letters":                  {leftOut(0, "yes", "ab"), leftOut(0, "0>", "c"), impl.OK},
		"4 letters":                  {leftOut(0, "yes", "ab"), leftOut(0, "0>", "ca"), impl.ErrLimit},
		"6 letters":                  {leftOut(0, "yes", "abc"), leftOut(0, "yes", "cab"), impl.ErrLimit},
		"4 letters, never used":      {leftOut(1, "yes", "abc"), leftOut(0, "0>", "a"), impl.ErrLimit},
		"the first refuses":          {leftOut(0, "no", "abc"), leftOut(0, "0>", "abc"), impl.OK},
		"the first goes on":          {leftOut(0, "0>", "abc"), leftOut(0, "0>", "abc"), impl.OK},
		"another state than Start":   {leftOut(0, "yes", "abc"), leftOut(1, "yes", "abc"), impl.OK},
		"the second refuses at once": {leftOut(0, "yes", "abc"), leftOut(0, "no", "a"), impl.ErrLimit},
	} {
		w, code := impl.JoinWriters(c.w, c.v)
		wantCode(t, name, code, c.want)
		if isZero(w) != (code != impl.OK) {
			t.Errorf("%s: %v", name, w)
		}
	}
	for _, odd := range oddWriters() {
		_, one := impl.JoinWriters(odd, plain(1, 1))
		_, two := impl.JoinWriters(plain(1, 1), odd)
		if one != impl.ErrInvalid || two != impl.ErrInvalid {
			t.Errorf("invalid: %d, %d", one, two)
		}
	}
}

func TestMapWriter(t *testing.T) {
	w := mustWrite(t, "turner 1 2 1\nstate 0> 1> yes\nstate 0= 0> no\nout a bb ca\nout abc - c\n")
	for name, c := range map[string]struct {
		words []string
		want  string
	}{
		"to itself":   {[]string{"a", "b", "c"}, "out a bb ca\nout abc - c\n"},
		"exchanged":   {[]string{"b", "c", "a"}, "out b cc ab\nout bca - a\n"},
		"all nothing": {[]string{"", "", ""}, "out - - -\nout - - -\n"},
		"3 letters":   {[]string{"", "a", "ca"}, "out - aa ca\nout aca - ca\n"},
		"longer":      {[]string{"aa", "", "c"}, "out aa - caa\nout aac - c\n"},
		"4 letters":   {[]string{"", "a", "cab"}, ""},
		"5 letters":   {[]string{"abc", "", "c"}, ""},
		"too long, b": {[]string{"a", "bb", "c"}, ""},
	} {
		m, code := impl.MapWriter(w, c.words)
		if c.want == "" {
			wantWriter(t, name, m, code, "", impl.ErrLimit)
			continue
		}
		wantWriter(t, name, m, code, "turner 1 2 1\nstate 0> 1> yes\nstate 0= 0> no\n"+c.want, impl.OK)
	}
	back, _ := impl.BackWriter(3)
	m, code := impl.MapWriter(back, []string{"cba", "abc", "bbb"})
	wantWriter(t, "three letters", m, code, "turner 3 2 0\nstate 0> 0> 0> 0> 1<\nstate 1< 1< 1< yes 1<\nout - - - - -\nout cba abc bbb - -\n", impl.OK)
}

// TestMappedTexts compares what mapped writers write with the texts for the letters that are written.
func TestMappedTexts(t *testing.T) {
	rng := rand.New(rand.NewSource(212))
	texts := wordsTo(3, 3)
	limits := 0
	for i, u := range randomTurners(213, 500, 8) {
		w := writerOver(rng, u, 1+i%3)
		words := []string{texts[rng.Intn(1+i%len(texts))], texts[rng.Intn(1+i%len(texts))], texts[rng.Intn(1+i%len(texts))]}
		names := strings.NewReplacer("a", words[0], "b", words[1], "c", words[2])
		tooLong := false
		for _, row := range w.Out {
			tooLong = tooLong || slices.ContainsFunc(row, func(out string) bool { return len(names.Replace(out)) > 3 })
		}
		m, code := impl.MapWriter(w, words)
		if tooLong {
			limits++
			wantWriter(t, "too long", m, code, "", impl.ErrLimit)
			continue
		}
		wantTexts(t, "MapWriter", m, code, func(x string) (string, bool) {
			text, _, ok := writtenOn(w, x)
			return names.Replace(text), ok
		})
		if !alikeAny(m.Turner, u) {
			t.Fatalf("%v: %v", w, m)
		}
	}
	if limits < 50 || limits > 450 {
		t.Errorf("%d are too long", limits)
	}
}

func TestMapWriterErrors(t *testing.T) {
	back := mustWrite(t, back2)
	for name, words := range map[string][]string{
		"none": nil, "two": {"a", "b"}, "four": {"a", "b", "c", "a"}, "another letter": {"a", "d", "c"}, "a letter too much": {"a", "b", "abca"},
		"a great letter": {"A", "b", "c"}, "a stroke": {"-", "b", "c"}, "too long for a word": {"a", "b", strings.Repeat("a", 61)},
		"invalid before limit": {"aaaa", "", ""}, "in c, which is not written": {"a", "b", "e"},
	} {
		w, code := impl.MapWriter(back, words)
		wantWriter(t, name, w, code, "", impl.ErrInvalid)
	}
	for _, odd := range oddWriters() {
		w, code := impl.MapWriter(odd, []string{"a", "b", "c"})
		wantWriter(t, "invalid", w, code, "", impl.ErrInvalid)
	}
}

func TestMirrorWriter(t *testing.T) {
	for name, c := range map[string]struct{ w, want string }{
		"all texts": {
			"turner 2 2 1\nstate 0> yes 1= 0<\nstate no 1< 0> 1=\nout a b c aa\nout bb cc ab bc\n",
			"turner 2 3 2\nstate 0< yes 0> 1=\nstate no 1> 1= 0<\nstate 2> 2> 2> 0<\nout a b aa c\nout bb cc bc ab\nout - - - ab\n"},
		"stops at once": {
			"turner 1 1 0\nstate 0> yes 0=\nout a abc c\n",
			"turner 1 2 1\nstate 0< 0= yes\nstate 1> 1> yes\nout a c abc\nout - - abc\n"},
		"once": {
			"turner 1 1 0\nstate 0> 0> yes\nout a - b\n",
			"turner 1 2 1\nstate 0< yes 0<\nstate 1> 1> 0<\nout a b -\nout - - -\n"},
	} {
		m, code := impl.MirrorWriter(mustWrite(t, c.w))
		wantWriter(t, name, m, code, c.want, impl.OK)
	}
	nothing := 0
	for _, w := range randomWriters(214, 500, 8) {
		m, code := impl.MirrorWriter(w)
		wantTexts(t, "MirrorWriter", m, code, func(x string) (string, bool) {
			text, _, ok := writtenOn(w, turned(x))
			if !ok {
				nothing++
			}
			return text, ok
		})
	}
	if nothing < 1000 {
		t.Errorf("nothing is written %d times", nothing)
	}
	m, code := impl.MirrorWriter(silentWriter(plainTurner(2, 11)))
	wantCode(t, "12 states", code, impl.OK)
	if !isWriter(m) || len(m.Out) != 12 || m.Turner.Start != 11 {
		t.Errorf("12 states: %v", m)
	}
	m, code = impl.MirrorWriter(silentWriter(plainTurner(2, 12)))
	wantWriter(t, "13 states", m, code, "", impl.ErrLimit)
	for _, odd := range oddWriters() {
		m, code := impl.MirrorWriter(odd)
		wantWriter(t, "invalid", m, code, "", impl.ErrInvalid)
	}
}
