package tests

import (
	"math"
	"slices"
	"strings"
	"testing"

	"loop.example/g01134/impl"
)

// Promise 1 for chapter 7.

func TestPurityOfChapter7(t *testing.T) {
	t.Parallel()
	long := strings.Repeat("a", 60)
	texts := []string{"", "a", "ab", "ba", "cab", "d", "\x00", "\xff", long, long + "a", back2, example2, "out", "\nout", example2 + "out - - -\n", strings.Repeat("a", 20001)}
	numbers := []int64{math.MinInt64, -1, 0, 1, 2, 3, 4, 6, 7, math.MaxInt64}
	lists := [][]string{nil, {"a", "b"}, {"a", "b", "c"}, {"", "", ""}, {"c", "", "ab"}, {"abc", "abc", "abc"}, {"a", "b", "d"}, {"a", "b", "abca"}, {"a", "b", "c", "a"}}
	p := poolOf(append(oddWriters(), writersToTry()...), texts, numbers, lists)
	for name, fn := range map[string]any{
		"ValidWriter": impl.ValidWriter, "SameWriter": impl.SameWriter, "WriterText": impl.WriterText, "ReadWriter": impl.ReadWriter,
	} {
		p.sweep(t, name, fn, noFault)
	}
	for name, fn := range map[string]any{
		"Written": impl.Written, "OriginsOf": impl.OriginsOf, "CopyWriter": impl.CopyWriter, "BackWriter": impl.BackWriter,
		"JoinWriters": impl.JoinWriters, "MirrorWriter": impl.MirrorWriter, "DomainReader": impl.DomainReader,
	} {
		p.sweep(t, name, fn, codeFault)
	}
	p.sweep(t, "MapWriter", impl.MapWriter, mapFault)
	some := append(oddWriters()[:2], writersToTry()[5:25]...)
	readers := append(oddReaders()[:6], readersToTry()...)
	for _, states := range []int{1, 2, 40} {
		readers = append(readers, timesOf(states))
	}
	p = poolOf(some, readers, []int64{math.MinInt64, -1, 0, 2, 4, 10, 60, 61, math.MaxInt64})
	for name, fn := range map[string]any{
		"PreimageTurner": impl.PreimageTurner, "PreimageReader": impl.PreimageReader, "FirstOther": impl.FirstOther, "LongestWritten": impl.LongestWritten,
	} {
		p.sweep(t, name, fn, codeFault)
	}
}

// mapFault is codeFault for MapWriter, whose words are not those for the letters of the writer.
func mapFault(args, results []any) string {
	words := args[1].([]string)
	isWrong := func(text string) bool { return !isOut(text) }
	if len(words) == 3 && !slices.ContainsFunc(words, isWrong) {
		return codeFault(args[:1], results)
	}
	return codeFault([]any{impl.Writer{}}, results)
}

// TestLargeWriters calls the functions with many elements, of which the sweep would make too many copies.
func TestLargeWriters(t *testing.T) {
	outs := make([]string, 300000)
	plain := silentWriter(plainTurner(1, 1))
	wide := impl.Writer{Turner: plain.Turner, Out: [][]string{outs}}
	long := impl.Writer{Turner: plain.Turner, Out: make([][]string, 300000)}
	rich := impl.Writer{Turner: plain.Turner, Out: [][]string{{strings.Repeat("a", 900000), "", ""}}}
	great := impl.Writer{Turner: impl.Turner{Letters: 1, Moves: make([][]impl.Move, 300000)}, Out: long.Out}
	list := []impl.Writer{wide, long, rich, great}
	for i, w := range list {
		_, one := impl.Written(w, "")
		_, two := impl.JoinWriters(plain, w)
		_, three := impl.MapWriter(w, []string{"a", "b", "c"})
		_, four := impl.MirrorWriter(w)
		_, five := impl.PreimageReader(w, timesOf(300))
		_, six := impl.FirstOther(w, w, 60)
		_, _, seven := impl.LongestWritten(w, 60)
		if got := []int64{one, two, three, four, five, six, seven}; !slices.Equal(got, []int64{1, 1, 1, 1, 1, 1, 1}) || impl.ValidWriter(w) || impl.WriterText(w) != "" {
			t.Errorf("the large writer %d: %v", i, got)
		}
		for k, v := range list {
			if impl.SameWriter(w, v) != (i == k) {
				t.Errorf("the large writers %d and %d are not compared as they should", i, k)
			}
		}
	}
	_, one := impl.MapWriter(plain, outs)
	_, two := impl.MapWriter(plain, []string{strings.Repeat("a", 900000), "", ""})
	_, three := impl.Written(plain, strings.Repeat("a", 900000))
	_, four := impl.ReadWriter(strings.Repeat("\nout", 250000))
	if one != impl.ErrInvalid || two != one || three != one || four != impl.ErrRange {
		t.Errorf("large arguments: %d, %d, %d, %d", one, two, three, four)
	}
}
