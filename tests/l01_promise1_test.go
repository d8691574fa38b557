package tests

import (
	"math"
	"strings"
	"testing"

	"loop.example/g01134/impl"
)

// Promise 1 for chapter 1.

// isInvalid reports whether a machine of a call, or a word for its letters, is not valid.
func isInvalid(args []any) bool {
	letters := int64(0)
	for _, a := range args {
		switch x := a.(type) {
		case impl.Reader:
			if !isReader(x) {
				return true
			}
			letters = x.Letters
		case impl.Many:
			if !isMany(x) {
				return true
			}
			letters = x.Letters
		case impl.Turner:
			if !isTurner(x) {
				return true
			}
			letters = x.Letters
		case impl.Table:
			if !isTable(x) {
				return true
			}
		case impl.Wanderer:
			if !isWanderer(x) {
				return true
			}
			letters = x.Letters
		case impl.Rotator:
			if !isRotator(x) {
				return true
			}
			letters = x.Letters
		case impl.Pebbler:
			if !isPebbler(x) {
				return true
			}
			letters = x.Letters
		case impl.Writer:
			if !isWriter(x) {
				return true
			}
			letters = x.Turner.Letters
		case impl.Row:
			if !isRow(x) {
				return true
			}
		case []impl.Deed:
			for _, d := range x {
				if !isDeed(d) {
					return true
				}
			}
		case string:
			if !isWord(letters, x) {
				return true
			}
		case []string:
			for _, w := range x {
				if !isWord(letters, w) {
					return true
				}
			}
		case []impl.Fooling:
			for _, p := range x {
				if !isWord(letters, p.Left) || !isWord(letters, p.Right) {
					return true
				}
			}
		}
	}
	return false
}

// codeFault tells what is wrong with the errors of a call: invalid arguments come first, and nothing else comes with an error.
func codeFault(args, results []any) string {
	last := len(results) - 1
	code := results[last].(int64)
	if isInvalid(args) != (code == impl.ErrInvalid) {
		return "wrong about being invalid: " + impl.CodeName(code)
	}
	for _, result := range results[:last] {
		if code != impl.OK && !isZero(result) {
			return "a result with " + impl.CodeName(code)
		}
	}
	return ""
}

func noFault(args, results []any) string { return "" }

func TestPurityOfChapter1(t *testing.T) {
	t.Parallel()
	texts := []string{"", "a", "ab", "cab", "d", "a b", "\x00", "\xff\xfe", strings.Repeat("a", 60), strings.Repeat("a", 61), example, "reader 2 3 0", "reader", strings.Repeat("a", 20001)}
	numbers := []int64{math.MinInt64, -1, 0, 1, 2, 3, 4, 8, 9, 30, 31, math.MaxInt64}
	p := poolOf(append(oddReaders(), readersToTry()...), append(oddManys(), manysToTry()...), texts, numbers)
	for name, fn := range map[string]any{
		"CodeName": impl.CodeName, "ValidWord": impl.ValidWord, "ValidReader": impl.ValidReader, "SameReader": impl.SameReader,
		"ReaderText": impl.ReaderText, "ReadReader": impl.ReadReader, "ValidMany": impl.ValidMany, "SameMany": impl.SameMany,
	} {
		p.sweep(t, name, fn, noFault)
	}
	for name, fn := range map[string]any{
		"StateAfter": impl.StateAfter, "Takes": impl.Takes, "OppositeReader": impl.OppositeReader, "BothReaders": impl.BothReaders,
		"TidyReader": impl.TidyReader, "FirstTaken": impl.FirstTaken, "FirstUnlike": impl.FirstUnlike, "CountTaken": impl.CountTaken,
		"ManyAfter": impl.ManyAfter, "ManyTakes": impl.ManyTakes, "TurnedReader": impl.TurnedReader, "TurnMany": impl.TurnMany,
		"ReaderOf": impl.ReaderOf, "ManyOf": impl.ManyOf,
	} {
		p.sweep(t, name, fn, codeFault)
	}
}

// TestLargeArguments calls the functions with many elements, of which the sweep would make too many copies.
func TestLargeArguments(t *testing.T) {
	row := make([]int64, 300000)
	wide := impl.Reader{Letters: 300000, Accept: []bool{true}, Next: [][]int64{row}}
	long := impl.Reader{Letters: 1, Start: 299999, Accept: make([]bool, 300000), Next: make([][]int64, 300000)}
	for _, r := range []impl.Reader{wide, long} {
		_, one := impl.TidyReader(r)
		_, two := impl.BothReaders(r, r)
		_, three := impl.FirstUnlike(wordReader(1, "a"), r)
		_, four := impl.ManyOf(r)
		_, five := impl.StateAfter(r, "")
		if impl.ValidReader(r) || one != impl.ErrInvalid || two != one || three != one || four != one || five != one {
			t.Error("a large reader is valid")
		}
	}
	wideMany := impl.Many{Letters: 1, Starts: row, Accept: []bool{true}, Next: [][][]int64{{row}}}
	longMany := impl.Many{Letters: 1, Accept: make([]bool, 300000), Next: make([][][]int64, 300000)}
	for _, m := range []impl.Many{wideMany, longMany} {
		_, one := impl.TurnMany(m)
		_, two := impl.ReaderOf(m)
		_, three := impl.ManyTakes(m, "")
		_, four := impl.ManyAfter(m, "")
		if impl.ValidMany(m) || one != impl.ErrInvalid || two != one || three != one || four != one {
			t.Error("a large automaton is valid")
		}
	}
	if !impl.SameReader(long, long) || !impl.SameMany(wideMany, wideMany) || impl.SameReader(wide, long) || impl.SameMany(wideMany, longMany) {
		t.Error("large arguments are not compared as they should")
	}
	if word := strings.Repeat("a", 900000); impl.ValidWord(1, word) {
		t.Error("a large text is a word")
	}
}
