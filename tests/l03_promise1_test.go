package tests

import (
	"math"
	"strings"
	"testing"

	"loop.example/g01134/impl"
)

// Promise 1 for chapter 3.

func TestPurityOfChapter3(t *testing.T) {
	t.Parallel()
	long := strings.Repeat("a", 60)
	texts := []string{"", "a", "ab", "cab", "d", "\x00", "\xff", long, long + "a", "left >0\nright <0\n", "left yes on\nright <1 >0\n", "left", "left >0\nright >1\n", strings.Repeat("a", 20001)}
	numbers := []int64{math.MinInt64, -1, 0, 1, 2, 3, 4, 12, 13, 30, 31, math.MaxInt64}
	turners := append(oddTurners(), turnersToTry()...)
	for _, text := range []string{tables200, tables201, classes300, classes301} {
		turners = append(turners, mustTurn(t, text))
	}
	p := poolOf(turners, append(oddTables(), tablesToTry()...), texts, numbers)
	for name, fn := range map[string]any{
		"ValidTable": impl.ValidTable, "SameTable": impl.SameTable, "TableText": impl.TableText, "ReadTable": impl.ReadTable, "EmptyTable": impl.EmptyTable,
	} {
		p.sweep(t, name, fn, noFault)
	}
	for name, fn := range map[string]any{
		"TableOf": impl.TableOf, "JoinTables": impl.JoinTables, "TurnTable": impl.TurnTable, "VerdictBy": impl.VerdictBy, "TablesOf": impl.TablesOf,
		"TableProduct": impl.TableProduct, "TablePeriod": impl.TablePeriod, "VerdictReader": impl.VerdictReader, "ReaderOfTurner": impl.ReaderOfTurner,
		"FirstWith": impl.FirstWith, "CountWith": impl.CountWith,
	} {
		p.sweep(t, name, fn, codeFault)
	}
	some := append(turners[:12:12], turners[len(turners)-22:]...)
	poolOf(some).sweep(t, "FirstApart", impl.FirstApart, codeFault)
}

// TestLargeTables calls the functions with many elements, of which the sweep would make too many copies.
func TestLargeTables(t *testing.T) {
	exits := make([]impl.Exit, 240000)
	for i := range exits {
		exits[i] = impl.Exit{Side: 1, To: int64(i)}
	}
	u := plainTurner(1, 12)
	for _, x := range []impl.Table{{FromLeft: exits}, {FromRight: exits}, {FromLeft: exits, FromRight: exits[:12]}, {FromLeft: exits, FromRight: exits}} {
		_, one := impl.JoinTables(x, x)
		_, two := impl.TurnTable(x)
		_, three := impl.VerdictBy(u, x)
		if impl.ValidTable(x) || impl.TableText(x) != "" || one != impl.ErrInvalid || two != one || three != one {
			t.Error("a large table is valid")
		}
		if !impl.SameTable(x, x) || impl.SameTable(x, impl.Table{}) {
			t.Error("a large table is not compared as it should")
		}
	}
	_, blanks := impl.ReadTable("left" + strings.Repeat(" ", 999999))
	wantCode(t, "blanks", blanks, impl.ErrRange)
}

// shuffler goes to the right mark, and comes back shuffling its other 11 states with each letter; it has millions of tables and classes.
func shuffler() impl.Turner {
	t := impl.Turner{Letters: 3, Moves: [][]impl.Move{{{To: 0, Dir: 1}, {To: 0, Dir: 1}, {To: 0, Dir: 1}, {To: 0, Dir: 1}, {To: 1, Dir: -1}}}}
	for s := range int64(11) {
		swapped, merged := s, s
		if s < 2 {
			swapped, merged = 1-s, 0
		}
		row := []impl.Move{{To: 1 + (s+1)%11, Dir: -1}, {To: 1 + swapped, Dir: -1}, {To: 1 + merged, Dir: -1}, {To: -1 - s%2}, {To: -2}}
		t.Moves = append(t.Moves, row)
	}
	return t
}

func TestManyTablesAndClasses(t *testing.T) {
	u := shuffler()
	if !isTurner(u) {
		t.Fatal("the turner is not valid")
	}
	texts, one := impl.TablesOf(u)
	product, two := impl.TableProduct(u)
	period, three := impl.TablePeriod(u)
	r, four := impl.ReaderOfTurner(u)
	w, five := impl.FirstWith(u, impl.VdLoops)
	apart, six := impl.FirstApart(u, u)
	n, seven := impl.CountWith(u, impl.VdTakes, 30)
	for i, code := range []int64{one, two, three, four, five, six, seven} {
		if code != impl.ErrLimit {
			t.Errorf("%d: code %d", i, code)
		}
	}
	if len(texts)+len(product)+len(w)+len(apart) > 0 || period != 0 || n != 0 || !isZero(r) {
		t.Error("a result comes with an error")
	}
}
