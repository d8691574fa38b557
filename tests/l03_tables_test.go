package tests

import (
	"fmt"
	"math"
	"math/rand"
	"slices"
	"strings"
	"testing"

	"loop.example/g01134/impl"
)

// Promise 6.

// wantTable compares a result with the text of the table that is wanted, or with an error.
func wantTable(t *testing.T, name string, x impl.Table, code int64, text string, want int64) {
	t.Helper()
	wantCode(t, name, code, want)
	if want != impl.OK {
		if !isZero(x) {
			t.Errorf("%s: %v comes with an error", name, x)
		}
	} else if !isTable(x) || tableText(x) != text {
		t.Errorf("%s: got %v, want %q", name, x, text)
	}
}

// TestExample3 asserts the example at the end of chapter 3.
func TestExample3(t *testing.T) {
	u := mustTurn(t, example2)
	x, code := impl.TableOf(u, "a")
	wantTable(t, "TableOf", x, code, "left >0 yes\nright >0 yes\n", impl.OK)
	if got := impl.TableText(x); got != "left >0 yes\nright >0 yes\n" {
		t.Errorf("TableText: %q", got)
	}
	texts, code := impl.TablesOf(u)
	if !slices.Equal(texts, []string{"", "a"}) || code != impl.OK {
		t.Errorf("TablesOf: %q, %d", texts, code)
	}
	r, code := impl.ReaderOfTurner(u)
	if readerText(r) != "reader 1 2 0\nno 1\nyes 1\n" || code != impl.OK {
		t.Errorf("ReaderOfTurner: %v, %d", r, code)
	}
}

func TestConstants3(t *testing.T) {
	if got := fmt.Sprint(impl.MaxTables, impl.SdLeft, impl.SdInside, impl.SdRight); got != "200 -1 0 1" {
		t.Errorf("constants: %s", got)
	}
}

// tableWith returns a table of two states, in which one exit, counted from the left ones on, is replaced.
func tableWith(place int, e impl.Exit) impl.Table {
	list := []impl.Exit{{Side: 1, To: 1}, {Side: 0, To: -3}, {Side: -1, To: 0}, {Side: 0, To: -1}}
	list[place] = e
	return impl.Table{FromLeft: list[:2], FromRight: list[2:]}
}

// plainTable has the exit e for each of so many states.
func plainTable(states int, e impl.Exit) impl.Table {
	return impl.Table{FromLeft: slices.Repeat([]impl.Exit{e}, states), FromRight: slices.Repeat([]impl.Exit{e}, states)}
}

// oddTables returns tables that are not valid, each for one reason.
func oddTables() []impl.Table {
	no := impl.Exit{To: -2}
	return []impl.Table{
		{},
		plainTable(13, no),
		{FromLeft: []impl.Exit{no}},
		{FromRight: []impl.Exit{no}},
		{FromLeft: []impl.Exit{no, no}, FromRight: []impl.Exit{no}},
		{FromLeft: []impl.Exit{no}, FromRight: []impl.Exit{no, no}},
		{FromLeft: slices.Repeat([]impl.Exit{no}, 12), FromRight: slices.Repeat([]impl.Exit{no}, 13)},
		tableWith(0, impl.Exit{Side: 1, To: 2}),
		tableWith(1, impl.Exit{Side: -1, To: 2}),
		tableWith(2, impl.Exit{Side: 1, To: -1}),
		tableWith(3, impl.Exit{Side: -1, To: -3}),
		tableWith(0, impl.Exit{Side: 0, To: 0}),
		tableWith(1, impl.Exit{Side: 0, To: 1}),
		tableWith(2, impl.Exit{Side: 0, To: -4}),
		tableWith(3, impl.Exit{Side: 2, To: 0}),
		tableWith(0, impl.Exit{Side: -2, To: 0}),
		tableWith(1, impl.Exit{Side: math.MinInt64, To: 0}),
		tableWith(2, impl.Exit{Side: math.MaxInt64, To: 0}),
		tableWith(3, impl.Exit{Side: 0, To: math.MinInt64}),
		tableWith(2, impl.Exit{Side: 1, To: math.MaxInt64}),
	}
}

// tablesToTry returns valid tables, no two of which are the same.
func tablesToTry() []impl.Table {
	list := []impl.Table{
		plainTable(1, impl.Exit{Side: 1, To: 0}), plainTable(1, impl.Exit{Side: -1, To: 0}), plainTable(1, impl.Exit{To: -3}),
		plainTable(2, impl.Exit{Side: 1, To: 1}), plainTable(12, impl.Exit{To: -1}), plainTable(12, impl.Exit{Side: 1, To: 11}),
		tableWith(0, impl.Exit{Side: 1, To: 0}), tableWith(0, impl.Exit{To: -2}), tableWith(1, impl.Exit{To: -1}),
		tableWith(2, impl.Exit{Side: 1, To: 0}), tableWith(3, impl.Exit{Side: 1, To: 1}), tableWith(3, impl.Exit{Side: -1, To: 1}),
	}
	rng := rand.New(rand.NewSource(41))
	for i := range 22 {
		list = append(list, randomTable(rng, 2+i/2))
	}
	return list
}

func TestValidTable(t *testing.T) {
	for i, x := range tablesToTry() {
		if !impl.ValidTable(x) {
			t.Errorf("table %d is not valid", i)
		}
	}
	for i, x := range oddTables() {
		if impl.ValidTable(x) {
			t.Errorf("table %d is valid", i)
		}
	}
	for place := range 4 {
		for side := int64(-2); side <= 2; side++ {
			for to := int64(-5); to <= 3; to++ {
				x := tableWith(place, impl.Exit{Side: side, To: to})
				if got := impl.ValidTable(x); got != isTable(x) {
					t.Errorf("%v: %v", x, got)
				}
			}
		}
	}
}

func TestSameTable(t *testing.T) {
	all := append(oddTables(), tablesToTry()...)
	for i, x := range all {
		for k, y := range all {
			if got := impl.SameTable(x, y); got != (i == k) {
				t.Errorf("%d and %d: %v", i, k, got)
			}
		}
	}
	if !impl.SameTable(impl.Table{FromLeft: []impl.Exit{}}, impl.Table{FromRight: []impl.Exit{}}) {
		t.Error("nil and empty slices are not the same")
	}
}

func TestTableText(t *testing.T) {
	for i, x := range tablesToTry() {
		text := impl.TableText(x)
		if want := tableText(x); text != want {
			t.Errorf("%d: got %q, want %q", i, text, want)
		}
		again, code := impl.ReadTable(text)
		if code != impl.OK || !alikeAny(x, again) {
			t.Errorf("%d: %v is read as %v, %d", i, x, again, code)
		}
	}
	for i, x := range oddTables() {
		if got := impl.TableText(x); got != "" {
			t.Errorf("table %d that is not valid: %q", i, got)
		}
	}
	y := impl.Table{FromLeft: []impl.Exit{{Side: -1, To: 1}, {Side: 1, To: 0}, {To: -3}}, FromRight: []impl.Exit{{To: -1}, {To: -2}, {Side: -1, To: 2}}}
	if got := impl.TableText(y); got != "left <1 >0 on\nright yes no <2\n" {
		t.Errorf("all exits: %q", got)
	}
}

func TestReadTableSyntax(t *testing.T) {
	for _, text := range []string{"", "\n", "\n\n", "left", "left\n", "left\nright\n", "left >0\n", "right >0\n", "left >0\nright >0", "left >0 right >0\n", "right >0\nleft >0\n",
		"left >0\nright\n", "left\nright >0\n", "left >0\nleft >0\n", "Left >0\nright >0\n", "left >0\nright >0\n\n", "left >0\nright >0\nright >0\n", "\nleft >0\nright >0\n",
		"left >0 >0\nright >0\n", "left >0\nright >0 >0\n", "left >1\nright >0\n", "left >0\nright <1\n", "left >-1\nright >0\n", "left >00\nright >0\n", "left >+0\nright >0\n",
		"left >-0\nright >0\n", "left 0>\nright >0\n", "left 0\nright >0\n", "left =0\nright >0\n", "left >\nright >0\n", "left <\nright >0\n", "left  >0\nright >0\n", "left >0 \nright >0\n",
		"left >0\nright >0 \n", " left >0\nright >0\n", "left >0\n right >0\n", "left\t>0\nright >0\n", "left > 0\nright >0\n", "left >0\r\nright >0\r\n", "left Yes\nright no\n",
		"left yes,\nright no\n", "left y\nright no\n", "left loops\nright no\n", "left -1\nright no\n", "left <-1\nright no\n", "left <-3\nright no\n", "left >0x0\nright >0\n",
		"left >18446744073709551616\nright >0\n", "left >9223372036854775807\nright >0\n", "left yes" + strings.Repeat(" no", 12) + "\nright yes" + strings.Repeat(" no", 12) + "\n",
		"table\nleft >0\nright >0\n", strings.Repeat("\n", 20000), strings.Repeat("left >0\n", 2500), "left" + strings.Repeat(" ", 19000), strings.Repeat("yes ", 5000)} {
		x, code := impl.ReadTable(text)
		wantTable(t, text, x, code, "", impl.ErrSyntax)
	}
	long := "left yes" + strings.Repeat(" >11", 11) + "\nright on" + strings.Repeat(" <10", 11) + "\n"
	x, code := impl.ReadTable(long)
	wantTable(t, "12 states", x, code, long, impl.OK)
}

func TestReadTableRange(t *testing.T) {
	for length, want := range map[int]int64{20000: impl.ErrSyntax, 20001: impl.ErrRange, 900000: impl.ErrRange} {
		for _, text := range []string{strings.Repeat("a", length), "left >0\nright >0\n" + strings.Repeat("\n", length), "left" + strings.Repeat(" yes", length/4)} {
			x, code := impl.ReadTable(text[:length])
			wantTable(t, text[:20], x, code, "", want)
		}
	}
}

// TestReadTableChanged reads texts with one byte more, less, or changed.
func TestReadTableChanged(t *testing.T) {
	read := 0
	for _, text := range []string{"left >0 yes\nright >0 yes\n", "left on\nright <0\n", "left <1 >0 on\nright yes no <2\n", tableText(plainTable(12, impl.Exit{Side: -1, To: 10}))} {
		for i := range len(text) + 1 {
			for _, b := range "\n 0129<=>yesnolftrigh+-\x00" {
				changed := []string{text[:i] + string(b) + text[i:], text[:i]}
				if i < len(text) {
					changed = append(changed, text[:i]+text[i+1:], text[:i]+string(b)+text[i+1:])
				}
				for _, other := range changed {
					x, code := impl.ReadTable(other)
					want, ok := tableIn(other)
					if ok {
						read++
						wantTable(t, other, x, code, tableText(want), impl.OK)
					} else {
						wantTable(t, other, x, code, "", impl.ErrSyntax)
					}
				}
			}
		}
	}
	if read < 100 {
		t.Errorf("only %d texts have been read", read)
	}
}

func TestEmptyTable(t *testing.T) {
	for states, want := range map[int64]string{1: "left >0\nright <0\n", 3: "left >0 >1 >2\nright <0 <1 <2\n",
		12: "left >0 >1 >2 >3 >4 >5 >6 >7 >8 >9 >10 >11\nright <0 <1 <2 <3 <4 <5 <6 <7 <8 <9 <10 <11\n"} {
		x, code := impl.EmptyTable(states)
		wantTable(t, fmt.Sprint(states), x, code, want, impl.OK)
	}
	for _, states := range []int64{0, 13, -1, math.MinInt64, math.MaxInt64} {
		x, code := impl.EmptyTable(states)
		wantTable(t, fmt.Sprint(states), x, code, "", impl.ErrRange)
	}
}

// TestTableOfSome asserts tables that are written down by hand.
func TestTableOfSome(t *testing.T) {
	for name, c := range map[string]struct{ turner, w, want string }{
		"empty word":           {example2, "", "left >0 >1\nright <0 <1\n"},
		"one letter":           {example2, "a", "left >0 yes\nright >0 yes\n"},
		"stays":                {"turner 1 4 0\nstate 1= no no\nstate 2> no no\nstate 2= no no\nstate 0< no no\n", "a", "left >2 >2 on <0\nright >2 >2 on <0\n"},
		"stays in a circle":    {"turner 1 3 0\nstate 1= no no\nstate 0= no no\nstate 1= no no\n", "a", "left on on on\nright on on on\n"},
		"stays and stops":      {"turner 1 3 0\nstate 1= no no\nstate no yes yes\nstate 0= no no\n", "a", "left no no no\nright no no no\n"},
		"to and fro for ever":  {"turner 2 2 0\nstate 0> 1< no no\nstate 1> 0< no no\n", "ab", "left on on\nright on on\n"},
		"to and fro, and out":  {"turner 2 2 0\nstate 0> 1< no no\nstate 1< 0> no no\n", "ab", "left <1 <1\nright <1 >0\n"},
		"stops far inside":     {"turner 2 2 0\nstate 0> 1< no no\nstate 1< yes no no\n", "aabaa", "left <1 <1\nright >0 yes\n"},
		"marks are of no use":  {"turner 1 1 0\nstate 0< 0= yes\n", "aaa", "left <0\nright <0\n"},
		"goes on far inside":   {"turner 3 3 0\nstate 0> 1> 0> no no\nstate 2< no 1> no no\nstate 2> 1> 2< no no\n", "acbcca", "left on <2 on\nright >0 on >2\n"},
		"longest word":         {"turner 1 2 0\nstate 1> no no\nstate 0> no no\n", strings.Repeat("a", 60), "left >0 >1\nright >1 >0\n"},
		"letters stop at once": {"turner 2 1 0\nstate yes no 0> 0<\n", "ba", "left no\nright yes\n"},
	} {
		u := mustTurn(t, c.turner)
		if got := tableText(tableOf(u, c.w)); got != c.want {
			t.Errorf("%s: the oracle has %q, not %q", name, got, c.want)
		}
		x, code := impl.TableOf(u, c.w)
		wantTable(t, name, x, code, c.want, impl.OK)
	}
}

// TestTablesOfWords compares the tables of words with what the turner does cell by cell.
func TestTablesOfWords(t *testing.T) {
	kinds := map[string]int{}
	for _, u := range append(turnersToTry(), randomTurners(42, 500, 7)...) {
		for _, w := range runWords(u.Letters) {
			want := tableOf(u, w)
			x, code := impl.TableOf(u, w)
			wantTable(t, turnerText(u)+w, x, code, tableText(want), impl.OK)
			for _, e := range slices.Concat(want.FromLeft, want.FromRight) {
				kinds[exitsText([]impl.Exit{e})]++
			}
			verdict, code := impl.VerdictBy(u, x)
			if verdict != verdictOf(u, w) || code != impl.OK {
				t.Fatalf("VerdictBy %q %q: %d, %d", turnerText(u), w, verdict, code)
			}
		}
	}
	for _, kind := range []string{" yes\n", " no\n", " on\n", " <1\n", " >1\n"} {
		if kinds[kind] < 1000 {
			t.Errorf("%q comes only %d times", kind, kinds[kind])
		}
	}
}

// TestJoinsOfParts joins the tables of the parts of words.
func TestJoinsOfParts(t *testing.T) {
	for _, u := range append(turnersToTry(), randomTurners(43, 100, 6)...) {
		for _, w := range runWords(u.Letters) {
			for cut := 0; cut <= len(w); cut += 1 + len(w)/7 {
				x, _ := impl.TableOf(u, w[:cut])
				y, _ := impl.TableOf(u, w[cut:])
				both, code := impl.JoinTables(x, y)
				wantTable(t, turnerText(u)+w, both, code, tableText(tableOf(u, w)), impl.OK)
			}
		}
	}
}

// TestJoinTables joins tables that no turner needs to have.
func TestJoinTables(t *testing.T) {
	for name, c := range map[string]struct{ x, y, want string }{
		"through":           {"left >0\nright <0\n", "left >0\nright <0\n", "left >0\nright <0\n"},
		"back at the first": {"left <0\nright yes\n", "left no\nright <0\n", "left <0\nright yes\n"},
		"for ever between":  {"left >0\nright >0\n", "left <0\nright <0\n", "left on\nright on\n"},
		"for ever, comes":   {"left >1 <0\nright >0 >1\n", "left <0 <1\nright >0 <1\n", "left on <0\nright >0 on\n"},
		"to and fro":        {"left >0 no on\nright >1 >2 no\n", "left <0 <1 >0\nright <1 <2 on\n", "left >0 no on\nright >0 no on\n"},
		"inside":            {"left yes no on\nright no on yes\n", "left on yes no\nright <0 <1 <2\n", "left yes no on\nright no on yes\n"},
	} {
		both, code := impl.JoinTables(mustTable(t, c.x), mustTable(t, c.y))
		wantTable(t, name, both, code, c.want, impl.OK)
	}
	rng := rand.New(rand.NewSource(44))
	for i := range 3000 {
		states := 1 + i%12
		x, y, z := randomTable(rng, states), randomTable(rng, states), randomTable(rng, states)
		xy, code := impl.JoinTables(x, y)
		wantTable(t, "random", xy, code, tableText(joinOf(x, y)), impl.OK)
		xyz, code := impl.JoinTables(xy, z)
		wantTable(t, "three", xyz, code, tableText(joinOf(x, y, z)), impl.OK)
		empty, _ := impl.EmptyTable(int64(states))
		one, code := impl.JoinTables(empty, x)
		wantTable(t, "empty before", one, code, tableText(x), impl.OK)
		one, code = impl.JoinTables(x, empty)
		wantTable(t, "empty behind", one, code, tableText(x), impl.OK)
	}
}

func TestJoinTablesErrors(t *testing.T) {
	one, two, odd := plainTable(1, impl.Exit{To: -1}), plainTable(2, impl.Exit{To: -1}), oddTables()[1]
	for name, c := range map[string]struct {
		x, y impl.Table
		want int64
	}{
		"lengths":                {one, two, impl.ErrRange},
		"lengths, exchanged":     {two, one, impl.ErrRange},
		"far lengths":            {one, plainTable(12, impl.Exit{To: -1}), impl.ErrRange},
		"first invalid":          {odd, one, impl.ErrInvalid},
		"second invalid":         {one, odd, impl.ErrInvalid},
		"both invalid":           {odd, odd, impl.ErrInvalid},
		"empty":                  {impl.Table{}, impl.Table{}, impl.ErrInvalid},
		"invalid before lengths": {one, tableWith(3, impl.Exit{To: 1}), impl.ErrInvalid},
	} {
		x, code := impl.JoinTables(c.x, c.y)
		wantTable(t, name, x, code, "", c.want)
	}
}

func TestTurnTable(t *testing.T) {
	x, code := impl.TurnTable(mustTable(t, "left <1 >0 on\nright yes no <2\n"))
	wantTable(t, "TurnTable", x, code, "left yes no >2\nright >1 <0 on\n", impl.OK)
	exchange := strings.NewReplacer("<", ">", ">", "<")
	for _, x := range tablesToTry() {
		y, code := impl.TurnTable(x)
		lines := strings.Split(exchange.Replace(tableText(x)), "\n")
		want := strings.Replace(lines[1], "right", "left", 1) + "\n" + strings.Replace(lines[0], "left", "right", 1) + "\n"
		wantTable(t, "TurnTable", y, code, want, impl.OK)
	}
	for _, u := range randomTurners(45, 100, 6) {
		mirrored := impl.Turner{Letters: u.Letters}
		for _, row := range u.Moves {
			row = slices.Clone(row[:u.Letters])
			for i := range row {
				row[i].Dir = -row[i].Dir
			}
			mirrored.Moves = append(mirrored.Moves, append(row, impl.Move{To: -1}, impl.Move{To: -1}))
		}
		for _, w := range wordsTo(u.Letters, 3) {
			x, _ := impl.TableOf(u, w)
			y, code := impl.TurnTable(x)
			wantTable(t, turnerText(u)+w, y, code, tableText(tableOf(mirrored, turned(w))), impl.OK)
		}
	}
	for _, odd := range oddTables() {
		x, code := impl.TurnTable(odd)
		wantTable(t, "invalid", x, code, "", impl.ErrInvalid)
	}
}

func TestVerdictBy(t *testing.T) {
	for name, c := range map[string]struct {
		turner, table string
		want          int64
	}{
		"stops at the left mark":     {"turner 1 1 0\nstate no yes no\n", "left on\nright on\n", impl.VdTakes},
		"stays at the left mark":     {"turner 1 2 1\nstate no yes no\nstate yes 0= no\n", "left on on\nright on on\n", impl.VdTakes},
		"for ever at the left mark":  {"turner 1 1 0\nstate no 0= no\n", "left yes\nright yes\n", impl.VdLoops},
		"stops inside":               {"turner 1 1 0\nstate no 0> yes\n", "left no\nright yes\n", impl.VdRefuses},
		"for ever inside":            {"turner 1 1 0\nstate no 0> yes\n", "left on\nright yes\n", impl.VdLoops},
		"stops at the right mark":    {"turner 1 2 0\nstate no 1> yes\nstate no yes no\n", "left yes >1\nright yes yes\n", impl.VdRefuses},
		"for ever at the right mark": {"turner 1 2 0\nstate no 0> 1=\nstate no yes 0=\n", "left >0 yes\nright yes yes\n", impl.VdLoops},
		"back from the right mark":   {"turner 1 2 0\nstate no 0> 1<\nstate no no no\n", "left >0 no\nright no yes\n", impl.VdTakes},
		"back to the left mark":      {"turner 1 2 0\nstate no 0> 1<\nstate no yes no\n", "left >0 no\nright no <1\n", impl.VdTakes},
		"from mark to mark":          {"turner 1 1 0\nstate no 0> 0<\n", "left >0\nright <0\n", impl.VdLoops},
		"back from the word":         {"turner 1 2 0\nstate no 1> no\nstate no yes no\n", "left no <1\nright no no\n", impl.VdTakes},
		"left mark and word":         {"turner 1 2 0\nstate no 1> no\nstate no 0= no\n", "left no <1\nright no no\n", impl.VdLoops},
		"right mark and word":        {"turner 1 2 0\nstate no 0> 1<\nstate no no 0=\n", "left >0 no\nright no >1\n", impl.VdLoops},
		"starts in Start":            {"turner 1 2 1\nstate no no no\nstate no 1> yes\n", "left no >1\nright no no\n", impl.VdTakes},
	} {
		u, x := mustTurn(t, c.turner), mustTable(t, c.table)
		if got, code := impl.VerdictBy(u, x); got != c.want || code != impl.OK {
			t.Errorf("%s: got %d, %d, want %d", name, got, code, c.want)
		}
	}
	rng := rand.New(rand.NewSource(46))
	for _, u := range randomTurners(47, 3000, 12) {
		x := randomTable(rng, len(u.Moves))
		if got, code := impl.VerdictBy(u, x); got != verdictBy(u, x) || code != impl.OK {
			t.Fatalf("%q %q: %d, %d", turnerText(u), tableText(x), got, code)
		}
	}
}

func TestTableErrors(t *testing.T) {
	u, x := mustTurn(t, example2), plainTable(2, impl.Exit{To: -1})
	for name, c := range map[string]struct {
		u    impl.Turner
		x    impl.Table
		want int64
	}{
		"as it should be":        {u, x, impl.OK},
		"too few states":         {u, plainTable(1, impl.Exit{To: -1}), impl.ErrRange},
		"too many states":        {u, plainTable(3, impl.Exit{To: -1}), impl.ErrRange},
		"turner before states":   {oddTurners()[17], plainTable(3, impl.Exit{To: -1}), impl.ErrInvalid},
		"table before states":    {u, plainTable(3, impl.Exit{To: -4}), impl.ErrInvalid},
		"table without states":   {u, impl.Table{}, impl.ErrInvalid},
		"both without states":    {impl.Turner{Letters: 1}, impl.Table{}, impl.ErrInvalid},
		"table of too many, too": {plainTurner(1, 13), plainTable(13, impl.Exit{To: -1}), impl.ErrInvalid},
	} {
		verdict, code := impl.VerdictBy(c.u, c.x)
		wantCode(t, name, code, c.want)
		if (verdict == 0) != (code != impl.OK) {
			t.Errorf("%s: verdict %d", name, verdict)
		}
	}
	for name, w := range map[string]string{"letter": "b", "mark": "<", "61 letters": strings.Repeat("a", 61)} {
		x, code := impl.TableOf(u, w)
		wantTable(t, name, x, code, "", impl.ErrInvalid)
	}
	for _, odd := range oddTurners() {
		x, code := impl.TableOf(odd, "")
		wantTable(t, "invalid", x, code, "", impl.ErrInvalid)
	}
}
