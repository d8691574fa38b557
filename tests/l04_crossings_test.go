package tests

import (
	"fmt"
	"math"
	"math/rand"
	"slices"
	"strings"
	"testing"

	"loop.example/g01134/impl"
)

// Promise 8.

// TestExample4 asserts the example at the end of chapter 4.
func TestExample4(t *testing.T) {
	u := mustTurn(t, example2)
	list, code := impl.CrossingsOf(u, "aa")
	if got := fmt.Sprint(list, code); got != "[[0] [0] [0 1]] 0" {
		t.Errorf("CrossingsOf: %s", got)
	}
	yes, verdict, code := impl.CellFits(u, ">", []int64{0, 1}, nil)
	if !yes || verdict != 0 || code != impl.OK {
		t.Errorf("CellFits: %v, %d, %d", yes, verdict, code)
	}
	w, code := impl.CutWord(u, "aa", 0, 1)
	wantWord(t, "CutWord", w, code, "a", impl.OK)
}

// crossingTurners returns turners of all kinds.
func crossingTurners() []impl.Turner {
	return slices.Concat(turnersToTry(), randomTurners(61, 400, 5), wideTurners(61, 40))
}

// crossingWords returns short words, and some of all lengths.
func crossingWords(rng *rand.Rand, letters int64) []string {
	return slices.Concat(runWords(letters), longWords(rng, letters, 4))
}

func TestCrossingsOf(t *testing.T) {
	for name, c := range map[string]struct{ turner, w, want string }{
		"stops at the left mark":      {"turner 1 1 0\nstate yes yes yes\n", "aa", "[[] [] []]"},
		"stays at the left mark":      {"turner 1 2 0\nstate no 1= no\nstate no no no\n", "a", "[[] []]"},
		"stops inside":                {"turner 2 1 0\nstate 0> no 0> yes\n", "aba", "[[0] [0] [] []]"},
		"empty word":                  {example2, "", "[[0 1]]"},
		"stays are not told":          {"turner 1 3 0\nstate 1= 1= yes\nstate 2= 2> no\nstate 0> no no\n", "aa", "[[2] [0] [0]]"},
		"begins in Start":             {"turner 1 2 1\nstate no no no\nstate 1> 1> yes\n", "a", "[[1] [1]]"},
		"comes back twice":            {"turner 1 3 0\nstate 0> 0> 1<\nstate 1< 2> no\nstate 2> no yes\n", "aa", "[[0 1 2] [0 1 2] [0 1 2]]"},
		"all but one place to a side": {"turner 1 2 0\nstate 0> 0> 1<\nstate 1> no yes\n", "a", "[[0] [0 1 1]]"},
		"comes back to the left mark": {"turner 1 2 0\nstate 0> 0> 1<\nstate 1< yes no\n", "aaa", "[[0 1] [0 1] [0 1] [0 1]]"},
	} {
		list, code := impl.CrossingsOf(mustTurn(t, c.turner), c.w)
		if got := fmt.Sprint(list); got != c.want || code != impl.OK {
			t.Errorf("%s: got %s, %d, want %s", name, got, code, c.want)
		}
	}
}

// TestCrossingsOfWords looks at the borders of many words one by one.
func TestCrossingsOfWords(t *testing.T) {
	rng := rand.New(rand.NewSource(62))
	lengths := map[int]int{}
	loops := 0
	for _, u := range crossingTurners() {
		for _, w := range crossingWords(rng, u.Letters) {
			want, stops := crossingsOf(u, w)
			list, one := impl.CrossingsOf(u, w)
			longest, two := impl.LongestCrossing(u, w)
			if !stops {
				loops++
				wantNone(t, "CrossingsOf", list, one, impl.ErrState)
				wantNone(t, "LongestCrossing", longest, two, impl.ErrState)
				continue
			}
			if !alikeAny(list, want) || one != impl.OK {
				t.Fatalf("%q %q: %v, %d, not %v", turnerText(u), w, list, one, want)
			}
			most := len(slices.MaxFunc(want, func(a, b []int64) int { return len(a) - len(b) }))
			if longest != int64(most) || two != impl.OK {
				t.Fatalf("%q %q: %d, %d, not %d", turnerText(u), w, longest, two, most)
			}
			lengths[most]++
		}
	}
	if loops < 500 || lengths[0] < 100 || lengths[2] < 100 || lengths[4] < 20 || lengths[5] < 10 {
		t.Errorf("%d loops, sequences of the lengths %v", loops, lengths)
	}
}

func TestCrossingErrors(t *testing.T) {
	u := mustTurn(t, example2)
	for _, c := range []struct {
		u impl.Turner
		w string
	}{{u, "b"}, {u, "<"}, {u, strings.Repeat("a", 61)}, {impl.Turner{}, ""}, {plainTurner(1, 13), ""}, {oddTurners()[17], "a"}} {
		list, one := impl.CrossingsOf(c.u, c.w)
		longest, two := impl.LongestCrossing(c.u, c.w)
		verdict, three := impl.CheckCrossings(c.u, c.w, nil)
		wantNone(t, "CrossingsOf", list, one, impl.ErrInvalid)
		wantNone(t, "LongestCrossing", longest, two, impl.ErrInvalid)
		wantNone(t, "CheckCrossings", verdict, three, impl.ErrInvalid)
	}
}

// wantFit asserts whether a cell fits, and with which verdict.
func wantFit(t *testing.T, u impl.Turner, cell string, left, right []int64, want bool, wanted int64) {
	t.Helper()
	yes, verdict, code := impl.CellFits(u, cell, left, right)
	if yes != want || verdict != wanted || code != impl.OK {
		t.Fatalf("%q %q %v %v: %v, %d, %d, not %v, %d", turnerText(u), cell, left, right, yes, verdict, code, want, wanted)
	}
}

func TestCellFits(t *testing.T) {
	back := "turner 1 2 0\nstate 0> 0> 1<\nstate 1< 0> 0<\n"
	stays := "turner 1 3 0\nstate 1= 1= no\nstate 2> 2= no\nstate yes 1= no\n"
	for name, c := range map[string]struct {
		turner, cell string
		left, right  []int64
		want         bool
		verdict      int64
	}{
		"does not come":                     {example2, "a", nil, nil, true, 0},
		"does not come, goes out":           {example2, "a", nil, []int64{0}, false, 0},
		"does not come, but to the mark":    {example2, ">", nil, nil, true, 0},
		"does not come, comes back":         {back, "a", nil, []int64{1, 1}, false, 0},
		"begins at the left mark":           {example2, "<", nil, []int64{0}, true, 0},
		"always begins at the left mark":    {example2, "<", nil, nil, false, 0},
		"comes from the left of the mark":   {example2, "<", []int64{0}, []int64{0}, false, 0},
		"goes to the left of the mark":      {example2, "<", []int64{0, 0}, []int64{0}, false, 0},
		"comes to the right of the mark":    {example2, ">", []int64{0, 1}, []int64{0}, false, 0},
		"goes through":                      {example2, "a", []int64{0}, []int64{0}, true, 0},
		"goes through in another state":     {example2, "a", []int64{0}, []int64{1}, false, 0},
		"does not go through":               {example2, "a", []int64{0}, nil, false, 0},
		"comes back and stops":              {example2, "a", []int64{0}, []int64{0, 1}, true, impl.VdTakes},
		"comes back, more to the left":      {example2, "a", []int64{0, 1}, []int64{0, 1}, false, 0},
		"comes back, more to the right":     {example2, "a", []int64{0}, []int64{0, 1, 0}, false, 0},
		"stops at once":                     {example2, "a", []int64{1}, nil, true, impl.VdTakes},
		"stops at once, more to the left":   {example2, "a", []int64{1, 0}, nil, false, 0},
		"stops at once, more to the right":  {example2, "a", []int64{1}, []int64{0}, false, 0},
		"refuses":                           {example2, ">", []int64{1}, nil, true, impl.VdRefuses},
		"stops at the left mark":            {example2, "<", nil, []int64{0, 1}, true, impl.VdRefuses},
		"turns at the right mark":           {example2, ">", []int64{0, 1}, nil, true, 0},
		"turns in another state":            {example2, ">", []int64{0, 0}, nil, false, 0},
		"turns, and comes again":            {back, ">", []int64{0, 1, 1, 0}, nil, true, 0},
		"turns, and comes again, and stops": {example2, ">", []int64{0, 1, 1}, nil, true, impl.VdRefuses},
		"through to the left, and again":    {back, "a", []int64{0, 1, 0}, []int64{0, 1, 0}, true, 0},
		"to the left, and again":            {back, "a", []int64{1, 1, 0}, []int64{0}, true, 0},
		"to the left first":                 {back, "a", []int64{1, 1}, []int64{0}, false, 0},
		"comes twice in a state":            {back, "a", []int64{1, 1, 1, 1}, nil, true, 0},
		"stays, and goes on":                {stays, "a", []int64{0}, []int64{2}, true, 0},
		"stays, and stops":                  {stays, "a", []int64{0}, []int64{2, 2}, true, impl.VdTakes},
		"goes on for ever":                  {stays, "<", nil, nil, false, 0},
		"comes back and goes on for ever":   {"turner 1 2 0\nstate 0> 0> 1<\nstate 1= no no\n", "a", []int64{0}, []int64{0, 1}, false, 0},
		"for ever, with more to the left":   {stays, "<", []int64{1}, nil, false, 0},
		"as many as there can be":           {back, "a", []int64{1, 1, 1, 1}, nil, true, 0},
	} {
		u := mustTurn(t, c.turner)
		if yes, verdict := cellFits(u, c.cell, c.left, c.right); yes != c.want || verdict != c.verdict {
			t.Errorf("%s: the oracle has %v, %d", name, yes, verdict)
		}
		t.Run(name, func(t *testing.T) { wantFit(t, u, c.cell, c.left, c.right, c.want, c.verdict) })
	}
}

// sequences returns all sequences of states up to a length, in the order of the lengths.
func sequences(states int64, longest int) [][]int64 {
	list := [][]int64{nil}
	for i := 0; i < len(list); i++ {
		if len(list[i]) == longest {
			break
		}
		for s := range states {
			list = append(list, append(slices.Clone(list[i]), s))
		}
	}
	return list
}

// TestCellFitsAll tries all short pairs of sequences.
func TestCellFitsAll(t *testing.T) {
	longest := []int{0, 2, 4, 3}
	kinds := map[string]int{}
	for _, u := range randomTurners(63, 300, 3) {
		all := sequences(int64(len(u.Moves)), longest[len(u.Moves)])
		for _, cell := range "abc<>"[3-u.Letters:] {
			cell := string(cell)
			if cell == "b" || cell == "c" {
				cell = string('a' + cell[0] - 'a' - byte(3-u.Letters))
			}
			for _, left := range all {
				for _, right := range all {
					want, wanted := cellFits(u, cell, left, right)
					wantFit(t, u, cell, left, right, want, wanted)
					if want {
						kinds[fmt.Sprint(wanted, len(left), len(right))]++
					}
				}
			}
		}
	}
	for _, kind := range []string{"0 0 0", "0 1 1", "0 2 0", "0 1 3", "1 1 0", "2 3 2", "1 1 2", "2 0 2"} {
		if kinds[kind] < 10 {
			t.Errorf("%s fits only %d times", kind, kinds[kind])
		}
	}
}

func TestCellFitsErrors(t *testing.T) {
	u, odd := mustTurn(t, example2), oddTurners()
	for name, c := range map[string]struct {
		u           impl.Turner
		cell        string
		left, right []int64
		want        int64
	}{
		"as it should be":        {u, "a", []int64{0}, []int64{0}, impl.OK},
		"4 elements":             {u, "a", []int64{0, 1, 0, 1}, []int64{1, 0, 1, 0}, impl.OK},
		"5 elements, left":       {u, "a", []int64{0, 0, 0, 0, 0}, nil, impl.ErrRange},
		"5 elements, right":      {u, "a", nil, []int64{0, 0, 0, 0, 0}, impl.ErrRange},
		"many elements":          {u, "<", nil, make([]int64, 900000), impl.ErrRange},
		"no state, left":         {u, "a", []int64{2}, nil, impl.ErrRange},
		"no state, right":        {u, "a", nil, []int64{0, 2}, impl.ErrRange},
		"no state at the mark":   {u, "<", []int64{2}, nil, impl.ErrRange},
		"no state behind":        {u, ">", nil, []int64{-1}, impl.ErrRange},
		"negative":               {u, "a", []int64{0, -1}, nil, impl.ErrRange},
		"least number":           {u, "a", []int64{math.MinInt64}, nil, impl.ErrRange},
		"greatest number":        {u, "a", nil, []int64{math.MaxInt64}, impl.ErrRange},
		"no cell":                {u, "", nil, nil, impl.ErrInvalid},
		"two letters":            {u, "aa", nil, nil, impl.ErrInvalid},
		"two marks":              {u, "<>", nil, nil, impl.ErrInvalid},
		"mark and letter":        {u, "<a", nil, nil, impl.ErrInvalid},
		"another letter":         {u, "b", nil, nil, impl.ErrInvalid},
		"third of two letters":   {plainTurner(2, 1), "c", nil, nil, impl.ErrInvalid},
		"second of two letters":  {plainTurner(2, 1), "b", nil, nil, impl.OK},
		"third of three letters": {plainTurner(3, 1), "c", nil, nil, impl.OK},
		"fourth letter":          {plainTurner(3, 1), "d", nil, nil, impl.ErrInvalid},
		"great letter":           {u, "A", nil, nil, impl.ErrInvalid},
		"between the marks":      {u, "=", nil, nil, impl.ErrInvalid},
		"zero byte":              {u, "\x00", nil, nil, impl.ErrInvalid},
		"last byte":              {u, "\xff", nil, nil, impl.ErrInvalid},
		"many letters":           {u, strings.Repeat("a", 900000), nil, nil, impl.ErrInvalid},
		"cell before elements":   {u, "b", []int64{2}, nil, impl.ErrInvalid},
		"turner before elements": {odd[17], "a", []int64{2}, make([]int64, 50), impl.ErrInvalid},
		"no letters":             {odd[2], "<", nil, nil, impl.ErrInvalid},
		"no states":              {impl.Turner{Letters: 1}, "a", nil, nil, impl.ErrInvalid},
		"nothing":                {impl.Turner{}, "", nil, nil, impl.ErrInvalid},
		"24 elements of 12":      {plainTurner(1, 12), "a", make([]int64, 24), make([]int64, 24), impl.OK},
		"25 elements of 12":      {plainTurner(1, 12), "a", make([]int64, 24), make([]int64, 25), impl.ErrRange},
		"13 states":              {plainTurner(1, 13), "a", nil, nil, impl.ErrInvalid},
		"12 of 12 states":        {plainTurner(1, 12), "a", []int64{12}, nil, impl.ErrRange},
		"11 of 12 states":        {plainTurner(1, 12), "a", []int64{11}, []int64{11}, impl.OK},
		"elements of both":       {u, "a", []int64{9}, []int64{9}, impl.ErrRange},
		"many and no state":      {u, "a", []int64{9, 0, 0, 0, 0, 0, 0}, nil, impl.ErrRange},
	} {
		yes, verdict, code := impl.CellFits(c.u, c.cell, c.left, c.right)
		wantCode(t, name, code, c.want)
		if code != impl.OK && (yes || verdict != 0) {
			t.Errorf("%s: %v, %d", name, yes, verdict)
		}
	}
}

// wantProof asserts the verdict of CheckCrossings, or that there is none if it is 0.
func wantProof(t *testing.T, u impl.Turner, w string, list [][]int64, want int64) {
	t.Helper()
	verdict, code := impl.CheckCrossings(u, w, list)
	wanted := int64(impl.OK)
	if want == 0 {
		wanted = impl.ErrProof
	}
	if verdict != want || code != wanted {
		t.Fatalf("%q %q %v: %d, %d, not %d", turnerText(u), w, list, verdict, code, want)
	}
}

// TestCheckCrossings accepts the sequences of runs, and none that are changed a little.
func TestCheckCrossings(t *testing.T) {
	rng := rand.New(rand.NewSource(64))
	accepted, loops := 0, 0
	for _, u := range crossingTurners() {
		for _, w := range crossingWords(rng, u.Letters) {
			right, stops := crossingsOf(u, w)
			verdict := verdictOf(u, w)
			if stops {
				accepted++
				wantProof(t, u, w, right, verdict)
			} else {
				loops++
				wantProof(t, u, w, right, 0)
			}
			for range 6 {
				changed := changedList(rng, right, int64(len(u.Moves)))
				if !alikeAny(changed, right) {
					wantProof(t, u, w, changed, 0)
				}
			}
		}
	}
	if accepted < 2000 || loops < 500 {
		t.Errorf("%d runs stop, %d go on", accepted, loops)
	}
}

// changedList returns the sequences with one element more, less or changed, or with one of them for another one; none is longer than sequences can be.
func changedList(rng *rand.Rand, list [][]int64, states int64) [][]int64 {
	var changed [][]int64
	for _, c := range list {
		changed = append(changed, slices.Clone(c))
	}
	i := rng.Intn(len(changed))
	c := changed[i]
	at := rng.Intn(len(c) + 1)
	switch kind := rng.Intn(5); {
	case kind == 0 && int64(len(c)) < 2*states:
		changed[i] = slices.Insert(c, at, rng.Int63n(states))
	case kind == 1 && at < len(c):
		changed[i] = slices.Delete(c, at, at+1)
	case kind == 2 && at < len(c):
		c[at] = rng.Int63n(states)
	case kind == 3:
		changed[i] = slices.Clone(changed[rng.Intn(len(changed))])
	case kind == 4 && at+1 < len(c):
		changed[i] = slices.Delete(c, at, at+2)
	}
	return changed
}

// TestCheckCrossingsAll tries all short sequences of words without letters and with one.
func TestCheckCrossingsAll(t *testing.T) {
	accepted, loops := 0, 0
	for _, u := range append(randomTurners(65, 200, 2), turnersToTry()[4:14]...) {
		if len(u.Moves) > 2 {
			continue
		}
		all := sequences(int64(len(u.Moves)), 1+len(u.Moves))
		for _, w := range wordsTo(u.Letters, 1) {
			right, stops := crossingsOf(u, w)
			if !stops {
				loops++
			}
			for _, first := range all {
				lists := [][][]int64{{first}}
				if w != "" {
					lists = nil
					for _, second := range all {
						lists = append(lists, [][]int64{first, second})
					}
				}
				for _, list := range lists {
					want := int64(0)
					if stops && alikeAny(list, right) {
						accepted++
						want = verdictOf(u, w)
					}
					wantProof(t, u, w, list, want)
				}
			}
		}
	}
	if accepted < 100 || loops < 50 {
		t.Errorf("%d runs stop, %d go on", accepted, loops)
	}
}

func TestCheckCrossingsOfSome(t *testing.T) {
	ever := "turner 1 2 0\nstate 0> 0> 1=\nstate 1< 1> 0=\n"
	for name, c := range map[string]struct {
		turner, w string
		list      [][]int64
		want      int64
	}{
		"takes":                          {example2, "aa", [][]int64{{0}, {0}, {0, 1}}, impl.VdTakes},
		"refuses":                        {example2, "", [][]int64{{0, 1}}, impl.VdRefuses},
		"stops at the left mark":         {"turner 1 1 0\nstate no yes no\n", "aa", [][]int64{{}, nil, {}}, impl.VdTakes},
		"stops at the mark, but goes":    {"turner 1 1 0\nstate no yes no\n", "aa", [][]int64{{}, {0}, {}}, 0},
		"stops twice":                    {"turner 2 1 0\nstate no no 0> no\n", "ab", [][]int64{{0}, {0}, {}}, 0},
		"stops in two cells":             {"turner 1 2 0\nstate no yes no\nstate no 0> no\n", "a", [][]int64{{}, {0}}, 0},
		"does not come back to stop":     {example2, "aa", [][]int64{{0}, {0}, {0}}, 0},
		"does not come to where it goes": {example2, "aa", [][]int64{{0}, {0}, {}}, 0},
		"nothing at all":                 {example2, "aa", [][]int64{{}, {}, {}}, 0},
		"further back":                   {example2, "aa", [][]int64{{0}, {0, 1}, {0, 1}}, 0},
		"another way":                    {example2, "aa", [][]int64{{1}, {1}, {1}}, 0},
		"goes on for ever":               {ever, "a", [][]int64{{0}, {0}}, 0},
		"begins in Start":                {"turner 1 2 1\nstate 0> yes no\nstate 1> no no\n", "a", [][]int64{{0}, {}}, 0},
	} {
		t.Run(name, func(t *testing.T) { wantProof(t, mustTurn(t, c.turner), c.w, c.list, c.want) })
	}
}

func TestCheckCrossingsErrors(t *testing.T) {
	u := mustTurn(t, example2)
	five := []int64{0, 0, 0, 0, 0}
	for name, c := range map[string]struct {
		u    impl.Turner
		w    string
		list [][]int64
		want int64
	}{
		"as it should be":            {u, "a", [][]int64{{0}, {0, 1}}, impl.OK},
		"no lists":                   {u, "a", nil, impl.ErrRange},
		"no lists, no letters":       {u, "", nil, impl.ErrRange},
		"one too few":                {u, "a", [][]int64{{0}}, impl.ErrRange},
		"one too many":               {u, "a", [][]int64{{0}, {0, 1}, {}}, impl.ErrRange},
		"many":                       {u, "a", make([][]int64, 900000), impl.ErrRange},
		"no state":                   {u, "a", [][]int64{{0}, {0, 2}}, impl.ErrRange},
		"negative":                   {u, "a", [][]int64{{-1}, {0, 1}}, impl.ErrRange},
		"greatest number":            {u, "a", [][]int64{{0, math.MaxInt64}, {0, 1}}, impl.ErrRange},
		"least number":               {u, "a", [][]int64{{math.MinInt64}, {0, 1}}, impl.ErrRange},
		"5 elements":                 {u, "a", [][]int64{{0}, five}, impl.ErrRange},
		"4 elements":                 {u, "a", [][]int64{{0}, five[1:]}, impl.ErrProof},
		"range before proof":         {u, "a", [][]int64{{1, 1, 1}, five}, impl.ErrRange},
		"no state far behind":        {u, "aa", [][]int64{{}, {}, {2}}, impl.ErrRange},
		"turner before lists":        {oddTurners()[17], "a", nil, impl.ErrInvalid},
		"word before lists":          {u, "ab", nil, impl.ErrInvalid},
		"word before elements":       {u, "b", [][]int64{{9}, five}, impl.ErrInvalid},
		"61 letters":                 {u, strings.Repeat("a", 61), make([][]int64, 62), impl.ErrInvalid},
		"60 letters":                 {u, strings.Repeat("a", 60), make([][]int64, 61), impl.ErrProof},
		"60 letters and 60 lists":    {u, strings.Repeat("a", 60), make([][]int64, 60), impl.ErrRange},
		"24 elements of 12":          {plainTurner(1, 12), "", [][]int64{make([]int64, 24)}, impl.ErrProof},
		"25 elements of 12":          {plainTurner(1, 12), "", [][]int64{make([]int64, 25)}, impl.ErrRange},
		"for ever, as it goes there": {mustTurn(t, "turner 1 1 0\nstate 0> 0= no\n"), "a", [][]int64{{0}, {}}, impl.ErrProof},
	} {
		verdict, code := impl.CheckCrossings(c.u, c.w, c.list)
		wantCode(t, name, code, c.want)
		if (verdict != 0) != (code == impl.OK) {
			t.Errorf("%s: verdict %d", name, verdict)
		}
	}
}
