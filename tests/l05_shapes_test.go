package tests

import (
	"fmt"
	"math"
	"math/rand"
	"slices"
	"strings"
	"testing"

	"loop.example/g01134/impl"
)

// Promise 13.

func wantShape(t *testing.T, name string, r impl.Reader, tail, cycle int64, takes []bool, wanted int64) {
	t.Helper()
	gotTail, gotCycle, got, code := impl.ShapeOf(r)
	if gotTail != tail || gotCycle != cycle || !slices.Equal(got, takes) || code != wanted {
		t.Errorf("%s: got %d, %d, %v, %q, want %d, %d, %v", name, gotTail, gotCycle, got, impl.CodeName(code), tail, cycle, takes)
	}
}

func TestShapeOf(t *testing.T) {
	rng := rand.New(rand.NewSource(521))
	seen := map[[2]int64]bool{}
	for range 3000 {
		r := randomReader(rng, 1, 1+rng.Intn(15))
		tail, cycle, takes := shapeOf(r)
		wantShape(t, readerText(r), r, tail, cycle, takes, impl.OK)
		seen[[2]int64{tail, cycle}] = true
	}
	if len(seen) < 40 {
		t.Errorf("only %d shapes", len(seen))
	}
}

func TestShapeOfEdges(t *testing.T) {
	long := make([]bool, 300)
	long[299] = true
	word := make([]bool, 62)
	word[60] = true
	for name, c := range map[string]struct {
		r           impl.Reader
		tail, cycle int64
		takes       []bool
		want        int64
	}{
		"takes nothing":           {cycleReader(300, 300), 0, 1, []bool{false}, impl.OK},
		"takes all":               {mustRead(t, "reader 1 3 2\nyes 0\nno 1\nyes 0\n"), 0, 1, []bool{true}, impl.OK},
		"cycle of one state":      {mustRead(t, "reader 1 3 0\nno 1\nno 2\nyes 2\n"), 2, 1, []bool{false, false, true}, impl.OK},
		"300 lengths":             {cycleReader(300, 299), 0, 300, long, impl.OK},
		"a word of 60 letters":    {wordReader(1, strings.Repeat("a", 60)), 61, 1, word, impl.OK},
		"a part of the cycle":     {mustRead(t, "reader 1 4 0\nyes 1\nno 2\nyes 3\nno 0\n"), 0, 2, []bool{true, false}, impl.OK},
		"tail goes into cycle":    {mustRead(t, "reader 1 3 0\nyes 1\nno 2\nyes 1\n"), 0, 2, []bool{true, false}, impl.OK},
		"least tail first":        {mustRead(t, "reader 1 5 0\nyes 1\nyes 2\nno 3\nyes 4\nno 3\n"), 1, 2, []bool{true, true, false}, impl.OK},
		"start in the middle":     {mustRead(t, "reader 1 4 2\nyes 1\nno 0\nno 3\nno 0\n"), 1, 2, []bool{false, false, true}, impl.OK},
		"two letters":             {mustRead(t, example), 0, 0, nil, impl.ErrRange},
		"three letters":           {wordReader(3, "a"), 0, 0, nil, impl.ErrRange},
		"invalid before letters":  {impl.Reader{Letters: 2, Accept: []bool{true}, Next: [][]int64{{0}}}, 0, 0, nil, impl.ErrInvalid},
		"invalid with one letter": {cycleReader(301, 0), 0, 0, nil, impl.ErrInvalid},
		"nothing":                 {impl.Reader{}, 0, 0, nil, impl.ErrInvalid},
	} {
		wantShape(t, name, c.r, c.tail, c.cycle, c.takes, c.want)
	}
}

// TestShapesAreReaders checks that the reader of the shape of a reader has its language, with no more states than the tidy reader.
func TestShapesAreReaders(t *testing.T) {
	rng := rand.New(rand.NewSource(522))
	for range 500 {
		r := randomReader(rng, 1, 1+rng.Intn(40))
		tail, _, takes, _ := impl.ShapeOf(r)
		s, code := impl.ReaderOfShape(tail, takes)
		tidy, _ := impl.TidyReader(r)
		_, unlike := impl.FirstUnlike(r, s)
		if code != impl.OK || unlike != impl.ErrNotFound || len(s.Accept) > len(tidy.Accept) {
			t.Fatalf("%q: %q, %d, %d", readerText(r), readerText(s), code, unlike)
		}
	}
}

func TestReaderOfShape(t *testing.T) {
	rng := rand.New(rand.NewSource(523))
	for range 300 {
		takes := make([]bool, 1+rng.Intn(12))
		for i := range takes {
			takes[i] = rng.Intn(2) == 0
		}
		tail := rng.Intn(len(takes))
		want := fmt.Sprintf("reader 1 %d 0\n", len(takes))
		for i, yes := range takes {
			next := i + 1
			if next == len(takes) {
				next = tail
			}
			want += fmt.Sprintf("%s %d\n", map[bool]string{true: "yes", false: "no"}[yes], next)
		}
		r, code := impl.ReaderOfShape(int64(tail), takes)
		wantReader(t, fmt.Sprint(tail, takes), r, code, want, impl.OK)
	}
}

func TestReaderOfShapeEdges(t *testing.T) {
	for _, c := range []struct {
		tail    int64
		lengths int
		want    int64
	}{
		{0, 0, impl.ErrRange}, {-1, 0, impl.ErrRange}, {0, 1, impl.OK}, {1, 1, impl.ErrRange}, {-1, 1, impl.ErrRange}, {2, 3, impl.OK}, {3, 3, impl.ErrRange},
		{0, 300, impl.OK}, {299, 300, impl.OK}, {300, 300, impl.ErrRange}, {0, 301, impl.ErrRange}, {300, 301, impl.ErrRange}, {0, 900000, impl.ErrRange},
		{math.MinInt64, 3, impl.ErrRange}, {math.MaxInt64, 3, impl.ErrRange},
	} {
		r, code := impl.ReaderOfShape(c.tail, make([]bool, c.lengths))
		wantCode(t, fmt.Sprint(c), code, c.want)
		if code == impl.OK && (!isReader(r) || len(r.Accept) != c.lengths || r.Next[c.lengths-1][0] != c.tail) || code != impl.OK && !isZero(r) {
			t.Errorf("%v: %v", c, r)
		}
	}
}

func TestManyOfCycles(t *testing.T) {
	m, code := impl.ManyOfCycles([][]bool{{true}, {false, true, true}, {false}})
	want := impl.Many{Letters: 1, Starts: []int64{0, 1, 4}, Accept: []bool{true, false, true, true, false}, Next: [][][]int64{{{0}}, {{2}}, {{3}}, {{1}}, {{4}}}}
	wantMany(t, "cycles of one state", m, code, want, impl.OK)
	rng := rand.New(rand.NewSource(524))
	for range 300 {
		cycles := someCycles(rng)
		m, code := impl.ManyOfCycles(cycles)
		wantCode(t, "ManyOfCycles", code, impl.OK)
		if !isMany(m) || m.Letters != 1 || len(m.Starts) != len(cycles) {
			t.Fatalf("%v: %v", cycles, m)
		}
		for length := range 30 {
			want := slices.ContainsFunc(cycles, func(cycle []bool) bool { return cycle[length%len(cycle)] })
			if yes, code := impl.ManyTakes(m, strings.Repeat("a", length)); yes != want || code != impl.OK {
				t.Fatalf("%v on %d letters: %v, %d", cycles, length, yes, code)
			}
		}
	}
}

// someCycles returns 1 to 4 cycles with at most 10 elements in all.
func someCycles(rng *rand.Rand) [][]bool {
	var cycles [][]bool
	left := 10
	for i := 1 + rng.Intn(4); i > 0; i-- {
		cycle := make([]bool, 1+rng.Intn(left-i+1))
		left -= len(cycle)
		for k := range cycle {
			cycle[k] = rng.Intn(3) == 0
		}
		cycles = append(cycles, cycle)
	}
	return cycles
}

func TestManyOfCyclesErrors(t *testing.T) {
	for name, c := range map[string]struct {
		lengths []int
		want    int64
	}{
		"no cycle":                 {nil, impl.ErrRange},
		"an empty cycle":           {[]int{0}, impl.ErrRange},
		"an empty cycle at last":   {[]int{1, 1, 1, 0}, impl.ErrRange},
		"four cycles":              {[]int{1, 1, 1, 1}, impl.OK},
		"five cycles":              {[]int{1, 1, 1, 1, 1}, impl.ErrRange},
		"10 states":                {[]int{10}, impl.OK},
		"10 states of four cycles": {[]int{1, 2, 3, 4}, impl.OK},
		"11 states":                {[]int{11}, impl.ErrLimit},
		"11 states of four cycles": {[]int{2, 2, 3, 4}, impl.ErrLimit},
		"12 states":                {[]int{12}, impl.ErrLimit},
		"13 states":                {[]int{13}, impl.ErrRange},
		"48 states":                {[]int{12, 12, 12, 12}, impl.ErrLimit},
		"range before limit":       {[]int{12, 12, 13}, impl.ErrRange},
		"empty before limit":       {[]int{12, 12, 12, 0}, impl.ErrRange},
		"a long one":               {[]int{900000}, impl.ErrRange},
	} {
		var cycles [][]bool
		states := 0
		for _, length := range c.lengths {
			cycles = append(cycles, make([]bool, length))
			states += length
		}
		m, code := impl.ManyOfCycles(cycles)
		wantCode(t, name, code, c.want)
		if code == impl.OK && (!isMany(m) || len(m.Accept) != states) || code != impl.OK && !isZero(m) {
			t.Errorf("%s: %v", name, m)
		}
	}
	if m, code := impl.ManyOfCycles(make([][]bool, 900000)); code != impl.ErrRange || !isZero(m) {
		t.Errorf("many cycles: %v, %d", m, code)
	}
}

func TestCommonCycle(t *testing.T) {
	try := func(lengths ...int64) {
		want := int64(1)
		for slices.ContainsFunc(lengths, func(length int64) bool { return want%length != 0 }) {
			want++
		}
		if n, code := impl.CommonCycle(lengths); n != want || code != impl.OK {
			t.Errorf("%v: got %d, %d, want %d", lengths, n, code, want)
		}
	}
	for a := int64(1); a <= 12; a++ {
		try(a)
		for b := int64(1); b <= 12; b++ {
			try(a, b)
			for c := int64(1); c <= 12; c++ {
				try(a, b, c)
			}
		}
	}
	try(12, 11, 10, 9)
	try(12, 11, 9, 7)
	try(8, 9, 5, 7)
	for _, lengths := range [][]int64{nil, {0}, {-1}, {13}, {12, 13}, {1, 2, 3, 0}, {1, 1, 1, 1, 1}, {-12}, {math.MaxInt64}, {math.MinInt64}, make([]int64, 900000), slices.Repeat([]int64{1}, 5)} {
		if n, code := impl.CommonCycle(lengths); n != 0 || code != impl.ErrRange {
			t.Errorf("%.100s: %d, %d", fmt.Sprint(lengths), n, code)
		}
	}
}

// TestCyclesNeedTheirCommonCycle checks that automata with many ways of cycles stand for readers with as many states as the common cycle.
func TestCyclesNeedTheirCommonCycle(t *testing.T) {
	for _, lengths := range [][]int64{{10}, {2, 3}, {2, 3, 5}, {3, 4}, {2, 4}, {3, 7}, {1, 2, 7}, {4, 6}} {
		var cycles [][]bool
		for _, length := range lengths {
			cycle := make([]bool, length)
			cycle[0] = true
			cycles = append(cycles, cycle)
		}
		m, _ := impl.ManyOfCycles(cycles)
		r, code := impl.ReaderOf(m)
		n, common := impl.CommonCycle(lengths)
		if code != impl.OK || common != impl.OK || int64(len(r.Accept)) != n {
			t.Errorf("%v: %d states, %d, common cycle %d, %d", lengths, len(r.Accept), code, n, common)
		}
	}
}

func TestGreatestOrder(t *testing.T) {
	all := orders(60)
	for sum := range int64(61) {
		want := int64(0)
		for order, used := range all {
			if int64(used) <= sum {
				want = max(want, order)
			}
		}
		order, parts, code := impl.GreatestOrder(sum)
		if order != want || code != impl.OK {
			t.Errorf("%d: got %d, %d, want %d", sum, order, code, want)
		}
		wantParts(t, order, parts, sum)
	}
}

// wantParts checks that parts are the powers of different primes, in ascending order, of which a number is the product, and that they have no greater sum.
func wantParts(t *testing.T, order int64, parts []int64, sum int64) {
	t.Helper()
	product, used := int64(1), int64(0)
	for i, part := range parts {
		prime := int64(2)
		for part%prime != 0 {
			prime++
		}
		rest := part
		for rest%prime == 0 {
			rest /= prime
		}
		if rest != 1 || product%prime == 0 || i > 0 && part <= parts[i-1] {
			t.Errorf("%d is made of %v", order, parts)
		}
		product *= part
		used += part
	}
	if product != order || used > sum {
		t.Errorf("%d is not made of %v with the sum %d", order, parts, sum)
	}
}

func TestGreatestOrderEdges(t *testing.T) {
	for sum, want := range map[int64]string{
		math.MinInt64: "0 [] 2", -1: "0 [] 2", 0: "1 [] 0", 1: "1 [] 0", 2: "2 [2] 0", 3: "3 [3] 0", 4: "4 [4] 0", 5: "6 [2 3] 0", 6: "6 [2 3] 0", 7: "12 [3 4] 0",
		8: "15 [3 5] 0", 9: "20 [4 5] 0", 12: "60 [3 4 5] 0", 15: "105 [3 5 7] 0", 23: "840 [3 5 7 8] 0", 60: "1021020 [3 4 5 7 11 13 17] 0",
		61: "0 [] 2", math.MaxInt64: "0 [] 2",
	} {
		order, parts, code := impl.GreatestOrder(sum)
		if got := fmt.Sprint(order, parts, code); got != want {
			t.Errorf("%d: got %s, want %s", sum, got, want)
		}
	}
}
