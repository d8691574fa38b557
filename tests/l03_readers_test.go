package tests

import (
	"fmt"
	"math"
	"math/rand"
	"slices"
	"strings"
	"testing"

	"loop.example/g01134/impl"
)

// Promises 6, on all tables of a turner, and 7.

// wideTurners returns turners that seldom stay; many of them have many tables and classes.
func wideTurners(seed int64, count int) []impl.Turner {
	rng := rand.New(rand.NewSource(seed))
	var list []impl.Turner
	for range count {
		u := randomTurner(rng, 3, 10, 9)
		for _, row := range u.Moves {
			for i, m := range row[:3] {
				if m.To >= 0 && m.Dir == 0 {
					row[i].Dir = 2*rng.Int63n(2) - 1
				}
			}
		}
		u.Moves[u.Start][3] = impl.Move{To: u.Start, Dir: 1}
		list = append(list, u)
	}
	return list
}

// wantNone checks that nothing comes with an error.
func wantNone(t *testing.T, name string, result any, code, want int64) {
	t.Helper()
	wantCode(t, name, code, want)
	if !isZero(result) {
		t.Errorf("%s: %v comes with an error", name, result)
	}
}

func TestTablesOf(t *testing.T) {
	for name, c := range map[string]struct{ turner, want string }{
		"stops at once":   {"turner 2 1 0\nstate yes yes yes yes\n", `["" "a"]`},
		"two letters":     {"turner 2 1 0\nstate yes no yes yes\n", `["" "a" "b" "ab" "ba"]`},
		"marks count not": {"turner 1 1 0\nstate 0> 0= 0=\n", `["" "a"]`},
		"to the right":    {"turner 1 2 0\nstate 1> yes yes\nstate 0> no no\n", `["" "a" "aa"]`},
		"for ever":        {"turner 2 2 0\nstate 0> 1< no no\nstate 1> 1< no no\n", `["" "a" "b" "ab" "ba" "aba" "bab"]`},
	} {
		u := mustTurn(t, c.turner)
		texts, code := impl.TablesOf(u)
		if got := fmt.Sprintf("%q", texts); got != c.want || code != impl.OK {
			t.Errorf("%s: got %s, %d, want %s", name, got, code, c.want)
		}
	}
	listed, many := 0, 0
	for _, u := range slices.Concat(turnersToTry(), randomTurners(51, 300, 5), wideTurners(51, 60)) {
		want := firstTexts(u, 201)
		texts, code := impl.TablesOf(u)
		if len(want) > 200 {
			many++
			wantNone(t, turnerText(u), texts, code, impl.ErrLimit)
			continue
		}
		listed++
		if !slices.Equal(texts, want) || code != impl.OK {
			t.Fatalf("%q: %q, %d", turnerText(u), texts, code)
		}
	}
	if listed < 150 || many < 20 {
		t.Errorf("%d listed, %d too many", listed, many)
	}
}

// TestLongTexts lists tables that only texts have that are too long for words.
func TestLongTexts(t *testing.T) {
	u := clocks()
	texts, code := impl.TablesOf(u)
	if len(texts) != 181 || texts[180] != strings.Repeat("a", 59)+"ba" || code != impl.OK {
		t.Fatalf("%d texts, %d", len(texts), code)
	}
	if !slices.Equal(texts, firstTexts(u, 300)) {
		t.Errorf("%q", texts)
	}
	if impl.ValidWord(2, texts[180]) {
		t.Error("the text is a word")
	}
	period, code := impl.TablePeriod(u)
	if period != 60 || code != impl.OK {
		t.Errorf("period %d, %d", period, code)
	}
	wantProduct(t, u)
}

func TestTableLimits(t *testing.T) {
	for text, tables := range map[string]int{tables200: 200, tables201: 201} {
		u := mustTurn(t, text)
		if got := len(firstTexts(u, 300)); got != tables {
			t.Fatalf("%d tables, not %d", got, tables)
		}
		texts, one := impl.TablesOf(u)
		product, two := impl.TableProduct(u)
		period, three := impl.TablePeriod(u)
		if tables == 200 {
			if len(texts) != 200 || len(product) != 200 || len(product[199]) != 200 || period < 1 || one+two+three != 0 {
				t.Errorf("%d, %d, %d, %d, %d, %d", len(texts), one, len(product), two, period, three)
			}
			continue
		}
		wantNone(t, "TablesOf", texts, one, impl.ErrLimit)
		wantNone(t, "TableProduct", product, two, impl.ErrLimit)
		wantNone(t, "TablePeriod", period, three, impl.ErrLimit)
	}
	for _, odd := range oddTurners() {
		texts, one := impl.TablesOf(odd)
		product, two := impl.TableProduct(odd)
		period, three := impl.TablePeriod(odd)
		wantNone(t, "TablesOf", texts, one, impl.ErrInvalid)
		wantNone(t, "TableProduct", product, two, impl.ErrInvalid)
		wantNone(t, "TablePeriod", period, three, impl.ErrInvalid)
	}
}

// wantProduct compares the products of all tables with the tables of texts that are written one behind the other.
func wantProduct(t *testing.T, u impl.Turner) {
	t.Helper()
	product, code := impl.TableProduct(u)
	texts := firstTexts(u, 201)
	if len(product) != len(texts) || code != impl.OK {
		t.Fatalf("%q: %d lists, %d", turnerText(u), len(product), code)
	}
	numbers := map[string]int64{}
	for i, text := range texts {
		numbers[tableText(tableOf(u, text))] = int64(i)
	}
	for i, first := range texts {
		for k, second := range texts {
			want, ok := numbers[tableText(tableOf(u, first+second))]
			if !ok || product[i][k] != want || len(product[i]) != len(texts) {
				t.Fatalf("%q: %q and %q: %v, not %d", turnerText(u), first, second, product[i], want)
			}
		}
	}
}

// wantPeriod tries which number is the least behind which all powers come again.
func wantPeriod(t *testing.T, u impl.Turner) {
	t.Helper()
	texts := firstTexts(u, 201)
	power := func(text string, times int) string { return tableText(tableOf(u, strings.Repeat(text, times))) }
	want := 1
	for slices.ContainsFunc(texts, func(text string) bool { return power(text, len(texts)) != power(text, len(texts)+want) }) {
		want++
	}
	if got, code := impl.TablePeriod(u); got != int64(want) || code != impl.OK {
		t.Fatalf("%q: %d, %d, not %d", turnerText(u), got, code, want)
	}
}

func TestTableProductAndPeriod(t *testing.T) {
	tried := 0
	periods := map[int64]int{}
	for _, u := range append(turnersToTry(), randomTurners(52, 400, 4)...) {
		if len(firstTexts(u, 41)) == 41 {
			continue
		}
		tried++
		wantProduct(t, u)
		wantPeriod(t, u)
		period, _ := impl.TablePeriod(u)
		periods[period]++
	}
	if tried < 150 || periods[1] < 50 || periods[2] < 10 {
		t.Errorf("%d turners with periods %v", tried, periods)
	}
}

func TestTablePeriodOfSome(t *testing.T) {
	for _, c := range []struct {
		moduli []int64
		want   int64
	}{{[]int64{1}, 1}, {[]int64{2}, 2}, {[]int64{2, 3}, 6}, {[]int64{4, 6}, 12}, {[]int64{4, 2, 4}, 4}, {[]int64{12}, 12}, {[]int64{5, 7}, 35}, {[]int64{3, 4, 5}, 60}} {
		for letters := int64(1); letters <= 3; letters++ {
			u, _ := impl.ModTurner(letters, c.moduli)
			if got, code := impl.TablePeriod(u); got != c.want || code != impl.OK {
				t.Errorf("%v: got %d, %d, want %d", c.moduli, got, code, c.want)
			}
		}
	}
	for text, want := range map[string]int64{
		example2: 1,
		"turner 1 2 0\nstate 1> yes yes\nstate 0> no no\n":                                 2,
		"turner 2 1 0\nstate yes no yes yes\n":                                             1,
		"turner 1 2 0\nstate 1> 0> no\nstate 0> 0> 0<\n":                                   2,
		"turner 2 2 0\nstate 1> 0> no no\nstate 0> 0> no no\n":                             2,
		"turner 2 3 0\nstate 1> 1> no no\nstate 2> 0> no no\nstate 0> 2> no no\n":          6,
		"turner 3 3 0\nstate 1> 1> 0> no no\nstate 0> 2> 0> no no\nstate 2> 2> 0> 0> no\n": 2,
	} {
		u := mustTurn(t, text)
		wantPeriod(t, u)
		if got, code := impl.TablePeriod(u); got != want || code != impl.OK {
			t.Errorf("%q: got %d, %d, want %d", text, got, code, want)
		}
	}
}

// longWords returns some words of all lengths.
func longWords(rng *rand.Rand, letters int64, count int) []string {
	var list []string
	for range count {
		w := make([]byte, rng.Intn(61))
		for i := range w {
			w[i] = 'a' + byte(rng.Int63n(letters))
		}
		list = append(list, string(w))
	}
	return list
}

// TestVerdictReaders compares what the readers take with the verdicts of runs.
func TestVerdictReaders(t *testing.T) {
	rng := rand.New(rand.NewSource(53))
	many := 0
	for _, u := range slices.Concat(turnersToTry(), randomTurners(54, 300, 6), wideTurners(54, 100)) {
		limit := len(firstClasses(u, 301)) > 300
		words := append(wordsTo(u.Letters, 4), longWords(rng, u.Letters, 12)...)
		for verdict := int64(1); verdict <= 3; verdict++ {
			r, code := impl.VerdictReader(u, verdict)
			if limit {
				many++
				wantNone(t, turnerText(u), r, code, impl.ErrLimit)
				continue
			}
			wantCode(t, turnerText(u), code, impl.OK)
			if !isReader(r) || r.Letters != u.Letters {
				t.Fatalf("%q: %v", turnerText(u), r)
			}
			for _, w := range words {
				if takes(r, w) != (verdictOf(u, w) == verdict) {
					t.Fatalf("%q: the reader for %d takes %q: %v", turnerText(u), verdict, w, takes(r, w))
				}
			}
			if tidy, _ := impl.TidyReader(r); readerText(tidy) != readerText(r) || r.Start != 0 {
				t.Fatalf("%q: %v is not tidy", turnerText(u), r)
			}
		}
		taken, one := impl.VerdictReader(u, impl.VdTakes)
		again, two := impl.ReaderOfTurner(u)
		if !alikeAny(taken, again) || one != two {
			t.Fatalf("%q: ReaderOfTurner is %v, %d", turnerText(u), again, two)
		}
	}
	if many < 10 {
		t.Errorf("only %d turners with too many classes", many)
	}
}

// TestVerdictReaderOfReaders comes back to a reader from its turner.
func TestVerdictReaderOfReaders(t *testing.T) {
	rng := rand.New(rand.NewSource(55))
	for range 200 {
		r := randomReader(rng, 1+rng.Int63n(3), 1+rng.Intn(12))
		u, _ := impl.TurnerOf(r)
		want, _ := impl.TidyReader(r)
		got, code := impl.ReaderOfTurner(u)
		if readerText(got) != readerText(want) || code != impl.OK {
			t.Fatalf("%v: %v, %d", r, got, code)
		}
	}
}

func TestVerdictReaderOfSome(t *testing.T) {
	even := "turner 1 2 0\nstate 1> 0> 0=\nstate 0> 1> no\n"
	for name, c := range map[string]struct {
		turner  string
		verdict int64
		want    string
	}{
		"takes":                 {example2, impl.VdTakes, "reader 1 2 0\nno 1\nyes 1\n"},
		"refuses":               {example2, impl.VdRefuses, "reader 1 2 0\nyes 1\nno 1\n"},
		"loops never":           {example2, impl.VdLoops, "reader 1 1 0\nno 0\n"},
		"loops at the mark":     {even, impl.VdLoops, "reader 1 2 0\nyes 1\nno 0\n"},
		"refuses if not even":   {even, impl.VdRefuses, "reader 1 2 0\nno 1\nyes 0\n"},
		"takes never":           {even, impl.VdTakes, "reader 1 1 0\nno 0\n"},
		"loops at once":         {"turner 3 1 0\nstate yes no 0> 0= yes\n", impl.VdLoops, "reader 3 1 0\nyes 0 0 0\n"},
		"loops between letters": {"turner 2 2 0\nstate 0> 1< 0> yes\nstate 0> 1< 0> no\n", impl.VdLoops, "reader 2 2 0\nno 0 1\nyes 1 1\n"},
		"loops between marks":   {"turner 2 2 0\nstate 0> yes 0> 1<\nstate 1< no 0> no\n", impl.VdLoops, "reader 2 2 0\nyes 0 1\nno 1 1\n"},
		"inside the word":       {"turner 2 2 0\nstate 0> 1= 0> no\nstate no 1= no no\n", impl.VdLoops, "reader 2 2 0\nno 0 1\nyes 1 1\n"},
	} {
		r, code := impl.VerdictReader(mustTurn(t, c.turner), c.verdict)
		if readerText(r) != c.want || code != impl.OK {
			t.Errorf("%s: got %q, %d, want %q", name, readerText(r), code, c.want)
		}
	}
	u, _ := impl.ModTurner(3, []int64{3, 4, 5})
	r, code := impl.ReaderOfTurner(u)
	if len(r.Accept) != 60 || code != impl.OK {
		t.Errorf("60 states: %d, %d", len(r.Accept), code)
	}
}

func TestClassLimits(t *testing.T) {
	for text, classes := range map[string]int{classes300: 300, classes301: 301} {
		u := mustTurn(t, text)
		if got := len(firstClasses(u, 400)); got != classes {
			t.Fatalf("%d classes, not %d", got, classes)
		}
		want := int64(impl.OK)
		if classes == 301 {
			want = impl.ErrLimit
		}
		for verdict := int64(1); verdict <= 3; verdict++ {
			_, one := impl.VerdictReader(u, verdict)
			_, two := impl.CountWith(u, verdict, 0)
			wantCode(t, "VerdictReader", one, want)
			wantCode(t, "CountWith", two, want)
			_, three := impl.FirstWith(u, verdict)
			if (three == impl.ErrLimit) != (want == impl.ErrLimit) {
				t.Errorf("FirstWith: %d", three)
			}
		}
		_, four := impl.ReaderOfTurner(u)
		_, five := impl.FirstApart(u, plainTurner(3, 1))
		_, six := impl.FirstApart(plainTurner(3, 1), u)
		_, seven := impl.FirstApart(u, u)
		wantCode(t, "ReaderOfTurner", four, want)
		wantCode(t, "FirstApart", five, want)
		wantCode(t, "FirstApart, exchanged", six, want)
		if want == impl.OK {
			want = impl.ErrNotFound
		}
		wantCode(t, "FirstApart of the same", seven, want)
	}
}

// firstWith returns the first word with a verdict, and how often such a word is to be found among those of all classes.
func firstWith(u impl.Turner, verdict int64) (string, bool) {
	for _, text := range firstClasses(u, 300) {
		if verdictOf(u, text) == verdict {
			return text, true
		}
	}
	return "", false
}

func TestFirstWith(t *testing.T) {
	found := map[string]int{}
	for _, u := range append(turnersToTry(), randomTurners(56, 400, 6)...) {
		if len(firstClasses(u, 301)) > 300 {
			continue
		}
		words := wordsTo(u.Letters, 4)
		for verdict := int64(1); verdict <= 3; verdict++ {
			want, ok := firstWith(u, verdict)
			w, code := impl.FirstWith(u, verdict)
			if !ok {
				wantNone(t, turnerText(u), w, code, impl.ErrNotFound)
				continue
			}
			if w != want || code != impl.OK {
				t.Fatalf("%q: %d: %q, %d, not %q", turnerText(u), verdict, w, code, want)
			}
			i := slices.IndexFunc(words, func(w string) bool { return verdictOf(u, w) == verdict })
			if i >= 0 && words[i] != w {
				t.Fatalf("%q: %d: %q is before %q", turnerText(u), verdict, words[i], w)
			}
			found[w]++
		}
	}
	if len(found) < 10 {
		t.Errorf("only the words %v", found)
	}
}

// TestFarWords looks for words of the greatest length, and of 1 more.
func TestFarWords(t *testing.T) {
	for letters, want := range map[int]int64{59: impl.OK, 60: impl.OK, 61: impl.ErrLimit, 80: impl.ErrLimit} {
		far := farText(letters)
		u := farTurner(far)
		if !isTurner(u) || verdictOf(u, far) != impl.VdTakes {
			t.Fatalf("%q is not taken by %v", far, u)
		}
		w, code := impl.FirstWith(u, impl.VdTakes)
		never := impl.Turner{Letters: 3, Moves: [][]impl.Move{{{To: -2}, {To: -2}, {To: -2}, {To: -2}, {To: -2}}}}
		apart, two := impl.FirstApart(u, never)
		again, three := impl.FirstApart(never, u)
		wantCode(t, far, two, want)
		wantCode(t, far, three, want)
		if want == impl.OK {
			if w != far || apart != far || again != far || code != impl.OK {
				t.Errorf("%q, %q, %q, %d, not %q", w, apart, again, code, far)
			}
		} else {
			wantNone(t, far, w, code, want)
			wantNone(t, far, apart+again, two, want)
		}
		if n, code := impl.CountWith(u, impl.VdTakes, 30); n != 0 || code != impl.OK {
			t.Errorf("CountWith: %d, %d", n, code)
		}
		if _, code := impl.ReaderOfTurner(u); code != impl.OK {
			t.Errorf("ReaderOfTurner: %d", code)
		}
	}
}

func TestFirstApart(t *testing.T) {
	rng := rand.New(rand.NewSource(57))
	found := map[int]int{}
	for range 1500 {
		letters := 1 + rng.Int63n(3)
		u := randomTurner(rng, letters, 2+rng.Intn(4), 9)
		v := randomTurner(rng, letters, 2+rng.Intn(4), 9)
		if rng.Intn(4) > 0 {
			v = impl.Turner{Letters: letters, Start: u.Start}
			for _, row := range u.Moves {
				v.Moves = append(v.Moves, slices.Clone(row))
			}
			v.Moves[rng.Intn(len(v.Moves))][rng.Int63n(letters+2)] = impl.Move{To: -1 - rng.Int63n(2)}
		}
		texts := keyed(letters, 2000, func(text string) string { return classOf(u, text) + classOf(v, text) })
		if len(texts) == 2000 || len(firstClasses(u, 301)) > 300 || len(firstClasses(v, 301)) > 300 {
			continue
		}
		i := slices.IndexFunc(texts, func(text string) bool { return verdictOf(u, text) != verdictOf(v, text) })
		w, code := impl.FirstApart(u, v)
		again, too := impl.FirstApart(v, u)
		if w != again || code != too {
			t.Fatalf("exchanged: %q, %q", w, again)
		}
		if i < 0 {
			found[-1]++
			wantNone(t, turnerText(u)+turnerText(v), w, code, impl.ErrNotFound)
			continue
		}
		found[len(w)]++
		if w != texts[i] || code != impl.OK {
			t.Fatalf("%q %q: %q, %d, not %q", turnerText(u), turnerText(v), w, code, texts[i])
		}
	}
	if found[-1] < 20 || found[0] < 50 || found[1] < 50 || found[2] < 20 || found[3] < 3 {
		t.Errorf("lengths: %v", found)
	}
}

// TestFirstApartOfSome looks at each two of the three verdicts.
func TestFirstApartOfSome(t *testing.T) {
	verdicts := []string{"yes", "no", "0="}
	for i, one := range verdicts {
		for k, two := range verdicts {
			u := mustTurn(t, "turner 2 1 0\nstate 0> "+one+" 0> no\n")
			v := mustTurn(t, "turner 2 1 0\nstate 0> "+two+" 0> no\n")
			want, code := "b", int64(impl.OK)
			if i == k {
				want, code = "", impl.ErrNotFound
			}
			if got, gotCode := impl.FirstApart(u, v); got != want || gotCode != code {
				t.Errorf("%s and %s: %q, %d", one, two, got, gotCode)
			}
		}
	}
	six, _ := impl.ModTurner(2, []int64{6})
	both, _ := impl.ModTurner(2, []int64{2, 3})
	four, _ := impl.ModTurner(2, []int64{4})
	if w, code := impl.FirstApart(six, both); w != "" || code != impl.ErrNotFound {
		t.Errorf("6 and 2 3: %q, %d", w, code)
	}
	if w, code := impl.FirstApart(both, four); w != "aaaa" || code != impl.OK {
		t.Errorf("2 3 and 4: %q, %d", w, code)
	}
}

func TestCountWith(t *testing.T) {
	for _, u := range append(turnersToTry(), randomTurners(58, 200, 5)...) {
		if len(firstClasses(u, 301)) > 300 {
			continue
		}
		counts := map[[2]int64]int64{}
		for _, w := range wordsTo(u.Letters, 5) {
			counts[[2]int64{verdictOf(u, w), int64(len(w))}]++
		}
		for _, length := range []int64{0, 1, 2, 3, 4, 5, 17, 30} {
			sum := int64(0)
			for verdict := int64(1); verdict <= 3; verdict++ {
				n, code := impl.CountWith(u, verdict, length)
				if length <= 5 && n != counts[[2]int64{verdict, length}] || code != impl.OK {
					t.Fatalf("%q: %d words of %d letters with %d, %d", turnerText(u), n, length, verdict, code)
				}
				sum += n
			}
			if want := int64(math.Round(math.Pow(float64(u.Letters), float64(length)))); sum != want {
				t.Fatalf("%q: %d words of %d letters, not %d", turnerText(u), sum, length, want)
			}
		}
	}
	u, _ := impl.ModTurner(3, []int64{2, 3})
	if n, code := impl.CountWith(u, impl.VdTakes, 30); n != 205891132094649 || code != impl.OK {
		t.Errorf("30 letters: %d, %d", n, code)
	}
}

func TestReaderErrors(t *testing.T) {
	u, odd, far := mustTurn(t, example2), oddTurners()[5], mustTurn(t, classes301)
	for name, c := range map[string]struct {
		u                           impl.Turner
		verdict, length             int64
		reader, first, count, apart int64
	}{
		"greatest length":         {u, 1, 30, 0, 0, 0, impl.ErrNotFound},
		"length 31":               {u, 1, 31, 0, 0, impl.ErrRange, impl.ErrNotFound},
		"length -1":               {u, 2, -1, 0, 0, impl.ErrRange, impl.ErrNotFound},
		"no such word":            {u, 3, 0, 0, impl.ErrNotFound, 0, impl.ErrNotFound},
		"verdict 0":               {u, 0, 0, impl.ErrRange, impl.ErrRange, impl.ErrRange, impl.ErrNotFound},
		"verdict 4":               {u, 4, 0, impl.ErrRange, impl.ErrRange, impl.ErrRange, impl.ErrNotFound},
		"verdict -1":              {u, -1, 0, impl.ErrRange, impl.ErrRange, impl.ErrRange, impl.ErrNotFound},
		"greatest numbers":        {u, math.MaxInt64, math.MaxInt64, impl.ErrRange, impl.ErrRange, impl.ErrRange, impl.ErrNotFound},
		"least numbers":           {u, math.MinInt64, math.MinInt64, impl.ErrRange, impl.ErrRange, impl.ErrRange, impl.ErrNotFound},
		"invalid before range":    {odd, 4, 31, impl.ErrInvalid, impl.ErrInvalid, impl.ErrInvalid, impl.ErrInvalid},
		"invalid":                 {odd, 1, 1, impl.ErrInvalid, impl.ErrInvalid, impl.ErrInvalid, impl.ErrInvalid},
		"limit":                   {far, 3, 1, impl.ErrLimit, impl.ErrLimit, impl.ErrLimit, impl.ErrRange},
		"range before limit":      {far, 0, 1, impl.ErrRange, impl.ErrRange, impl.ErrRange, impl.ErrRange},
		"length before limit":     {far, 1, 31, impl.ErrLimit, impl.ErrLimit, impl.ErrRange, impl.ErrRange},
		"less than 0, limit":      {far, 2, -1, impl.ErrLimit, impl.ErrLimit, impl.ErrRange, impl.ErrRange},
		"verdict and length":      {u, 5, 33, impl.ErrRange, impl.ErrRange, impl.ErrRange, impl.ErrNotFound},
		"verdict, greatest limit": {far, 9, 99, impl.ErrRange, impl.ErrRange, impl.ErrRange, impl.ErrRange},
	} {
		r, code := impl.VerdictReader(c.u, c.verdict)
		wantCode(t, name+", reader", code, c.reader)
		w, first := impl.FirstWith(c.u, c.verdict)
		wantCode(t, name+", first", first, c.first)
		n, count := impl.CountWith(c.u, c.verdict, c.length)
		wantCode(t, name+", count", count, c.count)
		apart, code2 := impl.FirstApart(c.u, u)
		wantCode(t, name+", apart", code2, c.apart)
		again, code3 := impl.FirstApart(u, c.u)
		wantCode(t, name+", apart, exchanged", code3, c.apart)
		if code != 0 && !isZero(r) || first != 0 && w != "" || count != 0 && n != 0 || apart+again != "" {
			t.Errorf("%s: a result comes with an error", name)
		}
	}
	for _, odd := range oddTurners() {
		r, one := impl.ReaderOfTurner(odd)
		wantNone(t, "ReaderOfTurner", r, one, impl.ErrInvalid)
		w, two := impl.FirstWith(odd, 4)
		wantNone(t, "FirstWith", w, two, impl.ErrInvalid)
	}
}
