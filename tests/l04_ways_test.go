package tests

import (
	"fmt"
	"math"
	"math/rand"
	"slices"
	"strings"
	"testing"

	"loop.example/g01134/impl"
)

// Promise 10, on ways, labels and readers.

func TestReachedPlaces(t *testing.T) {
	for name, c := range map[string]struct{ wanderer, w, places, way string }{
		"example":                  {"wanderer 1 2 0\nstate 0> 0> 1<\nstate yes - -\n", "a", "[{0 0} {0 1} {1 1} {0 2}] true", "[{0 0} {0 1} {0 2} {1 1}]"},
		"example, not taken":       {"wanderer 1 2 0\nstate 0> 0> 1<\nstate yes - -\n", "", "[{0 0} {1 0} {0 1}] false", "[]"},
		"without a start":          {"wanderer 1 1 -\nstate yes yes yes\n", "a", "[] false", "[]"},
		"without a move":           {"wanderer 1 3 0,2\nstate - - -\nstate yes yes yes\nstate - - -\n", "a", "[{0 0} {2 0}] false", "[]"},
		"takes at once":            {"wanderer 1 2 0,1\nstate - - -\nstate - yes,0> -\n", "a", "[{0 0} {1 0} {0 1}] true", "[{1 0}]"},
		"takes in both starts":     {"wanderer 1 2 0,1\nstate - yes -\nstate - yes -\n", "a", "[{0 0} {1 0}] true", "[{0 0}]"},
		"takes, and goes on":       {"wanderer 1 1 0\nstate 0> yes,0> 0<\n", "aa", "[{0 0} {0 1} {0 2} {0 3}] true", "[{0 0}]"},
		"the order of the cells":   {"wanderer 1 3 2\nstate - - yes\nstate 0> 0> -\nstate - 0>,1= -\n", "a", "[{1 0} {2 0} {0 1}] false", "[]"},
		"the first cell first":     {"wanderer 1 3 2\nstate 2> 1= -\nstate yes yes -\nstate yes 0=,1= -\n", "a", "[{0 0} {1 0} {2 0}] true", "[{2 0} {1 0}]"},
		"the left one first":       {"wanderer 1 4 0\nstate 1>,2=,3< 0> -\nstate - - yes\nstate yes - -\nstate - yes -\n", "a", "[{0 0} {3 0} {0 1} {2 1} {1 2}] true", "[{0 0} {0 1} {3 0}]"},
		"the least state first":    {"wanderer 1 4 3\nstate 1> - -\nstate - - yes\nstate 1> - -\nstate - 0>,2> -\n", "a", "[{3 0} {0 1} {2 1} {1 2}] true", "[{3 0} {0 1} {1 2}]"},
		"the first start":          {"wanderer 1 3 0,1\nstate 2> 0> -\nstate 2> 1> -\nstate - - yes\n", "a", "[{0 0} {1 0} {0 1} {1 1} {2 2}] true", "[{0 0} {0 1} {2 2}]"},
		"cells before states":      {"wanderer 1 4 0\nstate - 1>,2= -\nstate 3> yes -\nstate - 3> -\nstate yes - -\n", "a", "[{0 0} {2 0} {1 1} {3 1} {3 2}] true", "[{0 0} {2 0} {3 1}]"},
		"shorter before first":     {"wanderer 1 4 0\nstate - 1=,3> -\nstate - 2= -\nstate - yes -\nstate yes - -\n", "a", "[{0 0} {1 0} {2 0} {3 1}] true", "[{0 0} {3 1}]"},
		"early cells decide first": {"wanderer 1 5 0\nstate - 1=,2> -\nstate - 3> -\nstate 4= - -\nstate 4> - -\nstate yes - yes\n", "a", "[{0 0} {1 0} {2 1} {3 1} {4 1} {4 2}] true", "[{0 0} {2 1} {4 1}]"},
	} {
		m := mustWander(t, c.wanderer)
		places, taken, code := impl.ReachedPlaces(m, c.w)
		if got := fmt.Sprint(places, taken); got != c.places || code != impl.OK {
			t.Errorf("%s: got %s, %d, want %s", name, got, code, c.places)
		}
		way, code := impl.FirstWay(m, c.w)
		if got := fmt.Sprint(way); got != c.way || (code == impl.OK) != (c.way != "[]") {
			t.Errorf("%s: got %s, %d, want %s", name, got, code, c.way)
		}
	}
}

// TestWaysAndLabels looks for each word for its way or its labels.
func TestWaysAndLabels(t *testing.T) {
	rng := rand.New(rand.NewSource(91))
	taken, refused, long := 0, 0, 0
	for _, m := range append(wanderersToTry(), randomWanderers(92, 500)...) {
		for _, w := range wandererWords(rng, m.Letters) {
			want, wanted := reachedPlaces(m, w)
			places, takes, code := impl.ReachedPlaces(m, w)
			if !slices.Equal(places, want) || takes != wanted || code != impl.OK {
				t.Fatalf("%q %q: %v, %v, %d", wandererText(m), w, places, takes, code)
			}
			if alone, code := impl.WandererTakes(m, w); alone != wanted || code != impl.OK {
				t.Fatalf("%q %q: %v, %d", wandererText(m), w, alone, code)
			}
			if wanted {
				taken++
				long = max(long, wantWay(t, m, w))
			} else {
				refused++
				wantLabels(t, m, w)
			}
		}
	}
	if taken < 1000 || refused < 1000 || long < 60 {
		t.Errorf("%d words are taken, the longest way has %d places, %d are not", taken, long, refused)
	}
}

// wantWay asserts that a word has a first way, which is one, and no labels, and returns its length.
func wantWay(t *testing.T, m impl.Wanderer, w string) int {
	t.Helper()
	want := firstWay(m, w)
	way, code := impl.FirstWay(m, w)
	if !slices.Equal(way, want) || code != impl.OK {
		t.Fatalf("%q %q: %v, %d, not %v", wandererText(m), w, way, code, want)
	}
	if yes, code := impl.CheckWay(m, w, way); !yes || code != impl.OK {
		t.Fatalf("%q %q: %v: %v, %d", wandererText(m), w, way, yes, code)
	}
	labels, code := impl.LabelsOf(m, w)
	wantNone(t, "LabelsOf", labels, code, impl.ErrState)
	return len(way)
}

// wantLabels asserts that a word has labels with the states that are reached, and no way.
func wantLabels(t *testing.T, m impl.Wanderer, w string) {
	t.Helper()
	places, _ := reachedPlaces(m, w)
	want := make([][]int64, len(w)+2)
	for _, p := range places {
		want[p.At] = append(want[p.At], p.State)
	}
	labels, code := impl.LabelsOf(m, w)
	if !alikeAny(labels, want) || code != impl.OK {
		t.Fatalf("%q %q: %v, %d, not %v", wandererText(m), w, labels, code, want)
	}
	if yes, code := impl.CheckLabels(m, w, labels); !yes || code != impl.OK {
		t.Fatalf("%q %q: %v: %v, %d", wandererText(m), w, labels, yes, code)
	}
	way, code := impl.FirstWay(m, w)
	wantNone(t, "FirstWay", way, code, impl.ErrNotFound)
}

// TestCheckWay looks at ways that are changed a little, and at places by chance.
func TestCheckWay(t *testing.T) {
	rng := rand.New(rand.NewSource(93))
	yes, no := 0, 0
	for _, m := range append(wanderersToTry(), randomWanderers(94, 500)...) {
		for _, w := range wandererWords(rng, m.Letters) {
			for range 4 {
				way := changedWay(rng, m, w)
				want := isWay(m, w, way)
				if got, code := impl.CheckWay(m, w, way); got != want || code != impl.OK {
					t.Fatalf("%q %q %v: %v, %d", wandererText(m), w, way, got, code)
				}
				if want {
					yes++
				} else {
					no++
				}
			}
		}
	}
	if yes < 500 || no < 5000 {
		t.Errorf("%d are ways, %d are not", yes, no)
	}
}

// changedWay goes some places by chance, from somewhere near the beginning, and then may leave out or change one.
func changedWay(rng *rand.Rand, m impl.Wanderer, w string) []impl.Place {
	p := impl.Place{State: rng.Int63n(int64(len(m.Moves))), At: rng.Int63n(8) / 7}
	way := []impl.Place{p}
	for range 70 {
		next, takes := nextPlaces(m, w, way[len(way)-1])
		if len(next) == 0 || takes && rng.Intn(2) == 0 {
			break
		}
		way = append(way, next[rng.Intn(len(next))])
	}
	i := rng.Intn(len(way))
	switch rng.Intn(6) {
	case 0:
		return slices.Delete(way, i, i+1)
	case 1:
		way[i] = impl.Place{State: rng.Int63n(int64(len(m.Moves))), At: rng.Int63n(int64(len(w)) + 2)}
	case 2:
		return way[:i+1]
	case 3:
		return append(way, way[i])
	}
	return way
}

func TestCheckWayOfSome(t *testing.T) {
	m := mustWander(t, "wanderer 1 2 0\nstate 0>,1= 0> 1<\nstate yes,0< - -\n")
	for name, c := range map[string]struct {
		way  []impl.Place
		want bool
		code int64
	}{
		"first":                      {[]impl.Place{{State: 0, At: 0}, {State: 0, At: 1}, {State: 1, At: 1}}, true, impl.OK},
		"longer":                     {[]impl.Place{{State: 0, At: 0}, {State: 0, At: 1}, {State: 0, At: 2}, {State: 1, At: 1}}, true, impl.OK},
		"in a circle":                {[]impl.Place{{State: 0, At: 0}, {State: 0, At: 1}, {State: 1, At: 1}, {State: 0, At: 0}, {State: 0, At: 1}, {State: 1, At: 1}}, true, impl.OK},
		"no places":                  {nil, false, impl.OK},
		"does not take":              {[]impl.Place{{State: 0, At: 0}, {State: 0, At: 1}}, false, impl.OK},
		"takes, and goes on":         {[]impl.Place{{State: 0, At: 0}, {State: 0, At: 1}, {State: 1, At: 1}, {State: 0, At: 0}}, false, impl.OK},
		"from another cell":          {[]impl.Place{{State: 0, At: 1}, {State: 1, At: 1}}, false, impl.OK},
		"from another state":         {[]impl.Place{{State: 1, At: 0}, {State: 1, At: 1}}, false, impl.OK},
		"the last one alone":         {[]impl.Place{{State: 1, At: 1}}, false, impl.OK},
		"the first one twice":        {[]impl.Place{{State: 0, At: 0}, {State: 0, At: 0}, {State: 0, At: 1}, {State: 1, At: 1}}, false, impl.OK},
		"one left out":               {[]impl.Place{{State: 0, At: 0}, {State: 1, At: 1}}, false, impl.OK},
		"another state":              {[]impl.Place{{State: 0, At: 0}, {State: 1, At: 1}, {State: 1, At: 1}}, false, impl.OK},
		"another cell":               {[]impl.Place{{State: 0, At: 0}, {State: 0, At: 1}, {State: 1, At: 2}}, false, impl.OK},
		"no state":                   {[]impl.Place{{State: 2, At: 0}}, false, impl.ErrRange},
		"negative state":             {[]impl.Place{{State: 0, At: 0}, {State: -1, At: 1}}, false, impl.ErrRange},
		"no cell":                    {[]impl.Place{{State: 0, At: 0}, {State: 0, At: 3}}, false, impl.ErrRange},
		"negative cell":              {[]impl.Place{{State: 0, At: -1}}, false, impl.ErrRange},
		"far":                        {[]impl.Place{{State: math.MaxInt64, At: math.MinInt64}}, false, impl.ErrRange},
		"a way, and no place":        {[]impl.Place{{State: 0, At: 0}, {State: 0, At: 1}, {State: 1, At: 1}, {State: 5, At: 1}}, false, impl.ErrRange},
		"no way, and no place":       {[]impl.Place{{State: 1, At: 2}, {State: 1, At: 2}, {State: 0, At: 4}}, false, impl.ErrRange},
		"no place ahead of the rest": {[]impl.Place{{State: 0, At: 9}, {State: 0, At: 0}, {State: 0, At: 1}, {State: 1, At: 1}}, false, impl.ErrRange},
	} {
		yes, code := impl.CheckWay(m, "a", c.way)
		if yes != c.want || code != c.code {
			t.Errorf("%s: %v, %d", name, yes, code)
		}
	}
	round := []impl.Place{{State: 0, At: 0}, {State: 0, At: 1}, {State: 1, At: 1}}
	if yes, code := impl.CheckWay(m, "a", slices.Repeat(round, 100000)); !yes || code != impl.OK {
		t.Errorf("many times round: %v, %d", yes, code)
	}
}

// TestCheckLabels looks at labels that are changed a little, and at sets by chance.
func TestCheckLabels(t *testing.T) {
	rng := rand.New(rand.NewSource(95))
	yes, no := 0, 0
	for _, m := range append(wanderersToTry(), randomWanderers(96, 700)...) {
		for _, w := range wandererWords(rng, m.Letters) {
			places, _ := reachedPlaces(m, w)
			for range 4 {
				labels := changedLabels(rng, m, w, places)
				want := areLabels(m, w, labels)
				if got, code := impl.CheckLabels(m, w, labels); got != want || code != impl.OK {
					t.Fatalf("%q %q %v: %v, %d", wandererText(m), w, labels, got, code)
				}
				if want {
					yes++
					if wandererTakes(m, w) {
						t.Fatalf("%q %q %v: it is taken", wandererText(m), w, labels)
					}
				} else {
					no++
				}
			}
		}
	}
	if yes < 3000 || no < 3000 {
		t.Errorf("%d are labels, %d are not", yes, no)
	}
}

// changedLabels returns the labels of some places, with some state more or less.
func changedLabels(rng *rand.Rand, m impl.Wanderer, w string, places []impl.Place) [][]int64 {
	labels := make([][]int64, len(w)+2)
	dropped := rng.Intn(3 * (len(places) + 1))
	for i, p := range places {
		if i != dropped {
			labels[p.At] = append(labels[p.At], p.State)
		}
	}
	for range rng.Intn(3) {
		s, at := rng.Int63n(int64(len(m.Moves))), rng.Intn(len(labels))
		if !slices.Contains(labels[at], s) {
			labels[at] = append(labels[at], s)
			slices.Sort(labels[at])
		}
	}
	return labels
}

func TestCheckLabelsOfSome(t *testing.T) {
	m := mustWander(t, "wanderer 1 3 0,1\nstate 0> 0> 1<\nstate 2<,2= 1= -\nstate - - yes\n")
	for name, c := range map[string]struct {
		labels [][]int64
		want   bool
		code   int64
	}{
		"reached":                   {[][]int64{{0, 1, 2}, {0, 1, 2}, {0}}, true, impl.OK},
		"takes":                     {[][]int64{{0, 1, 2}, {0, 1, 2}, {0, 2}}, false, impl.OK},
		"without a start":           {[][]int64{{0, 2}, {0, 1, 2}, {0}}, false, impl.OK},
		"without the other start":   {[][]int64{{1, 2}, {0, 1, 2}, {0}}, false, impl.OK},
		"without where it goes":     {[][]int64{{0, 1, 2}, {0, 1, 2}, {}}, false, impl.OK},
		"without where it goes to":  {[][]int64{{0, 1}, {0, 1, 2}, {0}}, false, impl.OK},
		"without where it stays":    {[][]int64{{0, 1, 2}, {0, 1}, {0}}, false, impl.OK},
		"without where it turns":    {[][]int64{{0, 1, 2}, {0}, {0}}, false, impl.OK},
		"without anything":          {[][]int64{{}, {}, {}}, false, impl.OK},
		"more than reached":         {[][]int64{{0, 1, 2}, {0, 1, 2}, {0, 1}}, true, impl.OK},
		"two lists":                 {[][]int64{{0, 1, 2}, {0, 1, 2}}, false, impl.ErrRange},
		"four lists":                {[][]int64{{0, 1, 2}, {0, 1, 2}, {0}, {}}, false, impl.ErrRange},
		"no lists":                  {nil, false, impl.ErrRange},
		"many lists":                {make([][]int64, 900000), false, impl.ErrRange},
		"no state":                  {[][]int64{{0, 1, 2}, {0, 1, 3}, {0}}, false, impl.ErrRange},
		"negative":                  {[][]int64{{-1, 0, 1, 2}, {0, 1, 2}, {0}}, false, impl.ErrRange},
		"greatest number":           {[][]int64{{0, 1, 2}, {0, 1, 2}, {0, math.MaxInt64}}, false, impl.ErrRange},
		"least number":              {[][]int64{{0, 1, 2}, {0, 1, 2}, {math.MinInt64, 0}}, false, impl.ErrRange},
		"twice":                     {[][]int64{{0, 1, 2}, {0, 1, 2}, {0, 0}}, false, impl.ErrRange},
		"exchanged":                 {[][]int64{{0, 1, 2}, {1, 0, 2}, {0}}, false, impl.ErrRange},
		"no labels, and no state":   {[][]int64{{}, {}, {3}}, false, impl.ErrRange},
		"no labels, and exchanged":  {[][]int64{{2, 1}, {}, {}}, false, impl.ErrRange},
		"many states":               {[][]int64{make([]int64, 900000), {}, {}}, false, impl.ErrRange},
		"takes, and a state behind": {[][]int64{{0, 1, 2}, {0, 1, 2}, {0, 2, 3}}, false, impl.ErrRange},
	} {
		yes, code := impl.CheckLabels(m, "a", c.labels)
		if yes != c.want || code != c.code {
			t.Errorf("%s: %v, %d", name, yes, code)
		}
	}
	if yes, code := impl.CheckLabels(idleWanderer(1, 5), "", make([][]int64, 2)); !yes || code != impl.OK {
		t.Errorf("without starts and states: %v, %d", yes, code)
	}
	five := mustWander(t, "wanderer 1 5 4\nstate - - -\nstate - - -\nstate - - -\nstate - - -\nstate - 4> 4=\n")
	if yes, code := impl.CheckLabels(five, "", [][]int64{{0, 1, 2, 3, 4}, {0, 1, 2, 3, 4}}); !yes || code != impl.OK {
		t.Errorf("all states: %v, %d", yes, code)
	}
	if yes, code := impl.CheckLabels(five, "", [][]int64{{4}, {0, 1, 2, 3}}); yes || code != impl.OK {
		t.Errorf("all states but the last: %v, %d", yes, code)
	}
}

// TestReadersOfWanderers compares what the readers take with the ways of the wanderers.
func TestReadersOfWanderers(t *testing.T) {
	rng := rand.New(rand.NewSource(97))
	sizes := map[int]int{}
	for _, m := range append(wanderersToTry(), randomWanderers(98, 700)...) {
		r, code := impl.ReaderOfWanderer(m)
		if len(firstOpenings(m, 301)) > 300 {
			wantNone(t, wandererText(m), r, code, impl.ErrLimit)
			continue
		}
		wantCode(t, wandererText(m), code, impl.OK)
		if !isReader(r) || r.Letters != m.Letters {
			t.Fatalf("%q: %v", wandererText(m), r)
		}
		sizes[len(r.Accept)]++
		for _, w := range append(wordsTo(m.Letters, 4), longWords(rng, m.Letters, 4)...) {
			if takes(r, w) != wandererTakes(m, w) {
				t.Fatalf("%q: the reader takes %q: %v", wandererText(m), w, takes(r, w))
			}
		}
		if tidy, _ := impl.TidyReader(r); readerText(tidy) != readerText(r) || r.Start != 0 {
			t.Fatalf("%q: %v is not tidy", wandererText(m), r)
		}
	}
	if sizes[1] < 50 || sizes[2] < 50 || sizes[3] < 30 || sizes[5] < 5 {
		t.Errorf("readers of the sizes %v", sizes)
	}
}

// TestReadersOfTurnersAsWanderers comes to the same reader by a turner and by its wanderer.
func TestReadersOfTurnersAsWanderers(t *testing.T) {
	compared := 0
	for _, u := range crossingTurners() {
		want, one := impl.ReaderOfTurner(u)
		if len(u.Moves) > 5 || one != impl.OK {
			continue
		}
		m, _ := impl.WandererOf(u)
		got, two := impl.ReaderOfWanderer(m)
		if two == impl.ErrLimit {
			continue
		}
		compared++
		if readerText(got) != readerText(want) || two != impl.OK {
			t.Fatalf("%q: %v, %d", turnerText(u), got, two)
		}
	}
	if compared < 300 {
		t.Errorf("only %d readers", compared)
	}
}

func TestReaderOfWandererOfSome(t *testing.T) {
	for name, c := range map[string]struct{ wanderer, want string }{
		"example":                     {"wanderer 1 2 0\nstate 0> 0> 1<\nstate yes - -\n", "reader 1 2 0\nno 1\nyes 1\n"},
		"without a start":             {"wanderer 1 1 -\nstate yes yes yes\n", "reader 1 1 0\nno 0\n"},
		"without a move":              {"wanderer 3 2 0,1\nstate - - - - -\nstate - - - - -\n", "reader 3 1 0\nno 0 0 0\n"},
		"takes at once":               {"wanderer 2 1 0\nstate - - yes -\n", "reader 2 1 0\nyes 0 0\n"},
		"takes behind some stays":     {"wanderer 1 3 0\nstate - 0=,1= -\nstate - 2= -\nstate - yes,1= -\n", "reader 1 1 0\nyes 0\n"},
		"takes at the end":            {"wanderer 2 1 0\nstate 0> - 0> yes\n", "reader 2 2 0\nyes 0 1\nno 1 1\n"},
		"takes only at the end":       {"wanderer 2 2 0\nstate 0> 0>,1> 0> -\nstate - - - yes\n", "reader 2 2 0\nno 0 1\nyes 0 1\n"},
		"the last but one":            {"wanderer 2 3 0\nstate 0> 0>,1> 0> -\nstate 2> 2> - -\nstate - - - yes\n", "reader 2 4 0\nno 0 1\nno 2 3\nyes 0 1\nyes 2 3\n"},
		"comes back":                  {"wanderer 2 3 0\nstate 0> 0> 0> 1<\nstate - 2< - -\nstate 2< 2< yes -\n", "reader 2 2 0\nno 0 1\nyes 0 1\n"},
		"comes back, if it can":       {"wanderer 2 3 0\nstate 0> 0> 0> 1<\nstate 1<,2< - - -\nstate - yes - -\n", "reader 2 3 0\nno 0 1\nno 2 1\nyes 2 1\n"},
		"takes where it comes back":   {"wanderer 1 2 0\nstate 0> 0> 1<\nstate 1< yes -\n", "reader 1 1 0\nyes 0\n"},
		"both, but for ever":          {"wanderer 1 2 0,1\nstate 0= 0> 0=\nstate 1> 1> yes\n", "reader 1 1 0\nyes 0\n"},
		"two ways, two and three":     {"wanderer 1 5 0,2\nstate 1> 0> yes\nstate 0> - -\nstate 3> 2> yes\nstate 4> - -\nstate 2> - -\n", "reader 1 6 0\nyes 1\nno 2\nyes 3\nyes 4\nyes 5\nno 0\n"},
		"out of the left mark twice":  {"wanderer 2 3 0\nstate 0>,1< - 0> -\nstate - - 2> -\nstate 2> 2> - yes\n", "reader 2 3 0\nno 1 2\nyes 1 1\nno 2 2\n"},
		"takes inside, but only once": {"wanderer 2 2 0\nstate 0> 1> 0> -\nstate 1> yes - -\n", "reader 2 3 0\nno 0 1\nno 1 2\nyes 2 2\n"},
	} {
		m := mustWander(t, c.wanderer)
		for _, w := range wordsTo(m.Letters, 5) {
			if want := mustRead(t, c.want); takes(want, w) != wandererTakes(m, w) {
				t.Fatalf("%s: the oracle takes %q: %v", name, w, wandererTakes(m, w))
			}
		}
		r, code := impl.ReaderOfWanderer(m)
		if readerText(r) != c.want || code != impl.OK {
			t.Errorf("%s: got %q, %d, want %q", name, readerText(r), code, c.want)
		}
	}
}

func TestReaderOfWandererLimits(t *testing.T) {
	for text, openings := range map[string]int{openings300: 300, openings301: 301} {
		m := mustWander(t, text)
		if got := len(firstOpenings(m, 400)); got != openings {
			t.Fatalf("%d tables, not %d", got, openings)
		}
		want := int64(impl.OK)
		if openings == 301 {
			want = impl.ErrLimit
		}
		r, code := impl.ReaderOfWanderer(m)
		wantCode(t, fmt.Sprint(openings), code, want)
		if isZero(r) != (want != impl.OK) {
			t.Errorf("%d: %v", openings, r)
		}
	}
	for _, odd := range oddWanderers() {
		r, code := impl.ReaderOfWanderer(odd)
		wantReader(t, "invalid", r, code, "", impl.ErrInvalid)
	}
}

// TestOneVerdict comes by runs, sequences, cuts, wanderers and readers to one verdict.
func TestOneVerdict(t *testing.T) {
	for _, u := range randomTurners(99, 200, 5) {
		m, _ := impl.WandererOf(u)
		for _, w := range append(wordsTo(u.Letters, 3), strings.Repeat("abc"[:u.Letters], 60)[:60]) {
			verdict, _ := impl.VerdictOf(u, w)
			way, _ := impl.FirstWay(m, w)
			labels, _ := impl.LabelsOf(m, w)
			if (len(way) > 0) != (verdict == impl.VdTakes) || (len(labels) > 0) == (verdict == impl.VdTakes) {
				t.Fatalf("%q %q: verdict %d, way %v, labels %v", turnerText(u), w, verdict, way, labels)
			}
			list, code := impl.CrossingsOf(u, w)
			if (code == impl.OK) != (verdict != impl.VdLoops) {
				t.Fatalf("%q %q: verdict %d, sequences %v, %d", turnerText(u), w, verdict, list, code)
			}
			if told, _ := impl.CheckCrossings(u, w, list); code == impl.OK && told != verdict {
				t.Fatalf("%q %q: verdict %d, sequences tell %d", turnerText(u), w, verdict, told)
			}
		}
	}
}
