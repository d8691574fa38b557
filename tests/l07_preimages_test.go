package tests

import (
	"fmt"
	"math/rand"
	"slices"
	"strings"
	"testing"

	"loop.example/g01134/impl"
)

// Promise 20, on the words on which something is written.

func TestDomainReader(t *testing.T) {
	for name, c := range map[string]struct{ writer, want string }{
		"all words":     {back2, "reader 2 1 0\nyes 0 0\n"},
		"the empty one": {"turner 1 1 0\nstate no 0> yes\nout a b c\n", "reader 1 2 0\nyes 1\nno 1\n"},
		"empty texts":   {example2 + "out - - -\nout - - -\n", "reader 1 2 0\nno 1\nyes 1\n"},
		"goes on":       {"turner 1 1 0\nstate 0= 0> yes\nout a b c\n", "reader 1 2 0\nyes 1\nno 1\n"},
		"refuses":       {"turner 3 1 0\nstate 0> 0> 0> no 0=\nout a b c a b\n", "reader 3 1 0\nno 0 0 0\n"},
	} {
		r, code := impl.DomainReader(mustWrite(t, c.writer))
		wantReader(t, name, r, code, c.want, impl.OK)
	}
	rng := rand.New(rand.NewSource(221))
	for _, w := range randomWriters(222, 200, 6) {
		r, code := impl.DomainReader(w)
		if len(firstClasses(w.Turner, 301)) > 300 {
			wantNone(t, writerText(w), r, code, impl.ErrLimit)
			continue
		}
		words := append(wordsTo(w.Turner.Letters, 4), longWords(rng, w.Turner.Letters, 5)...)
		wantLanguage(t, writerText(w), r, code, w.Turner.Letters, words, func(x string) bool {
			_, _, ok := writtenOn(w, x)
			return ok
		})
	}
	for text, want := range map[string]int64{classes300: impl.OK, classes301: impl.ErrLimit} {
		r, code := impl.DomainReader(silentWriter(mustTurn(t, text)))
		wantCode(t, text, code, want)
		if isZero(r) != (code != impl.OK) {
			t.Errorf("%q: %v", text, r)
		}
	}
	for _, odd := range oddWriters() {
		r, code := impl.DomainReader(odd)
		wantNone(t, "invalid", r, code, impl.ErrInvalid)
	}
}

func TestPreimageTurner(t *testing.T) {
	const lastA = "reader 3 2 0\nno 1 0 0\nyes 1 0 1\n"
	for name, c := range map[string]struct{ writer, reader, want string }{
		"the move that stops":    {"turner 1 1 0\nstate 0> 0> yes\nout b - a\n", lastA, "turner 1 2 0\nstate 0> 0> yes\nstate 0> 1> yes\n"},
		"stops with a bad one":   {"turner 1 1 0\nstate 0> 0> yes\nout a - b\n", lastA, "turner 1 2 0\nstate 1> 0> no\nstate 1> 1> no\n"},
		"stops with the empty":   {"turner 1 1 0\nstate 0> 0> yes\nout a - -\n", lastA, "turner 1 2 0\nstate 1> 0> no\nstate 1> 1> yes\n"},
		"refuses with a good":    {"turner 1 1 0\nstate yes 0> no\nout a b a\n", lastA, "turner 1 2 0\nstate yes 0> no\nstate yes 0> no\n"},
		"texts are read forward": {"turner 1 1 0\nstate 0= 0> yes\nout ba ab ca\n", lastA, "turner 1 2 0\nstate 1= 0> yes\nstate 1= 0> yes\n"},
		"both starts": {"turner 1 2 1\nstate 1< 1= 0=\nstate 0> 1> 0<\nout a b c\nout - ca -\n", "reader 3 3 2\nno 1 1 1\nno 2 2 2\nyes 0 0 0\n",
			"turner 1 6 5\nstate 4< 4= 1=\nstate 5< 5= 2=\nstate 3< 3= 0=\nstate 0> 5> 0<\nstate 1> 3> 1<\nstate 2> 4> 2<\n"},
		"one state": {back2, "reader 3 1 0\nyes 0 0 0\n", "turner 2 2 0\nstate 0> 0> 0> 1<\nstate 1< 1< yes 1<\n"},
		"no state":  {back2, "reader 3 1 0\nno 0 0 0\n", "turner 2 2 0\nstate 0> 0> 0> 1<\nstate 1< 1< no 1<\n"},
	} {
		u, code := impl.PreimageTurner(mustWrite(t, c.writer), mustRead(t, c.reader))
		wantTurner(t, name, u, code, c.want, impl.OK)
	}
}

// wantedVerdict returns the verdict that a preimage has on a word.
func wantedVerdict(w impl.Writer, r impl.Reader, x string) int64 {
	verdict := verdictOf(w.Turner, x)
	if text, _, ok := writtenOn(w, x); ok && !takes(r, text) {
		return impl.VdRefuses
	}
	return verdict
}

// TestPreimageTurners compares the verdicts of preimages with what readers do with the texts that are written.
func TestPreimageTurners(t *testing.T) {
	rng := rand.New(rand.NewSource(223))
	limits, verdicts := 0, map[int64]int{}
	for _, w := range randomWriters(224, 500, 6) {
		r := randomReader(rng, 3, 1+rng.Intn(6))
		u, code := impl.PreimageTurner(w, r)
		if len(w.Out)*len(r.Accept) > 12 {
			limits++
			wantTurner(t, "limit", u, code, "", impl.ErrLimit)
			continue
		}
		wantTurner(t, writerText(w), u, code, turnerText(productOf(w, r)), impl.OK)
		wantVerdicts(t, "PreimageTurner", u, code, func(x string) int64 {
			verdict := wantedVerdict(w, r, x)
			verdicts[verdict]++
			return verdict
		})
		one, first := impl.PreimageReader(w, r)
		other, second := impl.ReaderOfTurner(u)
		if !alikeAny(one, other) || first != second {
			t.Fatalf("%q: the readers are %v, %d and %v, %d", turnerText(u), one, first, other, second)
		}
	}
	if limits < 50 || limits > 450 || len(verdicts) != 3 {
		t.Errorf("%d with too many states, verdicts %v", limits, verdicts)
	}
}

// TestPreimageReaders compares the readers, also of preimages with many states, with what is written.
func TestPreimageReaders(t *testing.T) {
	rng := rand.New(rand.NewSource(225))
	limits, large := 0, 0
	for i, u := range slices.Concat(randomTurners(226, 200, 5), wideTurners(227, 120)) {
		w := writerOver(rng, u, i%4)
		r := randomReader(rng, 3, 1+rng.Intn(5))
		p := productOf(w, r)
		got, code := impl.PreimageReader(w, r)
		if len(firstClasses(p, 301)) > 300 {
			limits++
			wantNone(t, writerText(w), got, code, impl.ErrLimit)
			continue
		}
		if len(p.Moves) > 12 {
			large++
		}
		words := append(wordsTo(u.Letters, 4), longWords(rng, u.Letters, 8)...)
		wantLanguage(t, writerText(w), got, code, u.Letters, words, func(x string) bool { return wantedVerdict(w, r, x) == impl.VdTakes })
	}
	if limits < 10 || large < 40 {
		t.Errorf("%d with too many classes, %d with many states", limits, large)
	}
}

// timesOf takes the texts whose number of letters "a" can be divided by another one.
func timesOf(count int) impl.Reader {
	r := impl.Reader{Letters: 3}
	for s := range int64(count) {
		r.Accept = append(r.Accept, s == 0)
		r.Next = append(r.Next, []int64{(s + 1) % int64(count), s, s})
	}
	return r
}

// TestPreimageClasses has preimages with just as many classes as are allowed, and with 1 more: the lengths that the reader tells apart, and the empty word, with which the turner comes back in other states.
func TestPreimageClasses(t *testing.T) {
	once, _ := impl.CopyWriter(1, 1)
	for _, count := range []int{2, 12, 13, 298, 299, 300} {
		if got := len(firstClasses(productOf(once, timesOf(count)), 400)); got != count+1 {
			t.Fatalf("%d classes, not %d", got, count+1)
		}
		r, code := impl.PreimageReader(once, timesOf(count))
		if count == 300 {
			wantNone(t, "301 classes", r, code, impl.ErrLimit)
			continue
		}
		wantReader(t, fmt.Sprint(count), r, code, readerText(cycleReader(count, 0)), impl.OK)
	}
	for turner, want := range map[string]int64{classes300: impl.OK, classes301: impl.ErrLimit} {
		r, code := impl.PreimageReader(silentWriter(mustTurn(t, turner)), timesOf(1))
		wantCode(t, turner, code, want)
		if isZero(r) != (code != impl.OK) {
			t.Errorf("%q: %v", turner, r)
		}
	}
	silent := silentWriter(mustTurn(t, classes300))
	domain, _ := impl.DomainReader(silent)
	r, code := impl.PreimageReader(silent, timesOf(300))
	wantReader(t, "2100 states", r, code, readerText(domain), impl.OK)
}

// TestGreatPreimages has the greatest writers and readers.
func TestGreatPreimages(t *testing.T) {
	silent := silentWriter(plainTurner(3, 12))
	r, code := impl.PreimageReader(silent, timesOf(300))
	wantReader(t, "nothing is written", r, code, "reader 3 1 0\nyes 0 0 0\n", impl.OK)
	silent.Turner.Start = 11
	silent.Out[11][4] = "bab"
	r, code = impl.PreimageReader(silent, timesOf(300))
	wantReader(t, "one letter is written", r, code, "reader 3 1 0\nno 0 0 0\n", impl.OK)
	r, code = impl.PreimageReader(writerOver(rand.New(rand.NewSource(1)), shuffler(), 3), timesOf(300))
	wantNone(t, "many classes", r, code, impl.ErrLimit)
	// All of the 3600 states stay, one after the other, in the cell of the left mark, and go on for ever.
	stays := silentWriter(plainTurner(1, 12))
	for s := range stays.Turner.Moves {
		stays.Turner.Moves[s][1] = impl.Move{To: int64(s+1) % 12}
	}
	stays.Out[11][1] = "a"
	r, code = impl.PreimageReader(stays, timesOf(300))
	wantReader(t, "goes on for ever", r, code, "reader 1 1 0\nno 0\n", impl.OK)
}

func TestPreimageOfSome(t *testing.T) {
	twice, _ := impl.CopyWriter(2, 2)
	back := mustWrite(t, back2)
	for name, c := range map[string]struct {
		w            impl.Writer
		reader, want string
	}{
		"begins with a":       {back, "reader 3 3 0\nno 1 2 2\nyes 1 1 1\nno 2 2 2\n", "reader 2 2 0\nno 1 0\nyes 1 0\n"},
		"even, written twice": {twice, "reader 3 2 0\nyes 1 1 1\nno 0 0 0\n", "reader 2 1 0\nyes 0 0\n"},
		"ba, written twice":   {twice, "reader 3 3 0\nno 0 1 0\nno 2 1 0\nyes 2 2 2\n", "reader 2 4 0\nno 1 2\nno 1 3\nno 3 2\nyes 3 3\n"},
		"c is never written":  {back, "reader 3 2 0\nno 0 0 1\nyes 1 1 1\n", "reader 2 1 0\nno 0 0\n"},
	} {
		r, code := impl.PreimageReader(c.w, mustRead(t, c.reader))
		wantReader(t, name, r, code, c.want, impl.OK)
	}
}

func TestPreimageErrors(t *testing.T) {
	plain := func(letters int64, states int) impl.Writer { return silentWriter(plainTurner(letters, states)) }
	reader := func(letters int64, states int) impl.Reader {
		r := impl.Reader{Letters: letters}
		for range states {
			r.Accept = append(r.Accept, true)
			r.Next = append(r.Next, make([]int64, letters))
		}
		return r
	}
	odd, noReader := writerWith(0, 0, "abca"), reader(3, 301)
	for name, c := range map[string]struct {
		w                    impl.Writer
		r                    impl.Reader
		turnerCode, readCode int64
	}{
		"12 states":                     {plain(1, 12), reader(3, 1), impl.OK, impl.OK},
		"12 states, exchanged":          {plain(2, 1), reader(3, 12), impl.OK, impl.OK},
		"3 and 4 states":                {plain(3, 3), reader(3, 4), impl.OK, impl.OK},
		"13 states":                     {plain(1, 1), reader(3, 13), impl.ErrLimit, impl.OK},
		"14 states":                     {plain(1, 7), reader(3, 2), impl.ErrLimit, impl.OK},
		"3600 states":                   {plain(1, 12), reader(3, 300), impl.ErrLimit, impl.OK},
		"2 letters":                     {plain(2, 1), reader(2, 1), impl.ErrRange, impl.ErrRange},
		"1 letter":                      {plain(1, 1), reader(1, 1), impl.ErrRange, impl.ErrRange},
		"range before limit":            {plain(1, 12), reader(2, 300), impl.ErrRange, impl.ErrRange},
		"range before limit of classes": {silentWriter(shuffler()), reader(1, 1), impl.ErrRange, impl.ErrRange},
		"limit of classes":              {silentWriter(shuffler()), reader(3, 1), impl.OK, impl.ErrLimit},
		"invalid writer":                {odd, reader(3, 1), impl.ErrInvalid, impl.ErrInvalid},
		"invalid reader":                {plain(1, 1), noReader, impl.ErrInvalid, impl.ErrInvalid},
		"invalid before range":          {odd, reader(2, 1), impl.ErrInvalid, impl.ErrInvalid},
		"invalid reader before range":   {plain(1, 1), reader(2, 301), impl.ErrInvalid, impl.ErrInvalid},
		"4 letters":                     {plain(1, 1), reader(4, 1), impl.ErrInvalid, impl.ErrInvalid},
	} {
		u, code := impl.PreimageTurner(c.w, c.r)
		wantCode(t, name, code, c.turnerCode)
		r, other := impl.PreimageReader(c.w, c.r)
		wantCode(t, name, other, c.readCode)
		if isZero(u) != (code != impl.OK) || isZero(r) != (other != impl.OK) {
			t.Errorf("%s: %v, %v", name, u, r)
		}
	}
	for _, odd := range oddWriters() {
		u, one := impl.PreimageTurner(odd, timesOf(1))
		r, two := impl.PreimageReader(odd, timesOf(1))
		if one != impl.ErrInvalid || two != impl.ErrInvalid || !isZero(u) || !isZero(r) {
			t.Errorf("invalid writer: %d, %d", one, two)
		}
	}
	for _, odd := range oddReaders() {
		u, one := impl.PreimageTurner(plain(1, 1), odd)
		r, two := impl.PreimageReader(plain(1, 1), odd)
		if one != impl.ErrInvalid || two != impl.ErrInvalid || !isZero(u) || !isZero(r) {
			t.Errorf("invalid reader: %d, %d", one, two)
		}
	}
}

// TestMirroredPreimages compares the preimages of a writer and of its mirrored one.
func TestMirroredPreimages(t *testing.T) {
	rng := rand.New(rand.NewSource(228))
	for _, w := range randomWriters(229, 60, 3) {
		m, _ := impl.MirrorWriter(w)
		r := randomReader(rng, 3, 3)
		one, first := impl.PreimageReader(w, r)
		other, second := impl.PreimageReader(m, r)
		if first != impl.OK || second != impl.OK {
			continue
		}
		for _, x := range append(wordsTo(w.Turner.Letters, 4), strings.Repeat("ab"[:min(2, w.Turner.Letters)], 30)) {
			if takes(one, x) != takes(other, turned(x)) {
				t.Fatalf("%q: %q", writerText(w), x)
			}
		}
	}
}
