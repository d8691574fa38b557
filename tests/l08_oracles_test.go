package tests

import (
	"fmt"
	"math/rand"
	"regexp"
	"slices"
	"strconv"
	"strings"
	"testing"

	"loop.example/g01134/impl"
)

// What the functions of chapter 8 should return is worked out here from the list of all tokens of a run: what a server knows is an index in it.

func isRow(r impl.Row) bool {
	if !isTurner(r.Turner) || !isWord(r.Turner.Letters, r.Word) || len(r.Cuts) > 3 {
		return false
	}
	for i, cut := range r.Cuts {
		if cut < 1 || cut > int64(len(r.Word))+1 || i > 0 && cut <= r.Cuts[i-1] {
			return false
		}
	}
	return true
}

func ownerOf(r impl.Row, cell int64) int {
	for server, cut := range r.Cuts {
		if cell < cut {
			return server
		}
	}
	return len(r.Cuts)
}

// tokensOf returns what the token of the beginning becomes with 0 steps, 1 step and so on, up to the one with a verdict.
func tokensOf(r impl.Row) []impl.Token {
	var tokens []impl.Token
	run, verdict := runOf(r.Turner, r.Word)
	loop := loopOf(r.Turner, r.Word)
	places := len(r.Turner.Moves) * (len(r.Word) + 2)
	for verdict == impl.VdLoops && len(run) <= places {
		run = append(run, loop...)
	}
	for i, p := range run[:min(len(run), places+1)] {
		tokens = append(tokens, impl.Token{Steps: int64(i), State: p.State, At: p.At})
	}
	last := tokens[len(tokens)-1]
	last.Verdict = verdict
	if verdict == impl.VdLoops {
		tokens = tokens[:len(tokens)-1]
	}
	return append(tokens, last)
}

func tokenAfter(r impl.Row, steps int64) impl.Token {
	tokens := tokensOf(r)
	return tokens[min(steps, int64(len(tokens))-1)]
}

var deedNames = []string{"", "move", "send", "tell", "save", "crash", "deliver", "copy", "drop"}

func isDeed(d impl.Deed) bool {
	if d.Kind < 1 || d.Kind > 8 || d.A < 0 || d.A > 999 || d.B < 0 || d.B > 999 {
		return false
	}
	return d.B == 0 || d.Kind == impl.DdMove || d.Kind == impl.DdTell
}

func deedText(d impl.Deed) string {
	if d.Kind == impl.DdMove || d.Kind == impl.DdTell {
		return fmt.Sprint(deedNames[d.Kind], " ", d.A, " ", d.B)
	}
	return fmt.Sprint(deedNames[d.Kind], " ", d.A)
}

var deedForm = regexp.MustCompile(`^(?:(?:move|tell) (?:0|[1-9][0-9]{0,2}) |(?:send|save|crash|deliver|copy|drop) )(?:0|[1-9][0-9]{0,2})$`)

// deedIn returns the deed with a text, if there is one.
func deedIn(text string) (impl.Deed, bool) {
	if !deedForm.MatchString(text) {
		return impl.Deed{}, false
	}
	words := append(strings.Fields(text), "0")
	d := impl.Deed{Kind: int64(slices.Index(deedNames, words[0]))}
	d.A, _ = strconv.ParseInt(words[1], 10, 64)
	d.B, _ = strconv.ParseInt(words[2], 10, 64)
	return d, true
}

// mustDo returns the deeds with texts, which are separated by semicolons.
func mustDo(t *testing.T, texts string) []impl.Deed {
	t.Helper()
	var deeds []impl.Deed
	for _, text := range strings.Split(texts, "; ") {
		d, ok := deedIn(text)
		if text != "" && !ok {
			t.Fatalf("no deed: %q", text)
		}
		if ok {
			deeds = append(deeds, d)
		}
	}
	return deeds
}

func deedTexts(deeds []impl.Deed) string {
	var texts []string
	for _, d := range deeds {
		texts = append(texts, deedText(d))
	}
	return strings.Join(texts, "; ")
}

// band is a row at work: tokens has all tokens of the run, and the rest tells of their indices.
type band struct {
	row        impl.Row
	tokens     []impl.Token
	now, saved []int
	wire       []bag
}

type bag struct{ from, to, token int }

func bandOf(r impl.Row) *band {
	servers := len(r.Cuts) + 1
	return &band{row: r, tokens: tokensOf(r), now: make([]int, servers), saved: make([]int, servers)}
}

func (b *band) token(server int) impl.Token { return b.tokens[b.now[server]] }

func (b *band) isOver(server int) bool { return b.now[server] == len(b.tokens)-1 }

// owner returns the server that has the cell of the token of a server.
func (b *band) owner(server int) int { return ownerOf(b.row, b.token(server).At) }

// do does a deed, and returns its error.
func (b *band) do(d impl.Deed) int64 {
	a := int(d.A)
	there := len(b.now)
	if d.Kind >= impl.DdDeliver {
		there = len(b.wire)
	}
	if a >= there {
		return impl.ErrRange
	}
	switch d.Kind {
	case impl.DdMove:
		return b.move(a, int(d.B))
	case impl.DdSend:
		if b.owner(a) == a || b.now[a] != b.saved[a] {
			return impl.ErrState
		}
		return b.post(a, b.owner(a))
	case impl.DdTell:
		if int(d.B) >= len(b.now) || d.A == d.B {
			return impl.ErrRange
		}
		if !b.isOver(a) || b.now[a] != b.saved[a] {
			return impl.ErrState
		}
		return b.post(a, int(d.B))
	case impl.DdSave:
		b.saved[a] = b.now[a]
	case impl.DdCrash:
		b.now[a] = b.saved[a]
	}
	if d.Kind == impl.DdDeliver || d.Kind == impl.DdCopy {
		to := b.wire[a].to
		b.now[to] = max(b.now[to], b.wire[a].token)
	}
	if d.Kind == impl.DdDeliver || d.Kind == impl.DdDrop {
		b.wire = append(b.wire[:a:a], b.wire[a+1:]...)
	}
	return impl.OK
}

func (b *band) move(a, most int) int64 {
	if most == 0 {
		return impl.ErrRange
	}
	if b.isOver(a) || b.owner(a) != a {
		return impl.ErrState
	}
	for range most {
		if !b.isOver(a) && b.owner(a) == a {
			b.now[a]++
		}
	}
	return impl.OK
}

func (b *band) post(from, to int) int64 {
	if len(b.wire) >= 12 {
		return impl.ErrLimit
	}
	b.wire = append(b.wire, bag{from, to, b.now[from]})
	return impl.OK
}

// doAll does deeds, and returns their errors.
func (b *band) doAll(deeds []impl.Deed) []int64 {
	var codes []int64
	for _, d := range deeds {
		codes = append(codes, b.do(d))
	}
	return codes
}

func (b *band) robots() impl.Robots {
	var all impl.Robots
	for server := range b.now {
		all.Desks = append(all.Desks, impl.Desk{Token: b.token(server), Saved: b.tokens[b.saved[server]]})
	}
	for _, p := range b.wire {
		all.Wire = append(all.Wire, impl.Parcel{From: int64(p.from), To: int64(p.to), Token: b.tokens[p.token]})
	}
	return all
}

func (b *band) verdicts() []int64 {
	var list []int64
	for server := range b.now {
		list = append(list, b.token(server).Verdict)
	}
	return list
}

// finish returns the texts of the deeds that finish; it does them.
func (b *band) finish() string {
	var texts []string
	add := func(format string, numbers ...any) {
		for _, text := range strings.Split(fmt.Sprintf(format, numbers...), "; ") {
			d, _ := deedIn(text)
			b.do(d)
			texts = append(texts, text)
		}
	}
	for len(b.wire) > 0 {
		add("drop 0")
	}
	s := slices.Index(b.now, slices.Max(b.now))
	for !b.isOver(s) {
		if owner := b.owner(s); owner != s {
			add("save %d; send %d; deliver 0", s, s)
			s = owner
		} else {
			add("move %d 999", s)
		}
	}
	add("save %d", s)
	for other := range b.now {
		if !b.isOver(other) {
			add("tell %d %d; deliver 0; save %d", s, other, other)
		}
	}
	return strings.Join(texts, "; ")
}

// answers returns the answers to lines.
func (b *band) answers(lines []string) string {
	text := ""
	for _, line := range lines {
		answer := "what"
		if d, ok := deedIn(line); ok {
			answer = "ok"
			if code := b.do(d); code != impl.OK {
				answer = "error " + map[int64]string{impl.ErrRange: "range", impl.ErrLimit: "limit", impl.ErrState: "state"}[code]
			}
		}
		for server := range b.now {
			if line == fmt.Sprint("token ", server) {
				x := b.token(server)
				answer = fmt.Sprint(x.Steps, x.State, x.At, x.Verdict)
			}
		}
		if line == "verdicts" {
			answer = strings.Trim(fmt.Sprint(b.verdicts()), "[]")
		}
		text += answer + "\n"
	}
	return text
}

// usefulDeed returns a deed by which the run or its verdict comes further.
func (b *band) usefulDeed(rng *rand.Rand) impl.Deed {
	s := slices.Index(b.now, slices.Max(b.now))
	a := int64(s)
	switch {
	case len(b.wire) > 0 && rng.Intn(2) == 0:
		return impl.Deed{Kind: impl.DdDeliver, A: rng.Int63n(int64(len(b.wire)))}
	case !b.isOver(s) && b.owner(s) == s:
		return impl.Deed{Kind: impl.DdMove, A: a, B: 1 + rng.Int63n(20)}
	case b.now[s] != b.saved[s]:
		return impl.Deed{Kind: impl.DdSave, A: a}
	case !b.isOver(s):
		return impl.Deed{Kind: impl.DdSend, A: a}
	}
	return impl.Deed{Kind: impl.DdTell, A: a, B: rng.Int63n(int64(len(b.now)))}
}

// randomDeed returns a deed that can often be done.
func (b *band) randomDeed(rng *rand.Rand) impl.Deed {
	if rng.Intn(2) == 0 {
		return b.usefulDeed(rng)
	}
	const kinds = "11112222334444567788666"
	number := func(there int) int64 {
		if rng.Intn(15) == 0 {
			return []int64{int64(there), 999}[rng.Intn(2)]
		}
		return rng.Int63n(max(int64(there), 1))
	}
	d := impl.Deed{Kind: int64(kinds[rng.Intn(len(kinds))] - '0')}
	d.A = number(len(b.now))
	switch d.Kind {
	case impl.DdMove:
		d.B = []int64{0, 1, 1, 2, 3, 5, 20, 999}[rng.Intn(8)]
	case impl.DdTell:
		d.B = number(len(b.now))
	case impl.DdDeliver, impl.DdCopy, impl.DdDrop:
		d.A = number(len(b.wire))
	}
	return d
}

// randomDeeds does random deeds, and returns them.
func (b *band) randomDeeds(rng *rand.Rand, count int) []impl.Deed {
	var deeds []impl.Deed
	for range count {
		d := b.randomDeed(rng)
		b.do(d)
		deeds = append(deeds, d)
	}
	return deeds
}

func randomCuts(rng *rand.Rand, w string) []int64 {
	var cuts []int64
	for _, i := range rng.Perm(len(w) + 1)[:min(rng.Intn(4), len(w)+1)] {
		cuts = append(cuts, int64(i)+1)
	}
	slices.Sort(cuts)
	return cuts
}

// randomRows returns rows with turners of all sizes up to some states.
func randomRows(seed int64, count, states int) []impl.Row {
	rng := rand.New(rand.NewSource(seed))
	var list []impl.Row
	for i, u := range randomTurners(seed, count, states) {
		w := longWords(rng, u.Letters, 1)[0]
		if i%2 == 0 {
			w = w[:min(len(w), rng.Intn(6))]
		}
		list = append(list, impl.Row{Turner: u, Word: w, Cuts: randomCuts(rng, w)})
	}
	return list
}

// rowOver returns a row with the turner that has a text.
func rowOver(t *testing.T, text, w string, cuts ...int64) impl.Row {
	t.Helper()
	r := impl.Row{Turner: mustTurn(t, text), Word: w, Cuts: cuts}
	if !isRow(r) {
		t.Fatalf("no row: %q, %q, %v", text, w, cuts)
	}
	return r
}

// Turners for rows: one that goes on for ever between the cells 0 and 1, and two that stop at once.
const (
	shuttle  = "turner 1 2 0\nstate 1< 1> 1<\nstate 0< 0> 0<\n"
	atOnce   = "turner 1 1 0\nstate yes yes yes\n"
	notAtAll = "turner 1 1 0\nstate no no no\n"
)
