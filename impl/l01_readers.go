package impl

import (
	"iter"
	"math/bits"
	"slices"
	"strconv"
	"strings"
)

// Codes of errors.
const (
	OK          = 0
	ErrInvalid  = 1
	ErrRange    = 2
	ErrLimit    = 3
	ErrState    = 4
	ErrSyntax   = 5
	ErrNotFound = 6
	ErrBudget   = 7
	ErrProof    = 8
)

// Limits of words and readers.
const (
	MaxLetters = 3
	MaxWord    = 60
	MaxReader  = 300
	MaxMany    = 10
	MaxText    = 20000
)

// maxCounted is the greatest length of words that are counted.
const maxCounted = 30

// Reader reads words from left to right.
type Reader struct {
	Letters int64
	Start   int64
	Accept  []bool
	Next    [][]int64
}

// Many is an automaton with many ways.
type Many struct {
	Letters int64
	Starts  []int64
	Accept  []bool
	Next    [][][]int64
}

// CodeName returns the name of an error code.
func CodeName(code int64) string {
	switch code {
	case OK:
		return "ok"
	case ErrInvalid:
		return "invalid"
	case ErrRange:
		return "range"
	case ErrLimit:
		return "limit"
	case ErrState:
		return "state"
	case ErrSyntax:
		return "syntax"
	case ErrNotFound:
		return "notfound"
	case ErrBudget:
		return "budget"
	case ErrProof:
		return "proof"
	}
	return ""
}

// ValidWord reports whether a text is a word.
func ValidWord(letters int64, w string) bool {
	if !validLetters(letters) || len(w) > MaxWord {
		return false
	}
	for i := range len(w) {
		if w[i] < 'a' || letterNumber(w[i]) >= letters {
			return false
		}
	}
	return true
}

func validLetters(letters int64) bool {
	return letters >= 1 && letters <= MaxLetters
}

func letterNumber(letter byte) int64 {
	return int64(letter - 'a')
}

// ValidReader reports whether a reader is valid.
func ValidReader(r Reader) bool {
	states := int64(len(r.Accept))
	if !validLetters(r.Letters) || states > MaxReader || !isState(r.Start, states) || int64(len(r.Next)) != states {
		return false
	}
	for _, row := range r.Next {
		if int64(len(row)) != r.Letters {
			return false
		}
		for _, to := range row {
			if !isState(to, states) {
				return false
			}
		}
	}
	return true
}

func isState(s, states int64) bool {
	return s >= 0 && s < states
}

// SameReader reports whether two readers are deeply equal.
func SameReader(r, s Reader) bool {
	return r.Letters == s.Letters && r.Start == s.Start &&
		slices.Equal(r.Accept, s.Accept) && sameRows(r.Next, s.Next)
}

func sameRows(a, b [][]int64) bool {
	return slices.EqualFunc(a, b, slices.Equal[[]int64])
}

// ReaderText returns the text of a reader.
func ReaderText(r Reader) string {
	if !ValidReader(r) {
		return ""
	}
	var b strings.Builder
	writeLine(&b, "reader", r.Letters, int64(len(r.Accept)), r.Start)
	for state, row := range r.Next {
		name := "no"
		if r.Accept[state] {
			name = "yes"
		}
		writeLine(&b, name, row...)
	}
	return b.String()
}

func writeLine(b *strings.Builder, name string, numbers ...int64) {
	b.WriteString(name)
	for _, n := range numbers {
		b.WriteByte(' ')
		b.WriteString(strconv.FormatInt(n, 10))
	}
	b.WriteByte('\n')
}

// ReadReader returns the reader with the given text.
func ReadReader(text string) (Reader, int64) {
	if len(text) > MaxText {
		return Reader{}, ErrRange
	}
	r, ok := looseReader(text)
	// A reader has just one text, so all that looseReader lets pass shows as a difference.
	if !ok || ReaderText(r) != text {
		return Reader{}, ErrSyntax
	}
	return r, OK
}

// looseReader returns what would be the reader of a text, without asking whether it is valid and whether the text is the right one.
func looseReader(text string) (Reader, bool) {
	lines := strings.Split(strings.TrimSuffix(text, "\n"), "\n")
	_, head, ok := nameAndNumbers(lines[0])
	if !ok || len(head) != 3 {
		return Reader{}, false
	}
	r := Reader{Letters: head[0], Start: head[2]}
	for _, line := range lines[1:] {
		name, row, ok := nameAndNumbers(line)
		if !ok {
			return Reader{}, false
		}
		r.Accept = append(r.Accept, name == "yes")
		r.Next = append(r.Next, row)
	}
	return r, true
}

func nameAndNumbers(line string) (string, []int64, bool) {
	words := strings.Split(line, " ")
	var numbers []int64
	for _, word := range words[1:] {
		n, err := strconv.ParseInt(word, 10, 64)
		if err != nil {
			return "", nil, false
		}
		numbers = append(numbers, n)
	}
	return words[0], numbers, true
}

// StateAfter returns the state to which a word leads.
func StateAfter(r Reader, w string) (int64, int64) {
	if !ValidReader(r) || !ValidWord(r.Letters, w) {
		return 0, ErrInvalid
	}
	return r.after(r.Start, w), OK
}

// after returns the state to which a word leads from a state.
func (r Reader) after(state int64, w string) int64 {
	for i := range len(w) {
		state = r.Next[state][letterNumber(w[i])]
	}
	return state
}

// Takes reports whether a reader takes a word.
func Takes(r Reader, w string) (bool, int64) {
	state, code := StateAfter(r, w)
	if code != OK {
		return false, code
	}
	return r.Accept[state], OK
}

// OppositeReader returns the reader that takes all other words.
func OppositeReader(r Reader) (Reader, int64) {
	if !ValidReader(r) {
		return Reader{}, ErrInvalid
	}
	o := Reader{Letters: r.Letters, Start: r.Start}
	for state, row := range r.Next {
		o.Accept = append(o.Accept, !r.Accept[state])
		o.Next = append(o.Next, slices.Clone(row))
	}
	return o, OK
}

// BothReaders returns the reader that takes what both take.
func BothReaders(r, s Reader) (Reader, int64) {
	if code := pairCode(r, s); code != OK {
		return Reader{}, code
	}
	both := pairMachine(r, s, func(p pair) bool { return r.Accept[p.left] && s.Accept[p.right] })
	return both.reader()
}

// TidyReader returns the least reader.
func TidyReader(r Reader) (Reader, int64) {
	if !ValidReader(r) {
		return Reader{}, ErrInvalid
	}
	classes := classesOf(r)
	tidy := stateMachine(r)
	tidy.start = classes[r.Start]
	tidy.step = func(state, letter int64) int64 { return classes[r.Next[state][letter]] }
	return tidy.reader()
}

// FirstTaken returns the first word that a reader takes.
func FirstTaken(r Reader) (string, int64) {
	if !ValidReader(r) {
		return "", ErrInvalid
	}
	return stateMachine(r).firstTaken()
}

// FirstUnlike returns the first word that only one of two readers takes.
func FirstUnlike(r, s Reader) (string, int64) {
	if code := pairCode(r, s); code != OK {
		return "", code
	}
	unlike := pairMachine(r, s, func(p pair) bool { return r.Accept[p.left] != s.Accept[p.right] })
	return unlike.firstTaken()
}

// CountTaken counts the words of a length that a reader takes.
func CountTaken(r Reader, length int64) (int64, int64) {
	if !ValidReader(r) {
		return 0, ErrInvalid
	}
	if length < 0 || length > maxCounted {
		return 0, ErrRange
	}
	words := make([]int64, len(r.Accept))
	words[r.Start] = 1
	for range length {
		words = oneLetterOn(r, words)
	}
	taken := int64(0)
	for state, count := range words {
		if r.Accept[state] {
			taken += count
		}
	}
	return taken, OK
}

// oneLetterOn returns how many words lead to each state, if so many did with one letter less.
func oneLetterOn(r Reader, words []int64) []int64 {
	longer := make([]int64, len(words))
	for state, row := range r.Next {
		for _, to := range row {
			longer[to] += words[state]
		}
	}
	return longer
}

// pairCode returns the error of two readers that are to be read side by side.
func pairCode(r, s Reader) int64 {
	if !ValidReader(r) || !ValidReader(s) {
		return ErrInvalid
	}
	if r.Letters != s.Letters {
		return ErrRange
	}
	return OK
}

// machine is a reader whose states are of any kind, and are not listed before they are met.
type machine[K comparable] struct {
	letters int64
	start   K
	step    func(from K, letter int64) K
	accepts func(state K) bool
}

func stateMachine(r Reader) machine[int64] {
	return machine[int64]{
		letters: r.Letters,
		start:   r.Start,
		step:    func(state, letter int64) int64 { return r.Next[state][letter] },
		accepts: func(state int64) bool { return r.Accept[state] },
	}
}

type pair struct {
	left  int64
	right int64
}

func pairMachine(r, s Reader, accepts func(pair) bool) machine[pair] {
	return machine[pair]{
		letters: r.Letters,
		start:   pair{r.Start, s.Start},
		step: func(p pair, letter int64) pair {
			return pair{r.Next[p.left][letter], s.Next[p.right][letter]}
		},
		accepts: accepts,
	}
}

// spelling is a word of any length, told by its last letter and the spelling before it, as many words share their beginnings.
type spelling struct {
	before *spelling
	letter byte
	length int
}

func (s *spelling) then(letter int64) *spelling {
	return &spelling{before: s, letter: 'a' + byte(letter), length: s.length + 1}
}

// text returns the spelling as a text, which may be too long for a word.
func (s *spelling) text() string {
	letters := make([]byte, s.length)
	for ; s.length > 0; s = s.before {
		letters[s.length-1] = s.letter
	}
	return string(letters)
}

// word returns the word, or ErrLimit if it is too long for one.
func (s *spelling) word() (string, int64) {
	if s.length > MaxWord {
		return "", ErrLimit
	}
	return s.text(), OK
}

// firstWords yields, in the order of words, the first word that leads to each state that can be reached, and this state.
func (m machine[K]) firstWords() iter.Seq2[*spelling, K] {
	return func(yield func(*spelling, K) bool) {
		states := []K{m.start}
		words := []*spelling{{}}
		met := map[K]bool{m.start: true}
		for i := 0; i < len(states); i++ {
			if !yield(words[i], states[i]) {
				return
			}
			for letter := range m.letters {
				to := m.step(states[i], letter)
				if !met[to] {
					met[to] = true
					states = append(states, to)
					words = append(words, words[i].then(letter))
				}
			}
		}
	}
}

// firstTaken returns the first word that leads to an accepting state.
func (m machine[K]) firstTaken() (string, int64) {
	for word, state := range m.firstWords() {
		if m.accepts(state) {
			return word.word()
		}
	}
	return "", ErrNotFound
}

// reader returns the machine as a reader, its states being numbered in the order of their first words.
func (m machine[K]) reader() (Reader, int64) {
	var states []K
	numbers := map[K]int64{}
	for _, state := range m.firstWords() {
		if len(states) == MaxReader {
			return Reader{}, ErrLimit
		}
		numbers[state] = int64(len(states))
		states = append(states, state)
	}
	r := Reader{Letters: m.letters}
	for _, state := range states {
		row := make([]int64, m.letters)
		for letter := range m.letters {
			row[letter] = numbers[m.step(state, letter)]
		}
		r.Accept = append(r.Accept, m.accepts(state))
		r.Next = append(r.Next, row)
	}
	return r, OK
}

// outlook tells of a state its class and those to which the letters lead.
type outlook [1 + MaxLetters]int64

// classesOf returns for each state the least one from which the same words are taken.
func classesOf(r Reader) []int64 {
	classes := make([]int64, len(r.Accept))
	for state, accept := range r.Accept {
		if accept {
			classes[state] = 1
		}
	}
	count := 0
	for {
		finer, found := finerClasses(r, classes)
		if found == count {
			return finer
		}
		classes, count = finer, found
	}
}

// finerClasses splits classes by where the letters lead, and returns how many there are; each is named by its least state.
func finerClasses(r Reader, classes []int64) ([]int64, int) {
	finer := make([]int64, len(classes))
	leasts := map[outlook]int64{}
	for state, row := range r.Next {
		look := outlook{classes[state]}
		for letter, to := range row {
			look[1+letter] = classes[to]
		}
		if _, ok := leasts[look]; !ok {
			leasts[look] = int64(state)
		}
		finer[state] = leasts[look]
	}
	return finer, len(leasts)
}

// ValidMany reports whether an automaton with many ways is valid.
func ValidMany(m Many) bool {
	states := int64(len(m.Accept))
	if !validLetters(m.Letters) || states < 1 || states > MaxMany || int64(len(m.Next)) != states || !isStateList(m.Starts, states) {
		return false
	}
	for _, lists := range m.Next {
		if int64(len(lists)) != m.Letters {
			return false
		}
		for _, list := range lists {
			if !isStateList(list, states) {
				return false
			}
		}
	}
	return true
}

// isStateList reports whether a list of states is strictly increasing.
func isStateList(list []int64, states int64) bool {
	for i, s := range list {
		if !isState(s, states) || i > 0 && s <= list[i-1] {
			return false
		}
	}
	return true
}

// SameMany reports whether two automata with many ways are deeply equal.
func SameMany(m, n Many) bool {
	return m.Letters == n.Letters && slices.Equal(m.Starts, n.Starts) &&
		slices.Equal(m.Accept, n.Accept) && slices.EqualFunc(m.Next, n.Next, sameRows)
}

// stateSet is a set of states of an automaton with many ways, a bit for each of them.
type stateSet uint16

func setOf(states []int64) stateSet {
	var s stateSet
	for _, state := range states {
		s |= 1 << state
	}
	return s
}

// acceptingSet returns the set of the accepting states.
func acceptingSet(accept []bool) stateSet {
	var s stateSet
	for state, yes := range accept {
		if yes {
			s |= 1 << state
		}
	}
	return s
}

// states returns the states in ascending order.
func (s stateSet) states() []int64 {
	var list []int64
	for ; s != 0; s &= s - 1 {
		list = append(list, int64(bits.TrailingZeros16(uint16(s))))
	}
	return list
}

func (s stateSet) has(state int64) bool {
	return s>>state&1 == 1
}

func (s stateSet) meets(t stateSet) bool {
	return s&t != 0
}

// after returns the states to which a letter leads from those of s.
func (s stateSet) after(m Many, letter int64) stateSet {
	var next stateSet
	for _, state := range s.states() {
		next |= setOf(m.Next[state][letter])
	}
	return next
}

// ManyAfter returns the states to which a word can lead.
func ManyAfter(m Many, w string) ([]int64, int64) {
	s, code := setAfter(m, w)
	if code != OK {
		return nil, code
	}
	return s.states(), OK
}

// ManyTakes reports whether an automaton with many ways takes a word.
func ManyTakes(m Many, w string) (bool, int64) {
	s, code := setAfter(m, w)
	if code != OK {
		return false, code
	}
	return s.meets(acceptingSet(m.Accept)), OK
}

// setAfter returns the set of the states to which a word can lead.
func setAfter(m Many, w string) (stateSet, int64) {
	if !ValidMany(m) || !ValidWord(m.Letters, w) {
		return 0, ErrInvalid
	}
	s := setOf(m.Starts)
	for i := range len(w) {
		s = s.after(m, letterNumber(w[i]))
	}
	return s, OK
}

// TurnedReader returns the automaton of the turned words.
func TurnedReader(r Reader) (Many, int64) {
	m, code := ManyOf(r)
	if code != OK {
		return Many{}, code
	}
	return TurnMany(m)
}

// TurnMany returns the automaton of the turned words.
func TurnMany(m Many) (Many, int64) {
	if !ValidMany(m) {
		return Many{}, ErrInvalid
	}
	starts := setOf(m.Starts)
	turned := Many{Letters: m.Letters, Starts: acceptingSet(m.Accept).states()}
	for state := range int64(len(m.Accept)) {
		turned.Accept = append(turned.Accept, starts.has(state))
		turned.Next = append(turned.Next, make([][]int64, m.Letters))
	}
	for from, lists := range m.Next {
		for letter, list := range lists {
			for _, to := range list {
				turned.Next[to][letter] = append(turned.Next[to][letter], int64(from))
			}
		}
	}
	return turned, OK
}

// ReaderOf returns the reader of sets of states.
func ReaderOf(m Many) (Reader, int64) {
	if !ValidMany(m) {
		return Reader{}, ErrInvalid
	}
	accepting := acceptingSet(m.Accept)
	sets := machine[stateSet]{
		letters: m.Letters,
		start:   setOf(m.Starts),
		step:    func(s stateSet, letter int64) stateSet { return s.after(m, letter) },
		accepts: func(s stateSet) bool { return s.meets(accepting) },
	}
	return sets.reader()
}

// ManyOf returns a reader as an automaton with many ways.
func ManyOf(r Reader) (Many, int64) {
	if !ValidReader(r) {
		return Many{}, ErrInvalid
	}
	if len(r.Accept) > MaxMany {
		return Many{}, ErrLimit
	}
	m := Many{Letters: r.Letters, Starts: []int64{r.Start}, Accept: slices.Clone(r.Accept)}
	for _, row := range r.Next {
		lists := make([][]int64, len(row))
		for letter, to := range row {
			lists[letter] = []int64{to}
		}
		m.Next = append(m.Next, lists)
	}
	return m, OK
}
