package tests

import (
	"fmt"
	"math/rand"
	"slices"
	"strconv"
	"strings"
	"testing"

	"loop.example/g01084/impl"
)

const maxValue = 1000000

// The words of the kinds, each at the place that its number says; constants have none.
var valueWords = strings.Split("- - own id degree input round least greatest sum free count below add sub min max less equal if", " ")

// valueNeeds returns how many values a word needs, and -1 for a word that is none.
func valueNeeds(word string) int {
	switch word {
	case "count", "below":
		return 1
	case "add", "sub", "min", "max", "less", "equal":
		return 2
	case "if":
		return 3
	}
	x, err := strconv.Atoi(word)
	if slices.Contains(valueWords[2:], word) || err == nil && x >= 0 && x <= maxValue && fmt.Sprint(x) == word {
		return 0
	}
	return -1
}

// wordByHand returns the word of an operation, and an empty one if it has none.
func wordByHand(op impl.ValueOp) string {
	if op.Kind == 1 && op.Value >= 0 && op.Value <= maxValue {
		return fmt.Sprint(op.Value)
	}
	if op.Kind < 2 || op.Kind > 19 || op.Value != 0 {
		return ""
	}
	return valueWords[op.Kind]
}

func wordsByHand(prog []impl.ValueOp) []string {
	words := []string{}
	for _, op := range prog {
		words = append(words, wordByHand(op))
	}
	return words
}

// A term is a word with the terms that make the values which it needs.
type term struct {
	word  string
	parts []term
}

// lastTerm takes the term at the end of the words, and returns the words before it. The parts of a term are taken from the last one on.
func lastTerm(words []string) (term, []string, bool) {
	if len(words) == 0 {
		return term{}, nil, false
	}
	last := len(words) - 1
	whole, rest := term{word: words[last]}, words[:last]
	needs := valueNeeds(whole.word)
	for range needs {
		part, before, ok := lastTerm(rest)
		if !ok {
			return term{}, nil, false
		}
		whole.parts, rest = append([]term{part}, whole.parts...), before
	}
	return whole, rest, needs >= 0
}

// termOf reads a program as one term. It fails if the program is not valid.
func termOf(prog []impl.ValueOp) (term, bool) {
	if len(prog) > 40 {
		return term{}, false
	}
	whole, rest, ok := lastTerm(wordsByHand(prog))
	return whole, ok && len(rest) == 0
}

func isProgramByHand(prog []impl.ValueOp) bool {
	_, ok := termOf(prog)
	return ok
}

// A sight is what a node sees in a round.
type sight struct {
	own, id, input, round int
	near                  []int
}

func (s sight) eval(prog []impl.ValueOp) (int, bool) {
	return impl.EvalValue(prog, s.own, s.id, s.input, s.round, s.near)
}

// middle returns x, or the limit behind which it is.
func middle(x int) int {
	list := []int{-maxValue, x, maxValue}
	slices.Sort(list)
	return list[1]
}

// value returns the value of a term, part by part.
func (w term) value(s sight) int {
	x := []int{}
	for _, part := range w.parts {
		x = append(x, part.value(s))
	}
	if len(x) > 0 {
		return middle(ofParts(w.word, x, s))
	}
	return middle(ofSight(w.word, s))
}

func ofSight(word string, s sight) int {
	sorted := slices.Sorted(slices.Values(s.near))
	ends := append(sorted, s.own)
	if len(sorted) > 0 {
		ends = sorted
	}
	switch word {
	case "own":
		return s.own
	case "id":
		return s.id
	case "degree":
		return len(sorted)
	case "input":
		return s.input
	case "round":
		return s.round
	case "least":
		return ends[0]
	case "greatest":
		return ends[len(ends)-1]
	case "sum":
		sum := 0
		for _, x := range sorted {
			sum += x
		}
		return sum
	case "free":
		free := 0
		for _, x := range sorted {
			if x == free {
				free++
			}
		}
		return free
	}
	x, _ := strconv.Atoi(word)
	return x
}

func ofParts(word string, x []int, s sight) int {
	sorted := slices.Sorted(slices.Values(s.near))
	truth := map[bool]int{true: 1}
	switch word {
	case "count", "below":
		first, _ := slices.BinarySearch(sorted, x[0])
		behind, _ := slices.BinarySearch(sorted, x[0]+1)
		if word == "below" {
			return first
		}
		return behind - first
	case "add":
		return x[0] + x[1]
	case "sub":
		return x[0] - x[1]
	case "min":
		return slices.Min(x)
	case "max":
		return slices.Max(x)
	case "less":
		return truth[x[0] < x[1]]
	case "equal":
		return truth[x[0] == x[1]]
	}
	return map[bool]int{true: x[1], false: x[2]}[x[0] >= 1]
}

// sightsByHand returns what the nodes see; the ports tell by their names of which nodes they are.
func sightsByHand(n impl.Network, round int, values []int) []sight {
	named, sights := modelOf(n), []sight{}
	for v, names := range named.ports {
		near := []int{}
		for _, x := range names {
			near = append(near, values[named.mate[x]/100])
		}
		sights = append(sights, sight{values[v], identifierOf(n, v), n.Inputs[v], round, near})
	}
	return sights
}

func roundByHand(t *testing.T, prog []impl.ValueOp, n impl.Network, round int, values []int) []int {
	t.Helper()
	whole, ok := termOf(prog)
	if !ok {
		t.Fatal("no program: ", prog)
	}
	next := []int{}
	for _, s := range sightsByHand(n, round, values) {
		next = append(next, whole.value(s))
	}
	return next
}

func valuesByHand(t *testing.T, prog []impl.ValueOp, n impl.Network, start []int, rounds int) [][]int {
	t.Helper()
	run := [][]int{start}
	for k := range rounds {
		run = append(run, roundByHand(t, prog, n, k+1, run[k]))
	}
	return run
}

// programOf returns the program with these words.
func programOf(t *testing.T, words string) []impl.ValueOp {
	t.Helper()
	prog := []impl.ValueOp{}
	for _, word := range strings.Split(words, " ") {
		op := impl.ValueOp{Kind: slices.Index(valueWords, word)}
		if x, err := strconv.Atoi(word); err == nil {
			op = impl.ValueOp{Kind: 1, Value: x}
		}
		prog = append(prog, op)
	}
	if !isProgramByHand(prog) || strings.Join(wordsByHand(prog), " ") != words {
		t.Fatal("no program: ", words)
	}
	return prog
}

func randomOperation(r *rand.Rand) impl.ValueOp {
	op := impl.ValueOp{Kind: 1 + r.Intn(19)}
	if op.Kind == 1 {
		op.Value = []int{0, 1, 2, 3, 7, 10, 41, 999, 999999, maxValue, r.Intn(maxValue)}[r.Intn(11)]
	}
	return op
}

// randomProgram returns a valid program: an operation is left out if it needs too much, or leaves more values than the rest of the program can take.
func randomProgram(r *rand.Rand, length int) []impl.ValueOp {
	prog := []impl.ValueOp{}
	height := 0
	for len(prog) < length {
		op := randomOperation(r)
		needs := valueNeeds(wordByHand(op))
		after, left := height+1-needs, length-1-len(prog)
		if needs <= height && after-1 <= 2*left {
			prog, height = append(prog, op), after
		}
	}
	return prog
}

// someValue returns a small value, mostly, or one near a limit.
func someValue(r *rand.Rand) int {
	list := []int{0, 0, 1, 1, 2, 3, 4, -1, -2, 5 - r.Intn(20), -maxValue, 1 - maxValue, maxValue - 1, maxValue, r.Intn(2*maxValue+1) - maxValue}
	return list[r.Intn(len(list))]
}

func someValues(r *rand.Rand, count int) []int {
	values := []int{}
	for range count {
		values = append(values, someValue(r))
	}
	return values
}

func someSight(r *rand.Rand) sight {
	return sight{someValue(r), []int{0, 1, 999999, r.Intn(1000000)}[r.Intn(4)], r.Intn(10), []int{1, 2, 2000, 1 + r.Intn(2000)}[r.Intn(4)], someValues(r, r.Intn(7))}
}

// valueNetworks returns networks of all forms, less than there are in chapter 8.
func valueNetworks(t *testing.T) []impl.Network {
	list := []impl.Network{bare(1), bare(40), withIds(bare(40), idsUpTo(40)...), full(1), full(40), pair(), withIds(pair(), 999999, 1)}
	for k, n := range metricNetworks(t) {
		if k%5 == 0 {
			list = append(list, n)
		}
	}
	return list
}
