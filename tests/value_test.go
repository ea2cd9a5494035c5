package tests

import (
	"math/rand"
	"slices"
	"strings"
	"testing"

	"loop.example/g01084/impl"
)

func TestExampleOfChapter11(t *testing.T) {
	prog, ok := impl.ParseValue("least own min")
	if want := []impl.ValueOp{{Kind: impl.VpLeast}, {Kind: impl.VpOwn}, {Kind: impl.VpMin}}; !ok || !slices.Equal(prog, want) {
		t.Fatal("program", prog, ok)
	}
	path := sure(t)(impl.PathNetwork(4))
	start := []int{5, 3, 8, 1}
	values, ok := impl.StepValues(prog, path, 1, start)
	wantList(t, values, ok, []int{3, 3, 1, 1}, "after one round")
	values, ok = impl.ValuesAfter(prog, path, start, 3)
	wantList(t, values, ok, []int{1, 1, 1, 1}, "after three rounds")
	k, ok := impl.RestRound(prog, path, start, 3)
	wantNumber(t, k, ok, 3, "rest")
	named := withIds(path, 4, 2, 9, 1)
	second := programOf(t, "id least less free own if")
	// The identifier 4 is less than 7, 2 is less than both 5 and 6, 9 is not less than 3, and 1 is less than 6.
	values, ok = impl.StepValues(second, named, 1, []int{5, 7, 6, 3})
	wantList(t, values, ok, []int{0, 0, 6, 0}, "new values by identifiers")
	values, ok = impl.StepValues(second, named, 2000, []int{0, 4, 0, 1})
	wantList(t, values, ok, []int{0, 4, 0, 1}, "values that are less")
}

func TestLimitsOfChapter11AreThoseOfTheDocument(t *testing.T) {
	if impl.MaxValue != 1000000 || impl.MaxProgram != 40 {
		t.Error(impl.MaxValue, impl.MaxProgram)
	}
}

func TestKindsOfChapter11AreThoseOfTheDocument(t *testing.T) {
	kinds := []int{impl.VpOwn, impl.VpId, impl.VpDegree, impl.VpInput, impl.VpRound, impl.VpLeast, impl.VpGreatest, impl.VpSum, impl.VpFree, impl.VpCount, impl.VpBelow, impl.VpAdd, impl.VpSub, impl.VpMin, impl.VpMax, impl.VpLess, impl.VpEqual, impl.VpIf}
	if impl.VpConst != 1 || !slices.Equal(kinds, rising(20)[2:]) {
		t.Error(impl.VpConst, kinds)
	}
}

// TestResultsOfKnownPrograms has a node with the value 20, the identifier 30, the input 4 and so on.
func TestResultsOfKnownPrograms(t *testing.T) {
	known := sight{own: 20, id: 30, input: 4, round: 17, near: []int{9, -6, 9, 2}}
	alone := sight{own: -5, round: 1}
	for _, c := range []struct {
		words       string
		want, other int
	}{
		{"0", 0, 0},
		{"1000000", 1000000, 1000000},
		{"own", 20, -5},
		{"id", 30, 0},
		{"degree", 4, 0},
		{"input", 4, 0},
		{"round", 17, 1},
		{"least", -6, -5},
		{"greatest", 9, -5},
		{"sum", 14, 0},
		{"free", 0, 0},
		{"9 count", 2, 0},
		{"2 count", 1, 0},
		{"own count", 0, 0},
		{"9 below", 2, 0},
		{"10 below", 4, 0},
		{"0 6 sub below", 0, 0},
		{"0 6 sub count", 1, 0},
		{"own 5 add", 25, 0},
		{"own 5 sub", 15, -10},
		{"5 own sub", -15, 10},
		{"own 7 min", 7, -5},
		{"7 own min", 7, -5},
		{"own 7 max", 20, 7},
		{"7 own max", 20, 7},
		{"own 20 less", 0, 1},
		{"20 own less", 0, 0},
		{"19 own less", 1, 0},
		{"own 19 less", 0, 1},
		{"own 20 equal", 1, 0},
		{"own 5 0 sub equal", 0, 0},
		{"own 0 5 sub equal", 0, 1},
		{"own 7 8 if", 7, 8},
		{"0 7 8 if", 8, 8},
		{"1 7 8 if", 7, 7},
		{"0 1 sub 7 8 if", 8, 8},
		{"1 0 8 if", 0, 0},
		{"100 10 1 sub sub", 91, 91},
		{"100 10 sub 1 sub", 89, 89},
		{"1 0 2 3 if 4 if", 3, 3},
		{"degree count input below round sub add", -15, -1},
	} {
		prog := programOf(t, c.words)
		got, ok := known.eval(prog)
		wantNumber(t, got, ok, c.want, c.words, known)
		got, ok = alone.eval(prog)
		wantNumber(t, got, ok, c.other, c.words, alone)
	}
}

// TestResultsBeyondTheLimits counts each result that is too great or too little as the limit, before it is used again.
func TestResultsBeyondTheLimits(t *testing.T) {
	top, bottom := slices.Repeat([]int{maxValue}, 6), slices.Repeat([]int{-maxValue}, 6)
	for _, c := range []struct {
		words string
		s     sight
		want  int
	}{
		{"own", sight{own: maxValue}, maxValue},
		{"own", sight{own: -maxValue}, -maxValue},
		{"999999 1 add", sight{}, 1000000},
		{"1000000 1 add", sight{}, 1000000},
		{"1000000 1000000 add", sight{}, 1000000},
		{"1000000 1 add 1 sub", sight{}, 999999},
		{"own 1 sub", sight{own: 1 - maxValue}, -1000000},
		{"own 1 sub", sight{own: -maxValue}, -1000000},
		{"own 1000000 sub", sight{own: -maxValue}, -1000000},
		{"own 1 sub 1 add", sight{own: -maxValue}, -999999},
		{"1000000 own sub", sight{own: -maxValue}, 1000000},
		{"own own add", sight{own: -maxValue}, -1000000},
		{"sum", sight{near: top}, 1000000},
		{"sum", sight{near: bottom}, -1000000},
		{"sum 1 sub", sight{near: top}, 999999},
		{"sum 1 add", sight{near: bottom}, -999999},
		{"sum", sight{near: []int{maxValue, maxValue, -maxValue, -maxValue, 7}}, 7},
		{"sum", sight{near: []int{999999, 1}}, 1000000},
		{"sum", sight{near: []int{999999, 2}}, 1000000},
		{"sum", sight{near: []int{999999, 2, -2}}, 999999},
		{"sum", sight{near: []int{-999999, -2}}, -1000000},
		{"least", sight{near: top}, 1000000},
		{"greatest", sight{near: bottom}, -1000000},
		{"own below", sight{own: -maxValue, near: bottom}, 0},
		{"own count", sight{own: -maxValue, near: bottom}, 6},
		{"own below", sight{own: 1 - maxValue, near: bottom}, 6},
		{"own below", sight{own: maxValue, near: top}, 0},
		{"own count", sight{own: maxValue, near: top}, 6},
		{"own below", sight{own: maxValue, near: []int{999999, maxValue}}, 1},
		{"id", sight{id: 999999}, 999999},
		{"id id add", sight{id: 999999}, 1000000},
		{"own 0 less", sight{own: -maxValue}, 1},
		{"own 1000000 equal", sight{own: maxValue}, 1},
		{"own 1 add own equal", sight{own: maxValue}, 1},
	} {
		c.s.round = 1
		got, ok := c.s.eval(programOf(t, c.words))
		wantNumber(t, got, ok, c.want, c.words, c.s)
	}
}

func TestLeastFreeIntegers(t *testing.T) {
	prog := programOf(t, "free")
	for _, c := range []struct {
		near []int
		want int
	}{
		{nil, 0},
		{[]int{0}, 1},
		{[]int{1}, 0},
		{[]int{-1}, 0},
		{[]int{-1, 0}, 1},
		{[]int{0, 2, 1}, 3},
		{[]int{2, 1, 0, 0, 1, 2}, 3},
		{[]int{5, 4, 3, 2, 1, 0}, 6},
		{[]int{6, 4, 3, 2, 1, 0}, 5},
		{[]int{6, 5, 4, 3, 2, 1}, 0},
		{[]int{0, 0, 0, 0, 0, 0}, 1},
		{[]int{0, 2, 2, 3}, 1},
		{[]int{-maxValue, maxValue, 0}, 1},
		{[]int{maxValue, maxValue}, 0},
		{[]int{-1, -2, -3}, 0},
		{[]int{-1, 1, 0, -2, 3, 2}, 4},
	} {
		for _, own := range []int{0, 1, 2, -maxValue, maxValue} {
			got, ok := sight{own: own, round: 1, near: c.near}.eval(prog)
			wantNumber(t, got, ok, c.want, "free beside", c.near)
		}
	}
}

// wantProgram compares a list of operations with its term: whether it is a program, and its results.
func wantProgram(t *testing.T, prog []impl.ValueOp, sights ...sight) bool {
	t.Helper()
	whole, want := termOf(prog)
	if is := impl.IsValueProgram(prog); is != want {
		t.Fatalf("program %v: %v, want %v", prog, is, want)
	}
	for _, s := range sights {
		got, ok := s.eval(prog)
		if !want {
			refused(t, "result of no program", got, ok)
			continue
		}
		wantNumber(t, got, ok, whole.value(s), wordsByHand(prog), s)
	}
	return want
}

// TestAllShortPrograms tries all lists of at most three operations, also of kinds that there are not.
func TestAllShortPrograms(t *testing.T) {
	r := rand.New(rand.NewSource(111))
	sights := []sight{{round: 1}, {own: -3, id: 8, input: 5, round: 2000, near: []int{4, 0, -7, 4}}, someSight(r)}
	ops := []impl.ValueOp{{Kind: 1, Value: 3}, {Kind: 1, Value: maxValue}, {Kind: 5, Value: 1}}
	for kind := -1; kind <= 20; kind++ {
		ops = append(ops, impl.ValueOp{Kind: kind})
	}
	valid := 0
	for length := range 4 {
		allLists(length, rising(len(ops)), func(l []int) {
			prog := []impl.ValueOp{}
			for _, k := range l {
				prog = append(prog, ops[k])
			}
			if wantProgram(t, prog, sights...) {
				valid++
			}
		})
	}
	// One of 12 operations without needs; one of 2 behind it; two of these, or two first ones and one of 6 behind them.
	if want := 12 + 12*2 + 12*2*2 + 12*12*6; valid != want {
		t.Errorf("%d programs, want %d", valid, want)
	}
}

// TestLongPrograms has programs of all lengths and compares their results, also on changed programs, many of which are not valid.
func TestLongPrograms(t *testing.T) {
	r := rand.New(rand.NewSource(112))
	valid := 0
	for k := range 6000 {
		length := 1 + k%41
		prog := randomProgram(r, length)
		if is := wantProgram(t, prog, someSight(r), someSight(r)); is != (length <= 40) {
			t.Fatalf("%d operations: %v", length, is)
		}
		at := r.Intn(length)
		switch r.Intn(4) {
		case 0:
			prog = slices.Delete(prog, at, at+1)
		case 1:
			prog = slices.Insert(prog, at, randomOperation(r))
		case 2:
			prog[at] = randomOperation(r)
		case 3:
			prog[at], prog[0] = prog[0], prog[at]
		}
		if wantProgram(t, prog, someSight(r)) {
			valid++
		}
	}
	if valid < 1000 || valid > 5000 {
		t.Errorf("%d of the changed programs are valid", valid)
	}
}

func TestNumbersOfOperations(t *testing.T) {
	sum := func(ones int) []impl.ValueOp {
		return programOf(t, strings.Join(append(slices.Repeat([]string{"1"}, ones), slices.Repeat([]string{"add"}, ones-1)...), " "))
	}
	s := sight{round: 1, near: []int{1, 1, 0}}
	for ones := 1; ones <= 20; ones++ {
		got, ok := s.eval(sum(ones))
		wantNumber(t, got, ok, ones, "ones")
	}
	forty := append(sum(20), impl.ValueOp{Kind: impl.VpCount})
	got, ok := s.eval(forty)
	wantNumber(t, got, ok, 0, "forty operations")
	deep := programOf(t, "own"+strings.Repeat(" 7 7", 13)+strings.Repeat(" if", 13))
	got, ok = s.eval(deep)
	wantNumber(t, got, ok, 7, "forty operations and 27 values at once")
	for _, prog := range [][]impl.ValueOp{nil, {}, append(forty, impl.ValueOp{Kind: impl.VpCount}), make([]impl.ValueOp, 40), slices.Repeat(forty[:1], 40), slices.Repeat(forty[:1], 2)} {
		if wantProgram(t, prog, s) {
			t.Error("a program of", len(prog), "operations")
		}
	}
}

// TestNeedsOfPrograms looks for kinds in all places.
func TestNeedsOfPrograms(t *testing.T) {
	r := rand.New(rand.NewSource(113))
	for k := range 2000 {
		prog := randomProgram(r, 1+k%40)
		words := wordsByHand(prog)
		ids, ok := impl.NeedsIds(prog)
		wantTruth(t, ids, ok, slices.Contains(words, "id"), "identifiers", words)
		rounds, ok := impl.NeedsRound(prog)
		wantTruth(t, rounds, ok, slices.Contains(words, "round"), "rounds", words)
		// What is not needed does not matter.
		s, other := someSight(r), someSight(r)
		changed := s
		if !ids {
			changed.id = other.id
		}
		if !rounds {
			changed.round = other.round
		}
		before, _ := s.eval(prog)
		after, ok := changed.eval(prog)
		wantNumber(t, after, ok, before, words, s, changed)
	}
	for _, c := range []struct {
		words       string
		ids, rounds bool
	}{{"id", true, false}, {"round", false, true}, {"3", false, false}, {"4", false, false}, {"6", false, false}, {"id round add", true, true}, {"own id round if", true, true}} {
		ids, ok := impl.NeedsIds(programOf(t, c.words))
		wantTruth(t, ids, ok, c.ids, c.words)
		rounds, ok := impl.NeedsRound(programOf(t, c.words))
		wantTruth(t, rounds, ok, c.rounds, c.words)
	}
}
