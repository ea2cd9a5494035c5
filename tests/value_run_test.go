package tests

import (
	"fmt"
	"math/rand"
	"slices"
	"testing"

	"loop.example/g01084/impl"
)

// wantRun compares a run, its steps and its ends with the one by hand.
func wantRun(t *testing.T, prog []impl.ValueOp, n impl.Network, start []int, rounds int) [][]int {
	t.Helper()
	want := valuesByHand(t, prog, n, start, rounds)
	run, ok := impl.RunValues(prog, n, start, rounds)
	if !ok || !same(run, want) {
		t.Fatalf("%v from %v on %v: run %v %v, want %v", wordsByHand(prog), start, n, run, ok, want)
	}
	for k, values := range want {
		if k > 0 {
			next, ok := impl.StepValues(prog, n, k, want[k-1])
			wantList(t, next, ok, values, "round", k, wordsByHand(prog), n)
		}
		after, ok := impl.ValuesAfter(prog, n, start, k)
		wantList(t, after, ok, values, "values after", k, wordsByHand(prog), n)
	}
	return want
}

// wantRest compares the round of rest with the first one of a run by hand that the next one repeats.
func wantRest(t *testing.T, prog []impl.ValueOp, n impl.Network, run [][]int) bool {
	t.Helper()
	rest := -1
	for k := len(run) - 2; k >= 0; k-- {
		if slices.Equal(run[k], run[k+1]) {
			rest = k
		}
	}
	for most := range len(run) - 1 {
		k, ok := impl.RestRound(prog, n, run[0], most)
		if rest >= 0 && rest <= most {
			wantNumber(t, k, ok, rest, "rest", most, wordsByHand(prog), n)
		} else {
			refused(t, fmt.Sprint("no rest up to ", most), k, ok)
		}
	}
	return rest >= 0
}

func TestRunsOfPrograms(t *testing.T) {
	r := rand.New(rand.NewSource(114))
	rests, others := 0, 0
	for k, n := range valueNetworks(t) {
		for range 3 {
			prog := randomProgram(r, 1+r.Intn(12))
			start := someValues(r, len(n.Ends))
			run := wantRun(t, prog, n, start, 1+k%7)
			if wantRest(t, prog, n, run) {
				rests++
			} else {
				others++
			}
		}
	}
	if rests < 50 || others < 50 {
		t.Error("runs that rest and others:", rests, others)
	}
}

// TestStepsInAnyRound compares one round with a number of its own.
func TestStepsInAnyRound(t *testing.T) {
	r := rand.New(rand.NewSource(115))
	for _, n := range valueNetworks(t) {
		for _, round := range []int{1, 2, 40, 41, 2000, 1 + r.Intn(2000)} {
			prog, start := randomProgram(r, 1+r.Intn(20)), someValues(r, len(n.Ends))
			next, ok := impl.StepValues(prog, n, round, start)
			wantList(t, next, ok, roundByHand(t, prog, n, round, start), "round", round, wordsByHand(prog), n)
		}
	}
}

// TestNeighboursOfNodes has nodes without ports, with stubs and loops, and with several edges to one node.
func TestNeighboursOfNodes(t *testing.T) {
	twice := joined([]int{3, 2}, [4]int{0, 0, 1, 1}, [4]int{0, 1, 1, 0}, [4]int{0, 2, 0, 2})
	loop := joined([]int{3, 1}, [4]int{0, 0, 0, 2}, [4]int{0, 1, 1, 0})
	for _, c := range []struct {
		words string
		n     impl.Network
		start []int
		want  []int
	}{
		{"sum", bare(2), []int{7, 8}, []int{0, 0}},
		{"least", bare(2), []int{7, 8}, []int{7, 8}},
		{"greatest", bare(2), []int{-7, 8}, []int{-7, 8}},
		{"free", bare(2), []int{0, 1}, []int{0, 0}},
		{"own count", bare(2), []int{0, 1}, []int{0, 0}},
		{"own 1 add below", bare(2), []int{0, 1}, []int{0, 0}},
		{"degree", bare(2), []int{0, 1}, []int{0, 0}},
		{"sum", full(1), []int{5}, []int{30}},
		{"degree", full(1), []int{5}, []int{6}},
		{"own count", full(1), []int{5}, []int{6}},
		{"free", full(1), []int{0}, []int{1}},
		{"least", full(1), []int{-4}, []int{-4}},
		{"sum", pair(), []int{10, 3}, []int{3, 13}},
		{"degree", pair(), []int{10, 3}, []int{1, 2}},
		{"least", pair(), []int{10, 3}, []int{3, 3}},
		{"greatest", pair(), []int{1, 3}, []int{3, 3}},
		{"sum", twice, []int{10, 3}, []int{16, 20}},
		{"3 count", twice, []int{10, 3}, []int{2, 0}},
		{"10 count", twice, []int{10, 3}, []int{1, 2}},
		{"11 below", twice, []int{10, 3}, []int{3, 2}},
		{"free", twice, []int{0, 1}, []int{2, 1}},
		{"sum", loop, []int{10, 3}, []int{23, 10}},
		{"own count", loop, []int{10, 3}, []int{2, 0}},
		{"degree", loop, []int{10, 3}, []int{3, 1}},
		{"id", pair(), []int{10, 3}, []int{0, 0}},
		{"id", withIds(pair(), 999999, 1), []int{10, 3}, []int{999999, 1}},
		{"input", withInputs(pair(), 9, 0), []int{10, 3}, []int{9, 0}},
		{"round", pair(), []int{10, 3}, []int{1, 1}},
	} {
		next, ok := impl.StepValues(programOf(t, c.words), c.n, 1, c.start)
		wantList(t, next, ok, c.want, c.words, c.n, c.start)
		wantRun(t, programOf(t, c.words), c.n, c.start, 4)
	}
}

// TestNumbersOfRounds has runs of no round, and of as many as there may be.
func TestNumbersOfRounds(t *testing.T) {
	path := sure(t)(impl.PathNetwork(3))
	prog := programOf(t, "own round add")
	start := []int{-5, 0, 7}
	run, ok := impl.RunValues(prog, path, start, 0)
	if !ok || !same(run, [][]int{start}) {
		t.Error("a run of no round:", run, ok)
	}
	for _, rounds := range []int{0, 1, 2, 39, 40} {
		wantRun(t, prog, path, start, rounds)
	}
	for _, rounds := range []int{41, 100, 1999, 2000} {
		run, ok = impl.RunValues(prog, path, start, rounds)
		refused(t, fmt.Sprint("a run of rounds ", rounds), run, ok)
		// In all rounds together 1, 2, ... are added.
		sum := min(rounds*(rounds+1)/2, 1000007)
		want := []int{min(sum-5, maxValue), min(sum, maxValue), min(sum+7, maxValue)}
		after, ok := impl.ValuesAfter(prog, path, start, rounds)
		wantList(t, after, ok, want, "after rounds", rounds)
	}
	for _, c := range []struct{ rounds, want int }{{0, 9}, {1, 0}, {40, 0}, {41, 1}, {1999, 1959}, {2000, 1960}} {
		after, ok := impl.ValuesAfter(programOf(t, "round 40 sub 0 max"), bare(1), []int{9}, c.rounds)
		wantList(t, after, ok, []int{c.want}, "after rounds", c.rounds)
	}
	run, ok = impl.RunValues(prog, path, start, 41)
	refused(t, "a run of 41 rounds", run, ok)
}

// TestRestsOfKnownRuns asks up to the round of rest, one round less, and more.
func TestRestsOfKnownRuns(t *testing.T) {
	path, cycle := sure(t)(impl.PathNetwork(40)), sure(t)(impl.CycleNetwork(40))
	ends := append(slices.Repeat([]int{9}, 39), 1)
	for _, c := range []struct {
		words string
		n     impl.Network
		start []int
		want  int
	}{
		{"own", path, rising(40), 0},
		{"5", pair(), []int{5, 5}, 0},
		{"5", pair(), []int{5, 6}, 1},
		{"least own min", path, slices.Repeat([]int{3}, 40), 0},
		{"least own min", path, ends, 39},
		{"least own min", cycle, ends, 20},
		{"least own min", bare(40), rising(40), 0},
		{"greatest own max", path, ends, 1},
		{"own 1 add 7 min", bare(1), []int{-3}, 10},
		{"own 1 add", bare(2), []int{maxValue - 5, maxValue - 3}, 5},
		{"own 1 sub", bare(1), []int{5 - maxValue}, 5},
		{"round 3 less", bare(1), []int{0}, 1},
		{"round 3 less", bare(1), []int{1}, 0},
		{"round 3 sub 0 max", bare(1), []int{0}, 0},
		{"round 3 sub 0 max", bare(1), []int{-1}, 1},
		{"round 50 min", bare(1), []int{0}, 50},
		{"round 1999 min", bare(1), []int{0}, 1999},
		{"round 2000 min", bare(1), []int{0}, 2000},
		{"own 1 add", bare(1), []int{maxValue - 2000}, 2000},
		{"own 1 add", pair(), []int{maxValue - 1999, maxValue}, 1999},
	} {
		prog := programOf(t, c.words)
		for _, most := range []int{0, c.want - 1, c.want, c.want + 1, 40, 41, 2000} {
			k, ok := impl.RestRound(prog, c.n, c.start, most)
			if most < c.want || most > 2000 {
				refused(t, fmt.Sprint(c.words, " up to ", most), k, ok)
			} else {
				wantNumber(t, k, ok, c.want, c.words, c.start, most)
			}
		}
	}
}

func TestRunsThatNeverRest(t *testing.T) {
	for _, c := range []struct {
		words string
		n     impl.Network
		start []int
	}{
		{"1 own sub", bare(1), []int{0}},
		{"1 own sub", bare(40), append(make([]int, 39), 1)},
		{"least", sure(t)(impl.PathNetwork(2)), []int{0, 1}},
		{"own 1 add", bare(1), []int{maxValue - 2001}},
		{"own 1 add", bare(1), []int{-maxValue}},
		{"round", pair(), []int{0, 0}},
		{"round 2001 min", pair(), []int{0, 0}},
	} {
		prog := programOf(t, c.words)
		for _, most := range []int{0, 1, 2, 40, 900, 1999, 2000} {
			k, ok := impl.RestRound(prog, c.n, c.start, most)
			refused(t, fmt.Sprint(c.words, " up to ", most), k, ok)
		}
	}
}

// valueInBall returns the value of v after some rounds in its ball of a radius, with the values of the network at the start.
func valueInBall(t *testing.T, prog []impl.ValueOp, n impl.Network, start []int, v, radius, rounds int) int {
	t.Helper()
	ball, nodes, ok := impl.KeepBall(n, v, radius)
	if !ok || !slices.Contains(nodes, v) {
		t.Fatalf("no ball around %d in %v", v, n)
	}
	kept := []int{}
	for _, w := range nodes {
		kept = append(kept, start[w])
	}
	values, ok := impl.ValuesAfter(prog, ball, kept, rounds)
	if !ok {
		t.Fatalf("no values of %v on %v", wordsByHand(prog), ball)
	}
	return values[slices.Index(nodes, v)]
}

// TestValuesDependOnBallsAlone compares a node in its ball with the same node in the network, also for other values outside of the ball. A smaller ball is not always enough.
func TestValuesDependOnBallsAlone(t *testing.T) {
	r := rand.New(rand.NewSource(116))
	others := 0
	for k, n := range valueNetworks(t) {
		prog, start := randomProgram(r, 1+r.Intn(15)), someValues(r, len(n.Ends))
		if k%2 == 0 {
			prog = append(prog, programOf(t, "sum round add 100 min greatest max")...)
			prog = append(prog, impl.ValueOp{Kind: impl.VpAdd})
		}
		v := r.Intn(len(n.Ends))
		row := distanceTable(n)[v]
		for _, rounds := range []int{0, 1, 2, 3, 5, 9, 40} {
			values, ok := impl.ValuesAfter(prog, n, start, rounds)
			wantNumber(t, valueInBall(t, prog, n, start, v, rounds, rounds), ok, values[v], wordsByHand(prog), "node", v, "of", n, "after", rounds)
			if rounds > 0 && valueInBall(t, prog, n, start, v, rounds-1, rounds) != values[v] {
				others++
			}
			changed := someValues(r, len(n.Ends))
			for _, w := range nearByHand(row, rounds) {
				changed[w] = start[w]
			}
			after, ok := impl.ValuesAfter(prog, n, changed, rounds)
			wantNumber(t, after[v], ok, values[v], wordsByHand(prog), "node", v, "of", n, "after", rounds, "with other values outside of its ball")
		}
	}
	if others < 20 {
		t.Error("values that need the whole ball:", others)
	}
}

// TestBalls compares balls of all radii with the nodes that are near, and the nodes that are kept by hand.
func TestBalls(t *testing.T) {
	for k, n := range valueNetworks(t) {
		table := distanceTable(n)
		for v := k % 3; v < len(n.Ends); v += 1 + k%5 {
			for _, radius := range []int{0, 1, 2, 4, 39, 40} {
				want := nearByHand(table[v], radius)
				ball, nodes, ok := impl.KeepBall(n, v, radius)
				wantList(t, nodes, ok, want, "ball", v, radius, n)
				wantNetwork(t, fmt.Sprint("ball of ", v, " in ", n), ball, ok, keptByHand(n, want), true)
			}
		}
	}
}

func TestKnownBalls(t *testing.T) {
	path := withIds(sure(t)(impl.PathNetwork(4)), 30, 7, 900, 8)
	two := withIds(sure(t)(impl.PathNetwork(2)), 30, 7)
	ball, nodes, ok := impl.KeepBall(path, 0, 1)
	wantNetwork(t, "two nodes of a path", ball, ok, two, true)
	wantList(t, nodes, ok, []int{0, 1}, "two nodes of a path")
	ball, nodes, ok = impl.KeepBall(path, 3, 0)
	wantNetwork(t, "one node of a path", ball, ok, withIds(zeroInputs(bare(1)), 8), true)
	wantList(t, nodes, ok, []int{3}, "one node of a path")
	for _, radius := range []int{3, 4, 40} {
		ball, nodes, ok = impl.KeepBall(path, 0, radius)
		wantNetwork(t, "a path", ball, ok, path, true)
		wantList(t, nodes, ok, []int{0, 1, 2, 3}, "a path")
	}
	// Stubs and loops are no ways to other nodes, and stay.
	ball, nodes, ok = impl.KeepBall(pair(), 1, 0)
	wantNetwork(t, "a stub", ball, ok, withInputs(joined([]int{1}, [4]int{0, 0, 0, 0}), 2), true)
	wantList(t, nodes, ok, []int{1}, "a stub")
	loop := joined([]int{3, 1}, [4]int{0, 0, 0, 2}, [4]int{0, 1, 1, 0})
	ball, _, ok = impl.KeepBall(loop, 0, 0)
	wantNetwork(t, "a loop", ball, ok, joined([]int{2}, [4]int{0, 0, 0, 1}), true)
	// Nodes without a way to them are never in a ball.
	ball, nodes, ok = impl.KeepBall(bare(40), 17, 40)
	wantNetwork(t, "a node alone", ball, ok, withInputs(bare(1), 8), true)
	wantList(t, nodes, ok, []int{17}, "a node alone")
	parts := sure(t)(impl.UnionOf(pair(), sure(t)(impl.CycleNetwork(5))))
	_, nodes, ok = impl.KeepBall(parts, 3, 40)
	wantList(t, nodes, ok, []int{2, 3, 4, 5, 6}, "a component")
}

// TestValuesOnCoverings pulls values back: without identifiers they stay those of the images.
func TestValuesOnCoverings(t *testing.T) {
	r := rand.New(rand.NewSource(117))
	for _, c := range coverMaps(t) {
		c.a.Ids, c.b.Ids = nil, nil
		prog, start := randomProgram(r, 1+r.Intn(12)), someValues(r, len(c.b.Ends))
		rounds := r.Intn(6)
		pull := func(values []int) []int {
			pulled := []int{}
			for _, w := range c.m {
				pulled = append(pulled, values[w])
			}
			return pulled
		}
		want, ok := impl.ValuesAfter(prog, c.b, start, rounds)
		got, fine := impl.ValuesAfter(prog, c.a, pull(start), rounds)
		if !ok {
			t.Fatal("no values on", c.b)
		}
		wantList(t, got, fine, pull(want), wordsByHand(prog), c.a, "over", c.b)
	}
}

func TestRanksOfIdentifiers(t *testing.T) {
	for _, c := range []struct{ ids, want []int }{
		{[]int{1}, []int{1}},
		{[]int{999999}, []int{1}},
		{[]int{30, 7, 900, 8}, []int{3, 1, 4, 2}},
		{[]int{999999, 1}, []int{2, 1}},
		{[]int{4, 3, 2, 1}, []int{4, 3, 2, 1}},
		{[]int{999997, 999998, 999999}, []int{1, 2, 3}},
		{idsUpTo(40), idsUpTo(40)},
	} {
		n := bare(len(c.ids))
		got, ok := impl.RankIds(withIds(n, c.ids...))
		wantNetwork(t, fmt.Sprint("ranks of ", c.ids), got, ok, withIds(n, c.want...), true)
	}
	for _, n := range valueNetworks(t) {
		got, ok := impl.RankIds(n)
		want := n
		want.Ids = nil
		for _, id := range n.Ids {
			lesser := slices.DeleteFunc(slices.Clone(n.Ids), func(other int) bool { return other > id })
			want.Ids = append(want.Ids, len(lesser))
		}
		wantNetwork(t, fmt.Sprint("ranks in ", n), got, ok, want, len(n.Ids) > 0)
		again, ok := impl.RankIds(got)
		wantNetwork(t, fmt.Sprint("ranks of ranks in ", n), again, ok, want, len(n.Ids) > 0)
		if !ok {
			continue
		}
		// The order of values decides about the least one, so that ranks are as good as identifiers.
		prog := programOf(t, "least own min")
		byIds, _ := impl.ValuesAfter(prog, n, n.Ids, 3)
		byRanks, ok := impl.ValuesAfter(prog, got, got.Ids, 3)
		ranks := []int{}
		for _, id := range byIds {
			ranks = append(ranks, got.Ids[slices.Index(n.Ids, id)])
		}
		wantList(t, byRanks, ok, ranks, "least ranks in", n)
	}
}
