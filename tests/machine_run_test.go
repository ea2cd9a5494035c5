package tests

import (
	"fmt"
	"math/rand"
	"slices"
	"testing"

	"loop.example/g01084/impl"
)

func TestRuns(t *testing.T) {
	for k, j := range jobs(t) {
		rounds := []int{0, 1, 2, 5, 9}[k%5]
		if k%20 == 0 {
			rounds = 40
		}
		run, ok := impl.RunMachine(j.m, j.n, rounds)
		if want := runByHand(j.m, j.n, rounds); !ok || !same(run, want) {
			t.Fatalf("run of %v on %v: %v %v, want %v", j.m, j.n, run, ok, want)
		}
	}
}

// TestRunsAreMadeOfSteps compares runs with the start, with steps, with shorter runs and with the states after their rounds.
func TestRunsAreMadeOfSteps(t *testing.T) {
	for k, j := range jobs(t) {
		rounds := k % 12
		run, ok := impl.RunMachine(j.m, j.n, rounds)
		if !ok || len(run) != rounds+1 {
			t.Fatal(j, rounds, run, ok)
		}
		states, ok := impl.StartStates(j.m, j.n)
		for i, list := range run {
			wantList(t, list, ok, states, "list", i, "of the run of", j.m, "on", j.n)
			after, fine := impl.StatesAfter(j.m, j.n, i)
			wantList(t, after, fine, list, i, "rounds of", j.m, "on", j.n)
			states, ok = impl.StepMachine(j.m, j.n, list)
		}
		if k, v, ok := impl.FirstFaultOfRun(j.m, j.n, run); ok {
			t.Fatal("a fault of a run", j, k, v)
		}
		shorter, ok := impl.RunMachine(j.m, j.n, rounds/2)
		if !ok || !same(shorter, run[:rounds/2+1]) {
			t.Fatal("a shorter run", j, shorter, ok)
		}
	}
}

func TestNumbersOfRoundsAtTheLimits(t *testing.T) {
	m := shifting(t)
	n := marked(sure(t)(impl.CycleNetwork(7)), 6)
	for _, rounds := range []int{0, 1, 39, 40} {
		run, ok := impl.RunMachine(m, n, rounds)
		if !ok || len(run) != rounds+1 || !same(run, runByHand(m, n, rounds)) {
			t.Error(rounds, "rounds", run, ok)
		}
	}
	for _, rounds := range append(outside(0, 40), 80, 2000) {
		run, ok := impl.RunMachine(m, n, rounds)
		refused(t, fmt.Sprint(rounds, " rounds in lists"), run, ok)
	}
	for _, rounds := range []int{0, 1, 40, 41, 1000, 1999, 2000} {
		want := make([]int, 7)
		want[(6+rounds)%7] = 1
		states, ok := impl.StatesAfter(m, n, rounds)
		wantList(t, states, ok, want, rounds, "rounds")
	}
	for _, x := range outside(0, 2000) {
		states, ok := impl.StatesAfter(m, n, x)
		refused(t, fmt.Sprint(x, " rounds"), states, ok)
		round, ok := impl.HaltingRound(greatest(), full(1), x)
		refused(t, fmt.Sprint("halting before ", x), round, ok)
		outputs, ok := impl.OutputsOf(greatest(), full(1), x)
		refused(t, fmt.Sprint("outputs before ", x), outputs, ok)
		r, q, ok := impl.PeriodOf(m, n, x)
		refused(t, fmt.Sprint("period before ", x), r, q, ok)
	}
}

// wantHalt fails the test unless the machine halts after so many rounds with these outputs, and not before.
func wantHalt(t *testing.T, m impl.Machine, n impl.Network, round int, outputs []int) {
	t.Helper()
	for _, most := range []int{round, round + 1, 2000} {
		got, ok := impl.HaltingRound(m, n, most)
		wantNumber(t, got, ok, round, "halting of", m, "on", n)
		list, ok := impl.OutputsOf(m, n, most)
		wantList(t, list, ok, outputs, "outputs of", m, "on", n)
	}
	if round > 0 {
		wantNoHalt(t, m, n, round-1)
	}
}

func wantNoHalt(t *testing.T, m impl.Machine, n impl.Network, most int) {
	t.Helper()
	round, ok := impl.HaltingRound(m, n, most)
	refused(t, fmt.Sprint("halting of ", m, " on ", n), round, ok)
	outputs, ok := impl.OutputsOf(m, n, most)
	refused(t, fmt.Sprint("outputs of ", m, " on ", n), outputs, ok)
}

// TestHalting looks for the first list of a run in which all states have outputs.
func TestHalting(t *testing.T) {
	rounds := map[int]int{}
	for k, j := range jobs(t) {
		most := 20
		if k%10 > 0 && len(j.n.Ends) > 5 {
			most = 6
		}
		halts := func(states []int) bool {
			return !slices.ContainsFunc(states, func(state int) bool { return j.m.Output[state] < 0 })
		}
		run := runByHand(j.m, j.n, most)
		round := slices.IndexFunc(run, halts)
		rounds[round]++
		if round < 0 {
			wantNoHalt(t, j.m, j.n, most)
			continue
		}
		outputs := []int{}
		for _, state := range run[round] {
			outputs = append(outputs, j.m.Output[state])
		}
		wantHalt(t, j.m, j.n, round, outputs)
		wantPeriod(t, j.m, j.n, round+1, round, 1)
	}
	if rounds[0] < 50 || rounds[-1] < 50 || len(rounds) < 5 {
		t.Error("numbers of runs that halt after some rounds:", rounds)
	}
}

// TestHaltingOfKnownMachines has runs whose length is known.
func TestHaltingOfKnownMachines(t *testing.T) {
	lap := lapping(t)
	for nodes := 2; nodes <= 40; nodes++ {
		n := marked(sure(t)(impl.CycleNetwork(nodes)), nodes/3)
		wantHalt(t, lap, n, 4*nodes+nodes/2, slices.Repeat([]int{7}, nodes))
	}
	wantNoHalt(t, lap, marked(sure(t)(impl.CycleNetwork(1)), 0), 2000)
	wantNoHalt(t, lap, zeroInputs(sure(t)(impl.CycleNetwork(9))), 2000)
	wantNoHalt(t, spreading(t), sure(t)(impl.PathNetwork(9)), 2000)
	spread := spreading(t)
	spread.Output = []int{-1, 6}
	for nodes := 2; nodes <= 40; nodes++ {
		wantHalt(t, spread, sure(t)(impl.PathNetwork(nodes)), (nodes-1)/2, slices.Repeat([]int{6}, nodes))
	}
	// The node in the middle has no output, or only the nodes at the ends have none.
	spread.Output = []int{6, -1}
	wantNoHalt(t, spread, sure(t)(impl.PathNetwork(5)), 2000)
	spread.Output = []int{3, 6}
	wantHalt(t, spread, sure(t)(impl.PathNetwork(5)), 0, []int{6, 3, 3, 3, 6})
	count := counting(t)
	wantHalt(t, count, zeroInputs(bare(7)), 4, slices.Repeat([]int{9}, 7))
	wantNoHalt(t, count, sure(t)(impl.UnionOf(zeroInputs(bare(7)), sure(t)(impl.PathNetwork(2)))), 2000)
	wantNoHalt(t, smallest(), zeroInputs(bare(1)), 2000)
	m := smallest()
	m.Output[0] = 0
	wantHalt(t, m, zeroInputs(bare(40)), 0, make([]int, 40))
}

// TestStatesWithOutputsSend lets a node that has an output from the start tell its neighbours.
func TestStatesWithOutputsSend(t *testing.T) {
	m := machineOf(t, "machine 2 3 2 2", "start 0 1", "start 0 1", "start 0 1", "send 0 0", "send 1 1", "send 0 0",
		"when 0 1 * then 2", "when 0 * 1 then 2", "when 0 1 then 2", "when 1 * * then 0", "when 1 * then 0", "give 1 8", "give 2 0")
	wantHalt(t, m, marked(sure(t)(impl.PathNetwork(3)), 1), 1, []int{0, 8, 0})
	wantNoHalt(t, m, marked(sure(t)(impl.PathNetwork(4)), 1), 2000)
	wantHalt(t, m, marked(sure(t)(impl.PathNetwork(3)), 0, 1, 2), 0, []int{8, 8, 8})
	wantHalt(t, m, marked(sure(t)(impl.BouquetNetwork(2, 0)), 0), 0, []int{8})
	wantNoHalt(t, m, zeroInputs(sure(t)(impl.BouquetNetwork(0, 1))), 2000)
}

// wantPeriod fails the test unless the states are repeated for the first time after r+q rounds, those after r.
func wantPeriod(t *testing.T, m impl.Machine, n impl.Network, most, r, q int) {
	t.Helper()
	gotR, gotQ, ok := impl.PeriodOf(m, n, most)
	if gotR != r || gotQ != q || !ok {
		t.Fatalf("period of %v on %v up to %d: %d and %d %v, want %d and %d", m, n, most, gotR, gotQ, ok, r, q)
	}
}

func wantNoPeriod(t *testing.T, m impl.Machine, n impl.Network, most int) {
	t.Helper()
	r, q, ok := impl.PeriodOf(m, n, most)
	refused(t, fmt.Sprint("period of ", m, " on ", n, " up to ", most), r, q, ok)
}

// TestPeriods compares all lists of a run with each other.
func TestPeriods(t *testing.T) {
	periods := map[int]int{}
	for k, j := range jobs(t) {
		most := 24
		if k%10 > 0 && len(j.n.Ends) > 5 {
			most = 5
		}
		run := runByHand(j.m, j.n, most)
		r, q := 0, 0
		for last := range run {
			if first := slices.IndexFunc(run[:last], func(l []int) bool { return slices.Equal(l, run[last]) }); first >= 0 {
				r, q = first, last-first
				break
			}
		}
		periods[q]++
		if q == 0 {
			wantNoPeriod(t, j.m, j.n, most)
			continue
		}
		wantPeriod(t, j.m, j.n, most, r, q)
		wantPeriod(t, j.m, j.n, r+q, r, q)
		wantNoPeriod(t, j.m, j.n, r+q-1)
		now, ok := impl.StatesAfter(j.m, j.n, 60+r)
		later, fine := impl.StatesAfter(j.m, j.n, 60+r+q)
		wantList(t, later, ok && fine, now, "states after a period of", j.m, "on", j.n)
	}
	if periods[0] < 5 || periods[1] < 50 || len(periods) < 5 {
		t.Error("periods of runs:", periods)
	}
}

// TestPeriodsOfKnownMachines has cycles along which one state moves, sums without a carry, whose periods are known, and counters.
func TestPeriodsOfKnownMachines(t *testing.T) {
	shift, add, count := shifting(t), adding(t), counting(t)
	for nodes := 1; nodes <= 40; nodes++ {
		n := sure(t)(impl.CycleNetwork(nodes))
		wantPeriod(t, shift, marked(n, 0), nodes, 0, nodes)
		wantPeriod(t, shift, marked(n), 1, 0, 1)
		wantPeriod(t, shift, marked(n, rising(nodes)...), 1, 0, 1)
		wantNoPeriod(t, shift, marked(n, 0), nodes-1)
		wantPeriod(t, count, n, 2000, 0, 3)
	}
	for _, c := range [][3]int{{3, 1, 1}, {5, 1, 3}, {7, 1, 7}, {9, 1, 7}, {11, 1, 31}, {13, 1, 63}, {15, 1, 15}, {17, 1, 15}, {19, 1, 511}, {21, 1, 63}, {25, 1, 1023}, {8, 4, 1}, {16, 8, 1}, {32, 16, 1}} {
		n := marked(sure(t)(impl.CycleNetwork(c[0])), c[0]/2)
		wantPeriod(t, add, n, 2000, c[1], c[2])
		wantPeriod(t, add, n, c[1]+c[2], c[1], c[2])
		wantNoPeriod(t, add, n, c[1]+c[2]-1)
	}
	for _, nodes := range []int{23, 29, 35, 37, 39} {
		wantNoPeriod(t, add, marked(sure(t)(impl.CycleNetwork(nodes)), 0), 2000)
	}
	for nodes := 3; nodes <= 38; nodes++ {
		n := sure(t)(impl.PathNetwork(nodes))
		wantPeriod(t, count, n, 12, 0, 12)
		wantPeriod(t, count, sure(t)(impl.UnionOf(n, zeroInputs(bare(2)))), 16, 4, 12)
	}
	wantPeriod(t, count, zeroInputs(bare(3)), 5, 4, 1)
	wantNoPeriod(t, count, zeroInputs(bare(3)), 4)
	wantNoPeriod(t, smallest(), zeroInputs(bare(40)), 0)
	wantPeriod(t, smallest(), zeroInputs(bare(40)), 1, 0, 1)
}

// TestGreatestPeriod has a run that is repeated after exactly 2000 rounds: four cycles with 1995 as their common period, and a path that is empty after 5 rounds.
func TestGreatestPeriod(t *testing.T) {
	n := marked(sure(t)(impl.PathNetwork(6)), 5)
	for _, nodes := range []int{3, 5, 7, 19} {
		n = sure(t)(impl.UnionOf(n, marked(sure(t)(impl.CycleNetwork(nodes)), 0)))
	}
	m := shifting(t)
	wantPeriod(t, m, n, 2000, 5, 1995)
	wantNoPeriod(t, m, n, 1999)
	now, ok := impl.StatesAfter(m, n, 5)
	later, fine := impl.StatesAfter(m, n, 2000)
	wantList(t, later, ok && fine, now, "after 2000 rounds")
}

// wantFaultOfRun fails the test unless this is the first fault.
func wantFaultOfRun(t *testing.T, j job, run [][]int, k, v int) {
	t.Helper()
	gotK, gotV, ok := impl.FirstFaultOfRun(j.m, j.n, run)
	if gotK != k || gotV != v || !ok {
		t.Fatalf("first fault of %v of %v on %v: %d, %d %v, want %d, %d", run, j.m, j.n, gotK, gotV, ok, k, v)
	}
}

// TestFaultsOfRuns changes states of runs, and then also some behind the first change.
func TestFaultsOfRuns(t *testing.T) {
	r := rand.New(rand.NewSource(97))
	for _, j := range jobs(t) {
		rounds := r.Intn(8)
		if r.Intn(30) == 0 {
			rounds = 40
		}
		if j.m.States == 1 {
			continue
		}
		run := runByHand(j.m, j.n, rounds)
		k, v := r.Intn(rounds+1), r.Intn(len(j.n.Ends))
		run[k][v] = (run[k][v] + 1 + r.Intn(j.m.States-1)) % j.m.States
		wantFaultOfRun(t, j, run, k, v)
		for _, list := range run[k+1:] {
			copy(list, numbersBelow(r, len(list), 0, j.m.States))
		}
		copy(run[k][v+1:], numbersBelow(r, len(run[k])-v-1, 0, j.m.States))
		wantFaultOfRun(t, j, run, k, v)
		// Going on rightly from wrong states does not make them right.
		for i := range run[k+1:] {
			run[k+1+i] = stepByHand(j.m, j.n, run[k+i])
		}
		wantFaultOfRun(t, j, run, k, v)
		if k > 0 {
			run[r.Intn(k)][v] = run[k][v]
		}
		wantFirstFault(t, j, run)
	}
}

// wantFirstFault compares each list with what the list before it leads to, whether or not that one has a fault.
func wantFirstFault(t *testing.T, j job, run [][]int) {
	t.Helper()
	for k, list := range run {
		want := startByHand(j.m, j.n)
		if k > 0 {
			want = stepByHand(j.m, j.n, run[k-1])
		}
		for v := range list {
			if list[v] != want[v] {
				wantFaultOfRun(t, j, run, k, v)
				return
			}
		}
	}
	k, v, ok := impl.FirstFaultOfRun(j.m, j.n, run)
	refused(t, fmt.Sprint("run ", run, " of ", j), k, v, ok)
}

// TestAllRunsOfTwoNodes tries all lists of two rounds.
func TestAllRunsOfTwoNodes(t *testing.T) {
	spread := spreading(t)
	spread.Start[1] = []int{0}
	for _, j := range []job{{spread, zeroInputs(pair())}, {shifting(t), marked(pair(), 1)}, {adding(t), sure(t)(impl.CycleNetwork(2))}} {
		allLists(6, []int{0, 1}, func(l []int) {
			wantFirstFault(t, j, [][]int{l[:2], l[2:4], l[4:]})
			wantFirstFault(t, j, [][]int{l[:2], l[2:4]})
			wantFirstFault(t, j, [][]int{l[:2]})
		})
	}
}

// TestFaultsAtTheLimits has runs of one list and of the greatest number of lists.
func TestFaultsAtTheLimits(t *testing.T) {
	j := job{shifting(t), marked(sure(t)(impl.CycleNetwork(40)), 39)}
	run := runByHand(j.m, j.n, 40)
	for k := range 41 {
		for _, v := range []int{0, 17, 39} {
			run[k][v] = 1 - run[k][v]
			wantFaultOfRun(t, j, run, k, v)
			wantFaultOfRun(t, j, run[:k+1], k, v)
			wantFirstFault(t, j, run[:k])
			run[k][v] = 1 - run[k][v]
		}
	}
	k, v, ok := impl.FirstFaultOfRun(j.m, j.n, run)
	refused(t, "a run without a fault", k, v, ok)
	longer := append(slices.Clone(run), stepByHand(j.m, j.n, run[40]))
	longer[0] = make([]int, 40)
	k, v, ok = impl.FirstFaultOfRun(j.m, j.n, longer)
	refused(t, "42 lists", k, v, ok)
	k, v, ok = impl.FirstFaultOfRun(j.m, j.n, nil)
	refused(t, "no list", k, v, ok)
}

// TestTwinsStayEqual compares runs on a network with those on a covering of it, and nodes with equal views after as many rounds as these are deep.
func TestTwinsStayEqual(t *testing.T) {
	r := rand.New(rand.NewSource(98))
	for _, c := range coverMaps(t) {
		m := machineFor(r, c.b)
		if !runsByHand(m, c.a) {
			t.Fatal("a covering has other degrees or inputs", c)
		}
		for k := range 8 {
			below, ok := impl.StatesAfter(m, c.b, k)
			above, fine := impl.StatesAfter(m, c.a, k)
			pulled, good := impl.PullNodes(c.a, c.b, c.m, below)
			wantList(t, above, ok && fine && good, pulled, k, "rounds of", m, "on", c.a)
			classes, ok := impl.ViewClasses(c.a, k)
			if !ok {
				t.Fatal("classes", c.a)
			}
			for v, class := range classes {
				wantNumber(t, above[v], fine, above[slices.Index(classes, class)], "state of node", v, "after", k, "rounds of", m, "on", c.a)
			}
		}
	}
}

// TestOtherNumbersOfNodes runs a machine on an isomorphic network, and with other identifiers, which it does not see.
func TestOtherNumbersOfNodes(t *testing.T) {
	r := rand.New(rand.NewSource(99))
	for _, j := range jobs(t) {
		perm := r.Perm(len(j.n.Ends))
		other := sure(t)(impl.RenumberNodes(withIds(j.n, idsUpTo(len(perm))...), perm))
		here, ok := impl.StatesAfter(j.m, j.n, 5)
		there, fine := impl.StatesAfter(j.m, other, 5)
		for v, w := range perm {
			wantNumber(t, there[w], ok && fine, here[v], "state of node", w, "of", other, "after 5 rounds of", j.m)
		}
	}
}
