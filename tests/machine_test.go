package tests

import (
	"fmt"
	"math/rand"
	"slices"
	"testing"

	"loop.example/g01084/impl"
)

func TestExampleOfChapter9(t *testing.T) {
	text := "machine 2 2 2 1\nstart 0\nstart 1\nstart 0\nsend 0 0\nsend 1 1\nwhen 0 1 * then 1\nwhen 0 * 1 then 1\n"
	m, ok := impl.ParseMachine(text)
	if !ok || !same(m, spreading(t)) {
		t.Fatal("machine", m, ok)
	}
	path := sure(t)(impl.PathNetwork(5))
	run, ok := impl.RunMachine(m, path, 3)
	if !ok || !same(run, [][]int{{1, 0, 0, 0, 1}, {1, 1, 0, 1, 1}, {1, 1, 1, 1, 1}, {1, 1, 1, 1, 1}}) {
		t.Error("run", run, ok)
	}
	wantPeriod(t, m, path, 2000, 2, 1)
	states, ok := impl.StatesAfter(m, path, 2000)
	wantList(t, states, ok, []int{1, 1, 1, 1, 1}, "states after a long run")
}

func TestLimitsOfChapter9AreThoseOfTheDocument(t *testing.T) {
	limits := []int{impl.MaxStates, impl.MaxMessages, impl.MaxClauses, impl.MaxOutput, impl.MaxRounds, impl.MaxLongRun}
	if !slices.Equal(limits, []int{12, 6, 60, 9, 40, 2000}) {
		t.Error(limits)
	}
}

// TestMachinesRunOnNetworks takes ports and inputs away from machines until they do not run any more.
func TestMachinesRunOnNetworks(t *testing.T) {
	for _, j := range jobs(t) {
		is, ok := impl.RunsOn(j.m, j.n)
		wantTruth(t, is, ok, true, j.m, "on", j.n)
		less := copied(j.m)
		less.Degree--
		less.Start = less.Start[:less.Degree+1]
		for state, list := range less.Send {
			less.Send[state] = list[:max(0, less.Degree)]
		}
		less.Clauses = nil
		if less.Degree >= 0 {
			is, ok = impl.RunsOn(less, j.n)
			wantTruth(t, is, ok, runsByHand(less, j.n), less, "on", j.n)
		}
		fewer := copied(j.m)
		for d, list := range fewer.Start {
			fewer.Start[d] = list[1:]
		}
		if len(fewer.Start[0]) > 0 {
			is, ok = impl.RunsOn(fewer, j.n)
			wantTruth(t, is, ok, runsByHand(fewer, j.n), fewer, "on", j.n)
		}
	}
}

// TestOneNodeIsEnough makes one node of many too great for a machine.
func TestOneNodeIsEnough(t *testing.T) {
	m := shifting(t)
	n := sure(t)(impl.CycleNetwork(40))
	for v := range n.Ends {
		for x := range 10 {
			n.Inputs[v] = x
			is, ok := impl.RunsOn(m, n)
			wantTruth(t, is, ok, x < 2, "input", x, "of node", v)
		}
		n.Inputs[v] = v % 2
		is, ok := impl.RunsOn(m, sure(t)(impl.AddStub(n, v)))
		wantTruth(t, is, ok, false, "three ports of node", v)
	}
	is, ok := impl.RunsOn(smallest(), zeroInputs(bare(40)))
	wantTruth(t, is, ok, true, "nodes without ports")
	is, ok = impl.RunsOn(greatest(), full(40))
	wantTruth(t, is, ok, true, "nodes with all ports")
	is, ok = impl.RunsOn(smallest(), marked(bare(40), 39))
	wantTruth(t, is, ok, false, "an input of the last node")
	is, ok = impl.RunsOn(smallest(), sure(t)(impl.AddStub(zeroInputs(bare(40)), 39)))
	wantTruth(t, is, ok, false, "a stub of the last node")
}

func TestStatesAtTheStart(t *testing.T) {
	for _, j := range jobs(t) {
		states, ok := impl.StartStates(j.m, j.n)
		wantList(t, states, ok, startByHand(j.m, j.n), "start of", j.m, "on", j.n)
	}
	m := greatest()
	for d := range 7 {
		for x := range 10 {
			n := impl.Network{Ends: [][]impl.End{full(1).Ends[0][:d]}, Inputs: []int{x}}
			states, ok := impl.StartStates(m, n)
			wantList(t, states, ok, []int{(d + 5*x) % 12}, "degree", d, "and input", x)
		}
	}
}

func TestInboxes(t *testing.T) {
	r := rand.New(rand.NewSource(91))
	for _, j := range jobs(t) {
		for range 2 {
			states := numbersBelow(r, len(j.n.Ends), 0, j.m.States)
			inboxes, ok := impl.InboxesOf(j.m, j.n, states)
			if want := inboxesByHand(j.m, j.n, states); !ok || !same(inboxes, want) {
				t.Fatalf("%v on %v in %v: %v %v, want %v", j.m, j.n, states, inboxes, ok, want)
			}
		}
	}
}

// TestInboxesAreWrittenOut has a stub, a loop, two edges between the same nodes, and a node without ports.
func TestInboxesAreWrittenOut(t *testing.T) {
	m := machineOf(t, "machine 4 3 6 1", "start 0", "start 0", "start 0", "start 0", "start 0", "send 0 1 2 3", "send 5 4 3 2", "send 4 4 0 0")
	n := zeroInputs(joined([]int{4, 2, 0, 3}, [4]int{0, 0, 0, 0}, [4]int{0, 1, 0, 3}, [4]int{0, 2, 3, 2}, [4]int{1, 0, 3, 1}, [4]int{1, 1, 3, 0}))
	for _, c := range []struct {
		states []int
		want   [][]int
	}{
		{[]int{0, 0, 0, 0}, [][]int{{0, 3, 2, 1}, {1, 0}, {}, {1, 0, 2}}},
		{[]int{0, 1, 2, 2}, [][]int{{0, 3, 0, 1}, {4, 4}, {}, {4, 5, 2}}},
		{[]int{1, 0, 0, 1}, [][]int{{5, 2, 3, 4}, {4, 5}, {}, {1, 0, 3}}},
		{[]int{2, 1, 1, 0}, [][]int{{4, 0, 2, 4}, {1, 0}, {}, {4, 5, 0}}},
	} {
		inboxes, ok := impl.InboxesOf(m, n, c.states)
		if !ok || !same(inboxes, c.want) {
			t.Errorf("inboxes in %v: %v %v, want %v", c.states, inboxes, ok, c.want)
		}
	}
}

// wantClause compares the clause with the one that is found by hand.
func wantClause(t *testing.T, m impl.Machine, state int, inbox []int) {
	t.Helper()
	got, ok := impl.ClauseFor(m, state, inbox)
	if want, fine := clauseByHand(m, state, inbox); got != want || ok != fine {
		t.Fatalf("state %d with the inbox %v in %v: clause %d %v, want %d %v", state, inbox, m, got, ok, want, fine)
	}
}

func TestClauses(t *testing.T) {
	r := rand.New(rand.NewSource(92))
	for range 120 {
		m := randomMachine(r, r.Intn(7), 1)
		for range 300 {
			wantClause(t, m, r.Intn(m.States), numbersBelow(r, r.Intn(m.Degree+1), 0, m.Messages))
		}
		for _, c := range m.Clauses {
			inbox := slices.Clone(c.Inbox)
			for i, x := range inbox {
				if x < 0 {
					inbox[i] = r.Intn(m.Messages)
				}
			}
			wantClause(t, m, c.State, inbox)
			if len(inbox) > 0 {
				inbox[r.Intn(len(inbox))] = r.Intn(m.Messages)
				wantClause(t, m, c.State, inbox)
				wantClause(t, m, c.State, inbox[1:])
			}
		}
	}
}

// TestAllInboxesOfSmallMachines asks for every state and every inbox of each length.
func TestAllInboxesOfSmallMachines(t *testing.T) {
	r := rand.New(rand.NewSource(93))
	for k := range 60 {
		m := randomMachine(r, 1+k%3, 1)
		for length := range m.Degree + 1 {
			allLists(length, rising(m.Messages), func(inbox []int) {
				for state := range m.States {
					wantClause(t, m, state, inbox)
				}
			})
		}
	}
}

// TestFirstOfSeveralClauses has clauses that fit the same inbox, and clauses for inboxes of other lengths.
func TestFirstOfSeveralClauses(t *testing.T) {
	m := machineOf(t, "machine 3 3 3 1", "start 0", "start 0", "start 0", "start 0", "send 0 0 0", "send 0 0 0", "send 0 0 0",
		"when 0 1 2 0 then 1", "when 0 1 * then 2", "when 0 * 2 then 1", "when 0 * * then 0", "when 0 1 2 then 2", "when 1 then 2",
		"when 2 0 0 0 then 0", "when 1 then 1", "when 0 * then 2", "when 2 * * 0 then 1", "give 0 5", "give 1 0")
	for _, c := range []struct {
		state int
		inbox []int
		want  int
	}{
		{0, []int{1, 2, 0}, 0}, {0, []int{1, 2}, 1}, {0, []int{1, 0}, 1}, {0, []int{0, 2}, 2}, {0, []int{0, 0}, 3}, {0, []int{2, 1}, 3},
		{0, []int{0}, 8}, {0, []int{2}, 8}, {1, []int{}, 5}, {1, nil, 5}, {2, []int{0, 0, 0}, 6}, {2, []int{0, 1, 0}, 9}, {2, []int{2, 2, 0}, 9},
	} {
		k, ok := impl.ClauseFor(m, c.state, c.inbox)
		wantNumber(t, k, ok, c.want, "state", c.state, "with the inbox", c.inbox)
	}
	for _, c := range []struct {
		state int
		inbox []int
	}{{0, nil}, {0, []int{1, 2, 1}}, {0, []int{0, 2, 0}}, {1, []int{0}}, {1, []int{0, 0}}, {2, nil}, {2, []int{0}}, {2, []int{0, 0}}, {2, []int{0, 0, 1}}} {
		k, ok := impl.ClauseFor(m, c.state, c.inbox)
		refused(t, fmt.Sprint("state ", c.state, " with the inbox ", c.inbox), k, ok)
	}
}

// TestOutputsDoNotMatterForClauses takes all outputs away, or gives them to all states.
func TestOutputsDoNotMatterForClauses(t *testing.T) {
	r := rand.New(rand.NewSource(94))
	for range 60 {
		m := randomMachine(r, r.Intn(7), 1)
		for range 50 {
			state, inbox := r.Intn(m.States), numbersBelow(r, r.Intn(m.Degree+1), 0, m.Messages)
			k, ok := impl.ClauseFor(m, state, inbox)
			for _, output := range []int{-1, 0, 9} {
				m.Output = slices.Repeat([]int{output}, m.States)
				if again, fine := impl.ClauseFor(m, state, inbox); again != k || fine != ok {
					t.Fatalf("state %d with the inbox %v in %v: clauses %d %v and %d %v", state, inbox, m, k, ok, again, fine)
				}
			}
		}
	}
}

func TestSteps(t *testing.T) {
	r := rand.New(rand.NewSource(95))
	moved, kept := 0, 0
	for _, j := range jobs(t) {
		states := startByHand(j.m, j.n)
		for range 4 {
			next, ok := impl.StepMachine(j.m, j.n, states)
			wantList(t, next, ok, stepByHand(j.m, j.n, states), "step of", j.m, "on", j.n, "from", states)
			for v, state := range next {
				if state != states[v] {
					moved++
				} else {
					kept++
				}
			}
			states = numbersBelow(r, len(j.n.Ends), 0, j.m.States)
		}
	}
	if moved < 1000 || kept < 1000 {
		t.Error("states that change and that stay:", moved, kept)
	}
}

// TestStepsMakeUseOfClauses reads steps off the inboxes and the clauses for them.
func TestStepsMakeUseOfClauses(t *testing.T) {
	for _, j := range jobs(t) {
		states, ok := impl.StartStates(j.m, j.n)
		next, fine := impl.StepMachine(j.m, j.n, states)
		inboxes, good := impl.InboxesOf(j.m, j.n, states)
		if !ok || !fine || !good {
			t.Fatal(j)
		}
		for v, state := range states {
			k, ok := impl.ClauseFor(j.m, state, inboxes[v])
			if ok && j.m.Output[state] < 0 {
				state = j.m.Clauses[k].Next
			}
			wantNumber(t, next[v], true, state, "state of node", v, "of", j.n, "after a round of", j.m)
		}
	}
}

// TestStatesThatStay has a state with an output and a clause, and one without a clause that fits.
func TestStatesThatStay(t *testing.T) {
	m := machineOf(t, "machine 2 4 2 1", "start 0", "start 0", "start 0", "send 0 0", "send 0 0", "send 0 1", "send 1 1",
		"when 0 * * then 1", "when 1 * * then 2", "when 2 1 1 then 3", "when 2 0 then 3", "when 3 * 0 then 0", "give 1 4")
	n := sure(t)(impl.CycleNetwork(4))
	for _, c := range []struct{ states, want []int }{
		{[]int{0, 0, 0, 0}, []int{1, 1, 1, 1}},
		{[]int{1, 1, 1, 1}, []int{1, 1, 1, 1}},
		{[]int{2, 2, 2, 2}, []int{2, 2, 2, 2}},
		{[]int{3, 3, 3, 3}, []int{3, 3, 3, 3}},
		{[]int{3, 2, 3, 0}, []int{0, 3, 0, 1}},
		{[]int{0, 3, 1, 2}, []int{1, 0, 1, 2}},
	} {
		next, ok := impl.StepMachine(m, n, c.states)
		wantList(t, next, ok, c.want, "from", c.states)
	}
	stay := smallest()
	for nodes := 1; nodes <= 40; nodes++ {
		next, ok := impl.StepMachine(stay, zeroInputs(bare(nodes)), make([]int, nodes))
		wantList(t, next, ok, make([]int, nodes), "nodes without ports")
	}
}

// reachableByHand goes on from each state at the start as far as clauses lead.
func reachableByHand(m impl.Machine) []int {
	reached := map[int]bool{}
	var reach func(state int)
	reach = func(state int) {
		if reached[state] {
			return
		}
		reached[state] = true
		for _, c := range m.Clauses {
			if c.State == state && m.Output[state] < 0 {
				reach(c.Next)
			}
		}
	}
	for _, list := range m.Start {
		for _, state := range list {
			reach(state)
		}
	}
	return slices.DeleteFunc(rising(m.States), func(state int) bool { return !reached[state] })
}

func TestReachableStates(t *testing.T) {
	r := rand.New(rand.NewSource(96))
	machines := wellKnownMachines(t)
	for k := range 600 {
		m := randomMachine(r, r.Intn(7), 1+r.Intn(2))
		m.Clauses = m.Clauses[:min(len(m.Clauses), k%20)]
		machines = append(machines, m)
		if k%2 == 0 {
			m.Start = slices.Repeat([][]int{slices.Repeat([]int{r.Intn(m.States)}, len(m.Start[0]))}, len(m.Start))
			machines = append(machines, m)
		}
	}
	sizes := map[int]int{}
	for _, m := range machines {
		states, ok := impl.ReachableStates(m)
		wantList(t, states, ok, reachableByHand(m), "reachable in", m)
		sizes[len(states)]++
	}
	if len(sizes) < 10 {
		t.Error("numbers of reachable states:", sizes)
	}
}

// TestChainsOfReachableStates has clauses in the order of the chain and in the other one.
func TestChainsOfReachableStates(t *testing.T) {
	for _, states := range []int{1, 2, 3, 11, 12} {
		for first := range states {
			forth := impl.Machine{States: states, Messages: 1, Start: [][]int{{first}}, Send: make([][]int, states), Output: slices.Repeat([]int{-1}, states)}
			back := copied(forth)
			for state := range states - 1 {
				forth.Clauses = append(forth.Clauses, impl.Clause{State: state, Next: state + 1})
				back.Clauses = append(back.Clauses, impl.Clause{State: states - 1 - state, Next: states - 2 - state})
			}
			for range 2 {
				list, ok := impl.ReachableStates(forth)
				wantList(t, list, ok, rising(states)[first:], "up from", first, "to", states-1)
				list, ok = impl.ReachableStates(back)
				wantList(t, list, ok, rising(first+1), "down from", first)
				slices.Reverse(forth.Clauses)
				slices.Reverse(back.Clauses)
			}
			middle := (first + states - 1) / 2
			forth.Output[middle] = 3
			list, ok := impl.ReachableStates(forth)
			wantList(t, list, ok, rising(middle + 1)[first:], "up from", first, "to", middle)
		}
	}
}

// TestRunsReachReachableStates meets no other state in runs.
func TestRunsReachReachableStates(t *testing.T) {
	for _, j := range jobs(t) {
		reachable, ok := impl.ReachableStates(j.m)
		run, fine := impl.RunMachine(j.m, j.n, 12)
		if !ok || !fine {
			t.Fatal(j)
		}
		for _, state := range slices.Concat(run...) {
			if !slices.Contains(reachable, state) {
				t.Fatalf("state %d of %v on %v, but %v are reachable", state, j.m, j.n, reachable)
			}
		}
	}
}
