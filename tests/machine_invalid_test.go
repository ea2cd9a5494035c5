package tests

import (
	"fmt"
	"slices"
	"strings"
	"testing"

	"loop.example/g01084/impl"
)

type namedMachine struct {
	name string
	m    impl.Machine
}

// changedMachines returns machines in which one thing is changed, so that they are none any more.
func changedMachines(t *testing.T, good impl.Machine, changes map[string]func(m *impl.Machine)) []namedMachine {
	t.Helper()
	list := []namedMachine{}
	for name, change := range changes {
		m := copied(good)
		change(&m)
		list = append(list, namedMachine{name, m})
	}
	slices.SortFunc(list, func(a, b namedMachine) int { return strings.Compare(a.name, b.name) })
	return list
}

func brokenMachines(t *testing.T) []namedMachine {
	list := changedMachines(t, machineOf(t, "machine 2 3 2 2", "start 0 1", "start 1 2", "start 2 0", "send 0 1", "send 1 1", "send 0 0",
		"when 0 1 * then 1", "when 1 then 2", "when 2 * then 0", "give 2 5"), map[string]func(m *impl.Machine){
		"no states":                  func(m *impl.Machine) { m.States = 0 },
		"fewer states":               func(m *impl.Machine) { m.States = 2 },
		"more states":                func(m *impl.Machine) { m.States = 4 },
		"smaller degree":             func(m *impl.Machine) { m.Degree = 1 },
		"greater degree":             func(m *impl.Machine) { m.Degree = 3 },
		"no starts":                  func(m *impl.Machine) { m.Start = nil },
		"a start too few":            func(m *impl.Machine) { m.Start = m.Start[:2] },
		"a start too many":           func(m *impl.Machine) { m.Start = append(m.Start, []int{0, 0}) },
		"starts without inputs":      func(m *impl.Machine) { m.Start = [][]int{nil, {}, nil} },
		"a first start too short":    func(m *impl.Machine) { m.Start[0] = []int{0} },
		"a last start too long":      func(m *impl.Machine) { m.Start[2] = []int{0, 0, 0} },
		"an empty start":             func(m *impl.Machine) { m.Start[1] = nil },
		"no messages are sent":       func(m *impl.Machine) { m.Send = nil },
		"a list of messages too few": func(m *impl.Machine) { m.Send = m.Send[:2] },
		"a list of messages too many": func(m *impl.Machine) {
			m.Send = append(m.Send, []int{0, 0})
		},
		"a message too few":       func(m *impl.Machine) { m.Send[1] = []int{0} },
		"a message too many":      func(m *impl.Machine) { m.Send[2] = []int{0, 0, 0} },
		"an Inbox too long":       func(m *impl.Machine) { m.Clauses[1].Inbox = []int{0, 0, 0} },
		"an Inbox of -1 too long": func(m *impl.Machine) { m.Clauses[2].Inbox = []int{-1, -1, -1} },
		"a very long Inbox":       func(m *impl.Machine) { m.Clauses[0].Inbox = make([]int, 1000) },
		"61 clauses":              func(m *impl.Machine) { m.Clauses = slices.Repeat(m.Clauses[:1], 61) },
		"very many clauses":       func(m *impl.Machine) { m.Clauses = make([]impl.Clause, 100000) },
		"no outputs":              func(m *impl.Machine) { m.Output = nil },
		"an output too few":       func(m *impl.Machine) { m.Output = m.Output[:2] },
		"an output too many":      func(m *impl.Machine) { m.Output = append(m.Output, -1) },
		"an output too great":     func(m *impl.Machine) { m.Output[2] = 10 },
		"fewer messages":          func(m *impl.Machine) { m.Messages = 1 },
		"no message":              func(m *impl.Machine) { m.Messages = 0 },
	})
	list = append(list, namedMachine{"zero value", impl.Machine{}})
	list = append(list, changedMachines(t, greatest(), map[string]func(m *impl.Machine){
		"seven ports": func(m *impl.Machine) {
			m.Degree++
			m.Start = append(m.Start, make([]int, 10))
			for state := range m.Send {
				m.Send[state] = append(m.Send[state], 0)
			}
		},
		"thirteen states": func(m *impl.Machine) {
			m.States++
			m.Send, m.Output = append(m.Send, make([]int, 6)), append(m.Output, -1)
		},
		"seven messages": func(m *impl.Machine) { m.Messages++ },
		"eleven inputs": func(m *impl.Machine) {
			for d := range m.Start {
				m.Start[d] = append(m.Start[d], 0)
			}
		},
		"one more clause": func(m *impl.Machine) { m.Clauses = append(m.Clauses, impl.Clause{}) },
	})...)
	return append(list, changedMachines(t, smallest(), map[string]func(m *impl.Machine){
		"a port without a degree":     func(m *impl.Machine) { m.Send[0] = []int{0} },
		"no lists":                    func(m *impl.Machine) { m.Start, m.Send, m.Output = nil, nil, nil },
		"an inbox without ports":      func(m *impl.Machine) { m.Clauses = []impl.Clause{{Inbox: []int{-1}}} },
		"a start for the degree 1":    func(m *impl.Machine) { m.Start = [][]int{{0}, {0}} },
		"degree -1":                   func(m *impl.Machine) { m.Degree = -1 },
		"degree -1 without a start":   func(m *impl.Machine) { m.Degree, m.Start = -1, nil },
		"the greatest of all degrees": func(m *impl.Machine) { m.Degree = maxInt },
		"the least of all degrees":    func(m *impl.Machine) { m.Degree, m.Start = minInt, nil },
		"state -1": func(m *impl.Machine) {
			m.States, m.Send, m.Output = -1, nil, nil
		},
		"no state": func(m *impl.Machine) { m.States, m.Send, m.Output = 0, nil, nil },
	})...)
}

// wantNoRuns fails the test unless all functions for a machine on a network fail. The lists have a state for each node.
func wantNoRuns(t *testing.T, what string, m impl.Machine, n impl.Network, lists ...[]int) {
	t.Helper()
	states, ok := impl.StartStates(m, n)
	refused(t, what+": start", states, ok)
	for _, x := range []int{0, 1, 40, 2000} {
		run, ok := impl.RunMachine(m, n, x)
		refused(t, what+": run", run, ok)
		states, ok = impl.StatesAfter(m, n, x)
		refused(t, what+": states", states, ok)
		round, ok := impl.HaltingRound(m, n, x)
		refused(t, what+": halting", round, ok)
		outputs, ok := impl.OutputsOf(m, n, x)
		refused(t, what+": outputs", outputs, ok)
		r, q, ok := impl.PeriodOf(m, n, x)
		refused(t, what+": period", r, q, ok)
	}
	for _, list := range lists {
		wantNoStep(t, what, m, n, list)
		k, v, ok := impl.FirstFaultOfRun(m, n, lists)
		refused(t, what+": fault", k, v, ok)
	}
}

func wantNoStep(t *testing.T, what string, m impl.Machine, n impl.Network, states []int) {
	t.Helper()
	inboxes, ok := impl.InboxesOf(m, n, states)
	refused(t, what+": inboxes", inboxes, ok)
	next, ok := impl.StepMachine(m, n, states)
	refused(t, what+": step", next, ok)
	k, v, ok := impl.FirstFaultOfRun(m, n, [][]int{states})
	refused(t, what+": fault", k, v, ok)
}

func TestBrokenMachinesAreRefused(t *testing.T) {
	for _, c := range brokenMachines(t) {
		if isMachineByHand(c.m) {
			t.Fatal("a machine by hand: ", c.name)
		}
		if impl.IsMachine(c.m) {
			t.Errorf("%s: taken for a machine", c.name)
		}
		for _, n := range []impl.Network{zeroInputs(bare(1)), zeroInputs(pair()), {}, zeroInputs(full(1))} {
			is, ok := impl.RunsOn(c.m, n)
			refused(t, c.name, is, ok)
			states := make([]int, len(n.Ends))
			wantNoRuns(t, c.name, c.m, n, states, states)
		}
		for _, inbox := range [][]int{nil, {0}, {0, 0}} {
			k, ok := impl.ClauseFor(c.m, 0, inbox)
			refused(t, c.name+": clause", k, ok)
		}
		reachable, ok := impl.ReachableStates(c.m)
		refused(t, c.name+": reachable states", reachable, ok)
		text, ok := impl.MachineText(c.m)
		refused(t, c.name+": text", text, ok)
	}
}

func TestMachinesAtTheLimitsAreMachines(t *testing.T) {
	for _, m := range append(wellKnownMachines(t), impl.Machine{States: 1, Messages: 6, Start: [][]int{make([]int, 10)}, Send: [][]int{{}}, Clauses: make([]impl.Clause, 60), Output: []int{9}}) {
		if !isMachineByHand(m) || !impl.IsMachine(m) {
			t.Error("not taken for a machine:", m)
		}
		if m.Clauses = nil; !impl.IsMachine(m) {
			t.Error("not taken for a machine without clauses:", m)
		}
	}
}

// numbersOfMachine returns where the numbers of a machine are.
func numbersOfMachine(m *impl.Machine) []*int {
	places := []*int{&m.Degree, &m.States, &m.Messages}
	for _, list := range slices.Concat(m.Start, m.Send, [][]int{m.Output}) {
		for i := range list {
			places = append(places, &list[i])
		}
	}
	for k := range m.Clauses {
		places = append(places, &m.Clauses[k].State, &m.Clauses[k].Next)
		for i := range m.Clauses[k].Inbox {
			places = append(places, &m.Clauses[k].Inbox[i])
		}
	}
	return places
}

// TestOneWrongNumberOfAMachine changes one number of a machine, and compares with the conditions of the chapter.
func TestOneWrongNumberOfAMachine(t *testing.T) {
	values := append(rising(14), minInt, minInt+1, -2, -1, 59, 60, 61, maxInt-1, maxInt)
	for _, m := range wellKnownMachines(t) {
		m = copied(m)
		for _, place := range numbersOfMachine(&m) {
			before := *place
			for _, x := range values {
				*place = x
				want := isMachineByHand(m)
				if is := impl.IsMachine(m); is != want {
					t.Fatalf("%v: machine %v, want %v", m, is, want)
				}
				text, ok := impl.MachineText(m)
				if ok != want || !ok && text != "" {
					t.Fatalf("%v: text %q %v", m, text, ok)
				}
			}
			*place = before
		}
	}
}

// TestOneWrongListOfAMachine makes one list of a machine longer or shorter.
func TestOneWrongListOfAMachine(t *testing.T) {
	for _, m := range wellKnownMachines(t) {
		m = copied(m)
		for _, lists := range [][][]int{m.Start, m.Send} {
			for k, list := range lists {
				for _, other := range [][]int{nil, list[:max(0, len(list)-1)], append(slices.Clone(list), 0), slices.Repeat([]int{0}, 11)} {
					lists[k] = other
					if is, want := impl.IsMachine(m), isMachineByHand(m); is != want {
						t.Fatalf("%v: machine %v, want %v", m, is, want)
					}
				}
				lists[k] = list
			}
		}
		for k, c := range m.Clauses {
			for length := range 9 {
				m.Clauses[k].Inbox = slices.Repeat([]int{-1}, length)
				if is := impl.IsMachine(m); is != (length <= m.Degree) {
					t.Fatalf("%v: machine %v with an Inbox of %d elements", m, is, length)
				}
			}
			m.Clauses[k] = c
		}
	}
}

func TestBrokenNetworksHaveNoRuns(t *testing.T) {
	for _, c := range brokenNetworks() {
		for _, m := range []impl.Machine{smallest(), greatest(), spreading(t), {}} {
			is, ok := impl.RunsOn(m, c.n)
			refused(t, c.name, is, ok)
			wantNoRuns(t, c.name, m, c.n, make([]int, len(c.n.Ends)), make([]int, len(c.n.Ends)))
		}
	}
}

// TestMachinesThatDoNotRun have too few ports or too few inputs for a network.
func TestMachinesThatDoNotRun(t *testing.T) {
	for _, j := range []job{
		{smallest(), zeroInputs(pair())},
		{smallest(), marked(bare(2), 1)},
		{spreading(t), zeroInputs(full(1))},
		{spreading(t), marked(pair(), 0)},
		{shifting(t), sure(t)(impl.StarNetwork(3))},
		{shifting(t), pair()},
		{shifting(t), withInputs(bare(40), append(make([]int, 39), 2)...)},
	} {
		is, ok := impl.RunsOn(j.m, j.n)
		wantTruth(t, is, ok, false, j.m, "on", j.n)
		states := make([]int, len(j.n.Ends))
		wantNoRuns(t, fmt.Sprint(j), j.m, j.n, states, states)
	}
}

func TestListsOfStatesThatDoNotFit(t *testing.T) {
	m := shifting(t)
	n := marked(sure(t)(impl.CycleNetwork(3)), 0)
	lists := [][]int{nil, {}, {0}, {1, 0}, {1, 0, 0, 0}, make([]int, 40), make([]int, 1000)}
	for _, x := range outside(0, 1) {
		lists = append(lists, []int{x, 0, 0}, []int{1, x, 0}, []int{1, 0, x})
	}
	right := runByHand(m, n, 5)
	for _, list := range lists {
		wantNoStep(t, fmt.Sprint("states ", list), m, n, list)
		for k := range right {
			run := slices.Clone(right)
			run[k] = list
			for range 2 {
				i, v, ok := impl.FirstFaultOfRun(m, n, run)
				refused(t, fmt.Sprint("the list ", list, " in a run"), i, v, ok)
				// A fault of another list does not count then.
				run[(k+1)%len(run)] = []int{1, 1, 1}
			}
		}
	}
	next, ok := impl.StepMachine(m, n, []int{1, 0, 1})
	wantList(t, next, ok, []int{1, 1, 0}, "a state of every node")
	for _, j := range jobs(t) {
		states := startByHand(j.m, j.n)
		for _, v := range []int{0, len(states) - 1} {
			before := states[v]
			for _, x := range []int{-1, j.m.States} {
				states[v] = x
				wantNoStep(t, fmt.Sprint("state ", x), j.m, j.n, states)
			}
			states[v] = before
		}
		wantNoStep(t, "too few states", j.m, j.n, states[1:])
		wantNoStep(t, "too many states", j.m, j.n, append(states, 0))
	}
}

func TestStatesAndInboxesWithoutClauses(t *testing.T) {
	m := machineOf(t, "machine 2 2 2 1", "start 0", "start 1", "start 0", "send 0 0", "send 1 1", "when 0 * * then 1", "when 0 * then 1", "when 0 then 1", "when 1 * * then 1", "when 1 * then 1", "when 1 then 1")
	for length := range 3 {
		inbox := make([]int, length)
		for _, state := range outside(0, 1) {
			k, ok := impl.ClauseFor(m, state, inbox)
			refused(t, fmt.Sprint("state ", state), k, ok)
		}
		for i := range inbox {
			for _, x := range outside(0, 1) {
				inbox[i] = x
				for state := range 2 {
					k, ok := impl.ClauseFor(m, state, inbox)
					refused(t, fmt.Sprint("inbox ", inbox), k, ok)
				}
			}
			inbox[i] = 1
		}
		for state := range 2 {
			k, ok := impl.ClauseFor(m, state, inbox)
			wantNumber(t, k, ok, 3*state+2-length, "state", state, "and inbox", inbox)
		}
	}
	for _, inbox := range [][]int{{0, 0, 0}, {1, 1, 1}, {0, 1, 2}, {-1, -1, -1}, make([]int, 7), make([]int, 1000)} {
		k, ok := impl.ClauseFor(m, 0, inbox)
		refused(t, fmt.Sprint("inbox ", inbox), k, ok)
	}
}
