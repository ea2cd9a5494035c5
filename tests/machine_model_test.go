package tests

import (
	"fmt"
	"math/rand"
	"path"
	"regexp"
	"slices"
	"strconv"
	"strings"
	"testing"

	"loop.example/g01084/impl"
)

// The text of a machine as a pattern, with N for numbers, and the numbers of a line with * for -1.
const machinePattern = `^machine((?: N){4})\n((?:start(?: N)+\n)*)((?:send(?: N)*\n)*)((?:when N(?: (?:N|\*))* then N\n)*)((?:give N N\n)*)$`

var (
	machineForm       = regexp.MustCompile(strings.ReplaceAll(machinePattern, "N", `(?:0|[1-9][0-9]*)`))
	machineNumberForm = regexp.MustCompile(`[0-9]+|\*`)
)

// numbersOfLines returns the numbers of each line.
func numbersOfLines(text string) [][]int {
	lists := [][]int{}
	for _, line := range strings.SplitAfter(text, "\n") {
		list := []int{}
		for _, word := range machineNumberForm.FindAllString(line, -1) {
			x, err := strconv.Atoi(word)
			if err != nil {
				x = -1
			}
			list = append(list, x)
		}
		if line != "" {
			lists = append(lists, list)
		}
	}
	return lists
}

// machineByHand reads the text of a machine as a whole.
func machineByHand(s string) (impl.Machine, bool) {
	parts := machineForm.FindStringSubmatch(s)
	if parts == nil {
		return impl.Machine{}, false
	}
	size := numbersOfLines(parts[1])[0]
	m := impl.Machine{Degree: size[0], States: size[1], Messages: size[2], Start: numbersOfLines(parts[2]), Send: numbersOfLines(parts[3])}
	for _, list := range numbersOfLines(parts[4]) {
		last := len(list) - 1
		m.Clauses = append(m.Clauses, impl.Clause{State: list[0], Inbox: list[1:last], Next: list[last]})
	}
	if m.States < 1 || m.States > 12 {
		return impl.Machine{}, false
	}
	m.Output = slices.Repeat([]int{-1}, m.States)
	next := 0
	for _, list := range numbersOfLines(parts[5]) {
		if list[0] < next || list[0] >= m.States {
			return impl.Machine{}, false
		}
		m.Output[list[0]], next = list[1], list[0]+1
	}
	if !isMachineByHand(m) || len(m.Start[0]) != size[3] {
		return impl.Machine{}, false
	}
	return m, true
}

// isMachineByHand judges all parts of a machine, one after the other.
func isMachineByHand(m impl.Machine) bool {
	right := true
	within := func(least, greatest int, list ...int) {
		for _, x := range list {
			right = right && x >= least && x <= greatest
		}
	}
	within(0, 6, m.Degree)
	within(1, 12, m.States, len(m.Send), len(m.Output))
	within(1, 6, m.Messages)
	within(0, 60, len(m.Clauses))
	within(1, 7, len(m.Start))
	right = right && len(m.Start) == m.Degree+1 && len(m.Send) == m.States && len(m.Output) == m.States
	for _, list := range m.Start {
		within(1, 10, len(list))
		within(0, m.States-1, list...)
		right = right && len(list) == len(m.Start[0])
	}
	for _, list := range m.Send {
		within(0, m.Messages-1, list...)
		right = right && len(list) == m.Degree
	}
	for _, c := range m.Clauses {
		within(0, m.States-1, c.State, c.Next)
		within(0, m.Degree, len(c.Inbox))
		within(-1, m.Messages-1, c.Inbox...)
	}
	within(-1, 9, m.Output...)
	return right
}

// machineTextByHand writes a machine line by line.
func machineTextByHand(m impl.Machine) string {
	lines := []string{fmt.Sprintf("machine %d %d %d %d", m.Degree, m.States, m.Messages, len(m.Start[0]))}
	plain := func(first string, list []int) string {
		return strings.TrimSuffix(first+" "+strings.Trim(fmt.Sprint(list), "[]"), " ")
	}
	for _, list := range m.Start {
		lines = append(lines, plain("start", list))
	}
	for _, list := range m.Send {
		lines = append(lines, plain("send", list))
	}
	for _, c := range m.Clauses {
		inbox := strings.ReplaceAll(plain("", c.Inbox), "-1", "*")
		lines = append(lines, fmt.Sprintf("when %d%s then %d", c.State, inbox, c.Next))
	}
	for state, output := range m.Output {
		if output >= 0 {
			lines = append(lines, fmt.Sprintf("give %d %d", state, output))
		}
	}
	return strings.Join(lines, "\n") + "\n"
}

// machineOf returns the machine with these lines.
func machineOf(t *testing.T, lines ...string) impl.Machine {
	t.Helper()
	m, ok := machineByHand(strings.Join(lines, "\n") + "\n")
	if !ok {
		t.Fatalf("no machine: %q", lines)
	}
	return m
}

// copied returns the machine in new memory, so that it can be changed.
func copied(m impl.Machine) impl.Machine {
	m.Start, m.Send = slices.Clone(m.Start), slices.Clone(m.Send)
	m.Clauses, m.Output = slices.Clone(m.Clauses), slices.Clone(m.Output)
	for d := range m.Start {
		m.Start[d] = slices.Clone(m.Start[d])
	}
	for state := range m.Send {
		m.Send[state] = slices.Clone(m.Send[state])
	}
	for k := range m.Clauses {
		m.Clauses[k].Inbox = slices.Clone(m.Clauses[k].Inbox)
	}
	return m
}

// letters writes a state and messages with a letter each, and a question mark for -1, which stands for any letter in a pattern.
func letters(state int, messages []int) string {
	text := "?ABCDEFGHIJKL"[state+1 : state+2]
	for _, x := range messages {
		text += "?abcdef"[x+1 : x+2]
	}
	return text
}

// clauseByHand takes clauses for patterns.
func clauseByHand(m impl.Machine, state int, inbox []int) (int, bool) {
	for k, c := range m.Clauses {
		if fits, err := path.Match(letters(c.State, c.Inbox), letters(state, inbox)); fits && err == nil {
			return k, true
		}
	}
	return 0, false
}

// inboxesByHand lays each message down at the name of the port that gets it.
func inboxesByHand(m impl.Machine, n impl.Network, states []int) [][]int {
	named, got := modelOf(n), map[int]int{}
	for v, names := range named.ports {
		for i, x := range names {
			got[named.mate[x]] = m.Send[states[v]][i]
		}
	}
	inboxes := [][]int{}
	for _, names := range named.ports {
		inbox := []int{}
		for _, x := range names {
			inbox = append(inbox, got[x])
		}
		inboxes = append(inboxes, inbox)
	}
	return inboxes
}

func startByHand(m impl.Machine, n impl.Network) []int {
	states := []int{}
	for v, x := range n.Inputs {
		states = append(states, m.Start[len(n.Ends[v])][x])
	}
	return states
}

func stepByHand(m impl.Machine, n impl.Network, states []int) []int {
	next := slices.Clone(states)
	for v, inbox := range inboxesByHand(m, n, states) {
		if k, ok := clauseByHand(m, states[v], inbox); ok && m.Output[states[v]] < 0 {
			next[v] = m.Clauses[k].Next
		}
	}
	return next
}

func runByHand(m impl.Machine, n impl.Network, rounds int) [][]int {
	run := [][]int{startByHand(m, n)}
	for range rounds {
		run = append(run, stepByHand(m, n, run[len(run)-1]))
	}
	return run
}

// runsByHand reports whether the machine knows all degrees and inputs.
func runsByHand(m impl.Machine, n impl.Network) bool {
	for v, x := range n.Inputs {
		if len(n.Ends[v]) >= len(m.Start) || x >= len(m.Start[0]) {
			return false
		}
	}
	return true
}

// numbersBelow returns some numbers in least..below-1.
func numbersBelow(r *rand.Rand, count, least, below int) []int {
	list := []int{}
	for range count {
		list = append(list, least+r.Intn(below-least))
	}
	return list
}

// randomMachine returns a machine for some degree and number of inputs, in which no state, some or all of them have outputs.
func randomMachine(r *rand.Rand, degree, inputs int) impl.Machine {
	m := impl.Machine{Degree: degree, States: 1 + r.Intn(12), Messages: 1 + r.Intn(6)}
	if r.Intn(2) == 0 {
		m.Messages = 1 + r.Intn(2)
	}
	for range degree + 1 {
		m.Start = append(m.Start, numbersBelow(r, inputs, 0, m.States))
	}
	for range m.States {
		m.Send = append(m.Send, numbersBelow(r, degree, 0, m.Messages))
	}
	for range r.Intn(61) {
		c := impl.Clause{State: r.Intn(m.States), Inbox: numbersBelow(r, r.Intn(degree+1), -1, m.Messages), Next: r.Intn(m.States)}
		for i := range c.Inbox {
			if r.Intn(3) == 0 {
				c.Inbox[i] = -1
			}
		}
		m.Clauses = append(m.Clauses, c)
	}
	odds := r.Intn(4)
	for range m.States {
		output := -1
		if r.Intn(3) < odds {
			output = r.Intn(10)
		}
		m.Output = append(m.Output, output)
	}
	return m
}

// machineFor returns a machine that runs on the network.
func machineFor(r *rand.Rand, n impl.Network) impl.Machine {
	degree := 0
	for _, list := range n.Ends {
		degree = max(degree, len(list))
	}
	inputs := slices.Max(n.Inputs) + 1
	return randomMachine(r, degree+r.Intn(7-degree), inputs+r.Intn(11-inputs))
}

// A job is a machine and a network on which it runs.
type job struct {
	m impl.Machine
	n impl.Network
}

// jobs returns machines of all kinds on networks of all forms, the same ones in each run.
func jobs(t *testing.T) []job {
	r := rand.New(rand.NewSource(90))
	list := []job{}
	for _, n := range metricNetworks(t) {
		list = append(list, job{machineFor(r, n), n})
	}
	for _, m := range wellKnownMachines(t) {
		for k, n := range metricNetworks(t) {
			if n = zeroInputs(n); k%7 == 0 && runsByHand(m, n) {
				list = append(list, job{m, n})
			}
		}
	}
	return list
}

// spreading returns the machine of the chapter's example.
func spreading(t *testing.T) impl.Machine {
	return machineOf(t, "machine 2 2 2 1", "start 0", "start 1", "start 0", "send 0 0", "send 1 1", "when 0 1 * then 1", "when 0 * 1 then 1")
}

// shifting returns a machine whose state 1 moves to the node at port 0, along a cycle or to the beginning of a path, and vanishes there. It begins at the nodes with the input 1.
func shifting(t *testing.T) impl.Machine {
	return machineOf(t, "machine 2 2 2 2", "start 0 1", "start 0 1", "start 0 1", "send 0 0", "send 1 0",
		"when 0 * 1 then 1", "when 1 * 0 then 0", "when 1 * then 0")
}

// adding returns a machine whose states become the sums of those of both neighbours, without the carry.
func adding(t *testing.T) impl.Machine {
	return machineOf(t, "machine 2 2 2 2", "start 0 0", "start 0 0", "start 0 1", "send 0 0", "send 1 1",
		"when 0 0 1 then 1", "when 0 1 0 then 1", "when 1 0 0 then 0", "when 1 1 1 then 0")
}

// counting returns a machine that counts up from 0 to 3 and from 4 to 6 again and again at nodes of the degrees 1 and 2, and up to 11 at nodes without ports.
func counting(t *testing.T) impl.Machine {
	return machineOf(t, "machine 2 12 1 1", "start 7", "start 0", "start 4",
		"send 0 0", "send 0 0", "send 0 0", "send 0 0", "send 0 0", "send 0 0", "send 0 0", "send 0 0", "send 0 0", "send 0 0", "send 0 0", "send 0 0",
		"when 0 * then 1", "when 1 0 then 2", "when 2 * then 3", "when 3 0 then 0",
		"when 4 * * then 5", "when 5 0 * then 6", "when 6 0 0 then 4",
		"when 7 then 8", "when 8 then 9", "when 9 then 10", "when 10 then 11", "give 11 9")
}

// lapping returns a machine for cycles in which one node has the input 1. This node sends the state 1 round four times, and then the state 2, which has the output 7, spreads to both sides.
func lapping(t *testing.T) impl.Machine {
	lines := []string{"machine 2 11 3 2", "start 0 0", "start 0 0", "start 0 3", "send 0 0", "send 1 0", "send 2 2"}
	for k := range 8 {
		lines = append(lines, fmt.Sprintf("send %d 0", 1-k%2))
	}
	lines = append(lines, "when 0 2 * then 2", "when 0 * 2 then 2", "when 0 * 1 then 1", "when 1 * * then 0")
	for k := 3; k < 11; k += 2 {
		after := 2
		if k < 9 {
			after = k + 2
		}
		lines = append(lines, fmt.Sprintf("when %d * * then %d", k, k+1), fmt.Sprintf("when %d * 1 then %d", k+1, after))
	}
	return machineOf(t, append(lines, "give 2 7")...)
}

// greatest returns a machine that meets every limit.
func greatest() impl.Machine {
	m := impl.Machine{Degree: 6, States: 12, Messages: 6}
	for d := range 7 {
		list := []int{}
		for x := range 10 {
			list = append(list, (d+5*x)%12)
		}
		m.Start = append(m.Start, list)
	}
	for state := range 12 {
		m.Send = append(m.Send, rotation(6))
		m.Output = append(m.Output, state-2)
	}
	m.Output[0] = -1
	for k := range 60 {
		inbox := []int{5, 0, -1, 4, 3, 5}
		m.Clauses = append(m.Clauses, impl.Clause{State: k / 5, Inbox: inbox[:(k+6)%7], Next: 11 - k%12})
	}
	return m
}

// smallest returns the machine with one state, one message and no ports.
func smallest() impl.Machine {
	return impl.Machine{States: 1, Messages: 1, Start: [][]int{{0}}, Send: [][]int{nil}, Output: []int{-1}}
}

func wellKnownMachines(t *testing.T) []impl.Machine {
	silent := machineOf(t, "machine 6 1 1 1", "start 0", "start 0", "start 0", "start 0", "start 0", "start 0", "start 0", "send 0 0 0 0 0 0", "give 0 0")
	return []impl.Machine{spreading(t), shifting(t), adding(t), counting(t), lapping(t), copied(greatest()), smallest(), silent}
}

// marked returns the network with the input 1 at these nodes, and 0 at the others.
func marked(n impl.Network, nodes ...int) impl.Network {
	n = zeroInputs(n)
	for _, v := range nodes {
		n.Inputs[v] = 1
	}
	return n
}
