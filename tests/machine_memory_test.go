package tests

import (
	"reflect"
	"strings"
	"testing"

	"loop.example/g01084/impl"
)

// argumentsOfChapter9 returns machines, broken ones too, networks, states, inboxes, runs, numbers and texts.
func argumentsOfChapter9(t *testing.T) map[reflect.Type][]any {
	machines, networks, numbers, lists, runs, texts := []any{}, []any{}, []any{}, []any{}, []any{}, []any{}
	for _, m := range wellKnownMachines(t) {
		machines = append(machines, m)
		texts = append(texts, machineTextByHand(m), strings.ToUpper(machineTextByHand(m)), machineTextByHand(m)+"\n")
	}
	for k, c := range brokenMachines(t) {
		if k%7 == 0 && len(c.m.Clauses) < 100 {
			machines = append(machines, c.m)
		}
	}
	for _, n := range []impl.Network{{}, zeroInputs(bare(3)), pair(), withIds(zeroInputs(pair()), 8, 9), withEnd(1, 0), full(1), marked(sure(t)(impl.CycleNetwork(3)), 2), sure(t)(impl.PathNetwork(5))} {
		networks = append(networks, n)
	}
	for _, x := range []int{minInt, -1, 0, 1, 2, 12, 40, 300, 2001, maxInt} {
		numbers = append(numbers, x)
	}
	for _, l := range [][]int{nil, {}, {0}, {1}, {-1}, {7}, {12}, {0, 1}, {1, 1}, {minInt, maxInt}, {0, 1, 0}, {1, 0, 0}, {11, 7, 7}, {0, 0, 0, 0, 0}, {1, 0, 0, 0, 1}, {0, 1, 2, 3, 4, 5}, {-1, -1, -1}, make([]int, 1000)} {
		lists = append(lists, l)
	}
	for _, run := range [][][]int{nil, {}, {nil}, {{0}}, {{0}, {0}}, {{7}, {8}}, {{0, 1}, {1, 1}}, {{0, 0, 1}, {0, 1, 0}, {1, 0, 0}}, {{0, 0, 0}, {1, 0, 0}}, {{0, 0, 0}, {maxInt, 0, 0}}, {{1, 0, 0, 0, 1}, {1, 1, 0, 1, 1}}, make([][]int, 41), make([][]int, 42)} {
		runs = append(runs, run)
	}
	for _, s := range []string{"", "\n", "machine", "machine 0 1 1 1\nstart 0\nsend\n", "machine 0 1 1 1\nstart 0\nsend\nwhen 0 then 0\ngive 0 9\n", "machine 0 1 1 1\nstart 0\nsend\nwhen then 0\n", "give 0 0\n", "when\n", "when then\n", "machine * * * *\n", "machine -1 -1 -1 -1\n", "machine 999999 999999 999999 999999\n", "send send\n", "\xff\xfe", "\x00", strings.Repeat("start 0\n", 1000), strings.Repeat("when ", 1000)} {
		texts = append(texts, s)
	}
	return map[reflect.Type][]any{
		reflect.TypeFor[impl.Machine](): machines,
		reflect.TypeFor[impl.Network](): networks,
		reflect.TypeFor[int]():          numbers,
		reflect.TypeFor[[]int]():        lists,
		reflect.TypeFor[[][]int]():      runs,
		reflect.TypeFor[string]():       texts,
	}
}

func TestCallsOfChapter9KeepToTheirMemory(t *testing.T) {
	choices := argumentsOfChapter9(t)
	everyCall(t, "IsMachine", impl.IsMachine, choices)
	everyCall(t, "RunsOn", impl.RunsOn, choices)
	everyCall(t, "StartStates", impl.StartStates, choices)
	everyCall(t, "InboxesOf", impl.InboxesOf, choices)
	everyCall(t, "ClauseFor", impl.ClauseFor, choices)
	everyCall(t, "StepMachine", impl.StepMachine, choices)
	everyCall(t, "RunMachine", impl.RunMachine, choices)
	everyCall(t, "StatesAfter", impl.StatesAfter, choices)
	everyCall(t, "HaltingRound", impl.HaltingRound, choices)
	everyCall(t, "OutputsOf", impl.OutputsOf, choices)
	everyCall(t, "FirstFaultOfRun", impl.FirstFaultOfRun, choices)
	everyCall(t, "PeriodOf", impl.PeriodOf, choices)
	everyCall(t, "ReachableStates", impl.ReachableStates, choices)
	everyCall(t, "MachineText", impl.MachineText, choices)
	everyCall(t, "ParseMachine", impl.ParseMachine, choices)
}

func TestRunsOfSampleNetworksKeepToTheirMemory(t *testing.T) {
	for k, j := range jobs(t) {
		if k%9 > 0 {
			continue
		}
		states, run := startByHand(j.m, j.n), runByHand(j.m, j.n, 3)
		wantCleanCall(t, "RunsOn", impl.RunsOn, []any{j.m, j.n})
		wantCleanCall(t, "StartStates", impl.StartStates, []any{j.m, j.n})
		wantCleanCall(t, "InboxesOf", impl.InboxesOf, []any{j.m, j.n, states})
		wantCleanCall(t, "StepMachine", impl.StepMachine, []any{j.m, j.n, states})
		wantCleanCall(t, "RunMachine", impl.RunMachine, []any{j.m, j.n, 3})
		wantCleanCall(t, "StatesAfter", impl.StatesAfter, []any{j.m, j.n, 3})
		wantCleanCall(t, "HaltingRound", impl.HaltingRound, []any{j.m, j.n, 9})
		wantCleanCall(t, "OutputsOf", impl.OutputsOf, []any{j.m, j.n, 9})
		wantCleanCall(t, "FirstFaultOfRun", impl.FirstFaultOfRun, []any{j.m, j.n, run})
		wantCleanCall(t, "PeriodOf", impl.PeriodOf, []any{j.m, j.n, 9})
		wantCleanCall(t, "ReachableStates", impl.ReachableStates, []any{j.m})
		wantCleanCall(t, "MachineText", impl.MachineText, []any{j.m})
		wantCleanCall(t, "ParseMachine", impl.ParseMachine, []any{machineTextByHand(j.m)})
	}
}
