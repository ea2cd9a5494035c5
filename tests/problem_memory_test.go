package tests

import (
	"math/rand"
	"reflect"
	"testing"

	"loop.example/g01084/impl"
)

// argumentsOfChapter13 returns problems, networks, numbers, lists and labelings, some of which fit each other.
func argumentsOfChapter13(t *testing.T) map[reflect.Type][]any {
	choices := map[reflect.Type][]any{}
	add := func(values ...any) {
		for _, x := range values {
			choices[reflect.TypeOf(x)] = append(choices[reflect.TypeOf(x)], x)
		}
	}
	for _, p := range []impl.Problem{{}, knownProblem(), wholeProblem(1, 1), wholeProblem(8, 1), emptyProblem(8, 4), wholeProblem(3, 2), standardByRule("coloring", 2, 3), standardByRule("maximal", 3, 3), {Labels: 3, Degree: 2, Nodes: [][]int{{1, 0}}}, {Labels: 3, Degree: 2, Edges: [][]int{{0, 3}}}, {Labels: maxInt, Degree: maxInt}, {Labels: minInt, Degree: minInt, Nodes: [][]int{nil}}} {
		add(p)
	}
	add(impl.Network{}, bare(2), pair(), full(1), withEnd(1, 0), sure(t)(impl.CycleNetwork(3)), withIds(sure(t)(impl.PathNetwork(3)), 7, 8, 9))
	for _, x := range []int{minInt, -1, 0, 1, 2, 3, 4, 5, 8, 9, maxInt} {
		add(x)
	}
	for _, l := range [][]int{nil, {}, {0}, {1}, {-1}, {0, 0}, {1, 0}, {0, 1}, {0, 2}, {2, 1, 0}, {0, 1, 2}, {0, 1, 1}, {3, 1, 0, 2}, {7, 6, 5, 4, 3, 2, 1, 0}, {minInt, maxInt}, make([]int, 1000)} {
		add(l)
	}
	for _, l := range [][][]int{nil, {}, {nil}, {{}, {}}, {{0}, {1, 2}}, {{0}, {0, 0}}, {{0, 0, 0, 0, 0, 0}}, {{0, 0}, {1, 1}, {2, 2}}, {{0, 1}, {1, 2}, {2, 0}}, {{0}, {0, 0}, {0}}, {{2}, {0, 3}, {-1}}, make([][]int, 41), {{minInt}, {maxInt, 0}}} {
		add(l)
	}
	for _, s := range []string{"", "\n", "problem 1 1\n", "problem 3 2\nnode 0 0\nnode 1 2\nedge 0 1\n", "problem 3 2\nnode 0 0\nnode 2 1\nedge 0 1\n", "problem 3 2\nnode 0 0\nedge 0 1", problemTextByHand(wholeProblem(8, 4)), "problem 9 9\n", "\xff\x00"} {
		add(s)
	}
	return choices
}

func TestCallsOfChapter13KeepToTheirMemory(t *testing.T) {
	choices := argumentsOfChapter13(t)
	// The greatest problem alone, as it takes long to compare with everything.
	everyCall(t, "RenamingBetween", impl.RenamingBetween, map[reflect.Type][]any{reflect.TypeFor[impl.Problem](): {wholeProblem(8, 4)}})
	everyCall(t, "IsProblem", impl.IsProblem, choices)
	everyCall(t, "AllowsNode", impl.AllowsNode, choices)
	everyCall(t, "AllowsEdge", impl.AllowsEdge, choices)
	everyCall(t, "IsLabeling", impl.IsLabeling, choices)
	everyCall(t, "IsSolution", impl.IsSolution, choices)
	everyCall(t, "FirstFaultOfLabeling", impl.FirstFaultOfLabeling, choices)
	everyCall(t, "UsableLabels", impl.UsableLabels, choices)
	everyCall(t, "KeepLabels", impl.KeepLabels, choices)
	everyCall(t, "RenameLabels", impl.RenameLabels, choices)
	everyCall(t, "RenamingBetween", impl.RenamingBetween, choices)
	everyCall(t, "ProblemText", impl.ProblemText, choices)
	everyCall(t, "ParseProblem", impl.ParseProblem, choices)
	everyCall(t, "ColoringProblem", impl.ColoringProblem, choices)
	everyCall(t, "SinklessProblem", impl.SinklessProblem, choices)
	everyCall(t, "PerfectMatchingProblem", impl.PerfectMatchingProblem, choices)
	everyCall(t, "MaximalMatchingProblem", impl.MaximalMatchingProblem, choices)
	everyCall(t, "IndependentSetProblem", impl.IndependentSetProblem, choices)
}

func TestSampleProblemsKeepToTheirMemory(t *testing.T) {
	r := rand.New(rand.NewSource(155))
	networks := problemNetworks(t)
	for k, p := range sampleProblems() {
		if k%3 > 0 {
			continue
		}
		n := networks[k%len(networks)]
		l := randomLabeling(r, n, p.Labels)
		wantCleanCall(t, "IsProblem", impl.IsProblem, []any{p})
		wantCleanCall(t, "AllowsNode", impl.AllowsNode, []any{p, numbersBelow(r, p.Degree, 0, p.Labels)})
		wantCleanCall(t, "AllowsEdge", impl.AllowsEdge, []any{p, r.Intn(p.Labels), r.Intn(p.Labels)})
		wantCleanCall(t, "IsLabeling", impl.IsLabeling, []any{p, n, l})
		wantCleanCall(t, "IsSolution", impl.IsSolution, []any{p, n, l})
		wantCleanCall(t, "FirstFaultOfLabeling", impl.FirstFaultOfLabeling, []any{p, n, l})
		wantCleanCall(t, "UsableLabels", impl.UsableLabels, []any{p})
		wantCleanCall(t, "KeepLabels", impl.KeepLabels, []any{p, rising(p.Labels)[r.Intn(p.Labels):]})
		perm := r.Perm(p.Labels)
		wantCleanCall(t, "RenameLabels", impl.RenameLabels, []any{p, perm})
		wantCleanCall(t, "RenamingBetween", impl.RenamingBetween, []any{p, renamedByHand(p, perm)})
		wantCleanCall(t, "ProblemText", impl.ProblemText, []any{p})
		wantCleanCall(t, "ParseProblem", impl.ParseProblem, []any{problemTextByHand(p)})
	}
}
