package tests

import (
	"fmt"
	"slices"
	"testing"

	"loop.example/g01084/impl"
)

type namedProblem struct {
	name string
	p    impl.Problem
}

// knownProblem has two labels beside each other at nodes and on edges, so that each of its numbers can be broken.
func knownProblem() impl.Problem {
	return impl.Problem{Labels: 3, Degree: 2, Nodes: [][]int{{0, 0}, {0, 2}, {1, 2}}, Edges: [][]int{{0, 1}, {1, 1}, {1, 2}}}
}

// brokenProblems returns values that are no problems, most of them by one part only.
func brokenProblems() []namedProblem {
	list := []namedProblem{{"zero value", impl.Problem{}}, {"no labels but configurations", impl.Problem{Degree: 2, Nodes: knownProblem().Nodes}}}
	add := func(name string, change func(p *impl.Problem)) {
		p := knownProblem()
		change(&p)
		list = append(list, namedProblem{name, p})
	}
	for _, x := range append(outside(1, 8), 0, 9) {
		add(fmt.Sprint(x, " labels"), func(p *impl.Problem) { p.Labels = x })
		list = append(list, namedProblem{fmt.Sprint(x, " labels alone"), emptyProblem(x, 2)})
	}
	for _, x := range append(outside(1, 4), 0, 5) {
		add(fmt.Sprint("degree ", x), func(p *impl.Problem) { p.Degree = x })
		list = append(list, namedProblem{fmt.Sprint("degree ", x, " alone"), emptyProblem(3, x)})
	}
	add("too few labels", func(p *impl.Problem) { p.Labels = 2 })
	add("degree 1 with pairs", func(p *impl.Problem) { p.Degree = 1 })
	add("degree 3 with pairs", func(p *impl.Problem) { p.Degree = 3 })
	list = append(list, namedProblem{"degree 5 with nodes of it", impl.Problem{Labels: 1, Degree: 5, Nodes: [][]int{{0, 0, 0, 0, 0}}}})
	list = append(list, namedProblem{"9 labels with all edges", impl.Problem{Labels: 9, Degree: 1, Edges: configurationsByHand(9, 2)}})
	for side := range 2 {
		part := func(p *impl.Problem) *[][]int {
			if side == 0 {
				return &p.Nodes
			}
			return &p.Edges
		}
		word := []string{"nodes", "edges"}[side]
		for _, x := range append(outside(0, 2), -1, 3) {
			for k := range 3 {
				for i := range 2 {
					add(fmt.Sprint(word, ": ", x, " at ", k, " ", i), func(p *impl.Problem) { (*part(p))[k][i] = x })
				}
				add(fmt.Sprint(word, ": ", x, " alone"), func(p *impl.Problem) { *part(p) = [][]int{{x, x}} })
			}
		}
		for k := range 3 {
			for _, l := range [][]int{nil, {}, {0}, {1}, {2}, {0, 0, 0}, {0, 1, 2}, {2, 2, 2}, {1, 0}, {2, 0}, {2, 1}} {
				add(fmt.Sprint(word, ": ", l, " at ", k), func(p *impl.Problem) { (*part(p))[k] = l })
				add(fmt.Sprint(word, ": ", l, " alone"), func(p *impl.Problem) { *part(p) = [][]int{l} })
			}
			add(fmt.Sprint(word, ": twice ", k), func(p *impl.Problem) { *part(p) = slices.Insert(*part(p), k, slices.Clone((*part(p))[k])) })
			add(fmt.Sprint(word, ": again ", k), func(p *impl.Problem) { *part(p) = append(*part(p), slices.Clone((*part(p))[k])) })
			add(fmt.Sprint(word, ": exchanged ", k), func(p *impl.Problem) {
				list := *part(p)
				list[k], list[(k+1)%3] = list[(k+1)%3], list[k]
			})
		}
		add(word+": backwards", func(p *impl.Problem) { slices.Reverse(*part(p)) })
		add(word+": one list", func(p *impl.Problem) { *part(p) = [][]int{slices.Concat(*part(p)...)} })
		add(word+": very many", func(p *impl.Problem) { *part(p) = slices.Repeat(*part(p), 10000) })
	}
	return list
}

// wantNoUseOfProblem fails the test unless all functions fail for a problem, or for a network that is none.
func wantNoUseOfProblem(t *testing.T, what string, p impl.Problem, n impl.Network, l [][]int) {
	t.Helper()
	is, ok := impl.IsLabeling(p, n, l)
	refused(t, what+": labeling", is, ok)
	is, ok = impl.IsSolution(p, n, l)
	refused(t, what+": solution", is, ok)
	v, i, ok := impl.FirstFaultOfLabeling(p, n, l)
	refused(t, what+": fault", v, i, ok)
}

func TestBrokenProblemsAreRefused(t *testing.T) {
	good := knownProblem()
	if !impl.IsProblem(good) {
		t.Fatal("no problem:", good)
	}
	cycle := sure(t)(impl.CycleNetwork(3))
	for _, c := range brokenProblems() {
		if impl.IsProblem(c.p) || isProblemByHand(c.p) {
			t.Errorf("%s: taken for a problem", c.name)
		}
		for _, l := range [][]int{nil, {0}, {0, 0}, {1, 2}, {0, 0, 0}} {
			is, ok := impl.AllowsNode(c.p, l)
			refused(t, c.name+": node", is, ok)
			is, ok = impl.AllowsEdge(c.p, len(l), 0)
			refused(t, c.name+": edge", is, ok)
			kept, ok := impl.KeepLabels(c.p, l)
			refused(t, c.name+": kept", kept, ok)
		}
		for _, n := range []impl.Network{cycle, bare(1), {}} {
			for _, l := range [][][]int{nil, {nil}, {{}}, {{0, 0}, {0, 0}, {0, 0}}, {{0, 1}, {1, 2}, {0, 0}}} {
				wantNoUseOfProblem(t, c.name, c.p, n, l)
			}
		}
		usable, ok := impl.UsableLabels(c.p)
		refused(t, c.name+": usable", usable, ok)
		kept, ok := impl.KeepLabels(c.p, []int{0, 1})
		refused(t, c.name+": kept", kept, ok)
		for _, perm := range [][]int{nil, {0}, {0, 1, 2}, rising(9)} {
			q, ok := impl.RenameLabels(c.p, perm)
			refused(t, c.name+": renamed", q, ok)
		}
		for _, two := range [][2]impl.Problem{{c.p, c.p}, {c.p, good}, {good, c.p}} {
			perm, ok := impl.RenamingBetween(two[0], two[1])
			refused(t, c.name+": renaming", perm, ok)
		}
		text, ok := impl.ProblemText(c.p)
		refused(t, c.name+": text", text, ok)
	}
}

func TestBrokenNetworksHaveNoSolutions(t *testing.T) {
	for _, c := range brokenNetworks() {
		zero, short := [][]int{}, [][]int{}
		for _, list := range c.n.Ends {
			zero = append(zero, make([]int, len(list)))
			short = append(short, make([]int, max(0, len(list)-1)))
		}
		for _, p := range []impl.Problem{knownProblem(), wholeProblem(1, 1), emptyProblem(8, 4), {}} {
			for _, l := range [][][]int{nil, {nil}, {{0}}, {{0}, {0}}, zero, short} {
				wantNoUseOfProblem(t, c.name, p, c.n, l)
			}
		}
	}
}

// TestListsThatAreNoLabelingsOfAProblem are no labelings, and so have neither faults nor solutions.
func TestListsThatAreNoLabelingsOfAProblem(t *testing.T) {
	path := sure(t)(impl.PathNetwork(3))
	lists := [][][]int{nil, {}, {{0}, {0, 0}}, {{0}, {0, 0}, {0}, {}}, {{0}, {0, 0}, {0}, {0}}, {{0, 0}, {0}, {0}}, {{}, {0, 0}, {0}}, {{0}, {0}, {0}}, {{0}, {0, 0}, {}}, {{0}, {0, 0}, nil}, {{0}, {0, 0, 0}, {0}}, {{0, 0}, {0, 0}, {0}}, {{0}, {0, 0}, {0, 0}}, {{0, 0, 0, 0}, nil, nil}, {nil, nil, nil}, make([][]int, 1000), {make([]int, 1000), {0, 0}, {0}}, {{0, 0, 0, 0}}}
	for _, x := range append(outside(0, 2), -1, 3, 7) {
		lists = append(lists, [][]int{{x}, {0, 0}, {0}}, [][]int{{0}, {x, 0}, {0}}, [][]int{{0}, {0, x}, {0}}, [][]int{{0}, {0, 0}, {x}}, [][]int{{x}, {x, x}, {x}})
	}
	for _, p := range []impl.Problem{knownProblem(), wholeProblem(3, 2), emptyProblem(3, 2), wholeProblem(3, 4)} {
		for _, l := range lists {
			is, ok := impl.IsLabeling(p, path, l)
			wantTruth(t, is, ok, false, "labeling", l)
			is, ok = impl.IsSolution(p, path, l)
			refused(t, fmt.Sprint("solution ", l), is, ok)
			v, i, ok := impl.FirstFaultOfLabeling(p, path, l)
			refused(t, fmt.Sprint("fault ", l), v, i, ok)
		}
		for _, l := range [][][]int{{{0}, {0, 0}, {0}}, {{2}, {0, 2}, {1}}, {{2}, {2, 2}, {2}}} {
			is, ok := impl.IsLabeling(p, path, l)
			wantTruth(t, is, ok, true, "labeling", l)
		}
	}
	for _, n := range []impl.Network{bare(1), bare(40), full(1), full(40)} {
		zero := [][]int{}
		for _, list := range n.Ends {
			zero = append(zero, make([]int, len(list)))
		}
		for _, l := range [][][]int{zero, zero[1:], append(slices.Clone(zero), nil), append(slices.Clone(zero[1:]), []int{0})} {
			is, ok := impl.IsLabeling(wholeProblem(1, 1), n, l)
			wantTruth(t, is, ok, isLabelingByHand(wholeProblem(1, 1), n, l), "labeling of", n, l)
		}
	}
}

// TestLabelsBeyondTheLastOne has each number of labels.
func TestLabelsBeyondTheLastOne(t *testing.T) {
	stub := sure(t)(impl.BouquetNetwork(1, 0))
	for labels := 1; labels <= 8; labels++ {
		p := wholeProblem(labels, 1)
		for _, x := range append(outside(0, labels-1), 0, labels-1, labels) {
			want := x >= 0 && x < labels
			is, ok := impl.IsLabeling(p, stub, [][]int{{x}})
			wantTruth(t, is, ok, want, "label", x, "of", labels)
			for _, results := range [][2]bool{two(impl.IsSolution(p, stub, [][]int{{x}})), two(impl.AllowsNode(p, []int{x})), two(impl.AllowsEdge(p, x, 0)), two(impl.AllowsEdge(p, 0, x)), two(impl.AllowsEdge(p, x, x))} {
				if results != [2]bool{want, want} {
					t.Errorf("label %d of %d: %v, want %v", x, labels, results, want)
				}
			}
			kept, ok := impl.KeepLabels(p, []int{x})
			wantProblem(t, kept, ok, wholeProblem(1, 1), want, "keep", x, "of", labels)
		}
	}
}

func two(is, ok bool) [2]bool {
	return [2]bool{is, ok}
}

func TestListsOfLabelsThatCannotBeKept(t *testing.T) {
	p := wholeProblem(4, 2)
	lists := [][]int{nil, {}, {0, 0}, {1, 0}, {0, 2, 1}, {0, 1, 1}, {3, 2, 1, 0}, {0, 1, 2, 3, 3}, {0, 1, 2, 3, 4}, make([]int, 1000), rising(1000)}
	for _, x := range append(outside(0, 3), -1, 4) {
		lists = append(lists, []int{x}, []int{x, 1}, []int{1, x}, []int{0, x, 3}, []int{0, 1, 2, x})
	}
	for _, keep := range lists {
		kept, ok := impl.KeepLabels(p, keep)
		refused(t, fmt.Sprint("keep ", keep), kept, ok)
	}
}

func TestListsThatDoNotRename(t *testing.T) {
	for labels := 1; labels <= 8; labels++ {
		p := wholeProblem(labels, 2)
		right := rising(labels)
		lists := [][]int{nil, {}, right[1:], append(rising(labels), labels), append(rising(labels), 0), slices.Repeat(right, 2), make([]int, labels+1), make([]int, 1000), rising(1000)}
		for _, x := range append(outside(0, labels-1), -1, labels) {
			for k := range labels {
				list := rising(labels)
				list[k] = x
				lists = append(lists, list)
			}
		}
		for k := 1; k < labels; k++ {
			list := rising(labels)
			list[k] = list[k-1]
			lists = append(lists, list, make([]int, labels))
		}
		for _, perm := range lists {
			q, ok := impl.RenameLabels(p, perm)
			refused(t, fmt.Sprint("renamed by ", perm), q, ok)
		}
	}
}

func TestListsThatAreNoNodes(t *testing.T) {
	for degree := 1; degree <= 4; degree++ {
		p := wholeProblem(3, degree)
		for length := range 8 {
			is, ok := impl.AllowsNode(p, make([]int, length))
			if want := length == degree; is != want || ok != want {
				t.Errorf("%d labels at a node of degree %d: %v %v", length, degree, is, ok)
			}
		}
		for _, x := range append(outside(0, 2), -1, 3) {
			for k := range degree {
				list := make([]int, degree)
				list[k] = x
				is, ok := impl.AllowsNode(p, list)
				refused(t, fmt.Sprint("node ", list), is, ok)
			}
		}
		is, ok := impl.AllowsNode(p, make([]int, 100000))
		refused(t, "very many labels", is, ok)
	}
}
