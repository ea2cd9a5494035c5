package tests

import (
	"fmt"
	"math/rand"
	"slices"
	"testing"

	"loop.example/g01084/impl"
)

// wantFaults fails the test unless the labeling is a solution exactly if it has no fault, and its first fault is found. It returns the number of its faults.
func wantFaults(t *testing.T, p impl.Problem, n impl.Network, l [][]int) int {
	t.Helper()
	faults := faultsByHand(p, n, l)
	is, ok := impl.IsSolution(p, n, l)
	wantTruth(t, is, ok, len(faults) == 0, "solution", l, n, p)
	v, i, has := impl.FirstFaultOfLabeling(p, n, l)
	if len(faults) == 0 {
		refused(t, fmt.Sprint("fault of ", l, n, p), v, i, has)
	} else if !has || v != faults[0][0] || i != faults[0][1] {
		t.Fatalf("first fault of %v on %v for %v: %d %d %v, want %v", l, n, p, v, i, has, faults)
	}
	return len(faults)
}

func TestKnownFaults(t *testing.T) {
	three := problemOf(t, "problem 3 2", "node 0 0", "node 1 2", "edge 0 0", "edge 1 2", "edge 2 2")
	one := problemOf(t, "problem 2 1", "node 0", "edge 0 0")
	cycle := sure(t)(impl.CycleNetwork(3))
	path := sure(t)(impl.PathNetwork(3))
	stub, loop := sure(t)(impl.BouquetNetwork(1, 0)), sure(t)(impl.BouquetNetwork(0, 1))
	stubs := sure(t)(impl.BouquetNetwork(2, 0))
	twice := joined([]int{2, 2}, [4]int{0, 0, 1, 1}, [4]int{0, 1, 1, 0})
	none := [2]int{-9, -9}
	for _, c := range []struct {
		p     impl.Problem
		n     impl.Network
		l     [][]int
		fault [2]int
	}{
		{three, cycle, [][]int{{0, 0}, {0, 0}, {0, 0}}, none},
		{three, cycle, [][]int{{1, 2}, {1, 2}, {1, 2}}, none},
		{three, cycle, [][]int{{2, 1}, {2, 1}, {2, 1}}, none},
		{three, cycle, [][]int{{0, 0}, {0, 0}, {0, 1}}, [2]int{1, 0}},
		{three, cycle, [][]int{{1, 0}, {0, 0}, {0, 0}}, [2]int{0, -1}},
		{three, cycle, [][]int{{0, 0}, {1, 2}, {0, 0}}, [2]int{0, 0}},
		{three, cycle, [][]int{{0, 0}, {0, 0}, {2, 2}}, [2]int{0, 1}},
		{three, cycle, [][]int{{0, 0}, {2, 0}, {0, 0}}, [2]int{1, -1}},
		{three, cycle, [][]int{{1, 2}, {1, 2}, {2, 2}}, [2]int{2, -1}},
		{three, path, [][]int{{0}, {0, 0}, {0}}, none},
		{three, path, [][]int{{1}, {2, 1}, {2}}, none},
		{three, path, [][]int{{2}, {2, 1}, {2}}, none},
		{three, path, [][]int{{2}, {2, 2}, {2}}, [2]int{1, -1}},
		{three, path, [][]int{{2}, {1, 2}, {0}}, [2]int{1, 1}},
		{three, path, [][]int{{0}, {1, 2}, {2}}, [2]int{0, 0}},
		{three, path, [][]int{{0}, {1, 1}, {0}}, [2]int{0, 0}},
		{one, path, [][]int{{0}, {0, 0}, {0}}, none},
		{one, path, [][]int{{0}, {0, 1}, {0}}, [2]int{1, 1}},
		{one, path, [][]int{{0}, {0, 0}, {1}}, [2]int{1, 1}},
		{one, path, [][]int{{1}, {0, 0}, {0}}, [2]int{0, -1}},
		{one, stub, [][]int{{0}}, none},
		{one, stub, [][]int{{1}}, [2]int{0, -1}},
		{one, loop, [][]int{{0, 0}}, none},
		{one, loop, [][]int{{0, 1}}, [2]int{0, 0}},
		{three, stub, [][]int{{0}}, none},
		{three, stub, [][]int{{1}}, [2]int{0, 0}},
		{three, stub, [][]int{{2}}, none},
		{three, loop, [][]int{{1, 2}}, none},
		{three, loop, [][]int{{2, 1}}, none},
		{three, loop, [][]int{{2, 2}}, [2]int{0, -1}},
		{three, stubs, [][]int{{0, 0}}, none},
		{three, stubs, [][]int{{1, 2}}, [2]int{0, 0}},
		{three, stubs, [][]int{{2, 1}}, [2]int{0, 1}},
		{three, stubs, [][]int{{1, 1}}, [2]int{0, -1}},
		{three, twice, [][]int{{1, 2}, {1, 2}}, none},
		{three, twice, [][]int{{1, 2}, {2, 1}}, [2]int{0, 0}},
		{three, twice, [][]int{{2, 1}, {1, 2}}, [2]int{0, 1}},
		{three, twice, [][]int{{2, 2}, {2, 2}}, [2]int{0, -1}},
		{three, bare(2), [][]int{nil, nil}, none},
		{three, bare(2), [][]int{{}, {}}, none},
		{emptyProblem(3, 2), bare(1), [][]int{nil}, none},
		{emptyProblem(3, 2), stub, [][]int{{0}}, [2]int{0, 0}},
		{emptyProblem(3, 2), loop, [][]int{{0, 0}}, [2]int{0, -1}},
		{emptyProblem(3, 3), loop, [][]int{{0, 0}}, [2]int{0, 0}},
		{wholeProblem(8, 4), full(40), slices.Repeat([][]int{{7, 0, 1, 6, 5, 2}}, 40), none},
	} {
		v, i, ok := impl.FirstFaultOfLabeling(c.p, c.n, c.l)
		if c.fault == none {
			refused(t, fmt.Sprint("fault of ", c.l, c.n, c.p), v, i, ok)
		} else if !ok || v != c.fault[0] || i != c.fault[1] {
			t.Errorf("first fault of %v on %v for %v: %d %d %v, want %v", c.l, c.n, c.p, v, i, ok, c.fault)
		}
		is, ok := impl.IsSolution(c.p, c.n, c.l)
		wantTruth(t, is, ok, c.fault == none, "solution", c.l, c.n, c.p)
	}
}

// problemNetworks returns networks of all forms, with nodes of the degree of a problem and of others.
func problemNetworks(t *testing.T) []impl.Network {
	list := sampleNetworks()
	for k := 1; k <= 9; k++ {
		list = append(list, sure(t)(impl.PathNetwork(k)), sure(t)(impl.CycleNetwork(k)), line(k))
	}
	list = append(list, sure(t)(impl.CompleteNetwork(4)), sure(t)(impl.CompleteNetwork(5)), sure(t)(impl.RegularTree(3, 2)), sure(t)(impl.RegularTree(4, 2)), sure(t)(impl.HypercubeNetwork(3)))
	return list
}

// repaired changes labels at the first faults, so that some labelings become solutions and others have only a late fault.
func repaired(r *rand.Rand, p impl.Problem, n impl.Network, l [][]int, times int) {
	for range times {
		faults := faultsByHand(p, n, l)
		if len(faults) == 0 {
			return
		}
		v, i := faults[0][0], faults[0][1]
		if i >= 0 && len(p.Edges) > 0 {
			labels, e := p.Edges[r.Intn(len(p.Edges))], n.Ends[v][i]
			l[v][i], l[e.Node][e.Port] = labels[0], labels[1]
		} else if i < 0 && len(p.Nodes) > 0 {
			labels := slices.Clone(p.Nodes[r.Intn(len(p.Nodes))])
			r.Shuffle(len(labels), func(a, b int) { labels[a], labels[b] = labels[b], labels[a] })
			l[v] = labels
		}
	}
}

func TestFaultsOfLabelings(t *testing.T) {
	r := rand.New(rand.NewSource(143))
	networks := problemNetworks(t)
	counts := map[string]int{}
	for k, p := range sampleProblems() {
		for j := range 12 {
			n := networks[(12*k+j)%len(networks)]
			l := randomLabeling(r, n, p.Labels)
			repaired(r, p, n, l, 3*j)
			is, ok := impl.IsLabeling(p, n, l)
			wantTruth(t, is, ok, isLabelingByHand(p, n, l), "labeling", l, n, p)
			switch faults := wantFaults(t, p, n, l); {
			case faults < 2:
				counts[fmt.Sprint(faults)]++
			case faultsByHand(p, n, l)[0][0] > 0:
				counts["late"]++
			default:
				counts["many"]++
			}
		}
	}
	for _, key := range []string{"0", "1", "late", "many"} {
		if counts[key] < 100 {
			t.Error("labelings with numbers of faults:", counts)
		}
	}
}

// TestAllLabelingsOfSmallNetworks checks each of them node by node and edge by edge.
func TestAllLabelingsOfSmallNetworks(t *testing.T) {
	r := rand.New(rand.NewSource(144))
	counts := map[bool]int{}
	for _, degrees := range [][]int{{0}, {1}, {2}, {3}, {4}, {1, 1}, {2, 1}, {2, 2}, {1, 0, 1}, {1, 2, 1}} {
		for k, n := range smallNetworks(degrees...) {
			for range 2 {
				p := randomProblem(r, 1+r.Intn(3), 1+(k+r.Intn(2))%3)
				allLabelings(n, p.Labels, func(l [][]int) {
					counts[wantFaults(t, p, n, l) == 0]++
					want := true
					for v := range n.Ends {
						if len(l[v]) == p.Degree {
							is, ok := impl.AllowsNode(p, l[v])
							want = want && is && ok
						}
					}
					edges, _ := impl.EdgesOf(n)
					for _, e := range edges {
						is, ok := impl.AllowsEdge(p, l[e[0]][e[1]], l[e[2]][e[3]])
						want = want && is && ok
					}
					is, ok := impl.IsSolution(p, n, l)
					wantTruth(t, is, ok, want, "solution", l, n, p)
				})
			}
		}
	}
	if counts[true] < 500 || counts[false] < 500 {
		t.Error("solutions or not:", counts)
	}
}

func TestNamesAndInputsDoNotMatter(t *testing.T) {
	p := sureProblem(t)(impl.MaximalMatchingProblem(2))
	for _, n := range []impl.Network{sure(t)(impl.CycleNetwork(3)), sure(t)(impl.PathNetwork(4))} {
		nodes := len(n.Ends)
		other := withIds(withInputs(n, shifted(rising(nodes), 1, 5)...), idsUpTo(nodes)...)
		allLabelings(n, 3, func(l [][]int) {
			if wantFaults(t, p, n, l) != wantFaults(t, p, other, l) {
				t.Fatal("names matter", n)
			}
		})
	}
}

// solutionsOf counts the solutions of a problem on a network.
func solutionsOf(t *testing.T, p impl.Problem, n impl.Network) int {
	t.Helper()
	count := 0
	allLabelings(n, p.Labels, func(l [][]int) {
		if is, ok := impl.IsSolution(p, n, l); is && ok {
			count++
		}
	})
	return count
}

// TestNumbersOfSolutions knows how many colourings, orientations, matchings and independent sets there are.
func TestNumbersOfSolutions(t *testing.T) {
	coloring := func(d, k int) impl.Problem { return sureProblem(t)(impl.ColoringProblem(d, k)) }
	sinkless := func(d int) impl.Problem { return sureProblem(t)(impl.SinklessProblem(d)) }
	perfect := func(d int) impl.Problem { return sureProblem(t)(impl.PerfectMatchingProblem(d)) }
	maximal := func(d int) impl.Problem { return sureProblem(t)(impl.MaximalMatchingProblem(d)) }
	independent := func(d int) impl.Problem { return sureProblem(t)(impl.IndependentSetProblem(d)) }
	cycle := func(k int) impl.Network { return sure(t)(impl.CycleNetwork(k)) }
	three := joined([]int{3, 3}, [4]int{0, 0, 1, 0}, [4]int{0, 1, 1, 2}, [4]int{0, 2, 1, 1})
	four := joined([]int{4, 4}, [4]int{0, 0, 1, 0}, [4]int{0, 1, 1, 2}, [4]int{0, 2, 1, 1}, [4]int{0, 3, 1, 3})
	complete := sure(t)(impl.CompleteNetwork(4))
	two := sure(t)(impl.PathNetwork(2))
	for _, c := range []struct {
		name string
		p    impl.Problem
		n    impl.Network
		want int
	}{
		{"3 colours on 3", coloring(2, 3), cycle(3), 6},
		{"3 colours on 4", coloring(2, 3), cycle(4), 18},
		{"2 colours on 3", coloring(2, 2), cycle(3), 0},
		{"2 colours on 4", coloring(2, 2), cycle(4), 2},
		{"2 colours on 6", coloring(2, 2), cycle(6), 2},
		{"1 colour on 3", coloring(2, 1), cycle(3), 0},
		{"4 colours on 3", coloring(2, 4), cycle(3), 24},
		{"3 colours on a loop", coloring(2, 3), cycle(1), 0},
		{"8 colours on 2", coloring(1, 8), two, 56},
		{"4 colours on a triple edge", coloring(3, 4), three, 12},
		{"2 colours on a fourfold edge", coloring(4, 2), four, 2},
		{"sinkless on 3", sinkless(2), cycle(3), 2},
		{"sinkless on 6", sinkless(2), cycle(6), 2},
		{"sinkless on 2", sinkless(1), two, 0},
		{"sinkless on a triple edge", sinkless(3), three, 6},
		{"sinkless on a fourfold edge", sinkless(4), four, 14},
		{"sinkless on the complete network", sinkless(3), complete, 32},
		{"perfect on 3", perfect(2), cycle(3), 0},
		{"perfect on 4", perfect(2), cycle(4), 2},
		{"perfect on 6", perfect(2), cycle(6), 2},
		{"perfect on 2", perfect(1), two, 1},
		{"perfect on a triple edge", perfect(3), three, 3},
		{"perfect on a fourfold edge", perfect(4), four, 4},
		{"perfect on the complete network", perfect(3), complete, 3},
		{"maximal on 3", maximal(2), cycle(3), 3},
		{"maximal on 4", maximal(2), cycle(4), 2},
		{"maximal on 5", maximal(2), cycle(5), 5},
		{"maximal on 2", maximal(1), two, 1},
		{"maximal on a triple edge", maximal(3), three, 3},
		// A node beside two nodes of the set points to one of them.
		{"independent on 3", independent(2), cycle(3), 3},
		{"independent on 4", independent(2), cycle(4), 8},
		{"independent on 5", independent(2), cycle(5), 10},
		{"independent on 2", independent(1), two, 2},
		{"independent on a triple edge", independent(3), three, 6},
	} {
		if got := solutionsOf(t, c.p, c.n); got != c.want {
			t.Errorf("%s: %d solutions, want %d", c.name, got, c.want)
		}
	}
}

// TestRenamedSolutions renames labelings with their problems, which keeps all faults.
func TestRenamedSolutions(t *testing.T) {
	r := rand.New(rand.NewSource(145))
	networks := problemNetworks(t)
	counts := map[bool]int{}
	for k, p := range sampleProblems() {
		n := networks[k%len(networks)]
		perm := r.Perm(p.Labels)
		q := sureProblem(t)(impl.RenameLabels(p, perm))
		for j := range 10 {
			l := randomLabeling(r, n, p.Labels)
			repaired(r, p, n, l, 4*j)
			m := relabeled(l, perm)
			before, after := fmt.Sprint(impl.FirstFaultOfLabeling(p, n, l)), fmt.Sprint(impl.FirstFaultOfLabeling(q, n, m))
			is, ok := impl.IsSolution(p, n, l)
			still, fine := impl.IsSolution(q, n, m)
			if before != after || !ok || !fine || is != still {
				t.Fatalf("%v on %v for %v: %s %v, renamed by %v: %s %v", l, n, p, before, is, perm, after, still)
			}
			counts[is]++
		}
	}
	if counts[true] < 100 || counts[false] < 100 {
		t.Error("solutions or not:", counts)
	}
}

// TestLabelsOfSolutionsAreUsable tries all labelings of networks in which all nodes have the degree of a problem.
func TestLabelsOfSolutionsAreUsable(t *testing.T) {
	r := rand.New(rand.NewSource(146))
	found := 0
	for k := range 300 {
		d := 1 + k%4
		n := sure(t)(impl.BouquetNetwork(d, 0))
		if k%2 == 0 {
			n = joined([]int{d, d})
			for i := range d {
				n.Ends[0][i], n.Ends[1][i] = impl.End{Node: 1, Port: i}, impl.End{Node: 0, Port: i}
			}
		}
		p := randomProblem(r, 1+r.Intn(3), d)
		usable, ok := impl.UsableLabels(p)
		wantList(t, usable, ok, usableByHand(p), "usable labels", p)
		allLabelings(n, p.Labels, func(l [][]int) {
			if is, _ := impl.IsSolution(p, n, l); !is {
				return
			}
			found++
			for _, a := range slices.Concat(l...) {
				if !slices.Contains(usable, a) {
					t.Fatalf("%d is not usable, but in %v on %v for %v", a, l, n, p)
				}
			}
		})
	}
	if found < 1000 {
		t.Error("few solutions:", found)
	}
}
