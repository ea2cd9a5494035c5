package tests

import (
	"math/rand"
	"slices"
	"testing"

	"loop.example/g01084/impl"
)

func TestExampleOfChapter13(t *testing.T) {
	p, ok := impl.ColoringProblem(2, 3)
	want := impl.Problem{Labels: 3, Degree: 2, Nodes: [][]int{{0, 0}, {1, 1}, {2, 2}}, Edges: [][]int{{0, 1}, {0, 2}, {1, 2}}}
	wantProblem(t, p, ok, want, true, "three colours")
	cycle := sure(t)(impl.CycleNetwork(3))
	is, ok := impl.IsSolution(p, cycle, [][]int{{0, 0}, {1, 1}, {2, 2}})
	wantTruth(t, is, ok, true, "the solution of the cycle")
}

func TestLimitsOfProblems(t *testing.T) {
	if impl.MaxLabels != 8 || impl.MaxArity != 4 {
		t.Error(impl.MaxLabels, impl.MaxArity)
	}
}

func TestStandardProblemsAreWrittenOut(t *testing.T) {
	coloring := func(d, k int) (impl.Problem, bool) { return impl.ColoringProblem(d, k) }
	for _, c := range []struct {
		name  string
		make  func() (impl.Problem, bool)
		lines []string
	}{
		{"one colour", func() (impl.Problem, bool) { return coloring(1, 1) }, []string{"problem 1 1", "node 0"}},
		{"two colours", func() (impl.Problem, bool) { return coloring(1, 2) }, []string{"problem 2 1", "node 0", "node 1", "edge 0 1"}},
		{"one colour of degree 4", func() (impl.Problem, bool) { return coloring(4, 1) }, []string{"problem 1 4", "node 0 0 0 0"}},
		{"four colours", func() (impl.Problem, bool) { return coloring(3, 4) }, []string{"problem 4 3", "node 0 0 0", "node 1 1 1", "node 2 2 2", "node 3 3 3", "edge 0 1", "edge 0 2", "edge 0 3", "edge 1 2", "edge 1 3", "edge 2 3"}},
		{"sinkless 1", func() (impl.Problem, bool) { return impl.SinklessProblem(1) }, []string{"problem 2 1", "node 0", "edge 0 1"}},
		{"sinkless 2", func() (impl.Problem, bool) { return impl.SinklessProblem(2) }, []string{"problem 2 2", "node 0 0", "node 0 1", "edge 0 1"}},
		{"sinkless 4", func() (impl.Problem, bool) { return impl.SinklessProblem(4) }, []string{"problem 2 4", "node 0 0 0 0", "node 0 0 0 1", "node 0 0 1 1", "node 0 1 1 1", "edge 0 1"}},
		{"perfect 1", func() (impl.Problem, bool) { return impl.PerfectMatchingProblem(1) }, []string{"problem 2 1", "node 0", "edge 0 0", "edge 1 1"}},
		{"perfect 2", func() (impl.Problem, bool) { return impl.PerfectMatchingProblem(2) }, []string{"problem 2 2", "node 0 1", "edge 0 0", "edge 1 1"}},
		{"perfect 4", func() (impl.Problem, bool) { return impl.PerfectMatchingProblem(4) }, []string{"problem 2 4", "node 0 1 1 1", "edge 0 0", "edge 1 1"}},
		{"maximal 1", func() (impl.Problem, bool) { return impl.MaximalMatchingProblem(1) }, []string{"problem 3 1", "node 0", "node 2", "edge 0 0", "edge 1 1", "edge 1 2"}},
		{"maximal 3", func() (impl.Problem, bool) { return impl.MaximalMatchingProblem(3) }, []string{"problem 3 3", "node 0 1 1", "node 2 2 2", "edge 0 0", "edge 1 1", "edge 1 2"}},
		{"independent 1", func() (impl.Problem, bool) { return impl.IndependentSetProblem(1) }, []string{"problem 3 1", "node 0", "node 1", "edge 0 1", "edge 0 2", "edge 2 2"}},
		{"independent 3", func() (impl.Problem, bool) { return impl.IndependentSetProblem(3) }, []string{"problem 3 3", "node 0 0 0", "node 1 2 2", "edge 0 1", "edge 0 2", "edge 2 2"}},
	} {
		p, ok := c.make()
		wantProblem(t, p, ok, problemOf(t, c.lines...), true, c.name)
	}
}

// TestStandardProblems has each degree and each number of labels at and beyond the limits.
func TestStandardProblems(t *testing.T) {
	degrees := append(outside(1, 4), 0, 1, 2, 3, 4, 5, 6, 8)
	for _, d := range degrees {
		is := d >= 1 && d <= 4
		rule := func(name string, labels int) impl.Problem {
			if !is {
				return impl.Problem{}
			}
			return standardByRule(name, d, labels)
		}
		for _, k := range append(outside(1, 8), 0, 1, 2, 3, 4, 5, 6, 7, 8, 9, 10) {
			fits := is && k >= 1 && k <= 8
			want := impl.Problem{}
			if fits {
				want = rule("coloring", k)
			}
			p, ok := impl.ColoringProblem(d, k)
			wantProblem(t, p, ok, want, fits, "coloring", d, k)
		}
		p, ok := impl.SinklessProblem(d)
		wantProblem(t, p, ok, rule("sinkless", 2), is, "sinkless", d)
		p, ok = impl.PerfectMatchingProblem(d)
		wantProblem(t, p, ok, rule("perfect", 2), is, "perfect", d)
		p, ok = impl.MaximalMatchingProblem(d)
		wantProblem(t, p, ok, rule("maximal", 3), is, "maximal", d)
		p, ok = impl.IndependentSetProblem(d)
		wantProblem(t, p, ok, rule("independent", 3), is, "independent", d)
	}
}

func TestProblemsAreProblems(t *testing.T) {
	for _, p := range sampleProblems() {
		if !isProblemByHand(p) || !impl.IsProblem(p) {
			t.Fatal("no problem:", p)
		}
	}
}

// TestAllFewConfigurations takes all lists of up to three configurations of few labels, in any order and also more than once.
func TestAllFewConfigurations(t *testing.T) {
	counts := map[bool]int{}
	for _, c := range []struct{ labels, degree int }{{1, 1}, {2, 1}, {1, 2}, {2, 2}} {
		rows := [][]int{}
		for length := c.degree - 1; length <= c.degree+1; length++ {
			allLists(length, []int{-1, 0, 1, 2}, func(l []int) { rows = append(rows, l) })
		}
		for count := range 3 {
			allLists(count, rising(len(rows)), func(places []int) {
				p := impl.Problem{Labels: c.labels, Degree: c.degree}
				for _, k := range places {
					p.Nodes = append(p.Nodes, rows[k])
				}
				want := isProblemByHand(p)
				if is := impl.IsProblem(p); is != want {
					t.Fatalf("%v: %v, want %v", p, is, want)
				}
				counts[want]++
			})
		}
	}
	if counts[true] < 15 || counts[false] < 5000 {
		t.Error("problems or not:", counts)
	}
}

// TestProblemsWithOneChange changes one number of a problem, or the order of its configurations.
func TestProblemsWithOneChange(t *testing.T) {
	r := rand.New(rand.NewSource(142))
	counts := map[bool]int{}
	for k := range 4000 {
		p := copiedProblem(randomProblem(r, 1+k%8, 1+k%4))
		list := &p.Nodes
		if r.Intn(2) == 0 {
			list = &p.Edges
		}
		if len(*list) == 0 {
			continue
		}
		at := r.Intn(len(*list))
		row := &(*list)[at]
		switch r.Intn(8) {
		case 0:
			(*row)[r.Intn(len(*row))] = r.Intn(p.Labels)
		case 1:
			(*row)[r.Intn(len(*row))] = []int{-1, p.Labels, minInt, maxInt}[r.Intn(4)]
		case 2:
			*row = (*row)[1:]
		case 3:
			*row = append(*row, p.Labels-1)
		case 4:
			*list = slices.Insert(*list, at, slices.Clone(*row))
		case 5:
			other := r.Intn(len(*list))
			(*list)[at], (*list)[other] = (*list)[other], (*list)[at]
		case 6:
			p.Labels += r.Intn(3) - 1
		case 7:
			p.Degree += r.Intn(3) - 1
		}
		want := isProblemByHand(p)
		if is := impl.IsProblem(p); is != want {
			t.Fatalf("%v: %v, want %v", p, is, want)
		}
		counts[want]++
	}
	if counts[true] < 300 || counts[false] < 300 {
		t.Error("problems or not:", counts)
	}
}

// TestAllowedLabels asks for each list of labels, in any order, and for lists that are none.
func TestAllowedLabels(t *testing.T) {
	for k, p := range sampleProblems() {
		values := append([]int{-1}, rising(p.Labels+1)...)
		if p.Labels > 3 && k%4 > 0 {
			values = []int{0, p.Labels / 2, p.Labels - 1, p.Labels}
		}
		for length := p.Degree - 1; length <= p.Degree+1; length++ {
			if length == 5 || length > p.Degree && p.Labels > 5 {
				continue
			}
			allLists(length, values, func(l []int) {
				is, ok := impl.AllowsNode(p, l)
				want := length == p.Degree && areLabels(l, p.Labels)
				if ok != want || is != (want && allowsByHand(p.Nodes, l)) {
					t.Fatalf("node %v of %v: %v %v", l, p, is, ok)
				}
			})
		}
		allLists(2, append([]int{-1}, rising(p.Labels+1)...), func(l []int) {
			is, ok := impl.AllowsEdge(p, l[0], l[1])
			want := areLabels(l, p.Labels)
			if ok != want || is != (want && allowsByHand(p.Edges, l)) {
				t.Fatalf("edge %v of %v: %v %v", l, p, is, ok)
			}
		})
	}
}

func areLabels(l []int, labels int) bool {
	return !slices.ContainsFunc(l, func(a int) bool { return a < 0 || a >= labels })
}
