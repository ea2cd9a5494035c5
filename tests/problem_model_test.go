package tests

import (
	"fmt"
	"math/rand"
	"regexp"
	"slices"
	"strings"
	"testing"

	"loop.example/g01084/impl"
)

// configurationsByHand lists all that there may be, in their order.
func configurationsByHand(labels, length int) [][]int {
	list := [][]int{}
	allLists(length, rising(labels), func(l []int) {
		if slices.IsSorted(l) {
			list = append(list, l)
		}
	})
	return list
}

// isPartOf reports whether the lists are some of all of them, in the same order and each at most once.
func isPartOf(lists, all [][]int) bool {
	for _, l := range lists {
		at := slices.IndexFunc(all, func(other []int) bool { return slices.Equal(l, other) })
		if at < 0 {
			return false
		}
		all = all[at+1:]
	}
	return true
}

func isProblemByHand(p impl.Problem) bool {
	if !slices.Contains([]int{1, 2, 3, 4, 5, 6, 7, 8}, p.Labels) || !slices.Contains([]int{1, 2, 3, 4}, p.Degree) {
		return false
	}
	return isPartOf(p.Nodes, configurationsByHand(p.Labels, p.Degree)) && isPartOf(p.Edges, configurationsByHand(p.Labels, 2))
}

// tally counts each label of a list, so that the order does not matter.
func tally(l []int) [8]int {
	counts := [8]int{}
	for _, a := range l {
		counts[a]++
	}
	return counts
}

func allowsByHand(configurations [][]int, l []int) bool {
	return slices.ContainsFunc(configurations, func(other []int) bool { return tally(other) == tally(l) })
}

func isLabelingByHand(p impl.Problem, n impl.Network, l [][]int) bool {
	if len(l) != len(n.Ends) {
		return false
	}
	labels := rising(p.Labels)
	for v, list := range l {
		if len(list) != len(n.Ends[v]) || slices.ContainsFunc(list, func(a int) bool { return !slices.Contains(labels, a) }) {
			return false
		}
	}
	return true
}

// faultsByHand lists all faults of a labeling in their order.
func faultsByHand(p impl.Problem, n impl.Network, l [][]int) [][]int {
	faults := [][]int{}
	for _, e := range edgeEnds(n) {
		a, b := l[e[0].Node][e[0].Port], l[e[1].Node][e[1].Port]
		if !allowsByHand(p.Edges, []int{a, b}) {
			faults = append(faults, []int{e[0].Node, e[0].Port})
		}
	}
	for v, labels := range l {
		if len(labels) == p.Degree && !allowsByHand(p.Nodes, labels) {
			faults = append(faults, []int{v, -1})
		}
	}
	slices.SortFunc(faults, slices.Compare)
	return faults
}

// setOf returns the set of the labels of a list, as a sum of powers of 2.
func setOf(l []int) int {
	set := 0
	for _, a := range l {
		set |= 1 << a
	}
	return set
}

// usesByHand returns the set of the labels in configurations that have labels of a set alone.
func usesByHand(configurations [][]int, set int) int {
	used := 0
	for _, l := range configurations {
		if setOf(l)&^set == 0 {
			used |= setOf(l)
		}
	}
	return used
}

// usableByHand tries all sets of labels, and puts together those in which each label is used.
func usableByHand(p impl.Problem) []int {
	union := 0
	for set := range 1 << p.Labels {
		if usesByHand(p.Nodes, set) == set && usesByHand(p.Edges, set) == set {
			union |= set
		}
	}
	return slices.DeleteFunc(rising(p.Labels), func(a int) bool { return union>>a&1 == 0 })
}

// withLabels returns the problem whose label x stands for the label old[x] of p.
func withLabels(p impl.Problem, old []int) impl.Problem {
	q := impl.Problem{Labels: len(old), Degree: p.Degree}
	chosen := func(configurations [][]int, length int) [][]int {
		return slices.DeleteFunc(configurationsByHand(len(old), length), func(l []int) bool {
			return !allowsByHand(configurations, relabeled([][]int{l}, old)[0])
		})
	}
	q.Nodes, q.Edges = chosen(p.Nodes, p.Degree), chosen(p.Edges, 2)
	return q
}

// turned returns the permutation that undoes another one.
func turned(perm []int) []int {
	back := make([]int, len(perm))
	for x, y := range perm {
		back[y] = x
	}
	return back
}

func renamedByHand(p impl.Problem, perm []int) impl.Problem {
	return withLabels(p, turned(perm))
}

// renamingsByHand tries all permutations, in their order.
func renamingsByHand(p, q impl.Problem) [][]int {
	if p.Labels != q.Labels || len(p.Nodes) != len(q.Nodes) || len(p.Edges) != len(q.Edges) {
		return nil
	}
	return slices.DeleteFunc(permutationsOf(p.Labels), func(perm []int) bool {
		return !same(renamedByHand(p, perm), q)
	})
}

func problemTextByHand(p impl.Problem) string {
	text := fmt.Sprintf("problem %d %d\n", p.Labels, p.Degree)
	for _, l := range p.Nodes {
		text += "node " + strings.Trim(fmt.Sprint(l), "[]") + "\n"
	}
	for _, l := range p.Edges {
		text += "edge " + strings.Trim(fmt.Sprint(l), "[]") + "\n"
	}
	return text
}

var problemForm = regexp.MustCompile(`^problem ([1-8]) ([1-4])\n((?:node(?: [0-7])+\n)*)((?:edge(?: [0-7])+\n)*)$`)

// digitsOfLines returns the digits of each line, which ends with a line feed.
func digitsOfLines(text string) [][]int {
	lists := [][]int{}
	for line := range strings.Lines(text) {
		list := []int{}
		for _, c := range line {
			if c >= '0' && c <= '9' {
				list = append(list, int(c-'0'))
			}
		}
		lists = append(lists, list)
	}
	return lists
}

// problemOfTextByHand matches the whole text. As all numbers have one digit, its digits tell the rest.
func problemOfTextByHand(s string) (impl.Problem, bool) {
	parts := problemForm.FindStringSubmatch(s)
	if parts == nil {
		return impl.Problem{}, false
	}
	p := impl.Problem{Labels: int(parts[1][0] - '0'), Degree: int(parts[2][0] - '0')}
	p.Nodes, p.Edges = digitsOfLines(parts[3]), digitsOfLines(parts[4])
	return p, isProblemByHand(p)
}

// problemOf reads a problem from a text with its lines.
func problemOf(t *testing.T, lines ...string) impl.Problem {
	t.Helper()
	p, ok := problemOfTextByHand(strings.Join(lines, "\n") + "\n")
	if !ok {
		t.Fatal("no problem:", lines)
	}
	return p
}

func sureProblem(t *testing.T) func(impl.Problem, bool) impl.Problem {
	return func(p impl.Problem, ok bool) impl.Problem {
		t.Helper()
		if !ok {
			t.Fatal("a problem is refused")
		}
		return p
	}
}

// wantProblem fails the test unless the call succeeded with the problem want, or failed with none.
func wantProblem(t *testing.T, got impl.Problem, ok bool, want impl.Problem, wantOk bool, what ...any) {
	t.Helper()
	if !wantOk {
		want = impl.Problem{}
	}
	if ok != wantOk || !same(got, want) {
		t.Fatalf("%v: got %v %v, want %v %v", what, got, ok, want, wantOk)
	}
}

// copiedProblem returns new memory, so that one part can be changed.
func copiedProblem(p impl.Problem) impl.Problem {
	list := func(l [][]int) [][]int {
		lists := [][]int{}
		for _, x := range l {
			lists = append(lists, slices.Clone(x))
		}
		return lists
	}
	p.Nodes, p.Edges = list(p.Nodes), list(p.Edges)
	return p
}

// chosenBy keeps lists by chance, some of a hundred.
func chosenBy(r *rand.Rand, lists [][]int, some int) [][]int {
	return slices.DeleteFunc(slices.Clone(lists), func([]int) bool { return r.Intn(100) >= some })
}

func randomProblem(r *rand.Rand, labels, degree int) impl.Problem {
	some := []int{0, 5, 20, 50, 80, 100}
	p := impl.Problem{Labels: labels, Degree: degree}
	p.Nodes = chosenBy(r, configurationsByHand(labels, degree), some[r.Intn(6)])
	p.Edges = chosenBy(r, configurationsByHand(labels, 2), some[r.Intn(6)])
	return p
}

// wholeProblem has all configurations, and emptyProblem none.
func wholeProblem(labels, degree int) impl.Problem {
	return impl.Problem{Labels: labels, Degree: degree, Nodes: configurationsByHand(labels, degree), Edges: configurationsByHand(labels, 2)}
}

func emptyProblem(labels, degree int) impl.Problem {
	return impl.Problem{Labels: labels, Degree: degree}
}

// standardByRule leaves those of all configurations with which a standard problem, as the chapter describes it, agrees.
func standardByRule(name string, degree, labels int) impl.Problem {
	node, edge := func(l [8]int) bool { return true }, func(a, b int) bool { return true }
	switch name {
	case "coloring":
		node = func(l [8]int) bool { return slices.Contains(l[:], degree) }
		edge = func(a, b int) bool { return a != b }
	case "sinkless":
		node = func(l [8]int) bool { return l[0] > 0 }
		edge = func(a, b int) bool { return a+b == 1 }
	case "perfect":
		node = func(l [8]int) bool { return l[0] == 1 }
		edge = func(a, b int) bool { return a == b }
	case "maximal":
		node = func(l [8]int) bool { return l[0] == 1 && l[1] == degree-1 || l[2] == degree }
		edge = func(a, b int) bool { return a == b && a < 2 || a == 1 && b == 2 }
	case "independent":
		node = func(l [8]int) bool { return l[0] == degree || l[1] == 1 && l[2] == degree-1 }
		edge = func(a, b int) bool { return a == 0 && b > 0 || a == 2 && b == 2 }
	}
	p := wholeProblem(labels, degree)
	p.Nodes = slices.DeleteFunc(p.Nodes, func(l []int) bool { return !node(tally(l)) })
	p.Edges = slices.DeleteFunc(p.Edges, func(l []int) bool { return !edge(l[0], l[1]) })
	return p
}

// standardProblems returns all of them.
func standardProblems() []impl.Problem {
	list := []impl.Problem{}
	for degree := 1; degree <= 4; degree++ {
		for labels := 1; labels <= 8; labels++ {
			list = append(list, standardByRule("coloring", degree, labels))
		}
		list = append(list, standardByRule("sinkless", degree, 2), standardByRule("perfect", degree, 2), standardByRule("maximal", degree, 3), standardByRule("independent", degree, 3))
	}
	return list
}

// sampleProblems returns problems of all forms: standard ones, without configurations, with all of them, with one, and made by chance, the same ones in each run.
func sampleProblems() []impl.Problem {
	list := standardProblems()
	r := rand.New(rand.NewSource(141))
	for labels := 1; labels <= 8; labels++ {
		for degree := 1; degree <= 4; degree++ {
			p, q, whole := emptyProblem(labels, degree), emptyProblem(labels, degree), wholeProblem(labels, degree)
			p.Nodes, q.Edges = whole.Nodes, whole.Edges
			one := impl.Problem{Labels: labels, Degree: degree, Nodes: whole.Nodes[len(whole.Nodes)-1:], Edges: whole.Edges[len(whole.Edges)-1:]}
			list = append(list, emptyProblem(labels, degree), p, q, whole, one)
			for range 4 {
				list = append(list, randomProblem(r, labels, degree))
			}
		}
	}
	return list
}

// randomLabeling returns labels below a number for all ports.
func randomLabeling(r *rand.Rand, n impl.Network, labels int) [][]int {
	l := [][]int{}
	for _, list := range n.Ends {
		l = append(l, numbersBelow(r, len(list), 0, labels))
	}
	return l
}

// relabeled returns a labeling with the label to[a] for each label a.
func relabeled(l [][]int, to []int) [][]int {
	changed := [][]int{}
	for _, labels := range l {
		images := []int{}
		for _, a := range labels {
			images = append(images, to[a])
		}
		changed = append(changed, images)
	}
	return changed
}

// allLabelings calls visit with each labeling of a network, in their order.
func allLabelings(n impl.Network, labels int, visit func(l [][]int)) {
	ports := 0
	for _, list := range n.Ends {
		ports += len(list)
	}
	allLists(ports, rising(labels), func(row []int) {
		l := [][]int{}
		for _, list := range n.Ends {
			l = append(l, row[:len(list)])
			row = row[len(list):]
		}
		visit(l)
	})
}
