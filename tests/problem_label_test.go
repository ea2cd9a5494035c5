package tests

import (
	"fmt"
	"math/rand"
	"slices"
	"testing"

	"loop.example/g01084/impl"
)

func TestKnownUsableLabels(t *testing.T) {
	for _, c := range []struct {
		lines []string
		want  []int
	}{
		{[]string{"problem 1 1"}, nil},
		{[]string{"problem 8 4"}, nil},
		{[]string{"problem 1 1", "node 0"}, nil},
		{[]string{"problem 1 1", "edge 0 0"}, nil},
		{[]string{"problem 1 1", "node 0", "edge 0 0"}, []int{0}},
		// Labels that are usable only together.
		{[]string{"problem 2 1", "node 0", "node 1", "edge 0 1"}, []int{0, 1}},
		{[]string{"problem 2 1", "node 0", "edge 0 1"}, nil},
		{[]string{"problem 2 2", "node 0 1", "edge 0 0", "edge 1 1"}, []int{0, 1}},
		{[]string{"problem 2 2", "node 0 1", "edge 0 0"}, nil},
		{[]string{"problem 3 3", "node 0 1 2", "edge 0 1", "edge 2 2"}, []int{0, 1, 2}},
		{[]string{"problem 3 3", "node 0 1 2", "edge 0 1"}, nil},
		// Two sets of labels that have nothing to do with each other, and one that needs both.
		{[]string{"problem 4 2", "node 0 1", "node 2 3", "edge 0 1", "edge 2 3"}, []int{0, 1, 2, 3}},
		{[]string{"problem 5 2", "node 0 1", "node 0 4", "node 2 3", "edge 0 1", "edge 2 3", "edge 3 4"}, []int{0, 1, 2, 3, 4}},
		{[]string{"problem 5 2", "node 0 1", "node 0 4", "node 2 2", "edge 0 1", "edge 2 3", "edge 3 4"}, []int{0, 1}},
		// Each label that falls takes the next one with it.
		{[]string{"problem 8 1", "node 1", "node 2", "node 3", "node 4", "node 5", "node 6", "node 7", "edge 0 1", "edge 2 2"}, []int{2}},
		{[]string{"problem 6 2", "node 0 1", "node 2 3", "node 4 5", "edge 1 2", "edge 3 4", "edge 5 5"}, nil},
		{[]string{"problem 6 2", "node 0 1", "node 2 3", "node 4 5", "edge 0 0", "edge 1 2", "edge 3 4", "edge 5 5"}, []int{0, 1, 2, 3, 4, 5}},
		{[]string{"problem 6 2", "node 0 1", "node 2 3", "node 4 4", "node 4 5", "edge 1 2", "edge 3 4", "edge 4 4"}, []int{4}},
		{[]string{"problem 3 2", "node 0 0", "node 2 2", "edge 0 2", "edge 1 1"}, []int{0, 2}},
	} {
		p := problemOf(t, c.lines...)
		usable, ok := impl.UsableLabels(p)
		wantList(t, usable, ok, c.want, c.lines)
	}
}

func TestUsableLabels(t *testing.T) {
	r := rand.New(rand.NewSource(147))
	list := sampleProblems()
	for k := range 1500 {
		p := impl.Problem{Labels: 1 + k%8, Degree: 1 + r.Intn(4)}
		p.Nodes = chosenBy(r, configurationsByHand(p.Labels, p.Degree), 100/p.Labels/p.Degree)
		p.Edges = chosenBy(r, configurationsByHand(p.Labels, 2), 150/p.Labels)
		list = append(list, p)
	}
	counts := map[string]int{}
	for _, p := range list {
		usable, ok := impl.UsableLabels(p)
		wantList(t, usable, ok, usableByHand(p), p)
		switch len(usable) {
		case 0:
			counts["none"]++
			continue
		case p.Labels:
			counts["all"]++
		default:
			counts["some"]++
		}
		kept := sureProblem(t)(impl.KeepLabels(p, usable))
		again, ok := impl.UsableLabels(kept)
		wantList(t, again, ok, rising(len(usable)), "usable labels alone", kept)
	}
	for _, key := range []string{"none", "all", "some"} {
		if counts[key] < 200 {
			t.Error("problems with usable labels:", counts)
		}
	}
}

func TestKnownLabelsThatAreKept(t *testing.T) {
	p := problemOf(t, "problem 4 2", "node 0 0", "node 0 3", "node 1 3", "node 2 3", "edge 0 1", "edge 0 3", "edge 1 1", "edge 3 3")
	for _, c := range []struct {
		keep  []int
		lines []string
	}{
		{[]int{0}, []string{"problem 1 2", "node 0 0"}},
		{[]int{1}, []string{"problem 1 2", "edge 0 0"}},
		{[]int{2}, []string{"problem 1 2"}},
		{[]int{3}, []string{"problem 1 2", "edge 0 0"}},
		{[]int{0, 3}, []string{"problem 2 2", "node 0 0", "node 0 1", "edge 0 1", "edge 1 1"}},
		{[]int{1, 2}, []string{"problem 2 2", "edge 0 0"}},
		{[]int{2, 3}, []string{"problem 2 2", "node 0 1", "edge 1 1"}},
		{[]int{1, 2, 3}, []string{"problem 3 2", "node 0 2", "node 1 2", "edge 0 0", "edge 2 2"}},
		{[]int{0, 1, 2, 3}, []string{"problem 4 2", "node 0 0", "node 0 3", "node 1 3", "node 2 3", "edge 0 1", "edge 0 3", "edge 1 1", "edge 3 3"}},
	} {
		kept, ok := impl.KeepLabels(p, c.keep)
		wantProblem(t, kept, ok, problemOf(t, c.lines...), true, "keep", c.keep)
	}
	for k := 2; k <= 8; k++ {
		for d := 1; d <= 4; d++ {
			p := sureProblem(t)(impl.ColoringProblem(d, k))
			kept, ok := impl.KeepLabels(p, rising(k)[1:])
			wantProblem(t, kept, ok, standardByRule("coloring", d, k-1), true, "one colour less than", k)
		}
	}
}

// TestLabelsThatAreKept tries each set of labels.
func TestLabelsThatAreKept(t *testing.T) {
	for k, p := range sampleProblems() {
		for set := 1; set < 1<<p.Labels; set++ {
			if p.Labels > 4 && (set+k)%11 > 0 {
				continue
			}
			keep := slices.DeleteFunc(rising(p.Labels), func(a int) bool { return set>>a&1 == 0 })
			kept, ok := impl.KeepLabels(p, keep)
			wantProblem(t, kept, ok, withLabels(p, keep), true, "keep", keep, p)
			if !impl.IsProblem(kept) {
				t.Fatal("no problem:", kept)
			}
		}
	}
}

// TestKeptLabelsKeepFaults has labelings with the kept labels alone.
func TestKeptLabelsKeepFaults(t *testing.T) {
	r := rand.New(rand.NewSource(148))
	networks := problemNetworks(t)
	for k, p := range sampleProblems() {
		keep := slices.Sorted(slices.Values(r.Perm(p.Labels)[:1+r.Intn(p.Labels)]))
		kept := sureProblem(t)(impl.KeepLabels(p, keep))
		n := networks[k%len(networks)]
		for j := range 5 {
			m := randomLabeling(r, n, len(keep))
			repaired(r, kept, n, m, 5*j)
			l := relabeled(m, keep)
			if a, b := fmt.Sprint(impl.FirstFaultOfLabeling(p, n, l)), fmt.Sprint(impl.FirstFaultOfLabeling(kept, n, m)); a != b {
				t.Fatalf("%v on %v for %v: %s, with the labels %v alone: %s", l, n, p, a, keep, b)
			}
		}
	}
}

func TestRenamedLabels(t *testing.T) {
	r := rand.New(rand.NewSource(149))
	for _, p := range sampleProblems() {
		perms := [][]int{rising(p.Labels), r.Perm(p.Labels), r.Perm(p.Labels)}
		if p.Labels <= 3 {
			perms = permutationsOf(p.Labels)
		}
		for _, perm := range perms {
			q, ok := impl.RenameLabels(p, perm)
			wantProblem(t, q, ok, renamedByHand(p, perm), true, "renamed by", perm, p)
			if !impl.IsProblem(q) {
				t.Fatal("no problem:", q)
			}
			back, ok := impl.RenameLabels(q, turned(perm))
			wantProblem(t, back, ok, p, true, "renamed by", perm, "and back")
		}
		same, ok := impl.RenameLabels(p, rising(p.Labels))
		wantProblem(t, same, ok, p, true, "not renamed")
	}
	p := problemOf(t, "problem 3 3", "node 0 0 1", "node 0 2 2", "edge 0 1", "edge 0 2", "edge 1 1")
	q, ok := impl.RenameLabels(p, []int{2, 0, 1})
	wantProblem(t, q, ok, problemOf(t, "problem 3 3", "node 0 2 2", "node 1 1 2", "edge 0 0", "edge 0 2", "edge 1 2"), true, p)
}

func TestUsableLabelsAreRenamed(t *testing.T) {
	r := rand.New(rand.NewSource(150))
	for _, p := range sampleProblems() {
		perm := r.Perm(p.Labels)
		q := sureProblem(t)(impl.RenameLabels(p, perm))
		want := []int{}
		for _, a := range usableByHand(p) {
			want = append(want, perm[a])
		}
		slices.Sort(want)
		usable, ok := impl.UsableLabels(q)
		wantList(t, usable, ok, want, p, perm)
	}
}

// wantRenaming compares the first renaming with all of them, and returns how many there are.
func wantRenaming(t *testing.T, p, q impl.Problem) int {
	t.Helper()
	all := renamingsByHand(p, q)
	perm, ok := impl.RenamingBetween(p, q)
	if len(all) == 0 {
		refused(t, fmt.Sprint("renaming between ", p, q), perm, ok)
		return 0
	}
	wantList(t, perm, ok, all[0], "renaming between", p, q)
	return len(all)
}

func TestKnownRenamings(t *testing.T) {
	for _, c := range []struct {
		p, q []string
		want []int
	}{
		{[]string{"problem 1 1"}, []string{"problem 1 1"}, []int{0}},
		{[]string{"problem 1 1"}, []string{"problem 1 2"}, nil},
		{[]string{"problem 1 1"}, []string{"problem 2 1"}, nil},
		{[]string{"problem 2 1"}, []string{"problem 1 1"}, nil},
		{[]string{"problem 1 1", "node 0"}, []string{"problem 1 1", "edge 0 0"}, nil},
		{[]string{"problem 1 1", "node 0"}, []string{"problem 1 1"}, nil},
		{[]string{"problem 1 1"}, []string{"problem 1 1", "edge 0 0"}, nil},
		{[]string{"problem 2 1", "node 0"}, []string{"problem 2 1", "node 1"}, []int{1, 0}},
		{[]string{"problem 2 1", "node 0", "edge 0 0"}, []string{"problem 2 1", "node 1", "edge 1 1"}, []int{1, 0}},
		{[]string{"problem 2 1", "node 0", "edge 0 0"}, []string{"problem 2 1", "node 1", "edge 0 0"}, nil},
		{[]string{"problem 2 1", "node 0", "edge 0 1"}, []string{"problem 2 1", "node 1", "edge 0 1"}, []int{1, 0}},
		{[]string{"problem 3 1", "node 0"}, []string{"problem 3 1", "node 1"}, []int{1, 0, 2}},
		{[]string{"problem 3 1", "node 2"}, []string{"problem 3 1", "node 0"}, []int{1, 2, 0}},
		{[]string{"problem 3 2", "node 0 1"}, []string{"problem 3 2", "node 1 2"}, []int{1, 2, 0}},
		{[]string{"problem 3 2", "node 0 0", "node 1 2"}, []string{"problem 3 2", "node 0 1", "node 2 2"}, []int{2, 0, 1}},
		{[]string{"problem 3 2", "node 0 0", "node 1 2"}, []string{"problem 3 2", "node 0 1", "node 1 2"}, nil},
		{[]string{"problem 3 3", "node 0 0 1"}, []string{"problem 3 3", "node 0 1 1"}, []int{1, 0, 2}},
		{[]string{"problem 3 3", "node 0 0 1"}, []string{"problem 3 3", "node 0 1 2"}, nil},
		{[]string{"problem 4 2", "node 0 1", "node 2 3", "edge 0 2"}, []string{"problem 4 2", "node 0 1", "node 2 3", "edge 1 3"}, []int{1, 0, 3, 2}},
		{[]string{"problem 4 2", "node 0 1", "node 2 3", "edge 0 2"}, []string{"problem 4 2", "node 0 1", "node 2 3", "edge 0 1"}, nil},
	} {
		p, q := problemOf(t, c.p...), problemOf(t, c.q...)
		perm, ok := impl.RenamingBetween(p, q)
		if c.want == nil {
			refused(t, fmt.Sprint("renaming between ", p, q), perm, ok)
		} else {
			wantList(t, perm, ok, c.want, "renaming between", p, q)
		}
		wantRenaming(t, p, q)
	}
}

// TestRenamings has problems with several renamings, with one and with none.
func TestRenamings(t *testing.T) {
	r := rand.New(rand.NewSource(151))
	counts := [3]int{}
	for k := range 1200 {
		p := randomProblem(r, 1+k%4, 1+r.Intn(3))
		q := sureProblem(t)(impl.RenameLabels(p, r.Perm(p.Labels)))
		counts[min(2, wantRenaming(t, p, q))]++
		// Another problem with as many configurations.
		other := impl.Problem{Labels: p.Labels, Degree: p.Degree}
		other.Nodes = someOf(r, configurationsByHand(p.Labels, p.Degree), len(p.Nodes))
		other.Edges = someOf(r, configurationsByHand(p.Labels, 2), len(p.Edges))
		counts[min(2, wantRenaming(t, p, other))]++
		wantRenaming(t, p, randomProblem(r, p.Labels, p.Degree))
		wantRenaming(t, p, randomProblem(r, 1+r.Intn(4), 1+r.Intn(3)))
	}
	if slices.Min(counts[:]) < 300 {
		t.Error("problems with no, one and several renamings:", counts)
	}
}

// someOf takes a number of lists by chance, in their order.
func someOf(r *rand.Rand, lists [][]int, count int) [][]int {
	places := slices.Sorted(slices.Values(r.Perm(len(lists))[:count]))
	chosen := [][]int{}
	for _, k := range places {
		chosen = append(chosen, lists[k])
	}
	return chosen
}

// TestAllRenamingsOfFewConfigurations takes all problems with few labels and up to three configurations.
func TestAllRenamingsOfFewConfigurations(t *testing.T) {
	counts := [3]int{}
	for _, degree := range []int{1, 2, 3} {
		list := []impl.Problem{}
		for _, nodes := range subsetsUpTo(configurationsByHand(3, degree), 2) {
			for _, edges := range subsetsUpTo(configurationsByHand(3, 2), 1) {
				list = append(list, impl.Problem{Labels: 3, Degree: degree, Nodes: nodes, Edges: edges})
			}
		}
		for k, p := range list {
			for j := k % 5; j < len(list); j += 5 {
				counts[min(2, wantRenaming(t, p, list[j]))]++
			}
		}
	}
	if slices.Min(counts[:]) < 100 {
		t.Error("problems with no, one and several renamings:", counts)
	}
}

// subsetsUpTo returns all choices of at most that many lists, in their order.
func subsetsUpTo(lists [][]int, most int) [][][]int {
	if len(lists) == 0 || most == 0 {
		return [][][]int{nil}
	}
	choices := subsetsUpTo(lists[1:], most)
	for _, rest := range subsetsUpTo(lists[1:], most-1) {
		choices = append(choices, append([][]int{lists[0]}, rest...))
	}
	return choices
}

// TestRenamingsOfManyLabels has problems with up to 8 labels: what renames one is found again or comes before.
func TestRenamingsOfManyLabels(t *testing.T) {
	r := rand.New(rand.NewSource(152))
	for _, p := range sampleProblems() {
		perm := r.Perm(p.Labels)
		q := sureProblem(t)(impl.RenameLabels(p, perm))
		found, ok := impl.RenamingBetween(p, q)
		again, fine := impl.RenameLabels(p, found)
		wantProblem(t, again, fine, q, true, "renamed by", found, ok)
		if slices.Compare(found, perm) > 0 {
			t.Fatalf("between %v and %v: %v comes after %v", p, q, found, perm)
		}
		itself, ok := impl.RenamingBetween(p, p)
		wantList(t, itself, ok, rising(p.Labels), "a problem and itself", p)
	}
}

// ringProblem allows all node configurations but one for each two neighbours in rings of labels.
func ringProblem(rings ...[]int) impl.Problem {
	p := impl.Problem{Labels: 8, Degree: 4}
	for _, l := range configurationsByHand(8, 4) {
		missing := slices.ContainsFunc(rings, func(ring []int) bool {
			for k, a := range ring {
				b := ring[(k+1)%len(ring)]
				if slices.Equal(l, []int{min(a, b), min(a, b), max(a, b), max(a, b)}) {
					return true
				}
			}
			return false
		})
		if !missing {
			p.Nodes = append(p.Nodes, l)
		}
	}
	return p
}

// TestRenamingsThatAreHardToFind has 8 labels that are used equally often, or two that only one configuration tells apart.
func TestRenamingsThatAreHardToFind(t *testing.T) {
	one, two := ringProblem([]int{0, 1, 2, 3, 4, 5, 6, 7}), ringProblem([]int{0, 1, 2, 3}, []int{4, 5, 6, 7})
	crossed := ringProblem([]int{0, 7, 1, 6, 2, 5, 3, 4})
	other := ringProblem([]int{0, 2, 4, 6}, []int{1, 3, 5, 7})
	for _, c := range []struct {
		p, q impl.Problem
		want []int
	}{
		{one, two, nil},
		{two, one, nil},
		{one, one, rising(8)},
		{one, crossed, []int{0, 4, 3, 5, 2, 6, 1, 7}},
		{crossed, one, []int{0, 2, 4, 6, 7, 5, 3, 1}},
		{two, other, []int{0, 2, 4, 6, 1, 3, 5, 7}},
		{other, two, []int{0, 4, 1, 5, 2, 6, 3, 7}},
		{other, crossed, nil},
	} {
		perm, ok := impl.RenamingBetween(c.p, c.q)
		if c.want == nil {
			refused(t, "renaming between rings", perm, ok)
		} else {
			wantList(t, perm, ok, c.want, "renaming between rings")
		}
	}
	for _, l := range [][2][]int{{{6, 6, 7, 7}, {0, 0, 0, 1}}, {{4, 5, 6, 7}, {5, 6, 7, 7}}, {{4, 5, 6, 7}, {4, 5, 6, 6}}} {
		without := func(row []int) impl.Problem {
			p := wholeProblem(8, 4)
			p.Nodes = slices.DeleteFunc(p.Nodes, func(other []int) bool { return slices.Equal(row, other) })
			return p
		}
		perm, ok := impl.RenamingBetween(without(l[0]), without(l[1]))
		refused(t, fmt.Sprint("renaming without ", l), perm, ok)
	}
}
