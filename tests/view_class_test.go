package tests

import (
	"fmt"
	"math/rand"
	"slices"
	"testing"

	"loop.example/g01084/impl"
)

// wantTruth fails the test unless the call succeeded with want.
func wantTruth(t *testing.T, is, ok, want bool, what ...any) {
	t.Helper()
	if !ok || is != want {
		t.Fatalf("%v: got %v %v, want %v", what, is, ok, want)
	}
}

func TestExampleOfChapter5(t *testing.T) {
	cycle := sure(t)(impl.CycleNetwork(3))
	is, ok := impl.IsSymmetric(cycle)
	wantTruth(t, is, ok, true, "the cycle")
	for v := range 3 {
		for w := range 3 {
			is, ok = impl.AreTwins(cycle, v, cycle, w)
			wantTruth(t, is, ok, true, "nodes of the cycle", v, w)
		}
		if s, ok := impl.ViewText(cycle, v, 1); s != "2.0(1:2.0,0:2.0)" || !ok {
			t.Errorf("text %q %v", s, ok)
		}
	}
	path := sure(t)(impl.PathNetwork(3))
	class, ok := impl.ViewClasses(path, 0)
	wantList(t, class, ok, []int{0, 1, 0}, "depth 0")
	class, ok = impl.ViewClasses(path, 1)
	wantList(t, class, ok, []int{0, 1, 2}, "depth 1")
}

func TestLimitsOfChapter5AreThoseOfTheDocument(t *testing.T) {
	limits := []int{impl.MaxViewDepth, impl.MaxViewSize, impl.MaxViewText}
	if !slices.Equal(limits, []int{80, million, 4000}) {
		t.Error(limits)
	}
}

func TestClassesAreThoseOfViews(t *testing.T) {
	book := viewBook{}
	for k, n := range viewNetworks(t) {
		most := 41
		if k < 80 {
			most = 80
		}
		for depth, numbers := range book.numbersOf(n, most) {
			class, ok := impl.ViewClasses(n, depth)
			wantList(t, class, ok, classesOfNumbers(numbers), "depth", depth, "of", n)
		}
	}
}

func TestClassesBecomeFinerUpToADepth(t *testing.T) {
	for _, n := range viewNetworks(t) {
		stable, ok := impl.StableDepth(n)
		if !ok || stable < 0 || stable >= len(n.Ends) {
			t.Fatalf("stable depth of %v: %d %v", n, stable, ok)
		}
		before, ok := impl.ViewClasses(n, 0)
		if !ok {
			t.Fatal("no classes of", n)
		}
		for depth := range 80 {
			after, ok := impl.ViewClasses(n, depth+1)
			if !ok || !isFiner(after, before) {
				t.Fatalf("depth %d of %v: %v %v, before %v", depth+1, n, after, ok, before)
			}
			if isSame := slices.Max(after) == slices.Max(before); isSame != (depth >= stable) {
				t.Fatalf("depth %d of %v: %v, before %v, stable depth %d", depth+1, n, after, before, stable)
			}
			before = after
		}
		twins, ok := impl.TwinClasses(n)
		wantList(t, twins, ok, before, "twins of", n)
		is, ok := impl.IsSymmetric(n)
		wantTruth(t, is, ok, slices.Max(before) == 0, "symmetric", n)
	}
}

// isFiner reports whether nodes of different classes are in different finer ones.
func isFiner(finer, class []int) bool {
	for v := range class {
		for w := range v {
			if class[v] != class[w] && finer[v] == finer[w] {
				return false
			}
		}
	}
	return len(finer) == len(class)
}

func TestStableDepthsOfKnownNetworks(t *testing.T) {
	check := func(want int, n impl.Network, what string) {
		t.Helper()
		depth, ok := impl.StableDepth(n)
		wantNumber(t, depth, ok, want, what)
	}
	for k := 1; k <= 40; k++ {
		check(0, line(k), "a line without marks")
		check(k-1, line(k, 0), "a line with a mark at the first node")
		check(k-1, line(k, k-1), "a line with a mark at the last node")
		marked := sure(t)(impl.CycleNetwork(k))
		check(0, marked, "a cycle")
		marked.Inputs[0] = 1
		// The mark tells nodes on both sides of it apart, one more on each side with each step. The last node is told by not seeing it.
		check((k-1)/2, marked, fmt.Sprint("a cycle with a mark and nodes ", k))
	}
	check(0, bare(40), "nodes without ports")
	check(0, zeroInputs(bare(40)), "equal nodes without ports")
	check(0, sure(t)(impl.PathNetwork(1)), "one node")
	check(0, sure(t)(impl.PathNetwork(2)), "two nodes")
	check(1, sure(t)(impl.PathNetwork(3)), "three nodes")
	check(1, sure(t)(impl.StarNetwork(6)), "a star")
}

func TestSymmetricNetworks(t *testing.T) {
	for _, c := range symmetricNetworks(t) {
		is, ok := impl.IsSymmetric(c.n)
		wantTruth(t, is, ok, true, c.name)
		if len(c.n.Ends) > 1 {
			last := len(c.n.Ends) - 1
			c.n.Inputs[last] = 9
			is, ok = impl.IsSymmetric(c.n)
			wantTruth(t, is, ok, false, c.name, "with another input")
		}
	}
	one := joined([]int{6})
	for i := range 6 {
		one.Ends[0][i] = impl.End{Node: 0, Port: 5 - i}
	}
	is, ok := impl.IsSymmetric(one)
	wantTruth(t, is, ok, true, "one node with loops")
	is, ok = impl.IsSymmetric(zeroInputs(bare(40)))
	wantTruth(t, is, ok, true, "equal nodes without ports")
	is, ok = impl.IsSymmetric(bare(2))
	wantTruth(t, is, ok, false, "different nodes without ports")
	stub, loop := zeroInputs(joined([]int{2})), zeroInputs(joined([]int{2}, [4]int{0, 0, 0, 1}))
	stub.Ends[0][1].Port = 1
	is, ok = impl.IsSymmetric(sure(t)(impl.UnionOf(stub, loop)))
	wantTruth(t, is, ok, false, "two stubs and a loop")
	for k := 3; k <= 40; k++ {
		is, ok = impl.IsSymmetric(sure(t)(impl.PathNetwork(k)))
		wantTruth(t, is, ok, false, "path", k)
	}
}

func TestIdentifiersAreNotSeen(t *testing.T) {
	for _, n := range deepNetworks(t) {
		m := withIds(n, idsUpTo(len(n.Ends))...)
		want, _ := impl.TwinClasses(n)
		class, ok := impl.TwinClasses(m)
		wantList(t, class, ok, want, "with identifiers", m)
		for v := range n.Ends {
			is, ok := impl.AreTwins(n, v, m, v)
			wantTruth(t, is, ok, true, "a node with an identifier", m, v)
		}
	}
}

// wantComparison compares v in a with w in b, given the numbers of their views of the depths 0 to 80.
func wantComparison(t *testing.T, a impl.Network, v int, b impl.Network, w int, left, right [][]int) {
	t.Helper()
	differ := slices.IndexFunc(rising(81), func(depth int) bool { return left[depth][v] != right[depth][w] })
	depth, ok := impl.SeparatingDepth(a, v, b, w)
	twins, fine := impl.AreTwins(a, v, b, w)
	wantTruth(t, twins, fine, differ < 0, "twins", a, v, b, w)
	if differ < 0 {
		refused(t, fmt.Sprint("the depth that separates twins ", a, v, b, w), depth, ok)
		differ = 81
	} else {
		wantNumber(t, depth, ok, differ, "separating depth", a, v, b, w)
	}
	for _, depth := range []int{0, 1, 2, differ - 1, differ, differ + 1, 39, 40, 79, 80} {
		if depth >= 0 && depth <= 80 {
			is, ok := impl.SameView(a, v, b, w, depth)
			wantTruth(t, is, ok, depth < differ, "depth", depth, a, v, b, w)
		}
	}
}

func TestViewsOfTwoNetworksAreCompared(t *testing.T) {
	r := rand.New(rand.NewSource(51))
	book := viewBook{}
	networks := append(deepNetworks(t), smallNetworks(1, 2)...)
	for k, n := range sampleNetworks() {
		if k%9 == 0 {
			networks = append(networks, zeroInputs(n))
		}
	}
	numbers := [][][]int{}
	for _, n := range networks {
		numbers = append(numbers, book.numbersOf(n, 80))
	}
	for i, a := range networks {
		for j := i % 3; j < len(networks); j += 3 {
			b := networks[j]
			v, w := r.Intn(len(a.Ends)), r.Intn(len(b.Ends))
			wantComparison(t, a, v, b, w, numbers[i], numbers[j])
		}
		for range 20 {
			v, w := r.Intn(len(a.Ends)), r.Intn(len(a.Ends))
			wantComparison(t, a, v, a, w, numbers[i], numbers[i])
		}
	}
}

// TestViewsThatDifferAtAGreatDepthAlone walks from a mark to the end of a line and back. Lines of different lengths bring it back after different numbers of steps, and one step more shows the mark.
func TestViewsThatDifferAtAGreatDepthAlone(t *testing.T) {
	for k := 1; k <= 39; k++ {
		a, b := line(k, 0), line(k+1, 0)
		depth, ok := impl.SeparatingDepth(a, 0, b, 0)
		wantNumber(t, depth, ok, 2*k, "lines of", k, "and of one more")
		depth, ok = impl.SeparatingDepth(b, 0, a, 0)
		wantNumber(t, depth, ok, 2*k, "lines of one more than", k)
		is, ok := impl.SameView(a, 0, b, 0, 2*k-1)
		wantTruth(t, is, ok, true, "one step less", k)
		is, ok = impl.SameView(a, 0, b, 0, 2*k)
		wantTruth(t, is, ok, false, "enough steps", k)
		is, ok = impl.AreTwins(a, 0, b, 0)
		wantTruth(t, is, ok, false, "the first nodes", k)
	}
}

func TestCoveringsKeepViews(t *testing.T) {
	for _, n := range viewNetworks(t) {
		if len(n.Ends) > 20 {
			continue
		}
		cover := sure(t)(impl.DoubleCover(n))
		for v := range n.Ends {
			for _, w := range []int{v, v + len(n.Ends)} {
				is, ok := impl.AreTwins(n, v, cover, w)
				wantTruth(t, is, ok, true, "a node and its cover", n, v)
				is, ok = impl.SameView(cover, w, n, v, 80)
				wantTruth(t, is, ok, true, "views of a node and its cover", n, v)
			}
		}
	}
	for k := 1; k <= 40; k++ {
		is, ok := impl.AreTwins(sure(t)(impl.CycleNetwork(40)), 39, sure(t)(impl.CycleNetwork(k)), k-1)
		wantTruth(t, is, ok, true, "cycles of 40 and", k)
	}
	edge, stub := sure(t)(impl.PathNetwork(2)), sure(t)(impl.BouquetNetwork(1, 0))
	is, ok := impl.AreTwins(edge, 1, stub, 0)
	wantTruth(t, is, ok, true, "an edge and a stub")
	is, ok = impl.AreTwins(sure(t)(impl.BouquetNetwork(2, 0)), 0, sure(t)(impl.BouquetNetwork(0, 1)), 0)
	wantTruth(t, is, ok, false, "two stubs and a loop")
	many := byRule(2, 6, func(v, i int) (int, int) { return 1 - v, i })
	is, ok = impl.AreTwins(many, 0, sure(t)(impl.BouquetNetwork(6, 0)), 0)
	wantTruth(t, is, ok, true, "six edges between two nodes, and six stubs")
}
