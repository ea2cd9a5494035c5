package tests

import (
	"fmt"
	"math/rand"
	"slices"
	"testing"

	"loop.example/g01084/impl"
)

// wantQuotient compares the quotient of a list of classes, one for each node, with the nodes that look the same, and reports whether there is one.
func wantQuotient(t *testing.T, n impl.Network, class []int) bool {
	t.Helper()
	got, ok := impl.QuotientOf(n, class)
	want, wantOk := quotientByHand(n, class)
	wantNetwork(t, fmt.Sprint("quotient of ", n, " for ", class), got, ok, want, wantOk)
	if ok {
		is, fine := impl.IsCovering(n, got, class)
		wantTruth(t, is && impl.IsNetwork(got), fine, true, class, "from", n, "to", got)
		fibres, fine := impl.FibresOf(n, got, class)
		if !fine || !same(fibres, fibresByHand(len(got.Ends), class)) {
			t.Fatalf("classes %v of %v: fibres %v", class, n, fibres)
		}
	}
	return ok
}

// TestAllListsOfClasses takes all lists, with numbers next to the possible ones too.
func TestAllListsOfClasses(t *testing.T) {
	networks := []impl.Network{zeroInputs(bare(4)), withInputs(bare(4), 3, 0, 3, 0)}
	for _, degrees := range [][]int{{0}, {2}, {1, 1}, {2, 2}, {3, 3}, {0, 0, 0}, {1, 1, 1}, {2, 2, 2}, {1, 0, 1}, {1, 1, 1, 1}} {
		for k, n := range smallNetworks(degrees...) {
			networks = append(networks, zeroInputs(n))
			if k%5 == 0 {
				networks = append(networks, n)
			}
		}
	}
	for _, n := range []int{2, 3, 4} {
		networks = append(networks, sure(t)(impl.CycleNetwork(n)), sure(t)(impl.PathNetwork(n)))
	}
	yes, no := 0, 0
	for _, n := range networks {
		values := shifted(rising(len(n.Ends)+2), 1, -1)
		allLists(len(n.Ends), values, func(class []int) {
			if wantQuotient(t, n, class) {
				yes++
			} else {
				no++
			}
		})
	}
	if yes < 1000 || no < 1000 {
		t.Errorf("%d quotients, and %d lists without one", yes, no)
	}
}

func TestQuotientsOfCoverings(t *testing.T) {
	r := rand.New(rand.NewSource(78))
	changed := 0
	for _, c := range coverMaps(t) {
		if is, _ := impl.IsCovering(c.a, c.b, c.m); is {
			got, ok := impl.QuotientOf(c.a, c.m)
			wantNetwork(t, fmt.Sprint("quotient of ", c.a, " for ", c.m), got, ok, withIds(c.b), true)
			perm, class := r.Perm(len(c.b.Ends)), []int{}
			for _, w := range c.m {
				class = append(class, perm[w])
			}
			got, ok = impl.QuotientOf(c.a, class)
			want, _ := impl.RenumberNodes(withIds(c.b), perm)
			wantNetwork(t, fmt.Sprint("quotient of ", c.a, " for ", class), got, ok, want, true)
		}
		// Each node is in a class of its own, or in one of those of all nodes.
		wantQuotient(t, c.a, rising(len(c.m)))
		wantQuotient(t, c.a, r.Perm(len(c.m)))
		wantQuotient(t, c.a, make([]int, len(c.m)))
		for _, class := range [][]int{slices.Clone(c.m), rising(len(c.m))} {
			v, w := r.Intn(len(c.m)), r.Intn(len(c.m))
			class[v] = class[w]
			if wantQuotient(t, c.a, class) && v != w {
				changed++
			}
			class[v] = r.Intn(len(c.m))
			wantQuotient(t, c.a, class)
		}
	}
	if changed < 10 {
		t.Errorf("only %d lists have a quotient after a change", changed)
	}
}

func TestQuotientsOfKnownNetworks(t *testing.T) {
	six, edge := sure(t)(impl.CycleNetwork(6)), sure(t)(impl.PathNetwork(2))
	wantPorts(t, "three classes", "1.1 2.0|2.1 0.0|0.1 1.0")(impl.QuotientOf(six, []int{0, 1, 2, 0, 1, 2}))
	wantPorts(t, "two classes", "1.1 1.0|0.1 0.0")(impl.QuotientOf(six, []int{1, 0, 1, 0, 1, 0}))
	wantPorts(t, "one class", "0.1 0.0")(impl.QuotientOf(six, make([]int, 6)))
	wantPorts(t, "an edge becomes a stub", "0.0")(impl.QuotientOf(edge, []int{0, 0}))
	wantPorts(t, "an edge stays", "1.0|0.0")(impl.QuotientOf(edge, []int{1, 0}))
	wantPorts(t, "nodes without ports", "|")(impl.QuotientOf(zeroInputs(bare(4)), []int{1, 0, 0, 1}))
	noNetwork(t, "opposite sides")(impl.QuotientOf(six, []int{0, 1, 2, 2, 1, 0}))
	noNetwork(t, "one class less in order")(impl.QuotientOf(six, []int{0, 1, 2, 0, 1, 1}))
	noNetwork(t, "neighbours")(impl.QuotientOf(six, []int{0, 0, 1, 1, 2, 2}))
	got, ok := impl.QuotientOf(withIds(bare(3), 1, 2, 3), []int{2, 0, 1})
	wantNetwork(t, "other numbers", got, ok, withInputs(bare(3), 2, 3, 1), true)
	// Ports that are joined crosswise are a loop, and others are stubs.
	crossed := zeroInputs(joined([]int{2, 2}, [4]int{0, 0, 1, 1}, [4]int{0, 1, 1, 0}))
	double := zeroInputs(joined([]int{2, 2}, [4]int{0, 0, 1, 0}, [4]int{0, 1, 1, 1}))
	wantPorts(t, "crossed edges", "0.1 0.0")(impl.QuotientOf(crossed, []int{0, 0}))
	wantPorts(t, "two edges", "0.0 0.1")(impl.QuotientOf(double, []int{0, 0}))
	mixed := sure(t)(impl.UnionOf(crossed, double))
	noNetwork(t, "both in one class")(impl.QuotientOf(mixed, []int{0, 0, 0, 0}))
	wantPorts(t, "each in its class", "0.0 0.1|1.1 1.0")(impl.QuotientOf(mixed, []int{1, 1, 0, 0}))
	// Nodes of one class that differ in one input, one degree or one port alone.
	noNetwork(t, "inputs")(impl.QuotientOf(bare(2), []int{0, 0}))
	noNetwork(t, "degrees")(impl.QuotientOf(zeroInputs(pair()), []int{0, 0}))
	stubs := zeroInputs(joined([]int{2, 2}, [4]int{0, 0, 0, 0}, [4]int{0, 1, 1, 0}, [4]int{1, 1, 1, 1}))
	noNetwork(t, "ports")(impl.QuotientOf(stubs, []int{0, 0}))
}

func TestClassesThatLeaveANumberOut(t *testing.T) {
	for _, class := range [][]int{{1, 1, 1}, {0, 0, 2}, {0, 2, 2}, {1, 2, 1}, {2, 2, 2}, {0, 1, 3}, {3, 0, 0}, {-1, 0, 0}, {0, 0, -1}, {-1, 0, 1}, {-1, -1, -1}, {-2, -1, 0}, {0, 0, 40}, {0, minInt, 1}, {0, 1, maxInt}, {maxInt, maxInt, maxInt}, {minInt, minInt, minInt}, {minInt, maxInt, 0}} {
		noNetwork(t, "classes ", class)(impl.QuotientOf(zeroInputs(bare(3)), class))
	}
	for _, class := range [][]int{nil, {}, {0}, {0, 0}, {0, 1}, {0, 0, 0, 0}, {0, 1, 2, 2}, {0, 0, 0, -1}, rising(40), rising(41), make([]int, 1000)} {
		noNetwork(t, "classes ", class)(impl.QuotientOf(zeroInputs(bare(3)), class))
	}
	forty := zeroInputs(bare(40))
	for v := range 40 {
		class := rising(40)
		got, ok := impl.QuotientOf(forty, class)
		wantNetwork(t, "40 classes", got, ok, forty, true)
		for _, x := range outside(0, 39) {
			class[v] = x
			noNetwork(t, "a class ", x)(impl.QuotientOf(forty, class))
		}
		class[v] = 39
		if v < 39 {
			noNetwork(t, "no class ", v)(impl.QuotientOf(forty, class))
		}
	}
}

// twinClassesByHand numbers views that are deep enough.
func twinClassesByHand(n impl.Network) []int {
	return classesOfNumbers(viewBook{}.numbersOf(n, 41)[41])
}

func TestMinimalBases(t *testing.T) {
	networks := append(deepNetworks(t), coverBases(t)...)
	for _, c := range coverMaps(t) {
		networks = append(networks, c.a)
	}
	smaller := 0
	for _, n := range networks {
		class := twinClassesByHand(n)
		want, wantOk := quotientByHand(n, class)
		base, ok := impl.MinimalBase(n)
		wantNetwork(t, fmt.Sprint("minimal base of ", n), base, ok, want, wantOk)
		is, ok := impl.IsCovering(n, base, class)
		wantTruth(t, is, ok, true, n, "and its minimal base", base)
		for w := range base.Ends {
			for x := range w {
				is, ok = impl.AreTwins(base, w, base, x)
				wantTruth(t, is, ok, false, "nodes of the base", w, x, base)
			}
		}
		again, ok := impl.MinimalBase(base)
		wantNetwork(t, fmt.Sprint("minimal base of the base of ", n), again, ok, base, true)
		if len(base.Ends) < len(n.Ends) {
			smaller++
		} else {
			wantNetwork(t, "a base with as many nodes", base, true, withIds(n), true)
		}
	}
	if smaller < 100 {
		t.Errorf("only %d networks are not minimal", smaller)
	}
}

func TestCoveringsHaveTheSameMinimalBase(t *testing.T) {
	for _, c := range coverMaps(t) {
		is, _ := impl.IsCovering(c.a, c.b, c.m)
		first, ok := impl.MinimalBase(c.a)
		second, fine := impl.MinimalBase(c.b)
		equal, equalOk := impl.SameNetworks(first, second)
		if !ok || !fine || !equalOk || is && !equal {
			t.Fatalf("%v and %v have the minimal bases %v and %v", c.a, c.b, first, second)
		}
		// A connected network has one port map alone to a base in which all nodes differ.
		if list, ok := impl.PortMapsBetween(c.a, second); ok && len(list) != 1 {
			t.Fatalf("port maps from %v to %v: %v", c.a, second, list)
		}
	}
}

func TestMinimalBasesOfKnownNetworks(t *testing.T) {
	for _, c := range symmetricNetworks(t) {
		base, ok := impl.MinimalBase(c.n)
		want, wantOk := quotientByHand(c.n, make([]int, len(c.n.Ends)))
		if !wantOk || len(want.Ends) != 1 {
			t.Fatalf("%s: nodes differ", c.name)
		}
		wantNetwork(t, c.name, base, ok, want, true)
	}
	for k := 3; k <= 40; k++ {
		path := sure(t)(impl.PathNetwork(k))
		base, ok := impl.MinimalBase(path)
		wantNetwork(t, "a path", base, ok, path, true)
		marked := sure(t)(impl.CycleNetwork(k))
		marked.Inputs[k-1] = 3
		base, ok = impl.MinimalBase(withIds(marked, idsUpTo(k)...))
		wantNetwork(t, "a cycle with a mark", base, ok, marked, true)
	}
	wantPorts(t, "40 nodes without ports", "")(impl.MinimalBase(zeroInputs(bare(40))))
	wantPorts(t, "40 nodes with stubs", "0.0 0.1 0.2 0.3 0.4 0.5")(impl.MinimalBase(zeroInputs(full(40))))
	wantPorts(t, "cycles of two and three nodes", "0.1 0.0")(impl.MinimalBase(sure(t)(impl.UnionOf(sure(t)(impl.CycleNetwork(2)), sure(t)(impl.CycleNetwork(3))))))
	got, ok := impl.MinimalBase(withInputs(bare(5), 4, 7, 4, 0, 7))
	wantNetwork(t, "three inputs", got, ok, withInputs(bare(3), 4, 7, 0), true)
	// Marks on opposite nodes leave a cycle with half as many.
	eight := withInputs(sure(t)(impl.CycleNetwork(8)), 0, 1, 0, 0, 0, 1, 0, 0)
	got, ok = impl.MinimalBase(eight)
	wantNetwork(t, "two marks", got, ok, withInputs(sure(t)(impl.CycleNetwork(4)), 0, 1, 0, 0), true)
}
