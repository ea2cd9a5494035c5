package tests

import (
	"fmt"
	"math/rand"
	"slices"
	"testing"

	"loop.example/g01084/impl"
)

// wantLift compares a lift by permutations that fit with the one that is made by hand, and checks that it covers.
func wantLift(t *testing.T, n impl.Network, k int, perms [][]int) {
	t.Helper()
	what := fmt.Sprint("lift of ", n, " with ", k, " sheets by ", perms)
	lift, ok := impl.LiftOf(n, k, perms)
	if k*len(n.Ends) > 40 {
		refused(t, what, lift, ok)
		return
	}
	wantNetwork(t, what, lift, ok, liftByHand(n, k, perms), true)
	m := projection(len(n.Ends), k)
	is, ok := impl.IsCovering(lift, n, m)
	wantTruth(t, is && impl.IsNetwork(lift), ok, true, what)
	sheets, ok := impl.SheetsOf(lift, n, m)
	wantNumber(t, sheets, ok, k, what)
}

func TestLiftsCover(t *testing.T) {
	r := rand.New(rand.NewSource(79))
	networks := append(coverBases(t), deepNetworks(t)...)
	for k, n := range sampleNetworks() {
		if k%4 == 1 {
			networks = append(networks, n)
		}
	}
	for _, n := range networks {
		for k := 1; k <= 40/len(n.Ends)+1; k++ {
			if k < 5 || k%7 == 0 || k >= 40/len(n.Ends) {
				wantLift(t, n, k, sheetChanges(r, n, k))
			}
		}
	}
}

// TestAllLiftsOfSmallNetworks takes all permutations for each edge.
func TestAllLiftsOfSmallNetworks(t *testing.T) {
	counts := map[bool]int{}
	for _, c := range []struct {
		k       int
		degrees [][]int
	}{{1, [][]int{{0}, {3}, {1, 2}}}, {2, [][]int{{1}, {3}, {1, 1}, {2, 2}, {1, 0, 2}}}, {3, [][]int{{2}, {1, 1}, {2, 1}}}, {4, [][]int{{1}, {2}, {1, 1}}}} {
		choices := permutationsOf(c.k)
		for _, degrees := range c.degrees {
			for _, n := range smallNetworks(degrees...) {
				edges := edgeEnds(n)
				allLists(len(edges), rising(len(choices)), func(chosen []int) {
					perms, goBack := [][]int{}, true
					for k, x := range chosen {
						perms = append(perms, choices[x])
						if edges[k][0] == edges[k][1] && !slices.Equal(inverse(choices[x]), choices[x]) {
							goBack = false
						}
					}
					counts[goBack]++
					if goBack {
						wantLift(t, n, c.k, perms)
						return
					}
					lift, ok := impl.LiftOf(n, c.k, perms)
					refused(t, fmt.Sprint("lift of ", n, " by ", perms), lift, ok)
				})
			}
		}
	}
	if counts[true] < 500 || counts[false] < 500 {
		t.Errorf("permutations that fit and do not: %v", counts)
	}
}

func TestLiftsOfKnownNetworks(t *testing.T) {
	r := rand.New(rand.NewSource(80))
	stub, loop, edge := sure(t)(impl.BouquetNetwork(1, 0)), sure(t)(impl.BouquetNetwork(0, 1)), sure(t)(impl.PathNetwork(2))
	check := func(ports string, n impl.Network, k int, perms ...[]int) {
		t.Helper()
		wantPorts(t, fmt.Sprint("lift by ", perms), ports)(impl.LiftOf(n, k, perms))
	}
	check("0.0", stub, 1, []int{0})
	check("0.0|1.0", stub, 2, []int{0, 1})
	check("1.0|0.0", stub, 2, []int{1, 0})
	check("2.0|1.0|0.0", stub, 3, []int{2, 1, 0})
	check("1.0|0.0|3.0|2.0", stub, 4, []int{1, 0, 3, 2})
	check("1.1 2.0|2.1 0.0|0.1 1.0", loop, 3, []int{1, 2, 0})
	check("0.1 0.0|2.1 2.0|1.1 1.0", loop, 3, []int{0, 2, 1})
	check("4.0|3.0|5.0|1.0|0.0|2.0", edge, 3, []int{1, 0, 2})
	check("4.0|5.0|3.0|2.0|0.0|1.0", edge, 3, []int{1, 2, 0})
	check("|||||", zeroInputs(bare(2)), 3)
	got, ok := impl.LiftOf(withIds(bare(2), 5, 4), 3, nil)
	wantNetwork(t, "nodes without ports", got, ok, withInputs(bare(6), 1, 1, 1, 2, 2, 2), true)
	// The edges are in the order of their first ports, in which a loop has two.
	n := joined([]int{3, 2}, [4]int{0, 0, 1, 1}, [4]int{0, 1, 0, 2}, [4]int{1, 0, 1, 0})
	got, ok = impl.LiftOf(n, 2, [][]int{{1, 0}, {0, 1}, {1, 0}})
	if want := "3.1 0.2 0.1|2.1 1.2 1.1|3.0 1.0|2.0 0.0"; !ok || portsOf(got) != want || !same(got.Inputs, []int{1, 1, 2, 2}) {
		t.Errorf("three edges: got %s %v %v", portsOf(got), got.Inputs, ok)
	}
	// With one sheet there is the network itself, and the double cover changes sheets at each edge.
	for _, n := range sampleNetworks() {
		count := len(edgeEnds(n))
		got, ok = impl.LiftOf(n, 1, slices.Repeat([][]int{{0}}, count))
		wantNetwork(t, "one sheet", got, ok, withIds(n), true)
		nodes := len(n.Ends)
		double, fine := impl.DoubleCover(n)
		got, ok = impl.LiftOf(n, 2, slices.Repeat([][]int{{1, 0}}, count))
		if ok {
			perm := []int{}
			for v := range 2 * nodes {
				perm = append(perm, v/2+v%2*nodes)
			}
			got = sure(t)(impl.RenumberNodes(got, perm))
		}
		wantNetwork(t, "two sheets", got, ok, double, fine)
	}
	for k := 1; k <= 40; k++ {
		got, ok = impl.LiftOf(loop, k, [][]int{rotation(k)})
		wantNetwork(t, "a loop around all sheets", got, ok, sure(t)(impl.CycleNetwork(k)), true)
		perm := involution(r, k)
		got, ok = impl.LiftOf(stub, k, [][]int{perm})
		wantNetwork(t, "a stub", got, ok, byRule(k, 1, func(v, i int) (int, int) { return perm[v], i }), true)
	}
}

// TestCoveringsAreLifts numbers the sheets of each fibre in any order, and reads the permutations off.
func TestCoveringsAreLifts(t *testing.T) {
	count := 0
	for _, c := range coverMaps(t) {
		k, ok := impl.SheetsOf(c.a, c.b, c.m)
		fibres, fine := impl.FibresOf(c.a, c.b, c.m)
		if !ok || !fine {
			continue
		}
		count++
		perms := [][]int{}
		for _, e := range edgeEnds(c.b) {
			perm := []int{}
			for _, v := range fibres[e[0].Node] {
				perm = append(perm, slices.Index(fibres[e[1].Node], c.a.Ends[v][e[0].Port].Node))
			}
			perms = append(perms, perm)
		}
		lift := sure(t)(impl.LiftOf(c.b, k, perms))
		f := make([]int, len(c.m))
		for w, fibre := range fibres {
			for s, v := range fibre {
				f[w*k+s] = v
			}
		}
		is, ok := impl.IsIsomorphism(lift, withIds(c.a), f)
		wantTruth(t, is, ok, true, f, "from", lift, "to", c.a)
	}
	if count < 100 {
		t.Errorf("only %d coverings have sheets", count)
	}
}

func TestPermutationsThatDoNotFit(t *testing.T) {
	edge, stub := sure(t)(impl.PathNetwork(2)), sure(t)(impl.BouquetNetwork(1, 0))
	path := sure(t)(impl.PathNetwork(3))
	check := func(n impl.Network, k int, perms ...[]int) {
		t.Helper()
		noNetwork(t, "lift of ", n, " with ", k, " sheets by ", perms)(impl.LiftOf(n, k, perms))
	}
	// Too few, and too many.
	check(edge, 2)
	check(edge, 2, []int{0, 1}, []int{0, 1})
	check(path, 2, []int{0, 1})
	check(path, 2, []int{0, 1}, []int{1, 0}, []int{1, 0})
	check(path, 1, []int{0})
	check(zeroInputs(bare(2)), 1, []int{0})
	check(zeroInputs(bare(2)), 2, []int{})
	// No permutations, for the first edge or the last one.
	for _, perm := range [][]int{nil, {}, {0}, {0, 0}, {1, 1}, {0, 2}, {2, 1}, {1, 2}, {-1, 0}, {0, -1}, {minInt, 0}, {1, maxInt}, {0, 1, 2}, {0, 1, 1}, rising(40)} {
		check(edge, 2, perm)
		check(stub, 2, perm)
		check(path, 2, perm, []int{0, 1})
		check(path, 2, []int{1, 0}, perm)
	}
	check(edge, 1, []int{1})
	check(edge, 3, []int{1, 0})
	// Permutations of a stub that do not go back.
	check(stub, 3, []int{1, 2, 0})
	check(stub, 3, []int{2, 0, 1})
	check(stub, 4, []int{2, 3, 1, 0})
	check(stub, 5, []int{0, 1, 3, 4, 2})
	check(stub, 40, rotation(40))
	check(pair(), 3, []int{0, 1, 2}, []int{1, 2, 0})
	// Sheets that are none.
	for _, k := range append(outside(1, 20), 0, 21, 40, 41) {
		check(edge, k)
		check(edge, k, []int{0})
		check(edge, k, []int{0, 1})
		if k >= 0 && k <= 41 {
			check(edge, k, rising(k))
		}
	}
	for _, k := range append(outside(1, 40), 0) {
		check(zeroInputs(bare(1)), k)
		check(zeroInputs(bare(40)), k)
	}
	check(edge, 0, []int{})
	check(edge, -1, []int{})
}

func TestLiftsAtTheLimit(t *testing.T) {
	r := rand.New(rand.NewSource(81))
	for _, nodes := range []int{1, 2, 3, 7, 13, 20, 21, 39, 40} {
		for _, n := range []impl.Network{bare(nodes), full(nodes), line(nodes, 0), withIds(full(nodes), idsUpTo(nodes)...)} {
			wantLift(t, n, 40/nodes, sheetChanges(r, n, 40/nodes))
			wantLift(t, n, 40/nodes+1, sheetChanges(r, n, 40/nodes+1))
			wantLift(t, n, 41, sheetChanges(r, n, 41))
		}
	}
	got, ok := impl.LiftOf(zeroInputs(bare(1)), 40, nil)
	wantNetwork(t, "40 sheets", got, ok, zeroInputs(bare(40)), true)
	got, ok = impl.LiftOf(zeroInputs(bare(20)), 2, nil)
	wantNetwork(t, "two sheets of 20 nodes", got, ok, zeroInputs(bare(40)), true)
	noNetwork(t, "41 sheets")(impl.LiftOf(zeroInputs(bare(1)), 41, nil))
	noNetwork(t, "three sheets of 20 nodes")(impl.LiftOf(zeroInputs(bare(20)), 3, nil))
	// So many sheets that their product with the nodes is beyond int.
	for _, k := range []int{1 << 58, 1 << 60, 1 << 62, 1<<62 + 1, maxInt/2 + 1} {
		noNetwork(t, "sheets ", k)(impl.LiftOf(zeroInputs(bare(4)), k, nil))
		noNetwork(t, "sheets ", k)(impl.LiftOf(zeroInputs(bare(32)), k, nil))
	}
}
