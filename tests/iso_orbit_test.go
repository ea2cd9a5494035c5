package tests

import (
	"fmt"
	"math/rand"
	"slices"
	"testing"

	"loop.example/g01084/impl"
)

func TestOrbitsAndAutomorphisms(t *testing.T) {
	for _, n := range fewIsomorphisms(t) {
		list := isomorphismsByHand(n, n, 801)
		want, alone := rising(len(n.Ends)), []int{}
		for v := range n.Ends {
			moved := false
			for _, f := range list {
				want[v] = min(want[v], f[v])
				moved = moved || f[v] != v
			}
			if !moved {
				alone = append(alone, v)
			}
		}
		orbits, ok := impl.OrbitsOf(n)
		wantList(t, orbits, ok, want, "orbits of", n)
		fixed, ok := impl.FixedNodes(n)
		wantList(t, fixed, ok, alone, "fixed nodes of", n)
		count, ok := impl.AutomorphismCount(n)
		wantNumber(t, count, ok, len(list), "isomorphisms of a network and itself", n)
	}
}

// TestOrbitsAgree compares results with each other, also for networks whose isomorphisms cannot be listed.
func TestOrbitsAgree(t *testing.T) {
	r := rand.New(rand.NewSource(73))
	for _, n := range isoNetworks(t) {
		perm := r.Perm(len(n.Ends))
		m := sure(t)(impl.RenumberNodes(n, perm))
		orbits, ok := impl.OrbitsOf(n)
		others, fine := impl.OrbitsOf(m)
		for v := range n.Ends {
			for w := range n.Ends {
				is, ok := impl.SameRoots(n, v, n, w)
				wantTruth(t, is, ok, orbits[v] == orbits[w], "nodes", v, w, "in an orbit of", n)
				wantTruth(t, is, ok, others[perm[v]] == others[perm[w]], "images of", v, w, "in an orbit of", n)
			}
			images, ok := impl.ImagesOf(n, v, m)
			want := []int{}
			for w := range n.Ends {
				if orbits[w] == orbits[v] {
					want = append(want, perm[w])
				}
			}
			slices.Sort(want)
			wantList(t, images, ok, want, "images of", v, "in", n, m)
		}
		count, counted := impl.AutomorphismCount(n)
		other, otherCounted := impl.AutomorphismCount(m)
		if !ok || !fine || counted != otherCounted || count != other {
			t.Fatalf("orbits %v %v and counts %d %v and %d %v of %v", ok, fine, count, counted, other, otherCounted, n)
		}
		if fixed, ok := impl.FixedNodes(n); (len(fixed) == len(n.Ends)) != (count == 1) || !ok {
			t.Fatalf("fixed nodes %v %v of %v with %d isomorphisms", fixed, ok, n, count)
		}
	}
}

func TestAutomorphismsOfKnownNetworks(t *testing.T) {
	check := func(want int, what ...any) func(impl.Network, bool) {
		return func(n impl.Network, ok bool) {
			t.Helper()
			count, fine := impl.AutomorphismCount(n)
			wantNumber(t, count, ok && fine, want, what...)
		}
	}
	for k := 1; k <= 40; k++ {
		check(k, "cycle", k)(impl.CycleNetwork(k))
		cycle, _ := impl.CycleNetwork(k)
		check(1, "cycle with identifiers", k)(withIds(cycle, idsUpTo(k)...), true)
		cycle.Inputs[k-1] = 3
		check(1, "cycle with an input", k)(cycle, true)
		path := 1
		if k == 2 {
			path = 2
		}
		check(path, "path", k)(impl.PathNetwork(k))
		for b := 1; b*k <= 40; b++ {
			check(b*k, "torus", k, b)(impl.TorusNetwork(k, b))
		}
	}
	for k := range 6 {
		check(1<<k, "hypercube", k)(impl.HypercubeNetwork(k))
		check(k+1, "complete network", k+1)(impl.CompleteNetwork(k + 1))
	}
	for k := 2; k <= 6; k++ {
		check(1, "star", k)(impl.StarNetwork(k))
	}
}

// TestFixedNodesAreInNoOtherOrbit has a node that every isomorphism leaves where it is, and others that are exchanged with their components.
func TestFixedNodesAreInNoOtherOrbit(t *testing.T) {
	edge := zeroInputs(joined([]int{1, 1}, [4]int{0, 0, 1, 0}))
	n := sure(t)(impl.UnionOf(edge, withInputs(edge, 0, 1)))
	n = sure(t)(impl.UnionOf(n, withInputs(edge, 1, 0)))
	n = sure(t)(impl.UnionOf(n, zeroInputs(bare(1))))
	orbits, ok := impl.OrbitsOf(n)
	wantList(t, orbits, ok, []int{0, 0, 2, 3, 3, 2, 6}, "orbits")
	fixed, ok := impl.FixedNodes(n)
	wantList(t, fixed, ok, []int{6}, "fixed nodes")
	count, ok := impl.AutomorphismCount(n)
	wantNumber(t, count, ok, 4, "an edge turned, and two exchanged")
	fixed, ok = impl.FixedNodes(withIds(zeroInputs(bare(40)), idsUpTo(40)...))
	wantList(t, fixed, ok, rising(40), "nodes with identifiers")
	fixed, ok = impl.FixedNodes(zeroInputs(bare(40)))
	wantList(t, fixed, ok, nil, "equal nodes")
	orbits, ok = impl.OrbitsOf(zeroInputs(bare(40)))
	wantList(t, orbits, ok, make([]int, 40), "equal nodes")
}

// A cycleKind is a number of equal cycles.
type cycleKind struct {
	nodes, times int
}

// isomorphisms returns how often these cycles are taken to themselves: each one to any of them, and turned.
func (c cycleKind) isomorphisms() int {
	count := 1
	for k := range c.times {
		count = min(count*c.nodes*(k+1), 1<<50)
	}
	return count
}

// A cycleList has cycles of some kinds, with the number of isomorphisms of all of them together and themselves.
type cycleList struct {
	count int
	kinds []cycleKind
}

// cyclesByCount returns for each number of isomorphisms, up to a limit, cycles with the fewest nodes that have so many. Every network has as many isomorphisms as some cycles, because those of a component leave no node where it is.
func cyclesByCount(limit int) []cycleList {
	all := []cycleList{{count: 1}}
	met := map[int]bool{1: true}
	byNodes := [][]cycleList{all}
	for nodes := 1; nodes <= 40; nodes++ {
		lists := []cycleList{}
		for size := 1; size <= nodes; size++ {
			for times := 1; times*size <= nodes; times++ {
				kind := cycleKind{size, times}
				factor := kind.isomorphisms()
				for _, l := range byNodes[nodes-size*times] {
					if factor <= limit/l.count && !met[l.count*factor] {
						met[l.count*factor] = true
						lists = append(lists, cycleList{l.count * factor, append(slices.Clone(l.kinds), kind)})
					}
				}
			}
		}
		byNodes = append(byNodes, lists)
		all = append(all, lists...)
	}
	return all
}

// networkOfCycles returns the cycles of all kinds, which have other inputs or other numbers of stubs for each kind.
func networkOfCycles(t *testing.T, kinds []cycleKind) impl.Network {
	n := impl.Network{}
	for k, kind := range kinds {
		cycle := sure(t)(impl.CycleNetwork(kind.nodes))
		for v := range cycle.Ends {
			cycle.Inputs[v] = k % 10
			for range k / 10 {
				cycle = sure(t)(impl.AddStub(cycle, v))
			}
		}
		for range kind.times {
			if len(n.Ends) == 0 {
				n = cycle
			} else {
				n = sure(t)(impl.UnionOf(n, cycle))
			}
		}
	}
	return n
}

// TestCountsAroundTheLimit goes as near to the limit as networks do: none has exactly so many isomorphisms.
func TestCountsAroundTheLimit(t *testing.T) {
	const limit = 1000000000000
	r := rand.New(rand.NewSource(74))
	below, above := 0, 2*limit
	for _, l := range cyclesByCount(2 * limit) {
		want := l.count
		if want <= limit {
			below = max(below, want)
		} else {
			above = min(above, want)
		}
		if want < limit/5*4 || want > limit/5*6 {
			continue
		}
		n := networkOfCycles(t, l.kinds)
		n = sure(t)(impl.RenumberNodes(n, r.Perm(len(n.Ends))))
		count, ok := impl.AutomorphismCount(n)
		if want <= limit {
			wantNumber(t, count, ok, want, l.kinds)
		} else {
			refused(t, fmt.Sprint("too many isomorphisms ", l.kinds), count, ok)
		}
	}
	if below != 999959385600 || above != 1001432678400 {
		t.Errorf("nearest numbers %d and %d", below, above)
	}
}

func TestCountsOfEqualNodes(t *testing.T) {
	want := 1
	for k := 1; k <= 40; k++ {
		for _, n := range []impl.Network{zeroInputs(bare(k)), zeroInputs(full(k))} {
			count, ok := impl.AutomorphismCount(n)
			if k <= 14 {
				wantNumber(t, count, ok, want*k, k, "equal nodes")
			} else {
				refused(t, fmt.Sprint(k, " equal nodes"), count, ok)
			}
		}
		want *= k
	}
	count, ok := impl.AutomorphismCount(withIds(zeroInputs(bare(40)), idsUpTo(40)...))
	wantNumber(t, count, ok, 1, "nodes with identifiers")
}
