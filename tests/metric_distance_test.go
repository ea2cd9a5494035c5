package tests

import (
	"math/rand"
	"slices"
	"testing"

	"loop.example/g01084/impl"
)

func TestExampleOfChapter8(t *testing.T) {
	five := sure(t)(impl.CycleNetwork(5))
	diameter, ok := impl.DiameterOf(five)
	wantNumber(t, diameter, ok, 2, "diameter")
	girth, ok := impl.GirthOf(five)
	wantNumber(t, girth, ok, 5, "girth")
	walk, ok := impl.OddClosedWalk(five)
	wantList(t, walk, ok, []int{0, 1, 2, 3, 4, 0}, "odd closed walk")
	for v := range 4 {
		n := sure(t)(impl.AddStub(sure(t)(impl.PathNetwork(4)), v))
		walk, ok = impl.OddClosedWalk(n)
		wantList(t, walk, ok, []int{v, v}, "a stub of node", v)
	}
}

func TestDistancesBallsAndShells(t *testing.T) {
	for _, n := range metricNetworks(t) {
		for v, row := range distanceTable(n) {
			distances, ok := impl.DistancesFrom(n, v)
			wantList(t, distances, ok, row, "distances from", v, "in", n)
			greatest := slices.Max(row)
			for _, r := range []int{0, 1, 2, greatest - 1, greatest, greatest + 1, 39, 40} {
				if r >= 0 && r <= 40 {
					ball, ok := impl.BallOf(n, v, r)
					wantList(t, ball, ok, nearByHand(row, r), "nodes around", v, "with the radius", r, "in", n)
				}
			}
			want, before := []int{}, 0
			for r := 0; r <= greatest; r++ {
				count := len(nearByHand(row, r))
				want, before = append(want, count-before), count
			}
			sizes, ok := impl.ShellSizes(n, v)
			wantList(t, sizes, ok, want, "shells around", v, "in", n)
		}
	}
}

func TestComponents(t *testing.T) {
	connected := 0
	for _, n := range metricNetworks(t) {
		want := make([]int, len(n.Ends))
		components := componentsByHand(n)
		for _, nodes := range components {
			for _, v := range nodes {
				want[v] = nodes[0]
			}
		}
		got, ok := impl.ComponentsOf(n)
		wantList(t, got, ok, want, "components of", n)
		is, ok := impl.IsConnected(n)
		wantTruth(t, is, ok, len(components) == 1, "connected", n)
		if is {
			connected++
		}
		for v := range n.Ends {
			distances, ok := impl.DistancesFrom(n, v)
			least := slices.IndexFunc(distances, func(d int) bool { return d >= 0 })
			wantNumber(t, least, ok, got[v], "least node with a distance from", v, "in", n)
		}
	}
	if connected < 300 {
		t.Error("only", connected, "networks are connected")
	}
}

// farthest returns the greatest distance from each node, and fails if a distance is missing.
func farthest(table [][]int) ([]int, bool) {
	list := []int{}
	for _, row := range table {
		if slices.Contains(row, -1) {
			return nil, false
		}
		list = append(list, slices.Max(row))
	}
	return list, true
}

func TestDiameterAndCentres(t *testing.T) {
	several := 0
	for _, n := range metricNetworks(t) {
		diameter, ok := impl.DiameterOf(n)
		centres, fine := impl.CentresOf(n)
		list, connected := farthest(distanceTable(n))
		if !connected {
			refused(t, "diameter", diameter, ok)
			refused(t, "centres", centres, fine)
			continue
		}
		wantNumber(t, diameter, ok, slices.Max(list), "diameter of", n)
		want := []int{}
		for v, d := range list {
			if d == slices.Min(list) {
				want = append(want, v)
			}
		}
		wantList(t, centres, fine, want, "centres of", n)
		// The greatest distance from a centre is at least half of the diameter, and in a tree there are no other centres than one or two.
		sizes, ok := impl.ShellSizes(n, centres[0])
		if radius := len(sizes) - 1; !ok || 2*radius < diameter || radius > diameter {
			t.Fatalf("radius %d and diameter %d of %v", radius, diameter, n)
		}
		if tree, _ := impl.IsTree(n); tree {
			wantNumber(t, len(centres), true, 1+diameter%2, "centres of the tree", n)
			several++
		}
	}
	if several < 20 {
		t.Error("only", several, "trees")
	}
}

// wantMetric fails the test unless a connected network has this diameter and girth, which is 0 without cycles.
func wantMetric(t *testing.T, diameter, girth int, name ...any) func(impl.Network, bool) {
	return func(n impl.Network, ok bool) {
		t.Helper()
		d, fine := impl.DiameterOf(n)
		wantNumber(t, d, ok && fine, diameter, "diameter", name)
		g, fine := impl.GirthOf(n)
		if girth == 0 {
			refused(t, "girth", g, fine)
		} else {
			wantNumber(t, g, fine, girth, "girth", name)
		}
	}
}

func TestMetricOfStandardNetworks(t *testing.T) {
	for k := 1; k <= 40; k++ {
		path := sure(t)(impl.PathNetwork(k))
		wantMetric(t, k-1, 0, "path", k)(path, true)
		centres, ok := impl.CentresOf(path)
		wantList(t, centres, ok, slices.Compact([]int{(k - 1) / 2, k / 2}), "path", k)
		cycle := sure(t)(impl.CycleNetwork(k))
		wantMetric(t, k/2, k, "cycle", k)(cycle, true)
		centres, ok = impl.CentresOf(cycle)
		wantList(t, centres, ok, rising(k), "cycle", k)
		for b := 2; b*k <= 40; b++ {
			wantMetric(t, k-1+b-1, 4*min(k-1, 1), "grid", k, b)(impl.GridNetwork(k, b))
			wantMetric(t, k/2+b/2, min(k, b, 4), "torus", k, b)(impl.TorusNetwork(k, b))
		}
	}
	for k := 3; k <= 7; k++ {
		wantMetric(t, 1, 3, "complete network", k)(impl.CompleteNetwork(k))
	}
	for d := 2; d <= 5; d++ {
		wantMetric(t, d, 4, "hypercube", d)(impl.HypercubeNetwork(d))
		wantMetric(t, 2, 0, "star", d)(impl.StarNetwork(d))
	}
	wantMetric(t, 6, 0, "tree")(impl.RegularTree(3, 3))
	wantMetric(t, 0, 0, "stubs alone")(impl.BouquetNetwork(6, 0))
	wantMetric(t, 0, 1, "stubs and a loop")(impl.BouquetNetwork(4, 1))
}

func TestShellsOfStandardNetworks(t *testing.T) {
	sizes, ok := impl.ShellSizes(sure(t)(impl.HypercubeNetwork(5)), 19)
	wantList(t, sizes, ok, []int{1, 5, 10, 10, 5, 1}, "hypercube")
	tree := sure(t)(impl.RegularTree(4, 2))
	sizes, ok = impl.ShellSizes(tree, 0)
	wantList(t, sizes, ok, []int{1, 4, 12}, "tree from its root")
	sizes, ok = impl.ShellSizes(tree, 16)
	wantList(t, sizes, ok, []int{1, 1, 3, 3, 9}, "tree from a leaf")
	ball, ok := impl.BallOf(sure(t)(impl.CycleNetwork(7)), 1, 2)
	wantList(t, ball, ok, []int{0, 1, 2, 3, 6}, "cycle")
	sizes, ok = impl.ShellSizes(zeroInputs(bare(3)), 1)
	wantList(t, sizes, ok, []int{1}, "nodes without ports")
	sizes, ok = impl.ShellSizes(zeroInputs(full(3)), 2)
	wantList(t, sizes, ok, []int{1}, "nodes with stubs")
}

// TestDistancesFollowRenumberedNodes also gives ports, identifiers and inputs to the nodes that do not matter.
func TestDistancesFollowRenumberedNodes(t *testing.T) {
	r := rand.New(rand.NewSource(82))
	for k, n := range metricNetworks(t) {
		if k%4 > 0 {
			continue
		}
		perm := r.Perm(len(n.Ends))
		m := zeroInputs(withIds(sure(t)(impl.RenumberNodes(n, perm)), idsUpTo(len(perm))...))
		for v := range m.Ends {
			m = sure(t)(impl.PermutePorts(m, v, r.Perm(len(m.Ends[v]))))
		}
		for v := range n.Ends {
			want := make([]int, len(perm))
			distances, ok := impl.DistancesFrom(n, v)
			for w, d := range distances {
				want[perm[w]] = d
			}
			got, fine := impl.DistancesFrom(m, perm[v])
			wantList(t, got, ok && fine, want, "distances from", perm[v], "in", m)
		}
		girth, ok := impl.GirthOf(n)
		other, fine := impl.GirthOf(m)
		wantNumber(t, other, ok == fine, girth, "girth of", n, m)
	}
}
