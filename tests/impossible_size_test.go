package tests

import (
	"fmt"
	"math/rand"
	"slices"
	"testing"

	"loop.example/g01084/impl"
)

// wantTwin compares the connected twin of a network with the one by hand, and checks what the chapter says about it. It reports whether there is one.
func wantTwin(t *testing.T, n impl.Network) bool {
	t.Helper()
	want, covering, is := connectedTwinByHand(n)
	twin, m, ok := impl.ConnectedTwin(n)
	wantNetwork(t, fmt.Sprint("twin of ", n), twin, ok, want, is)
	if !is {
		refused(t, fmt.Sprint("twin of ", n), twin, m, ok)
		return false
	}
	wantList(t, m, ok, covering, "covering of", n)
	if !isConnected(twin) || !isCovering(twin, n, m) || len(twin.Ends) != 2*len(n.Ends) || len(twin.Ids) > 0 {
		t.Fatalf("the twin of %v is %v with %v", n, twin, m)
	}
	refutes, ok := impl.RefutesSize(n, twin, m)
	wantTruth(t, refutes, ok, true, "twin of", n)
	for _, task := range []int{impl.TkLeader, impl.TkNames} {
		outputs, ok := impl.MeetTask(twin, task)
		refused(t, fmt.Sprint("task ", task, " on the twin of ", n), outputs, ok)
	}
	return true
}

func TestConnectedTwins(t *testing.T) {
	counts := map[bool]int{}
	for _, n := range append(taskNetworks(t), metricNetworks(t)...) {
		counts[wantTwin(t, n)]++
	}
	if counts[true] < 300 || counts[false] < 300 {
		t.Error("networks with a twin and others:", counts)
	}
}

func TestTwinsOfSmallNetworks(t *testing.T) {
	for _, degrees := range [][]int{{0}, {1}, {2}, {3}, {4}, {0, 0}, {1, 1}, {2, 2}, {3, 1}, {1, 2, 1}, {2, 2, 2}, {1, 3, 2}, {2, 0, 2}, {1, 1, 1, 1}, {3, 3, 2}} {
		for _, n := range smallNetworks(degrees...) {
			wantTwin(t, n)
		}
	}
}

// TestKnownTwins has the first edge outside of the tree at any place: a stub, a loop, the second edge between two nodes, and the last edge of a cycle.
func TestKnownTwins(t *testing.T) {
	for _, c := range []struct {
		n     impl.Network
		ports string
	}{
		{sure(t)(impl.BouquetNetwork(1, 0)), "1.0|0.0"},
		{sure(t)(impl.BouquetNetwork(0, 1)), "1.1 1.0|0.1 0.0"},
		{sure(t)(impl.BouquetNetwork(2, 0)), "1.0 0.1|0.0 1.1"},
		{sure(t)(impl.BouquetNetwork(1, 1)), "1.0 0.2 0.1|0.0 1.2 1.1"},
		{zeroInputs(joined([]int{3}, [4]int{0, 0, 0, 1}, [4]int{0, 2, 0, 2})), "1.1 1.0 0.2|0.1 0.0 1.2"},
		{sure(t)(impl.CycleNetwork(2)), "3.1 2.0|2.1 3.0|0.1 1.0|1.1 0.0"},
		{sure(t)(impl.CycleNetwork(3)), "2.1 4.0|3.1 5.0|5.1 0.0|4.1 1.0|0.1 3.0|1.1 2.0"},
		{zeroInputs(joined([]int{2, 2}, [4]int{0, 0, 1, 0}, [4]int{0, 1, 1, 1})), "2.0 3.1|3.0 2.1|0.0 1.1|1.0 0.1"},
		{withIds(pair(), 1, 2), "2.1|3.1|3.0 0.0|2.0 1.0"},
	} {
		twin, m, ok := impl.ConnectedTwin(c.n)
		if !ok || !impl.IsNetwork(twin) || len(twin.Ids) > 0 {
			t.Fatal("no twin: ", c, twin, m, ok)
		}
		if portsOf(twin) != c.ports {
			t.Errorf("%v: ports %s, want %s", c.n, portsOf(twin), c.ports)
		}
		wantList(t, m, ok, projection(len(c.n.Ends), 2), "covering")
		wantList(t, twin.Inputs, ok, slices.Concat(repeated(c.n.Inputs, 2)...), "inputs")
	}
	for k := 1; k <= 20; k++ {
		twin, m, ok := impl.ConnectedTwin(sure(t)(impl.CycleNetwork(k)))
		same, fine := impl.SameNetworks(twin, sure(t)(impl.CycleNetwork(2*k)))
		wantTruth(t, same, ok && fine, true, "twin of a cycle of", k, m)
	}
}

// repeated returns each number as a list of itself.
func repeated(list []int, times int) [][]int {
	lists := [][]int{}
	for _, x := range list {
		lists = append(lists, slices.Repeat([]int{x}, times))
	}
	return lists
}

func TestNetworksWithoutTwins(t *testing.T) {
	star := sure(t)(impl.StarNetwork(6))
	list := []impl.Network{zeroInputs(bare(1)), bare(2), star, sure(t)(impl.RegularTree(3, 3)), sure(t)(impl.UnionOf(star, star)), sure(t)(impl.UnionOf(sure(t)(impl.CycleNetwork(3)), zeroInputs(bare(1)))), sure(t)(impl.UnionOf(zeroInputs(bare(1)), sure(t)(impl.CycleNetwork(3)))), full(2), full(40)}
	for k := 1; k <= 40; k++ {
		list = append(list, sure(t)(impl.PathNetwork(k)))
	}
	for k := 21; k <= 40; k++ {
		list = append(list, sure(t)(impl.CycleNetwork(k)), line(k, 0))
	}
	for _, n := range list {
		twin, m, ok := impl.ConnectedTwin(n)
		refused(t, fmt.Sprint("twin of ", n), twin, m, ok)
	}
	for k := 1; k <= 20; k++ {
		for _, n := range []impl.Network{sure(t)(impl.CycleNetwork(k)), line(k), line(k, k/2), withIds(line(k, 0), idsUpTo(k)...)} {
			if !wantTwin(t, n) {
				t.Error("no twin of a network with nodes: ", k)
			}
		}
	}
}

// wantRefutes compares with the conditions of the chapter.
func wantRefutes(t *testing.T, n, b impl.Network, m []int) bool {
	t.Helper()
	covers := len(m) == len(b.Ends) && !slices.ContainsFunc(m, func(w int) bool { return w < 0 || w >= len(n.Ends) }) && isCovering(b, n, m)
	want := covers && isConnected(b) && len(b.Ends) > len(n.Ends)
	is, ok := impl.RefutesSize(n, b, m)
	wantTruth(t, is, ok, want, "map", m, "from", b, "to", n)
	return want
}

func TestCoveringsThatRefuteSizes(t *testing.T) {
	r := rand.New(rand.NewSource(126))
	counts := map[string]int{}
	for _, c := range coverMaps(t) {
		covers := isCovering(c.a, c.b, c.m)
		is := wantRefutes(t, c.b, c.a, c.m)
		counts[fmt.Sprint("refutes ", is)]++
		switch {
		case is:
		case !covers:
			counts["no covering"]++
		case len(c.a.Ends) == len(c.b.Ends):
			counts["one sheet"]++
		case !isConnected(c.a):
			counts["not connected"]++
		}
		wantRefutes(t, c.a, c.b, c.m)
		wantRefutes(t, c.b, c.b, rising(len(c.b.Ends)))
		wantRefutes(t, c.a, c.a, c.m)
		for _, m := range changedLists(r, c.m) {
			wantRefutes(t, c.b, c.a, m)
		}
		wantRefutes(t, c.b, c.a, r.Perm(len(c.m)))
	}
	for _, what := range []string{"refutes true", "no covering", "one sheet", "not connected"} {
		if counts[what] < 10 {
			t.Error("coverings: ", counts)
		}
	}
}

func TestKnownCoveringsThatRefuteSizes(t *testing.T) {
	three, six := sure(t)(impl.CycleNetwork(3)), sure(t)(impl.CycleNetwork(6))
	twice := sure(t)(impl.UnionOf(three, three))
	one, two := zeroInputs(bare(1)), zeroInputs(bare(2))
	for _, c := range []struct {
		n, b impl.Network
		m    []int
		want bool
	}{
		{three, six, []int{0, 1, 2, 0, 1, 2}, true},
		{three, six, []int{1, 2, 0, 1, 2, 0}, true},
		{withIds(three, 1, 2, 3), six, []int{0, 1, 2, 0, 1, 2}, true},
		{three, withIds(six, 1, 2, 3, 4, 5, 6), []int{0, 1, 2, 0, 1, 2}, true},
		{three, six, []int{0, 1, 2, 0, 2, 1}, false},
		{three, six, []int{0, 2, 1, 0, 2, 1}, false},
		{three, six, []int{0, 1, 2, 0, 1}, false},
		{three, six, []int{0, 1, 2, 0, 1, 2, 0}, false},
		{three, six, nil, false},
		{three, six, []int{-1, 1, 2, 0, 1, 2}, false},
		{three, six, []int{3, 1, 2, 0, 1, 2}, false},
		{three, six, []int{maxInt, minInt, 2, 0, 1, 2}, false},
		{three, withInputs(six, 0, 0, 0, 0, 0, 1), []int{0, 1, 2, 0, 1, 2}, false},
		{three, twice, []int{0, 1, 2, 0, 1, 2}, false},
		{three, three, []int{0, 1, 2}, false},
		{three, three, []int{1, 2, 0}, false},
		{six, three, []int{0, 1, 2}, false},
		{twice, six, []int{0, 1, 2, 0, 1, 2}, false},
		{twice, sure(t)(impl.CycleNetwork(9)), []int{0, 1, 2, 0, 1, 2, 0, 1, 2}, false},
		{one, two, []int{0, 0}, false},
		{one, one, []int{0}, false},
		{sure(t)(impl.BouquetNetwork(0, 1)), sure(t)(impl.CycleNetwork(40)), make([]int, 40), true},
		{sure(t)(impl.BouquetNetwork(1, 0)), sure(t)(impl.PathNetwork(2)), []int{0, 0}, true},
		{sure(t)(impl.BouquetNetwork(1, 0)), sure(t)(impl.PathNetwork(3)), []int{0, 0, 0}, false},
	} {
		if is := wantRefutes(t, c.n, c.b, c.m); is != c.want {
			t.Errorf("map %v from %v to %v: %v", c.m, c.b, c.n, is)
		}
	}
}
