package tests

import (
	"fmt"
	"math/rand"
	"slices"
	"testing"

	"loop.example/g01084/impl"
)

// wantMapsBetween compares all port maps from a to b with those that ways lead to, and returns how many there are.
func wantMapsBetween(t *testing.T, a, b impl.Network) int {
	t.Helper()
	what := fmt.Sprint("port maps from ", a, " to ", b)
	list, ok := impl.PortMapsBetween(a, b)
	if len(componentsByHand(a)) > 1 {
		refused(t, what, list, ok)
		for w := range b.Ends {
			m, ok := impl.ExtendMap(a, b, w)
			refused(t, what, m, ok)
		}
		return 0
	}
	want := [][]int{}
	for w := range b.Ends {
		m, wantOk := portMapByHand(a, b, w)
		got, fine := impl.ExtendMap(a, b, w)
		if !wantOk {
			refused(t, what, got, fine)
			continue
		}
		wantList(t, got, fine, m, what, "with the first image", w)
		want = append(want, m)
	}
	if !ok || !same(list, want) {
		t.Fatalf("%s: got %v %v, want %v", what, list, ok, want)
	}
	return len(want)
}

func TestAllPortMaps(t *testing.T) {
	counts := map[int]int{}
	maps := coverMaps(t)
	for k, c := range maps {
		counts[min(wantMapsBetween(t, c.a, c.b), 2)]++
		wantMapsBetween(t, c.b, c.a)
		wantMapsBetween(t, c.a, c.a)
		d := maps[(7*k+3)%len(maps)]
		wantMapsBetween(t, c.a, d.a)
		wantMapsBetween(t, c.b, d.a)
	}
	parts := pieces(t)
	for _, a := range parts {
		for _, b := range parts {
			counts[min(wantMapsBetween(t, a, b), 2)]++
		}
	}
	for count := range 3 {
		if counts[count] < 50 {
			t.Errorf("for only %d pairs there are %d port maps", counts[count], count)
		}
	}
}

// TestPortMapsAreAllLists compares with all lists of images of small networks.
func TestPortMapsAreAllLists(t *testing.T) {
	networks := []impl.Network{}
	for _, degrees := range [][]int{{0}, {1}, {2}, {1, 1}, {2, 2}, {1, 2, 1}, {2, 2, 2}} {
		for _, n := range smallNetworks(degrees...) {
			networks = append(networks, zeroInputs(n))
		}
	}
	for _, a := range networks {
		for _, b := range networks {
			want := [][]int{}
			allLists(len(a.Ends), rising(len(b.Ends)), func(m []int) {
				if isPortMapByHand(a, b, m) {
					want = append(want, m)
				}
			})
			list, ok := impl.PortMapsBetween(a, b)
			if len(componentsByHand(a)) > 1 {
				refused(t, fmt.Sprint("port maps from ", a), list, ok)
			} else if !ok || !same(list, want) {
				t.Fatalf("port maps from %v to %v: got %v %v, want %v", a, b, list, ok, want)
			}
		}
	}
}

func TestPortMapsOfKnownNetworks(t *testing.T) {
	cycles := map[int]impl.Network{}
	for k := 1; k <= 40; k++ {
		cycles[k] = sure(t)(impl.CycleNetwork(k))
	}
	for j, a := range cycles {
		for k, b := range cycles {
			list, ok := impl.PortMapsBetween(a, b)
			want := 0
			if j%k == 0 {
				want = k
			}
			if !ok || len(list) != want {
				t.Fatalf("from %d to %d nodes: %v %v", j, k, list, ok)
			}
			for w, m := range list {
				for v := range m {
					if m[v] != (v+w)%k {
						t.Fatalf("from %d to %d nodes: the map %d is %v", j, k, w, m)
					}
				}
			}
		}
	}
	path := sure(t)(impl.PathNetwork(40))
	m, ok := impl.ExtendMap(path, path, 0)
	wantList(t, m, ok, rising(40), "a path")
	m, ok = impl.ExtendMap(path, path, 39)
	refused(t, "a path in the other direction", m, ok)
	// One node of the second network is the image of all others.
	stubs := sure(t)(impl.UnionOf(bare(2), sure(t)(impl.BouquetNetwork(3, 0))))
	m, ok = impl.ExtendMap(sure(t)(impl.HypercubeNetwork(3)), stubs, 2)
	wantList(t, m, ok, slices.Repeat([]int{2}, 8), "a cube and three stubs")
	list, ok := impl.PortMapsBetween(sure(t)(impl.HypercubeNetwork(3)), stubs)
	if !ok || !same(list, [][]int{slices.Repeat([]int{2}, 8)}) {
		t.Error("a cube and three stubs", list, ok)
	}
}

// TestMapsThatFailAtTheEndOfAWalkAlone differ at the last node, or only where two ways meet.
func TestMapsThatFailAtTheEndOfAWalkAlone(t *testing.T) {
	for k := 2; k <= 40; k++ {
		a, b := sure(t)(impl.PathNetwork(k)), sure(t)(impl.PathNetwork(k))
		b.Inputs[k-1] = 1
		list, ok := impl.PortMapsBetween(a, b)
		if !ok || len(list) > 0 {
			t.Fatalf("an input at the end of a path of %d: %v %v", k, list, ok)
		}
		b = sure(t)(impl.PathNetwork(k))
		wantMapsBetween(t, a, sure(t)(impl.AddStub(b, k-1)))
		wantMapsBetween(t, sure(t)(impl.AddStub(a, k-1)), b)
		cycle, closed := sure(t)(impl.CycleNetwork(k)), sure(t)(impl.CycleNetwork(k-1))
		for w := range closed.Ends {
			m, ok := impl.ExtendMap(cycle, closed, w)
			if k > 2 {
				refused(t, fmt.Sprint("cycles of ", k, " and one less"), m, ok)
			} else {
				wantList(t, m, ok, []int{0, 0}, "cycles of 2 and 1")
			}
		}
	}
	// A loop of node 0 leads to nodes with another degree.
	a := zeroInputs(joined([]int{3}, [4]int{0, 0, 0, 1}, [4]int{0, 2, 0, 2}))
	b := zeroInputs(joined([]int{3, 1, 1, 6}, [4]int{0, 0, 1, 0}, [4]int{0, 1, 2, 0}, [4]int{0, 2, 3, 0}))
	for i := 1; i < 6; i++ {
		b.Ends[3][i] = impl.End{Node: 3, Port: i}
	}
	for w := range b.Ends {
		m, ok := impl.ExtendMap(a, b, w)
		refused(t, fmt.Sprint("a loop and the node ", w), m, ok)
	}
	wantMapsBetween(t, b, a)
}

func TestDisconnectedNetworks(t *testing.T) {
	three := sure(t)(impl.CycleNetwork(3))
	two := sure(t)(impl.UnionOf(three, three))
	list, ok := impl.PortMapsBetween(two, two)
	refused(t, "from two cycles", list, ok)
	list, ok = impl.PortMapsBetween(two, three)
	refused(t, "from two cycles", list, ok)
	m, ok := impl.ExtendMap(two, three, 0)
	refused(t, "from two cycles", m, ok)
	list, ok = impl.PortMapsBetween(zeroInputs(bare(2)), zeroInputs(bare(1)))
	refused(t, "from nodes without ports", list, ok)
	list, ok = impl.PortMapsBetween(three, two)
	if want := [][]int{{0, 1, 2}, {1, 2, 0}, {2, 0, 1}, {3, 4, 5}, {4, 5, 3}, {5, 3, 4}}; !ok || !same(list, want) {
		t.Error("to two cycles", list, ok)
	}
	list, ok = impl.PortMapsBetween(zeroInputs(bare(1)), withInputs(bare(4), 0, 1, 0, 0))
	if !ok || !same(list, [][]int{{0}, {2}, {3}}) {
		t.Error("to nodes without ports", list, ok)
	}
	list, ok = impl.PortMapsBetween(three, bare(2))
	if !ok || len(list) > 0 {
		t.Error("no port map", list, ok)
	}
	// A node that only a node with a greater number leads to is reached from node 0 all the same.
	star := zeroInputs(joined([]int{1, 1, 2}, [4]int{0, 0, 2, 1}, [4]int{1, 0, 2, 0}))
	m, ok = impl.ExtendMap(star, star, 0)
	wantList(t, m, ok, []int{0, 1, 2}, "a path in another order")
}

func TestComposedMaps(t *testing.T) {
	r := rand.New(rand.NewSource(77))
	count := 0
	for j, c := range coverMaps(t) {
		k := 1 + j%3
		if k*len(c.m) > 40 {
			continue
		}
		count++
		d := coverMap{liftByHand(c.a, k, sheetChanges(r, c.a, k)), c.a, projection(len(c.m), k)}.mixed(t, r)
		want := []int{}
		for v := range d.m {
			want = append(want, c.m[d.m[v]])
		}
		h, ok := impl.ComposeMaps(d.a, c.a, c.b, d.m, c.m)
		wantList(t, h, ok, want, "composed", d.m, c.m)
		if !wantMap(t, d.a, c.b, h) {
			t.Fatalf("%v is no port map from %v to %v", h, d.a, c.b)
		}
		h, ok = impl.ComposeMaps(c.a, c.b, c.b, c.m, rising(len(c.b.Ends)))
		wantList(t, h, ok, c.m, "with the identity of the second network")
		h, ok = impl.ComposeMaps(c.a, c.a, c.b, rising(len(c.m)), c.m)
		wantList(t, h, ok, c.m, "with the identity of the first network")
	}
	if count < 100 {
		t.Errorf("only %d maps are composed", count)
	}
	twelve, six, three := sure(t)(impl.CycleNetwork(12)), sure(t)(impl.CycleNetwork(6)), sure(t)(impl.CycleNetwork(3))
	f, g := []int{5, 0, 1, 2, 3, 4, 5, 0, 1, 2, 3, 4}, []int{1, 2, 0, 1, 2, 0}
	h, ok := impl.ComposeMaps(twelve, six, three, f, g)
	wantList(t, h, ok, []int{0, 1, 2, 0, 1, 2, 0, 1, 2, 0, 1, 2}, "cycles")
	h, ok = impl.ComposeMaps(twelve, six, three, g, f)
	refused(t, "in the other order", h, ok)
	h, ok = impl.ComposeMaps(twelve, six, three, f, []int{0, 1, 2, 0, 1, 1})
	refused(t, "the second one is no port map", h, ok)
	h, ok = impl.ComposeMaps(twelve, six, three, append(rising(6), rising(6)[:5]...), g)
	refused(t, "the first one is too short", h, ok)
	h, ok = impl.ComposeMaps(twelve, six, three, make([]int, 12), g)
	refused(t, "the first one is no port map", h, ok)
	// Wrong at a node that is no image.
	two := sure(t)(impl.UnionOf(six, six))
	h, ok = impl.ComposeMaps(six, two, three, rising(6), append(slices.Clone(g), 0, 1, 2, 0, 1, 1))
	refused(t, "wrong at a node that is no image", h, ok)
}
