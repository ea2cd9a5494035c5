package tests

import (
	"fmt"
	"math/rand"
	"slices"
	"testing"

	"loop.example/g01084/impl"
)

// wantProduct compares a fibre product with the one of named nodes, and checks that it has a port map to each of its networks. It reports whether there is one.
func wantProduct(t *testing.T, a, b, c impl.Network, f, g []int) bool {
	t.Helper()
	what := fmt.Sprint("fibre product of ", a, " and ", b, " over ", c, " by ", f, " and ", g)
	product, ok := impl.FibreProduct(a, b, c, f, g)
	want, wantOk := productByHand(a, b, f, g)
	wantNetwork(t, what, product, ok, want, wantOk)
	if !ok {
		return false
	}
	first, second := []int{}, []int{}
	for v := range f {
		for w := range g {
			if f[v] == g[w] {
				first, second = append(first, v), append(second, w)
			}
		}
	}
	is, ok := impl.IsPortMap(product, a, first)
	wantTruth(t, is && impl.IsNetwork(product), ok, true, "first nodes:", what)
	is, ok = impl.IsPortMap(product, b, second)
	wantTruth(t, is, ok, true, "second nodes:", what)
	// Both ways to the network below are the same.
	h, ok := impl.ComposeMaps(product, a, c, first, f)
	i, fine := impl.ComposeMaps(product, b, c, second, g)
	wantList(t, h, ok && fine, i, "composed:", what)
	return true
}

func TestFibreProducts(t *testing.T) {
	r := rand.New(rand.NewSource(82))
	counts := map[bool]int{}
	for j, c := range coverMaps(t) {
		for _, k := range []int{1, 2, 3} {
			for k*len(c.b.Ends) > 40 {
				k--
			}
			d := coverMap{liftByHand(c.b, k, sheetChanges(r, c.b, k)), c.b, projection(len(c.b.Ends), k)}.mixed(t, r)
			counts[wantProduct(t, c.a, d.a, c.b, c.m, d.m)]++
			counts[wantProduct(t, d.a, c.a, c.b, d.m, c.m)]++
		}
		counts[wantProduct(t, c.a, c.a, c.b, c.m, c.m)]++
		if j%3 == 0 {
			wantProduct(t, withIds(c.a, idsUpTo(len(c.m))...), c.a, withIds(c.b, idsUpTo(len(c.b.Ends))...), c.m, c.m)
		}
		// The product with the network below is the network itself.
		identity := rising(len(c.b.Ends))
		got, ok := impl.FibreProduct(c.a, c.b, c.b, c.m, identity)
		wantNetwork(t, "with the network below", got, ok, withIds(c.a), true)
		got, ok = impl.FibreProduct(c.b, c.a, c.b, identity, c.m)
		is, fine := impl.SameNetworks(got, withIds(c.a))
		wantTruth(t, is, ok && fine, true, "the network below with", c.a)
	}
	if counts[true] < 500 || counts[false] < 500 {
		t.Errorf("products that are networks and that are none: %v", counts)
	}
}

// TestMapsToFibreProducts counts that a port map to a product is one to each network, which are the same one below.
func TestMapsToFibreProducts(t *testing.T) {
	cycle := func(k int) impl.Network { return sure(t)(impl.CycleNetwork(k)) }
	for _, c := range []struct{ a, b, c, k int }{{4, 6, 2, 12}, {2, 2, 1, 2}, {3, 3, 3, 3}, {6, 4, 2, 24}, {6, 6, 3, 6}, {3, 5, 1, 15}, {6, 6, 2, 4}, {2, 3, 1, 5}} {
		for _, f := range mapsOf(t, cycle(c.a), cycle(c.c)) {
			for _, g := range mapsOf(t, cycle(c.b), cycle(c.c)) {
				product := sure(t)(impl.FibreProduct(cycle(c.a), cycle(c.b), cycle(c.c), f, g))
				pairs := 0
				for _, x := range mapsOf(t, cycle(c.k), cycle(c.a)) {
					for _, y := range mapsOf(t, cycle(c.k), cycle(c.b)) {
						h, _ := impl.ComposeMaps(cycle(c.k), cycle(c.a), cycle(c.c), x, f)
						i, _ := impl.ComposeMaps(cycle(c.k), cycle(c.b), cycle(c.c), y, g)
						if slices.Equal(h, i) {
							pairs++
						}
					}
				}
				if list := mapsOf(t, cycle(c.k), product); len(list) != pairs {
					t.Errorf("%v: %d maps to the product, and %d pairs of maps", c, len(list), pairs)
				}
			}
		}
	}
}

func mapsOf(t *testing.T, a, b impl.Network) [][]int {
	list, ok := impl.PortMapsBetween(a, b)
	if !ok {
		t.Fatal("no list of port maps", a, b)
	}
	return list
}

func TestKnownFibreProducts(t *testing.T) {
	stub, edge, loop := sure(t)(impl.BouquetNetwork(1, 0)), sure(t)(impl.PathNetwork(2)), sure(t)(impl.BouquetNetwork(0, 1))
	three, two := sure(t)(impl.CycleNetwork(3)), sure(t)(impl.CycleNetwork(2))
	check := func(ports string, a, b, c impl.Network, f, g []int) {
		t.Helper()
		wantPorts(t, fmt.Sprint("product by ", f, " and ", g), ports)(impl.FibreProduct(a, b, c, f, g))
		wantProduct(t, a, b, c, f, g)
	}
	check("0.0", stub, stub, stub, []int{0}, []int{0})
	check("1.0|0.0", edge, stub, stub, []int{0, 0}, []int{0})
	check("3.0|2.0|1.0|0.0", edge, edge, stub, []int{0, 0}, []int{0, 0})
	check("1.0|0.0", edge, edge, edge, []int{0, 1}, []int{1, 0})
	check("1.0|0.0", edge, edge, edge, []int{1, 0}, []int{1, 0})
	check("3.1 5.0|2.1 4.0|5.1 1.0|4.1 0.0|1.1 3.0|0.1 2.0", three, two, loop, []int{0, 0, 0}, []int{0, 0})
	check("1.1 2.0|2.1 0.0|0.1 1.0", three, three, three, []int{1, 2, 0}, []int{2, 0, 1})
	check("|||", zeroInputs(bare(2)), zeroInputs(bare(2)), zeroInputs(bare(1)), []int{0, 0}, []int{0, 0})
	check("||", zeroInputs(bare(3)), zeroInputs(bare(2)), zeroInputs(bare(2)), []int{0, 1, 1}, []int{1, 0})
	// Products are in the order of the pairs, not in that of the nodes below.
	got, ok := impl.FibreProduct(withInputs(bare(3), 5, 4, 5), bare(1), bare(1), []int{0, 0, 0}, []int{0})
	refused(t, "inputs that differ", got, ok)
	a, b := withInputs(bare(4), 5, 4, 5, 4), withInputs(bare(3), 4, 5, 4)
	got, ok = impl.FibreProduct(withIds(a, 4, 3, 2, 1), b, withInputs(bare(2), 4, 5), []int{1, 0, 1, 0}, []int{0, 1, 0})
	wantNetwork(t, "inputs", got, ok, withInputs(bare(6), 5, 4, 4, 5, 4, 4), true)
}

func TestFibreProductsAtTheLimit(t *testing.T) {
	loop := sure(t)(impl.BouquetNetwork(0, 1))
	check := func(j, k int) {
		t.Helper()
		a, b := sure(t)(impl.CycleNetwork(j)), sure(t)(impl.CycleNetwork(k))
		if is := wantProduct(t, a, b, loop, make([]int, j), make([]int, k)); is != (j*k <= 40) {
			t.Errorf("cycles of %d and %d nodes: %v", j, k, is)
		}
	}
	for j := 1; j <= 40; j++ {
		check(j, 40/j)
		check(40/j, j)
		if j > 1 {
			check(j, 40/j+1)
		}
	}
	check(40, 40)
	check(6, 7)
	// No pair has the same image.
	stubs := sure(t)(impl.UnionOf(sure(t)(impl.BouquetNetwork(1, 0)), sure(t)(impl.BouquetNetwork(1, 0))))
	edge, stub := sure(t)(impl.PathNetwork(2)), sure(t)(impl.BouquetNetwork(1, 0))
	noNetwork(t, "no pair")(impl.FibreProduct(edge, stub, stubs, []int{0, 0}, []int{1}))
	noNetwork(t, "no pair")(impl.FibreProduct(stub, edge, stubs, []int{0}, []int{1, 1}))
	wantProduct(t, edge, stub, stubs, []int{1, 1}, []int{1})
	noNetwork(t, "no pair of nodes without ports")(impl.FibreProduct(zeroInputs(bare(2)), zeroInputs(bare(1)), zeroInputs(bare(3)), []int{0, 2}, []int{1}))
}

func TestFibreProductsNeedPortMaps(t *testing.T) {
	three, six := sure(t)(impl.CycleNetwork(3)), sure(t)(impl.CycleNetwork(6))
	m := []int{0, 1, 2, 0, 1, 2}
	if !wantProduct(t, six, six, three, m, m) {
		t.Error("no product of two cycles")
	}
	for _, l := range [][]int{nil, {}, {0}, {0, 1, 2, 0, 1}, {0, 1, 2, 0, 1, 2, 0}, {0, 1, 2, 0, 1, 1}, {0, 0, 0, 0, 0, 0}, {0, 1, 2, 0, 1, 3}, {0, 1, 2, 3, 4, 5}, {-1, 1, 2, 0, 1, 2}, {0, 2, 1, 0, 2, 1}, {minInt, 1, 2, 0, 1, 2}, {0, 1, 2, 0, 1, maxInt}} {
		noNetwork(t, "by ", l, m)(impl.FibreProduct(six, six, three, l, m))
		noNetwork(t, "by ", m, l)(impl.FibreProduct(six, six, three, m, l))
		noNetwork(t, "by ", l, l)(impl.FibreProduct(six, six, three, l, l))
	}
	noNetwork(t, "maps in the other order")(impl.FibreProduct(six, three, three, rising(3), m))
	wantProduct(t, six, three, three, m, rising(3))
}
