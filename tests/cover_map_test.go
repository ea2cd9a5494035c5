package tests

import (
	"fmt"
	"math/rand"
	"slices"
	"testing"

	"loop.example/g01084/impl"
)

func TestExampleOfChapter7(t *testing.T) {
	three, six, one := sure(t)(impl.CycleNetwork(3)), sure(t)(impl.CycleNetwork(6)), sure(t)(impl.BouquetNetwork(0, 1))
	m := []int{0, 1, 2, 0, 1, 2}
	is, ok := impl.IsCovering(six, three, m)
	wantTruth(t, is, ok, true, "the cycle with six nodes")
	sheets, ok := impl.SheetsOf(six, three, m)
	wantNumber(t, sheets, ok, 2, "sheets")
	for _, n := range []impl.Network{three, six} {
		is, ok = impl.IsCovering(n, one, make([]int, len(n.Ends)))
		wantTruth(t, is, ok, true, "a cycle and a loop")
		base, ok := impl.MinimalBase(n)
		wantNetwork(t, "minimal base", base, ok, one, true)
	}
	edge, stub := sure(t)(impl.PathNetwork(2)), sure(t)(impl.BouquetNetwork(1, 0))
	is, ok = impl.IsCovering(edge, stub, []int{0, 0})
	wantTruth(t, is, ok, true, "an edge and a stub")
}

// wantMap compares what is said of a list with the conditions of the chapter, and reports whether it is a port map.
func wantMap(t *testing.T, a, b impl.Network, m []int) bool {
	t.Helper()
	want := isPortMapByHand(a, b, m)
	is, ok := impl.IsPortMap(a, b, m)
	wantTruth(t, is, ok, want, "port map", m, a, b)
	covers, ok := impl.IsCovering(a, b, m)
	fibres, fibresOk := impl.FibresOf(a, b, m)
	sheets, sheetsOk := impl.SheetsOf(a, b, m)
	if !want {
		wantTruth(t, covers, ok, false, "covering", m, a, b)
		refused(t, fmt.Sprint("fibres ", m, a, b), fibres, fibresOk)
		refused(t, fmt.Sprint("sheets ", m, a, b), sheets, sheetsOk)
		return false
	}
	wantFibres := fibresByHand(len(b.Ends), m)
	if !fibresOk || !same(fibres, wantFibres) {
		t.Fatalf("fibres of %v from %v to %v: got %v %v, want %v", m, a, b, fibres, fibresOk, wantFibres)
	}
	least, greatest := len(m), 0
	for _, fibre := range wantFibres {
		least, greatest = min(least, len(fibre)), max(greatest, len(fibre))
	}
	wantTruth(t, covers, ok, least > 0, "covering", m, a, b)
	if least < greatest {
		refused(t, fmt.Sprint("sheets ", m, a, b), sheets, sheetsOk)
	} else {
		wantNumber(t, sheets, sheetsOk, least, "sheets", m, a, b)
	}
	return true
}

// TestAllListsOfImages takes all lists for pairs of small networks, which are equal, alike or different.
func TestAllListsOfImages(t *testing.T) {
	networks := []impl.Network{zeroInputs(bare(1)), zeroInputs(bare(3)), withInputs(bare(2), 0, 1), withInputs(bare(3), 1, 1, 0)}
	for _, degrees := range [][]int{{1}, {2}, {1, 1}, {2, 2}, {1, 1, 1}, {2, 1, 1}, {2, 2, 2}, {0, 1, 1}, {1, 1, 1, 1}} {
		for k, n := range smallNetworks(degrees...) {
			// Every second one has identifiers.
			if k%6 == 0 || k%2 == 0 && len(degrees) < 3 {
				networks = append(networks, zeroInputs(n))
			}
			if k%13 == 0 {
				networks = append(networks, n)
			}
		}
	}
	maps := 0
	for _, a := range networks {
		for _, b := range networks {
			allLists(len(a.Ends), rising(len(b.Ends)), func(m []int) {
				if wantMap(t, a, b, m) {
					maps++
				}
			})
		}
	}
	if maps < 300 {
		t.Errorf("only %d of the lists are port maps", maps)
	}
}

func TestPortMapsKeepViews(t *testing.T) {
	coverings, other := 0, 0
	for _, c := range coverMaps(t) {
		if !wantMap(t, c.a, c.b, c.m) {
			t.Fatalf("%v is no port map from %v to %v", c.m, c.a, c.b)
		}
		if is, _ := impl.IsCovering(c.a, c.b, c.m); is {
			coverings++
		} else {
			other++
		}
		for v, w := range c.m {
			is, ok := impl.AreTwins(c.a, v, c.b, w)
			wantTruth(t, is, ok, true, "node", v, "of", c.a, "and its image", w, "in", c.b)
			if v%9 > 0 {
				continue
			}
			text, ok := impl.ViewText(c.a, v, 2)
			image, fine := impl.ViewText(c.b, w, 2)
			if text != image || ok != fine {
				t.Fatalf("views of %d in %v and of its image %d in %v", v, c.a, w, c.b)
			}
		}
	}
	if coverings < 200 || other < 100 {
		t.Errorf("%d coverings and %d other port maps", coverings, other)
	}
}

// TestIdentifiersDoNotMatter gives either network some or none.
func TestIdentifiersDoNotMatter(t *testing.T) {
	for _, c := range coverMaps(t) {
		for _, ids := range [][]int{nil, idsUpTo(len(c.a.Ends))} {
			for _, others := range [][]int{nil, shifted(idsUpTo(len(c.b.Ends)), 3, 17)} {
				wantMap(t, withIds(c.a, ids...), withIds(c.b, others...), c.m)
			}
		}
	}
}

// TestMapsThatAreNearlyPortMaps changes one image, or one degree, input or port of either network.
func TestMapsThatAreNearlyPortMaps(t *testing.T) {
	r := rand.New(rand.NewSource(76))
	yes, no := 0, 0
	for _, c := range coverMaps(t) {
		count := func(a, b impl.Network, m []int) {
			if wantMap(t, a, b, m) {
				yes++
			} else {
				no++
			}
		}
		for range 4 {
			m := slices.Clone(c.m)
			m[r.Intn(len(m))] = r.Intn(len(c.b.Ends))
			count(c.a, c.b, m)
			v, w := r.Intn(len(m)), r.Intn(len(m))
			m = slices.Clone(c.m)
			m[v], m[w] = m[w], m[v]
			count(c.a, c.b, m)
		}
		for _, a := range nearlySame(t, r, c.a) {
			count(a, c.b, c.m)
		}
		for _, b := range nearlySame(t, r, c.b) {
			count(c.a, b, c.m)
		}
	}
	if yes < 1000 || no < 1000 {
		t.Errorf("%d port maps and %d other lists", yes, no)
	}
}

func TestMapsThatFailAtOnePlaceAlone(t *testing.T) {
	six, three := sure(t)(impl.CycleNetwork(6)), sure(t)(impl.CycleNetwork(3))
	m := []int{0, 1, 2, 0, 1, 2}
	check := func(want bool, a, b impl.Network, m []int, what string) {
		t.Helper()
		is, ok := impl.IsPortMap(a, b, m)
		wantTruth(t, is, ok, want, what)
		is, ok = impl.IsCovering(a, b, m)
		wantTruth(t, is, ok, want, what)
	}
	check(true, six, three, m, "a port map")
	for v := range 6 {
		inputs := make([]int, 6)
		inputs[v] = 1
		check(false, withInputs(six, inputs...), three, m, fmt.Sprint("input of node ", v))
		check(false, sure(t)(impl.AddStub(six, v)), three, m, fmt.Sprint("one more port of node ", v))
		check(false, sure(t)(impl.PermutePorts(six, v, []int{1, 0})), three, m, fmt.Sprint("ports of node ", v))
		for w := range 3 {
			changed := slices.Clone(m)
			changed[v] = w
			check(w == m[v], six, three, changed, fmt.Sprint("image of node ", v))
		}
	}
	for w := range 3 {
		inputs := make([]int, 3)
		inputs[w] = 1
		check(false, six, withInputs(three, inputs...), m, fmt.Sprint("input of image ", w))
		check(false, six, sure(t)(impl.AddStub(three, w)), m, fmt.Sprint("one more port of image ", w))
		check(false, six, sure(t)(impl.PermutePorts(three, w, []int{1, 0})), m, fmt.Sprint("ports of image ", w))
	}
	// The images of two joined ports are joined with other ports.
	stubs, loop := sure(t)(impl.BouquetNetwork(2, 0)), sure(t)(impl.BouquetNetwork(0, 1))
	check(false, stubs, loop, []int{0}, "two stubs and a loop")
	check(false, loop, stubs, []int{0}, "a loop and two stubs")
	// Only the last ports of the last node lead elsewhere.
	twice := sure(t)(impl.UnionOf(three, three))
	check(false, twice, twice, []int{0, 1, 2, 3, 4, 2}, "the last node")
	check(true, twice, twice, []int{4, 5, 3, 2, 0, 1}, "all nodes")
}

func TestStubsLoopsAndSeveralEdges(t *testing.T) {
	stub, edge, loop := sure(t)(impl.BouquetNetwork(1, 0)), sure(t)(impl.PathNetwork(2)), sure(t)(impl.BouquetNetwork(0, 1))
	crossed := zeroInputs(joined([]int{2, 2}, [4]int{0, 0, 1, 1}, [4]int{0, 1, 1, 0}))
	double := zeroInputs(joined([]int{2, 2}, [4]int{0, 0, 1, 0}, [4]int{0, 1, 1, 1}))
	stubs := sure(t)(impl.BouquetNetwork(2, 0))
	check := func(sheets int, a, b impl.Network, m ...int) {
		t.Helper()
		if is := wantMap(t, a, b, m); is != (sheets > 0) {
			t.Errorf("%v from %v to %v: port map %v", m, a, b, is)
		}
		if got, ok := impl.SheetsOf(a, b, m); got != sheets || ok != (sheets > 0) {
			t.Errorf("%v from %v to %v: sheets %d %v", m, a, b, got, ok)
		}
	}
	check(1, stub, stub, 0)
	check(2, edge, stub, 0, 0)
	check(1, edge, edge, 0, 1)
	check(1, edge, edge, 1, 0)
	check(0, edge, edge, 0, 0)
	check(0, stub, edge, 0)
	check(1, loop, loop, 0)
	check(2, crossed, loop, 0, 0)
	check(0, double, loop, 0, 0)
	check(2, double, stubs, 0, 0)
	check(0, crossed, stubs, 0, 0)
	check(1, crossed, crossed, 1, 0)
	check(0, loop, crossed, 0)
	check(2, sure(t)(impl.CycleNetwork(4)), crossed, 0, 1, 0, 1)
	check(0, sure(t)(impl.CycleNetwork(4)), crossed, 0, 0, 1, 1)
	// A stub and an edge over a stub, and two nodes without ports over one.
	check(3, sure(t)(impl.UnionOf(edge, stub)), stub, 0, 0, 0)
	check(2, zeroInputs(bare(2)), zeroInputs(bare(1)), 0, 0)
	check(0, bare(2), bare(1), 0, 0)
	check(40, zeroInputs(full(40)), zeroInputs(full(1)), make([]int, 40)...)
	check(1, full(40), full(40), rising(40)...)
}

func TestFibresOfDifferentSizes(t *testing.T) {
	check := func(a, b impl.Network, m []int, covers bool, want ...[]int) {
		t.Helper()
		is, ok := impl.IsPortMap(a, b, m)
		wantTruth(t, is, ok, true, "port map", m)
		is, ok = impl.IsCovering(a, b, m)
		wantTruth(t, is, ok, covers, "covering", m)
		if fibres, ok := impl.FibresOf(a, b, m); !ok || !same(fibres, want) {
			t.Errorf("fibres of %v: %v %v, want %v", m, fibres, ok, want)
		}
		sheets, ok := impl.SheetsOf(a, b, m)
		refused(t, fmt.Sprint("sheets ", m), sheets, ok)
	}
	three := zeroInputs(bare(3))
	check(three, zeroInputs(bare(2)), []int{1, 0, 1}, true, []int{1}, []int{0, 2})
	check(three, zeroInputs(bare(2)), []int{1, 1, 1}, false, []int{}, []int{0, 1, 2})
	check(three, zeroInputs(bare(5)), []int{4, 0, 2}, false, []int{1}, []int{}, []int{2}, []int{}, []int{0})
	stub, edge := sure(t)(impl.BouquetNetwork(1, 0)), sure(t)(impl.PathNetwork(2))
	check(sure(t)(impl.UnionOf(edge, stub)), sure(t)(impl.UnionOf(stub, stub)), []int{1, 1, 0}, true, []int{2}, []int{0, 1})
	check(stub, sure(t)(impl.UnionOf(stub, edge)), []int{0}, false, []int{0}, []int{}, []int{})
	check(edge, sure(t)(impl.UnionOf(stub, edge)), []int{2, 1}, false, []int{}, []int{1}, []int{0})
	// The images of both components may be the same.
	check(sure(t)(impl.UnionOf(edge, edge)), sure(t)(impl.UnionOf(edge, stub)), []int{0, 1, 1, 0}, false, []int{0, 3}, []int{1, 2}, []int{})
	check(sure(t)(impl.UnionOf(edge, edge)), sure(t)(impl.UnionOf(edge, stub)), []int{1, 0, 2, 2}, true, []int{1}, []int{0}, []int{2, 3})
}
