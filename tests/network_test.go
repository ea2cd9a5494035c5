package tests

import (
	"fmt"
	"math/rand"
	"slices"
	"testing"

	"loop.example/g01084/impl"
)

func TestExampleOfChapter1(t *testing.T) {
	n := joined([]int{1, 2}, [4]int{0, 0, 1, 1}, [4]int{1, 0, 1, 0})
	if !impl.IsNetwork(n) {
		t.Fatal("the example is a network")
	}
	if d, ok := impl.DegreesOf(n); !ok || !same(d, []int{1, 2}) {
		t.Error("degrees", d, ok)
	}
	if l, ok := impl.EdgesOf(n); !ok || !same(l, [][]int{{0, 0, 1, 1}, {1, 0, 1, 0}}) {
		t.Error("edges", l, ok)
	}
	if is, ok := impl.IsSimple(n); is || !ok {
		t.Error("simple", is, ok)
	}
}

func TestLimitsAreThoseOfTheDocument(t *testing.T) {
	limits := []int{impl.MaxNodes, impl.MaxDegree, impl.MaxInput, impl.MaxId}
	if !slices.Equal(limits, []int{40, 6, 9, 999999}) {
		t.Error(limits)
	}
}

func TestPortsAreRead(t *testing.T) {
	for _, n := range sampleNetworks() {
		if !impl.IsNetwork(n) {
			t.Fatalf("%v is a network", n)
		}
		degrees := []int{}
		for v, list := range n.Ends {
			degrees = append(degrees, len(list))
			wantNeighbours(t, n, v)
			for i, e := range list {
				if got, ok := impl.OtherEnd(n, v, i); !ok || got != e {
					t.Fatalf("other end of %d %d of %v: %v %v", v, i, n, got, ok)
				}
			}
			for _, i := range []int{-1, len(list), len(list) + 1} {
				got, ok := impl.OtherEnd(n, v, i)
				refused(t, "port out of range", got, ok)
			}
		}
		if got, ok := impl.DegreesOf(n); !ok || !slices.Equal(got, degrees) {
			t.Fatalf("degrees of %v: %v %v", n, got, ok)
		}
	}
}

func wantNeighbours(t *testing.T, n impl.Network, v int) {
	want := []int{}
	for _, e := range n.Ends[v] {
		want = append(want, e.Node)
	}
	if got, ok := impl.NeighboursOf(n, v); !ok || !slices.Equal(got, want) {
		t.Fatalf("neighbours of %d of %v: %v %v", v, n, got, ok)
	}
}

func TestEdgesAreListedOnceInOrder(t *testing.T) {
	for _, n := range sampleNetworks() {
		want := [][]int{}
		for v, list := range n.Ends {
			for i, e := range list {
				edge := []int{v, i, e.Node, e.Port}
				if slices.Compare(edge[:2], edge[2:]) > 0 {
					edge = []int{e.Node, e.Port, v, i}
				}
				want = append(want, edge)
			}
		}
		slices.SortFunc(want, slices.Compare)
		want = slices.CompactFunc(want, slices.Equal)
		if got, ok := impl.EdgesOf(n); !ok || !same(got, want) {
			t.Fatalf("edges of %v: %v %v, want %v", n, got, ok, want)
		}
	}
}

func TestSimpleNetworks(t *testing.T) {
	simple := map[bool]int{}
	for _, n := range sampleNetworks() {
		want := true
		for v, list := range n.Ends {
			met := map[int]bool{v: true}
			for _, e := range list {
				want = want && !met[e.Node]
				met[e.Node] = true
			}
		}
		simple[want]++
		if got, ok := impl.IsSimple(n); !ok || got != want {
			t.Fatalf("simple %v: %v %v, want %v", n, got, ok, want)
		}
	}
	if simple[true] < 5 || simple[false] < 5 {
		t.Fatal("the samples are of one kind", simple)
	}
	cases := []struct {
		name string
		n    impl.Network
		want bool
	}{
		{"stub", joined([]int{1}, [4]int{0, 0, 0, 0}), false},
		{"loop", joined([]int{2}, [4]int{0, 0, 0, 1}), false},
		{"two edges", joined([]int{2, 2}, [4]int{0, 0, 1, 0}, [4]int{0, 1, 1, 1}), false},
		{"two edges with another one between", joined([]int{3, 2, 1}, [4]int{0, 0, 1, 0}, [4]int{0, 1, 2, 0}, [4]int{0, 2, 1, 1}), false},
		{"two edges with others between at both nodes", joined([]int{3, 3, 2}, [4]int{0, 0, 1, 0}, [4]int{0, 1, 2, 0}, [4]int{0, 2, 1, 2}, [4]int{1, 1, 2, 1}), false},
		{"no port", bare(3), true},
		{"one edge", joined([]int{1, 1}, [4]int{0, 0, 1, 0}), true},
		{"triangle", joined([]int{2, 2, 2}, [4]int{0, 0, 1, 1}, [4]int{1, 0, 2, 1}, [4]int{2, 0, 0, 1}), true},
	}
	for _, c := range cases {
		if got, ok := impl.IsSimple(c.n); !ok || got != c.want {
			t.Errorf("%s: %v %v", c.name, got, ok)
		}
	}
}

func TestRegularNetworks(t *testing.T) {
	for _, n := range sampleNetworks() {
		for _, d := range []int{-1 << 63, -1, 0, 1, 2, 3, 4, 5, 6, 7, 1<<63 - 1} {
			want := true
			for _, list := range n.Ends {
				want = want && len(list) == d
			}
			if got, ok := impl.IsRegular(n, d); !ok || got != want {
				t.Fatalf("regular of degree %d %v: %v %v", d, n, got, ok)
			}
		}
	}
}

func TestUnions(t *testing.T) {
	list := sampleNetworks()
	r := rand.New(rand.NewSource(5))
	for range 3000 {
		a, b := list[r.Intn(len(list))], list[r.Intn(len(list))]
		if r.Intn(2) == 0 && len(a.Ids) > 0 && len(b.Ids) > 0 {
			ids := []int{}
			for v := range b.Ends {
				ids = append(ids, 999999-v)
			}
			b.Ids = ids
		}
		want, fine := unionByHand(a, b)
		got, ok := impl.UnionOf(a, b)
		wantNetwork(t, fmt.Sprint("union of ", a, b), got, ok, want, fine)
		if ok {
			wantPart(t, got, 0, a)
			wantPart(t, got, len(a.Ends), b)
		}
	}
}

func unionByHand(a, b impl.Network) (impl.Network, bool) {
	m, other := modelOf(a), modelOf(b)
	for _, names := range other.ports {
		moved := []int{}
		for _, x := range names {
			moved = append(moved, x+100000)
			m.mate[x+100000] = other.mate[x] + 100000
		}
		m.ports = append(m.ports, moved)
	}
	m.ids = append(m.ids, b.Ids...)
	m.inputs = append(m.inputs, b.Inputs...)
	met := map[int]bool{}
	for _, id := range m.ids {
		met[id] = true
	}
	mixed := (len(a.Ids) == 0) != (len(b.Ids) == 0)
	return m.network(), !mixed && len(met) == len(m.ids) && len(m.ports) <= 40
}

// wantPart checks that the nodes from first on are the network part.
func wantPart(t *testing.T, n impl.Network, first int, part impl.Network) {
	t.Helper()
	keep := []int{}
	for v := range part.Ends {
		keep = append(keep, first+v)
	}
	got, ok := impl.KeepNodes(n, keep)
	wantNetwork(t, "part of a union", got, ok, part, true)
}

func TestUnionsAtTheLimits(t *testing.T) {
	one, other := withIds(bare(1), 1), withIds(bare(1), 999999)
	u, ok := impl.UnionOf(one, other)
	wantNetwork(t, "different identifiers", u, ok, impl.Network{Ends: make([][]impl.End, 2), Ids: []int{1, 999999}, Inputs: []int{1, 1}}, true)
	u, ok = impl.UnionOf(bare(39), bare(1))
	if !ok || len(u.Ends) != 40 {
		t.Error("40 nodes", u, ok)
	}
	u, ok = impl.UnionOf(bare(40), bare(1))
	refused(t, "41 nodes", u, ok)
	u, ok = impl.UnionOf(bare(20), bare(21))
	refused(t, "41 nodes", u, ok)
	u, ok = impl.UnionOf(one, one)
	refused(t, "one identifier twice", u, ok)
	u, ok = impl.UnionOf(one, bare(1))
	refused(t, "identifiers of the first alone", u, ok)
	u, ok = impl.UnionOf(bare(1), one)
	refused(t, "identifiers of the second alone", u, ok)
}
