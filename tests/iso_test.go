package tests

import (
	"math/rand"
	"slices"
	"testing"

	"loop.example/g01084/impl"
)

// wantIsomorphisms compares what is said of two networks with their isomorphisms, of which the first ones are listed.
func wantIsomorphisms(t *testing.T, a, b impl.Network, list [][]int) {
	t.Helper()
	is, ok := impl.SameNetworks(a, b)
	wantTruth(t, is, ok, len(list) > 0, "isomorphic", a, b)
	f, ok := impl.IsomorphismOf(a, b)
	if len(list) == 0 {
		refused(t, "an isomorphism that is not there", f, ok)
		return
	}
	wantList(t, f, ok, list[0], "first isomorphism of", a, b)
	for _, f := range list {
		is, ok = impl.IsIsomorphism(a, b, f)
		wantTruth(t, is, ok, true, f, "of", a, b)
	}
}

// TestListsAreIsomorphisms takes all permutations, and all networks with some degrees.
func TestListsAreIsomorphisms(t *testing.T) {
	for _, degrees := range [][]int{{0}, {2}, {1, 1}, {2, 2}, {0, 0, 0}, {1, 2, 1}, {2, 2, 0}, {1, 1, 1, 1}} {
		networks := smallNetworks(degrees...)
		for _, n := range networks {
			if len(n.Ids) == 0 {
				networks = append(networks, zeroInputs(n))
			}
		}
		for _, a := range networks {
			for _, b := range networks {
				list := [][]int{}
				for _, f := range permutationsOf(len(degrees)) {
					want := isIsomorphismByHand(a, b, f)
					is, ok := impl.IsIsomorphism(a, b, f)
					wantTruth(t, is, ok, want, f, "of", a, b)
					if want {
						list = append(list, f)
					}
				}
				wantIsomorphisms(t, a, b, list)
				if all := isomorphismsByHand(a, b, 100); !same(all, list) {
					t.Fatalf("listed isomorphisms of %v and %v: %v, want %v", a, b, all, list)
				}
			}
		}
	}
}

func TestIsomorphismsOfRenumberedNetworks(t *testing.T) {
	r := rand.New(rand.NewSource(63))
	for _, a := range isoNetworks(t) {
		perm := r.Perm(len(a.Ends))
		b := sure(t)(impl.RenumberNodes(a, perm))
		list := isomorphismsByHand(a, b, 30)
		if len(list) == 0 {
			t.Fatalf("no isomorphism of %v is listed", a)
		}
		wantIsomorphisms(t, a, b, list)
		is, ok := impl.IsIsomorphism(a, b, perm)
		wantTruth(t, is, ok, true, perm, "of", a, b)
		is, ok = impl.IsIsomorphism(b, a, inverse(perm))
		wantTruth(t, is, ok, true, inverse(perm), "of", b, a)
		for range 5 {
			other := r.Perm(len(a.Ends))
			is, ok = impl.IsIsomorphism(a, b, other)
			wantTruth(t, is, ok, isIsomorphismByHand(a, b, other), other, "of", a, b)
		}
		f, ok := impl.IsomorphismOf(a, a)
		wantList(t, f, ok, rising(len(a.Ends)), "first isomorphism of a network and itself", a)
	}
}

// nearlySame returns networks that differ from n in one input, one identifier, all identifiers, one degree, one edge, the ports of one node, or the number of nodes alone.
func nearlySame(t *testing.T, r *rand.Rand, n impl.Network) []impl.Network {
	v, w := r.Intn(len(n.Ends)), r.Intn(len(n.Ends))
	inputs := slices.Clone(n.Inputs)
	inputs[v] = (inputs[v] + 1 + r.Intn(9)) % 10
	list := []impl.Network{sure(t)(impl.WithInputs(n, inputs)), sure(t)(impl.WithIds(n, nil))}
	if len(n.Ids) > 0 {
		ids := slices.Clone(n.Ids)
		ids[v] = 999999
		list = append(list, withIds(n, ids...))
		ids = slices.Clone(n.Ids)
		ids[v], ids[w] = ids[w], ids[v]
		list = append(list, withIds(n, ids...))
	} else {
		list = append(list, withIds(n, idsUpTo(len(n.Ends))...))
	}
	add := func(m impl.Network, ok bool) {
		if ok {
			list = append(list, m)
		}
	}
	add(impl.AddStub(n, v))
	add(impl.AddEdge(n, v, w))
	if degree := len(n.Ends[v]); degree > 0 {
		add(impl.RemoveEdge(n, v, r.Intn(degree)))
		add(impl.PermutePorts(n, v, r.Perm(degree)))
		perm := rising(degree)
		i := r.Intn(degree)
		perm[i], perm[0] = perm[0], perm[i]
		add(impl.PermutePorts(n, v, perm))
	}
	add(impl.UnionOf(n, zeroInputs(bare(1))))
	add(impl.KeepNodes(n, rising(len(n.Ends)-1)))
	return list
}

func TestNetworksThatAreNearlyTheSame(t *testing.T) {
	r := rand.New(rand.NewSource(64))
	yes, no := 0, 0
	for _, a := range fewIsomorphisms(t) {
		for _, m := range nearlySame(t, r, a) {
			perm := r.Perm(len(m.Ends))
			b := sure(t)(impl.RenumberNodes(m, perm))
			list := isomorphismsByHand(a, b, 1)
			wantIsomorphisms(t, a, b, list)
			wantIsomorphisms(t, b, a, isomorphismsByHand(b, a, 1))
			is, ok := impl.IsIsomorphism(a, b, perm)
			wantTruth(t, is, ok, isIsomorphismByHand(a, b, perm), perm, "of", a, b)
			if len(list) > 0 {
				yes++
			} else {
				no++
			}
		}
	}
	if yes < 100 || no < 1000 {
		t.Errorf("%d networks are the same and %d are not", yes, no)
	}
}

func TestPairsOfNetworks(t *testing.T) {
	networks := fewIsomorphisms(t)
	for k, a := range networks {
		for j := k % 7; j < len(networks); j += 7 {
			wantIsomorphisms(t, a, networks[j], isomorphismsByHand(a, networks[j], 1))
		}
	}
	parts := pieces(t)
	for _, a := range parts {
		for _, b := range parts {
			wantIsomorphisms(t, a, b, isomorphismsByHand(a, b, 50))
		}
	}
}

// TestManyEqualComponents is about networks whose isomorphisms cannot be listed.
func TestManyEqualComponents(t *testing.T) {
	r := rand.New(rand.NewSource(65))
	mixed := zeroInputs(bare(40))
	for v := range mixed.Inputs {
		mixed.Inputs[v] = v % 2
	}
	for _, n := range []impl.Network{zeroInputs(bare(40)), zeroInputs(full(40)), mixed} {
		m := sure(t)(impl.RenumberNodes(n, r.Perm(40)))
		f, ok := impl.IsomorphismOf(n, m)
		is, fine := impl.IsIsomorphism(n, m, f)
		wantTruth(t, is, ok && fine, true, f)
		// In the first isomorphism, equal nodes get the equal nodes in their order.
		for v := range f {
			for w := range v {
				if n.Inputs[v] == n.Inputs[w] && f[v] < f[w] {
					t.Fatalf("%v is not the first isomorphism of %v and %v", f, n, m)
				}
			}
		}
		m.Inputs[39] = 9
		is, ok = impl.SameNetworks(n, m)
		wantTruth(t, is, ok, false, "another input")
	}
}

func TestIsomorphismsOfKnownNetworks(t *testing.T) {
	six, three := sure(t)(impl.CycleNetwork(6)), sure(t)(impl.CycleNetwork(3))
	two := sure(t)(impl.UnionOf(three, three))
	check := func(want bool, a, b impl.Network) {
		t.Helper()
		is, ok := impl.SameNetworks(a, b)
		wantTruth(t, is, ok, want, a, b)
		is, ok = impl.SameNetworks(b, a)
		wantTruth(t, is, ok, want, b, a)
	}
	check(false, six, two)
	check(false, six, three)
	check(false, two, three)
	check(true, sure(t)(impl.DoubleCover(three)), six)
	check(true, sure(t)(impl.DoubleCover(six)), sure(t)(impl.UnionOf(six, six)))
	check(false, three, withIds(three, 1, 2, 3))
	check(true, withIds(three, 1, 2, 3), withIds(three, 3, 1, 2))
	// Ports go around the cycle in one direction, in which the identifiers do not.
	check(false, withIds(three, 1, 2, 3), withIds(three, 3, 2, 1))
	check(true, withIds(zeroInputs(bare(2)), 1, 2), withIds(zeroInputs(bare(2)), 2, 1))
	check(false, withIds(bare(2), 1, 2), withIds(bare(2), 2, 1))
	check(false, sure(t)(impl.UnionOf(two, bare(1))), sure(t)(impl.UnionOf(six, bare(1))))
	f, ok := impl.IsomorphismOf(two, sure(t)(impl.RenumberNodes(two, []int{5, 1, 3, 0, 4, 2})))
	wantList(t, f, ok, []int{0, 4, 2, 1, 3, 5}, "two cycles with three nodes")
}

func TestImages(t *testing.T) {
	r := rand.New(rand.NewSource(66))
	for _, a := range fewIsomorphisms(t) {
		b := sure(t)(impl.RenumberNodes(a, r.Perm(len(a.Ends))))
		list := isomorphismsByHand(a, b, 801)
		for v := range a.Ends {
			want := []int{}
			for _, f := range list {
				want = append(want, f[v])
			}
			slices.Sort(want)
			images, ok := impl.ImagesOf(a, v, b)
			wantList(t, images, ok, slices.Compact(want), "images of", v, "from", a, "to", b)
		}
	}
}

func TestNetworksThatAreNotIsomorphicHaveNoImages(t *testing.T) {
	r := rand.New(rand.NewSource(67))
	for k, a := range isoNetworks(t) {
		if k%3 > 0 {
			continue
		}
		for _, b := range nearlySame(t, r, a) {
			if len(a.Ends) == len(b.Ends) {
				continue
			}
			for v := range a.Ends {
				images, ok := impl.ImagesOf(a, v, b)
				wantList(t, images, ok, nil, "images of", v, "from", a, "to", b)
			}
		}
	}
	// Nodes with equal codes are not enough.
	a, b := withInputs(bare(3), 1, 1, 2), withInputs(bare(3), 1, 2, 2)
	for v := range 3 {
		images, ok := impl.ImagesOf(a, v, b)
		wantList(t, images, ok, nil, "images of", v)
		images, ok = impl.ImagesOf(b, v, a)
		wantList(t, images, ok, nil, "images of", v)
	}
	images, ok := impl.ImagesOf(a, 0, withInputs(bare(3), 1, 2, 1))
	wantList(t, images, ok, []int{0, 2}, "images")
	images, ok = impl.ImagesOf(a, 2, withInputs(bare(3), 1, 2, 1))
	wantList(t, images, ok, []int{1}, "images")
}
