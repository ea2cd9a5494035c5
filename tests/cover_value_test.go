package tests

import (
	"fmt"
	"math/rand"
	"slices"
	"testing"

	"loop.example/g01084/impl"
)

// anyInteger returns a small integer or one near an end of int.
func anyInteger(r *rand.Rand) int {
	list := []int{minInt, minInt + 1, -1, 0, 1, maxInt - 1, maxInt}
	return append(list, r.Intn(100), r.Intn(100)-50)[r.Intn(len(list)+2)]
}

// valuesOf returns a value for each node and one for each port.
func valuesOf(r *rand.Rand, n impl.Network) ([]int, [][]int) {
	values, lists := []int{}, [][]int{}
	for _, ends := range n.Ends {
		list := []int{}
		for range ends {
			list = append(list, anyInteger(r))
		}
		values, lists = append(values, anyInteger(r)), append(lists, list)
	}
	return values, lists
}

func TestValuesArePulledBack(t *testing.T) {
	r := rand.New(rand.NewSource(83))
	for _, c := range coverMaps(t) {
		values, lists := valuesOf(r, c.b)
		want, wantLists := []int{}, [][]int{}
		for _, w := range c.m {
			want, wantLists = append(want, values[w]), append(wantLists, lists[w])
		}
		pulled, ok := impl.PullNodes(c.a, c.b, c.m, values)
		wantList(t, pulled, ok, want, "values", values, "by", c.m)
		ports, ok := impl.PullPorts(c.a, c.b, c.m, lists)
		if !ok || !same(ports, wantLists) {
			t.Fatalf("lists %v by %v: got %v %v, want %v", lists, c.m, ports, ok, wantLists)
		}
		// Identities and the list of the nodes.
		pulled, ok = impl.PullNodes(c.a, c.b, c.m, rising(len(c.b.Ends)))
		wantList(t, pulled, ok, c.m, "the nodes by", c.m)
		pulled, ok = impl.PullNodes(c.b, c.b, rising(len(c.b.Ends)), values)
		wantList(t, pulled, ok, values, "values by the identity")
	}
}

func TestValuesArePushedDown(t *testing.T) {
	r := rand.New(rand.NewSource(84))
	counts := map[string]int{}
	for _, c := range coverMaps(t) {
		values, _ := valuesOf(r, c.b)
		pulled, ok := impl.PullNodes(c.a, c.b, c.m, values)
		if !ok {
			t.Fatal("no values", c)
		}
		pushed, ok := impl.PushNodes(c.a, c.b, c.m, pulled)
		if is, _ := impl.IsCovering(c.a, c.b, c.m); !is {
			counts["no covering"]++
			refused(t, fmt.Sprint("values ", pulled, " by ", c.m), pushed, ok)
			continue
		}
		wantList(t, pushed, ok, values, "values", pulled, "by", c.m)
		again, ok := impl.PullNodes(c.a, c.b, c.m, pushed)
		wantList(t, again, ok, pulled, "pulled back")
		// Another value of one node alone differs within its fibre, unless the node is alone in it.
		for v, w := range c.m {
			changed := slices.Clone(pulled)
			changed[v]++
			pushed, ok = impl.PushNodes(c.a, c.b, c.m, changed)
			if len(fibresByHand(len(c.b.Ends), c.m)[w]) > 1 {
				counts["differs"]++
				refused(t, fmt.Sprint("values ", changed, " by ", c.m), pushed, ok)
				continue
			}
			counts["alone"]++
			want := slices.Clone(values)
			want[w]++
			wantList(t, pushed, ok, want, "values", changed, "by", c.m)
		}
	}
	for _, what := range []string{"no covering", "differs", "alone"} {
		if counts[what] < 100 {
			t.Errorf("%s: only %d", what, counts[what])
		}
	}
}

func TestAllSmallValues(t *testing.T) {
	six, three, loop := sure(t)(impl.CycleNetwork(6)), sure(t)(impl.CycleNetwork(3)), sure(t)(impl.BouquetNetwork(0, 1))
	m := []int{2, 0, 1, 2, 0, 1}
	allLists(6, []int{minInt, 0, maxInt}, func(l []int) {
		pushed, ok := impl.PushNodes(six, three, m, l)
		if slices.Equal(l[:3], l[3:]) {
			wantList(t, pushed, ok, []int{l[1], l[2], l[0]}, "values", l)
		} else {
			refused(t, fmt.Sprint("values ", l), pushed, ok)
		}
		pushed, ok = impl.PushNodes(six, loop, make([]int, 6), l)
		if len(slices.Compact(slices.Clone(l))) == 1 {
			wantList(t, pushed, ok, l[:1], "values", l)
		} else {
			refused(t, fmt.Sprint("values ", l), pushed, ok)
		}
	})
	allLists(3, []int{-1, 0, 9}, func(l []int) {
		pulled, ok := impl.PullNodes(six, three, m, l)
		wantList(t, pulled, ok, []int{l[2], l[0], l[1], l[2], l[0], l[1]}, "values", l)
	})
}

func TestValuesOfKnownNetworks(t *testing.T) {
	edge, stub := sure(t)(impl.PathNetwork(2)), sure(t)(impl.BouquetNetwork(1, 0))
	both := sure(t)(impl.UnionOf(stub, edge))
	pulled, ok := impl.PullNodes(edge, both, []int{2, 1}, []int{7, 8, 9})
	wantList(t, pulled, ok, []int{9, 8}, "an edge")
	pushed, ok := impl.PushNodes(edge, both, []int{2, 1}, []int{9, 8})
	refused(t, "a node that is no image", pushed, ok)
	pushed, ok = impl.PushNodes(edge, both, []int{0, 0}, []int{9, 9})
	refused(t, "nodes that are no image", pushed, ok)
	pushed, ok = impl.PushNodes(edge, stub, []int{0, 0}, []int{9, 9})
	wantList(t, pushed, ok, []int{9}, "equal values")
	pushed, ok = impl.PushNodes(edge, stub, []int{0, 0}, []int{9, 8})
	refused(t, "values that differ", pushed, ok)
	ports, ok := impl.PullPorts(edge, both, []int{2, 1}, [][]int{{5}, {6}, {7}})
	if !ok || !same(ports, [][]int{{7}, {6}}) {
		t.Error("an edge", ports, ok)
	}
	// Nodes without ports have empty lists, which may be nil.
	for _, lists := range [][][]int{{nil, nil}, {{}, {}}, {nil, {}}} {
		ports, ok = impl.PullPorts(zeroInputs(bare(3)), zeroInputs(bare(2)), []int{1, 0, 1}, lists)
		if !ok || len(ports) != 3 || len(ports[0])+len(ports[1])+len(ports[2]) > 0 {
			t.Error("nodes without ports", ports, ok)
		}
	}
}

func TestValuesThatDoNotFit(t *testing.T) {
	six, three := sure(t)(impl.CycleNetwork(6)), sure(t)(impl.CycleNetwork(3))
	m := []int{0, 1, 2, 0, 1, 2}
	for _, l := range [][]int{nil, {}, {1}, {1, 2}, {1, 2, 3, 1}, {1, 2, 3, 1, 2, 3}, make([]int, 40)} {
		pulled, ok := impl.PullNodes(six, three, m, l)
		refused(t, fmt.Sprint("values ", l), pulled, ok)
	}
	for _, l := range [][]int{nil, {}, {1}, {1, 2, 3}, {1, 2, 3, 1, 2}, {1, 2, 3, 1, 2, 3, 1}, {1, 1, 1, 1, 1}, make([]int, 7), make([]int, 40)} {
		pushed, ok := impl.PushNodes(six, three, m, l)
		refused(t, fmt.Sprint("values ", l), pushed, ok)
	}
	two := []int{1, 2}
	for _, lists := range [][][]int{nil, {}, {two}, {two, two}, {two, two, two, two}, {nil, nil, nil}, {nil, two, two}, {two, two, {}}, {two, {1}, two}, {{1, 2, 3}, two, two}, {two, two, {1, 2, 3}}, {two, two, two, {}}, slices.Repeat([][]int{two}, 6)} {
		ports, ok := impl.PullPorts(six, three, m, lists)
		refused(t, fmt.Sprint("lists ", lists), ports, ok)
	}
	// A list that does not fit a node that is no image.
	stubs := sure(t)(impl.UnionOf(three, sure(t)(impl.BouquetNetwork(1, 0))))
	for _, list := range [][]int{nil, {}, {1, 2}} {
		ports, ok := impl.PullPorts(six, stubs, m, [][]int{two, two, two, list})
		refused(t, fmt.Sprint("the list ", list), ports, ok)
	}
	ports, ok := impl.PullPorts(six, stubs, m, [][]int{two, two, two, {3}})
	if !ok || !same(ports, slices.Repeat([][]int{two}, 6)) {
		t.Error("four lists", ports, ok)
	}
	ports, ok = impl.PullPorts(zeroInputs(bare(1)), zeroInputs(bare(1)), []int{0}, [][]int{{0}})
	refused(t, "a value of a node without ports", ports, ok)
}
