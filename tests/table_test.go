package tests

import (
	"fmt"
	"math/rand"
	"slices"
	"testing"

	"loop.example/g01084/impl"
)

func TestExampleOfChapter10(t *testing.T) {
	path := sure(t)(impl.PathNetwork(3))
	table, ok := impl.TableOf(path, 0, []int{0, 1, 0})
	wantTable(t, table, ok, impl.Table{Rows: []impl.Row{{View: "1.0"}, {View: "2.0", Output: 1}}}, true, "ends and the middle")
	u, v, ok := impl.ConflictOf(path, 0, []int{0, 1, 2})
	wantList(t, []int{u, v}, ok, []int{0, 2}, "conflict at depth 0")
	u, v, ok = impl.ConflictOf(path, 1, []int{0, 1, 2})
	refused(t, "conflict at depth 1", u, v, ok)
	depth, ok := impl.LeastDepthOf(path, []int{0, 1, 2})
	wantNumber(t, depth, ok, 1, "least depth")
	table, ok = impl.TableOf(path, 0, []int{0, 1, 2})
	wantTable(t, table, ok, impl.Table{}, false, "table at depth 0")
	table, ok = impl.TableOf(path, 1, []int{0, 1, 2})
	rows := []impl.Row{{View: "1.0(0:2.0)"}, {View: "1.0(1:2.0)", Output: 2}, {View: "2.0(0:1.0,0:1.0)", Output: 1}}
	wantTable(t, table, ok, impl.Table{Depth: 1, Rows: rows}, true, "table at depth 1")
}

func TestLimitsOfChapter10AreThoseOfTheDocument(t *testing.T) {
	limits := []int{impl.MaxTableDepth, impl.MaxRows, impl.MaxTableOutput}
	if !slices.Equal(limits, []int{4, 60, 99}) {
		t.Error(limits)
	}
}

// TestTablesOfKnownNetworks has nodes without ports, stubs, loops and several edges between two nodes.
func TestTablesOfKnownNetworks(t *testing.T) {
	twice := zeroInputs(joined([]int{2, 2}, [4]int{0, 0, 1, 0}, [4]int{0, 1, 1, 1}))
	crossed := zeroInputs(joined([]int{2, 2}, [4]int{0, 0, 1, 1}, [4]int{0, 1, 1, 0}))
	mixed := sure(t)(impl.UnionOf(sure(t)(impl.UnionOf(bare(2), pair())), zeroInputs(bare(1))))
	for _, c := range []struct {
		n       impl.Network
		depth   int
		outputs []int
		lines   []string
	}{
		{zeroInputs(bare(1)), 0, []int{99}, []string{"0.0 99"}},
		{zeroInputs(bare(1)), 4, []int{0}, []string{"0.0 0"}},
		{bare(2), 3, []int{7, 5}, []string{"0.1 7", "0.2 5"}},
		{zeroInputs(bare(40)), 4, slices.Repeat([]int{9}, 40), []string{"0.0 9"}},
		{pair(), 0, []int{3, 2}, []string{"1.1 3", "2.2 2"}},
		{pair(), 1, []int{3, 2}, []string{"1.1(1:2.2) 3", "2.2(0:2.2,0:1.1) 2"}},
		{pair(), 2, []int{3, 3}, []string{"1.1(1:2.2(0:2.2,0:1.1)) 3", "2.2(0:2.2(0:2.2,0:1.1),0:1.1(1:2.2)) 3"}},
		{sure(t)(impl.BouquetNetwork(1, 0)), 4, []int{1}, []string{chain(4) + " 1"}},
		{sure(t)(impl.BouquetNetwork(0, 1)), 1, []int{1}, []string{"2.0(1:2.0,0:2.0) 1"}},
		{twice, 1, []int{8, 8}, []string{"2.0(0:2.0,1:2.0) 8"}},
		{crossed, 1, []int{8, 8}, []string{"2.0(1:2.0,0:2.0) 8"}},
		{withIds(zeroInputs(twice), 5, 6), 2, []int{0, 0}, []string{"2.0(0:2.0(0:2.0,1:2.0),1:2.0(0:2.0,1:2.0)) 0"}},
		{mixed, 0, []int{10, 20, 30, 40, 0}, []string{"0.0 0", "0.1 10", "0.2 20", "1.1 30", "2.2 40"}},
		{mixed, 1, []int{10, 20, 30, 40, 0}, []string{"0.0 0", "0.1 10", "0.2 20", "1.1(1:2.2) 30", "2.2(0:2.2,0:1.1) 40"}},
		{full(1), 1, []int{6}, []string{"6.1(0:6.1,1:6.1,2:6.1,3:6.1,4:6.1,5:6.1) 6"}},
	} {
		table, ok := impl.TableOf(c.n, c.depth, c.outputs)
		wantTable(t, table, ok, tableOf(t, c.depth, c.lines...), true, c.n, c.depth, c.outputs)
		outputs, ok := impl.RunTable(table, c.n)
		wantList(t, outputs, ok, c.outputs, table, "on", c.n)
		missing, ok := impl.MissingNodes(table, c.n)
		wantList(t, missing, ok, nil, table, "on", c.n)
	}
	for _, n := range []impl.Network{twice, crossed, zeroInputs(bare(2)), sure(t)(impl.PathNetwork(2))} {
		for depth := range 5 {
			table, ok := impl.TableOf(n, depth, []int{1, 2})
			wantTable(t, table, ok, impl.Table{}, false, "equal nodes", n)
		}
	}
}

// wantTableOf compares the table of outputs with one that is found by hand, and checks that there is one exactly if there is no conflict.
func wantTableOf(t *testing.T, n impl.Network, depth int, outputs []int) bool {
	t.Helper()
	want, is := tableByHand(n, depth, outputs)
	table, ok := impl.TableOf(n, depth, outputs)
	wantTable(t, table, ok, want, is, "table of", n, depth, outputs)
	u, v, conflict := impl.ConflictOf(n, depth, outputs)
	// Without a conflict, there is no table only if a view is too long.
	if tooLong := slices.Contains(viewsByHand(n, depth), ""); ok != (!conflict && !tooLong) {
		t.Fatalf("depth %d, outputs %v of %v: table %v, conflict %d %d %v, too long %v", depth, outputs, n, ok, u, v, conflict, tooLong)
	}
	if ok {
		given, fine := impl.RunTable(table, n)
		wantList(t, given, fine, outputs, "outputs of", table, "on", n)
		missing, fine := impl.MissingNodes(table, n)
		wantList(t, missing, fine, nil, "missing nodes of", table, "on", n)
	}
	return ok
}

func TestTablesOfNetworks(t *testing.T) {
	r := rand.New(rand.NewSource(110))
	counts := map[bool]int{}
	for k, n := range tableNetworks(t) {
		lists := outputLists(r, n)
		for depth := range 5 {
			wantTableOf(t, n, depth, lists[5+3*depth])
			counts[wantTableOf(t, n, depth, lists[k%len(lists)])]++
		}
	}
	if counts[true] < 200 || counts[false] < 200 {
		t.Error("tables and others:", counts)
	}
}

// TestAllOutputsOfSmallNetworks tries all lists of outputs.
func TestAllOutputsOfSmallNetworks(t *testing.T) {
	counts := map[bool]int{}
	for _, degrees := range [][]int{{3}, {0, 0}, {1, 1}, {2, 2}, {3, 1}, {1, 2, 1}, {2, 0, 2}, {1, 1, 0, 1}} {
		for k, n := range smallNetworks(degrees...) {
			if k%2 == 0 {
				n = zeroInputs(n)
			}
			allLists(len(degrees), []int{0, 1, 99}, func(outputs []int) {
				for depth := range 5 {
					counts[wantTableOf(t, n, depth, outputs)]++
				}
			})
		}
	}
	if counts[true] < 1000 || counts[false] < 1000 {
		t.Error("tables and others:", counts)
	}
}

// conflictsByHand returns all pairs of nodes with equal numbers of views and different outputs.
func conflictsByHand(numbers, outputs []int) [][]int {
	pairs := [][]int{}
	for v := range outputs {
		for u := range v {
			if numbers[u] == numbers[v] && outputs[u] != outputs[v] {
				pairs = append(pairs, []int{u, v})
			}
		}
	}
	slices.SortFunc(pairs, slices.Compare)
	return pairs
}

// wantConflicts compares conflicts, given the numbers of views of the depths from 0 on. It returns the least depth without a conflict, or -1.
func wantConflicts(t *testing.T, n impl.Network, numbers [][]int, outputs []int) int {
	t.Helper()
	least := -1
	for depth := range numbers {
		pairs := conflictsByHand(numbers[depth], outputs)
		u, v, ok := impl.ConflictOf(n, depth, outputs)
		if len(pairs) == 0 {
			refused(t, fmt.Sprint("conflict at depth ", depth, outputs, n), u, v, ok)
		} else {
			wantList(t, []int{u, v}, ok, pairs[0], "conflict at depth", depth, outputs, n)
		}
		if least < 0 && len(pairs) == 0 {
			least = depth
		}
	}
	depth, ok := impl.LeastDepthOf(n, outputs)
	if least < 0 {
		refused(t, fmt.Sprint("least depth of ", outputs, n), depth, ok)
	} else {
		wantNumber(t, depth, ok, least, "least depth of", outputs, n)
	}
	return least
}

func TestConflictsAndLeastDepths(t *testing.T) {
	r := rand.New(rand.NewSource(111))
	met := map[int]int{}
	for k, n := range tableNetworks(t) {
		// All views differ, or never do, before depth 40.
		numbers := (viewBook{}).numbersOf(n, 40)
		lists := outputLists(r, n)
		for _, i := range []int{1, 2, 3, 4, 5 + k%18} {
			met[wantConflicts(t, n, numbers, lists[i])]++
		}
	}
	for least := -1; least < 4; least++ {
		if met[least] < 10 {
			t.Errorf("the least depth is %d for few outputs: %v", least, met)
		}
	}
}

// TestDeepConflicts has nodes that only a great depth tells apart.
func TestDeepConflicts(t *testing.T) {
	for k := 1; k <= 40; k++ {
		n := line(k, 0)
		depth, ok := impl.LeastDepthOf(n, rising(k))
		wantNumber(t, depth, ok, k-1, "a line of", k)
		for depth := range 81 {
			u, v, ok := impl.ConflictOf(n, depth, rising(k))
			// The nodes that are more than so many steps away from the mark are not told apart.
			if depth < k-1 {
				wantList(t, []int{u, v}, ok, []int{depth, depth + 1}, "depth", depth, "of a line of", k)
			} else {
				refused(t, fmt.Sprint("depth ", depth, " of a line of ", k), u, v, ok)
			}
		}
	}
	twins := line(40)
	for _, x := range []int{0, 1, 99} {
		outputs := slices.Repeat([]int{x}, 40)
		depth, ok := impl.LeastDepthOf(twins, outputs)
		wantNumber(t, depth, ok, 0, "equal outputs")
		outputs[39] = 50
		depth, ok = impl.LeastDepthOf(twins, outputs)
		refused(t, "twins with different outputs", depth, ok)
		u, v, ok := impl.ConflictOf(twins, 80, outputs)
		wantList(t, []int{u, v}, ok, []int{0, 39}, "twins with different outputs")
	}
}

// TestFirstOfSeveralConflicts has two pairs or more, so that the first node counts before the second one.
func TestFirstOfSeveralConflicts(t *testing.T) {
	six := withInputs(bare(6), 1, 2, 2, 1, 2, 1)
	for _, c := range []struct {
		outputs []int
		u, v    int
	}{
		{[]int{0, 5, 6, 0, 5, 9}, 0, 5},
		{[]int{0, 5, 6, 0, 5, 0}, 1, 2},
		{[]int{0, 5, 5, 0, 6, 0}, 1, 4},
		{[]int{0, 5, 5, 1, 6, 2}, 0, 3},
		{[]int{0, 6, 5, 0, 6, 1}, 0, 5},
		{[]int{0, 5, 5, 1, 5, 1}, 0, 3},
		{[]int{7, 5, 5, 7, 5, 8}, 0, 5},
		{[]int{7, 5, 6, 7, 6, 7}, 1, 2},
		{[]int{99, 98, 97, 96, 95, 94}, 0, 3},
	} {
		for _, depth := range []int{0, 1, 4, 5, 80} {
			u, v, ok := impl.ConflictOf(six, depth, c.outputs)
			wantList(t, []int{u, v}, ok, []int{c.u, c.v}, "conflict of", c.outputs)
		}
		depth, ok := impl.LeastDepthOf(six, c.outputs)
		refused(t, "nodes without ports", depth, ok)
	}
	path := sure(t)(impl.PathNetwork(4))
	for _, c := range []struct {
		outputs          []int
		u, v, least, end int
	}{
		{[]int{0, 1, 1, 2}, 0, 3, 1, 0},
		{[]int{0, 1, 2, 0}, 1, 2, 1, 0},
		{[]int{0, 1, 2, 3}, 0, 3, 1, 0},
		{[]int{0, 1, 1, 0}, 0, 0, 0, 0},
	} {
		u, v, ok := impl.ConflictOf(path, 0, c.outputs)
		if c.least == 0 {
			refused(t, "no conflict", u, v, ok)
		} else {
			wantList(t, []int{u, v}, ok, []int{c.u, c.v}, "conflict of", c.outputs)
		}
		depth, ok := impl.LeastDepthOf(path, c.outputs)
		wantNumber(t, depth, ok, c.least, "least depth of", c.outputs)
		u, v, ok = impl.ConflictOf(path, 1, c.outputs)
		refused(t, "a conflict that has vanished", u, v, ok)
	}
}

// TestConflictsVanishOnce checks that a conflict at a depth is one at each less depth, and that there is a table from the least depth on.
func TestConflictsVanishOnce(t *testing.T) {
	r := rand.New(rand.NewSource(112))
	for k, n := range tableNetworks(t) {
		lists := outputLists(r, n)
		outputs := lists[k%len(lists)]
		least, ok := impl.LeastDepthOf(n, outputs)
		if !ok {
			least = 81
		}
		for depth := range 81 {
			u, v, conflict := impl.ConflictOf(n, depth, outputs)
			if conflict != (depth < least) {
				t.Fatalf("depth %d, outputs %v of %v: conflict %d %d %v, least depth %d", depth, outputs, n, u, v, conflict, least)
			}
			if equal, fine := impl.SameView(n, u, n, v, depth); conflict && (!equal || !fine || u >= v || outputs[u] == outputs[v]) {
				t.Fatalf("depth %d, outputs %v of %v: conflict %d %d", depth, outputs, n, u, v)
			}
		}
	}
}

// wantGiven compares what a table tells about the nodes of a network. It returns how many it does not know.
func wantGiven(t *testing.T, table impl.Table, n impl.Network) int {
	t.Helper()
	given := givenByHand(table, n)
	missing := []int{}
	for v, output := range given {
		if output < 0 {
			missing = append(missing, v)
		}
	}
	got, ok := impl.MissingNodes(table, n)
	wantList(t, got, ok, missing, "missing nodes of", table, "on", n)
	outputs, ok := impl.RunTable(table, n)
	if len(missing) > 0 {
		refused(t, fmt.Sprint("outputs of ", table, " on ", n), outputs, ok)
	} else {
		wantList(t, outputs, ok, given, "outputs of", table, "on", n)
	}
	return len(missing)
}

// TestNodesThatATableKnows runs tables of one network on others, and without some of their rows.
func TestNodesThatATableKnows(t *testing.T) {
	r := rand.New(rand.NewSource(113))
	networks := tableNetworks(t)
	counts := [3]int{}
	for k, n := range networks {
		depth := k % 5
		table, ok := impl.TableOf(n, depth, outputsBelow(r, n, depth, 100))
		if !ok {
			continue
		}
		for range 3 {
			other := networks[r.Intn(len(networks))]
			if r.Intn(2) == 0 {
				other = sure(t)(impl.RenumberNodes(n, r.Perm(len(n.Ends))))
			}
			switch missing := wantGiven(t, table, other); missing {
			case 0:
				counts[0]++
			case len(other.Ends):
				counts[2]++
			default:
				counts[1]++
			}
			table.Rows = slices.DeleteFunc(table.Rows, func(impl.Row) bool { return r.Intn(4) == 0 })
		}
	}
	for _, count := range counts {
		if count < 40 {
			t.Error("networks of which a table knows all nodes, some or none:", counts)
		}
	}
}

func TestKnownNodesThatAreMissing(t *testing.T) {
	path := sure(t)(impl.PathNetwork(3))
	for _, c := range []struct {
		table   impl.Table
		n       impl.Network
		missing []int
		outputs []int
	}{
		{impl.Table{}, path, []int{0, 1, 2}, nil},
		{impl.Table{Depth: 4}, bare(1), []int{0}, nil},
		{tableOf(t, 0, "1.0 5"), path, []int{1}, nil},
		{tableOf(t, 0, "2.0 5"), path, []int{0, 2}, nil},
		{tableOf(t, 0, "1.0 5", "2.0 0"), path, nil, []int{5, 0, 5}},
		{tableOf(t, 0, "1.0 5", "2.0 0", "2.1 4"), path, nil, []int{5, 0, 5}},
		{tableOf(t, 0, "1.0 5", "2.0 0"), withInputs(path, 0, 1, 0), []int{1}, nil},
		{tableOf(t, 1, "1.0(0:2.0) 5", "2.0(0:1.0,0:1.0) 0"), path, []int{2}, nil},
		{tableOf(t, 1, "0.0 1", "0.9 2"), withInputs(bare(4), 9, 0, 8, 9), []int{2}, nil},
		{tableOf(t, 4, "0.0 1", "0.9 2", chain(4)+" 3"), withInputs(sure(t)(impl.UnionOf(bare(3), sure(t)(impl.PathNetwork(2)))), 9, 0, 9, 0, 0), nil, []int{2, 1, 2, 3, 3}},
		{tableOf(t, 3, chain(3)+" 3"), sure(t)(impl.PathNetwork(2)), nil, []int{3, 3}},
		{tableOf(t, 3, "0.0 1"), sure(t)(impl.PathNetwork(2)), []int{0, 1}, nil},
	} {
		missing, ok := impl.MissingNodes(c.table, c.n)
		wantList(t, missing, ok, c.missing, "missing nodes of", c.table)
		outputs, ok := impl.RunTable(c.table, c.n)
		if len(c.missing) > 0 {
			refused(t, fmt.Sprint("outputs of ", c.table), outputs, ok)
		} else {
			wantList(t, outputs, ok, c.outputs, "outputs of", c.table)
		}
	}
}

// TestTablesOnCoverings checks that a table gives the same output to a node and to its copies.
func TestTablesOnCoverings(t *testing.T) {
	r := rand.New(rand.NewSource(114))
	for _, c := range coverMaps(t) {
		depth := r.Intn(5)
		outputs := outputsBelow(r, c.b, depth, 100)
		table, ok := impl.TableOf(c.b, depth, outputs)
		if !ok {
			continue
		}
		pulled, _ := impl.PullNodes(c.a, c.b, c.m, outputs)
		given, ok := impl.RunTable(table, c.a)
		wantList(t, given, ok, pulled, "a covering", c)
	}
	for k := 1; k <= 40; k++ {
		table, ok := impl.TableOf(sure(t)(impl.CycleNetwork(k)), 3, slices.Repeat([]int{k}, k))
		given, fine := impl.RunTable(table, sure(t)(impl.CycleNetwork(41-k)))
		wantList(t, given, ok && fine, slices.Repeat([]int{k}, 41-k), "cycles of", k, "and", 41-k)
	}
}

// TestIdentifiersAndNumbersDoNotMatter gives identifiers to nodes and renumbers them.
func TestIdentifiersAndNumbersDoNotMatter(t *testing.T) {
	r := rand.New(rand.NewSource(115))
	for k, n := range tableNetworks(t) {
		depth, nodes := k%4, len(n.Ends)
		outputs := outputsBelow(r, n, depth, 100)
		want, is := impl.TableOf(n, depth, outputs)
		perm := r.Perm(nodes)
		other := withIds(sure(t)(impl.RenumberNodes(n, perm)), idsUpTo(nodes)...)
		moved := make([]int, nodes)
		for v, to := range perm {
			moved[to] = outputs[v]
		}
		table, ok := impl.TableOf(other, depth, moved)
		wantTable(t, table, ok, want, is, "renumbered", n)
	}
}

// TestViewsAtTheLimitOfBytes has views of depth 4 with 4000 bytes and with one more.
func TestViewsAtTheLimitOfBytes(t *testing.T) {
	for _, bytes := range []int{4000, 4001} {
		n, v := limitNetwork(bytes)
		if text := treeOfNode(n, v, 4).text(); len(text) != bytes {
			t.Fatalf("%d bytes, want %d", len(text), bytes)
		}
		nodes := len(n.Ends)
		outputs := rising(nodes)
		isTable := bytes == 4000
		table, ok := impl.TableOf(n, 4, outputs)
		if ok != isTable || len(table.Rows) != nodes && isTable {
			t.Errorf("%d bytes: table %v %v", bytes, table, ok)
		}
		wantTableOf(t, n, 4, outputs)
		less := sureTable(t)(impl.TableOf(n, 3, outputs))
		table, ok = impl.DeepenOn(less, n, 4)
		if ok != isTable {
			t.Errorf("%d bytes: deepened %v %v", bytes, table, ok)
		}
		ends := sureTable(t)(impl.TableOf(sure(t)(impl.WithInputs(n, outputs)), 1, outputs))
		table, ok = impl.ChainTables(less, ends, n)
		if ok != isTable {
			t.Errorf("%d bytes: chained %v %v", bytes, table, ok)
		}
		// A table with the other nodes' views does not know the node.
		known := viewsByHand(n, 4)
		rows := impl.Table{Depth: 4}
		for _, view := range slices.Sorted(slices.Values(slices.Delete(known, v, v+1))) {
			rows.Rows = append(rows.Rows, impl.Row{View: view, Output: 1})
		}
		missing, ok := impl.MissingNodes(rows, n)
		wantList(t, missing, ok, []int{v}, "a view of", bytes, "bytes")
		depth, ok := impl.LeastDepthOf(n, outputs)
		u, w, conflict := impl.ConflictOf(n, 4, outputs)
		refused(t, "a conflict", u, w, conflict)
		if !ok || depth > 3 {
			t.Errorf("%d bytes: least depth %d %v", bytes, depth, ok)
		}
	}
	six := full(3)
	table, ok := impl.TableOf(six, 4, []int{1, 1, 1})
	wantTable(t, table, ok, impl.Table{}, false, "a long view")
	missing, ok := impl.MissingNodes(impl.Table{Depth: 4}, six)
	wantList(t, missing, ok, []int{0, 1, 2}, "long views")
	missing, ok = impl.MissingNodes(tableOf(t, 4, "0.1 7"), sure(t)(impl.UnionOf(bare(1), full(1))))
	wantList(t, missing, ok, []int{1}, "a long view beside a short one")
}
