package tests

import (
	"fmt"
	"math/rand"
	"slices"
	"testing"

	"loop.example/g01084/impl"
)

// wantMerged compares the merged table in both orders. It reports whether there is one.
func wantMerged(t *testing.T, a, b impl.Table) bool {
	t.Helper()
	want, is := mergedByHand(a, b)
	table, ok := impl.MergeTables(a, b)
	wantTable(t, table, ok, want, is, "merged", a, b)
	table, ok = impl.MergeTables(b, a)
	return wantTable(t, table, ok, want, is, "merged", b, a)
}

func TestKnownMergedTables(t *testing.T) {
	for _, c := range []struct {
		a, b, want impl.Table
		ok         bool
	}{
		{impl.Table{}, impl.Table{}, impl.Table{}, true},
		{impl.Table{Depth: 4}, impl.Table{Depth: 4}, impl.Table{Depth: 4}, true},
		{impl.Table{Depth: 4}, impl.Table{Depth: 3}, impl.Table{}, false},
		{tableOf(t, 0, "1.0 5"), impl.Table{}, tableOf(t, 0, "1.0 5"), true},
		{tableOf(t, 0, "1.0 5"), tableOf(t, 0, "1.0 5"), tableOf(t, 0, "1.0 5"), true},
		{tableOf(t, 0, "1.0 5"), tableOf(t, 0, "1.0 6"), impl.Table{}, false},
		{tableOf(t, 0, "1.0 0"), tableOf(t, 0, "1.0 1"), impl.Table{}, false},
		{tableOf(t, 0, "1.0 5"), tableOf(t, 0, "0.9 5", "1.1 6"), tableOf(t, 0, "0.9 5", "1.0 5", "1.1 6"), true},
		{tableOf(t, 0, "0.0 1", "2.0 2"), tableOf(t, 0, "1.0 3", "2.0 2", "3.0 4"), tableOf(t, 0, "0.0 1", "1.0 3", "2.0 2", "3.0 4"), true},
		{tableOf(t, 0, "0.0 1", "2.0 2"), tableOf(t, 0, "1.0 3", "2.0 3", "3.0 4"), impl.Table{}, false},
		{tableOf(t, 0, "0.0 1", "2.0 2"), tableOf(t, 0, "0.0 2", "1.0 2"), impl.Table{}, false},
		{tableOf(t, 0, "0.0 1"), tableOf(t, 1, "0.0 1"), impl.Table{}, false},
		{tableOf(t, 0, "0.0 1"), impl.Table{Depth: 1}, impl.Table{}, false},
		{tableOf(t, 4, "0.0 1"), tableOf(t, 4, "0.1 1", chain(4)+" 7"), tableOf(t, 4, "0.0 1", "0.1 1", chain(4)+" 7"), true},
	} {
		table, ok := impl.MergeTables(c.a, c.b)
		wantTable(t, table, ok, c.want, c.ok, c.a, "and", c.b)
		table, ok = impl.MergeTables(c.b, c.a)
		wantTable(t, table, ok, c.want, c.ok, c.b, "and", c.a)
	}
}

// rowsAt returns the rows of a table in some places.
func rowsAt(table impl.Table, first, end int) impl.Table {
	return impl.Table{Depth: table.Depth, Rows: table.Rows[first:end]}
}

func TestMergedTablesOfManyRows(t *testing.T) {
	for depth := range 5 {
		all := tableWith(depth, 70)
		for _, c := range []struct {
			first, end int
			ok         bool
		}{
			{10, 70, false}, {10, 60, true}, {10, 61, false}, {59, 60, true}, {60, 61, false}, {60, 60, true}, {0, 60, true}, {0, 0, true}, {30, 62, false},
		} {
			table, ok := impl.MergeTables(rowsAt(all, 0, 60), rowsAt(all, c.first, c.end))
			wantTable(t, table, ok, rowsAt(all, 0, 60), c.ok, "60 rows and those from", c.first, "to", c.end)
		}
		table, ok := impl.MergeTables(rowsAt(all, 10, 40), rowsAt(all, 40, 70))
		wantTable(t, table, ok, rowsAt(all, 10, 70), true, "30 rows and 30 others")
		table, ok = impl.MergeTables(rowsAt(all, 10, 41), rowsAt(all, 40, 70))
		wantTable(t, table, ok, rowsAt(all, 10, 70), true, "31 rows and 30 others, of which they share one")
		table, ok = impl.MergeTables(rowsAt(all, 9, 40), rowsAt(all, 40, 70))
		wantTable(t, table, ok, impl.Table{}, false, "31 rows and 30 others")
	}
}

func TestMergedTables(t *testing.T) {
	r := rand.New(rand.NewSource(120))
	counts := map[bool]int{}
	for k := range 1500 {
		a := randomTable(r, k%5, 12)
		b := randomTable(r, (k+k%7/6)%5, 12)
		b.Rows = slices.DeleteFunc(b.Rows, func(row impl.Row) bool {
			return slices.ContainsFunc(a.Rows, func(other impl.Row) bool { return other.View == row.View })
		})
		// Some views are shared, and a few of these have other outputs.
		for _, row := range a.Rows {
			if r.Intn(8) == 0 {
				row.Output = 99 - row.Output
			}
			if r.Intn(2) == 0 {
				b.Rows = append(b.Rows, row)
			}
		}
		b, ok := ordered(b.Depth, b.Rows...)
		if !ok {
			continue
		}
		counts[wantMerged(t, a, b)]++
		wantMerged(t, a, a)
	}
	if counts[true] < 200 || counts[false] < 200 {
		t.Error("merged tables and others:", counts)
	}
}

// TestTablesOfUnions checks that the merged tables of two networks are the table of both networks together.
func TestTablesOfUnions(t *testing.T) {
	r := rand.New(rand.NewSource(121))
	networks := []impl.Network{}
	for _, n := range tableNetworks(t) {
		if len(n.Ends) <= 20 {
			networks = append(networks, n)
		}
	}
	counts := map[bool]int{}
	for k, a := range networks {
		b := networks[r.Intn(len(networks))]
		if k%3 == 0 {
			b = a
		}
		a.Ids, b.Ids = nil, nil
		union := sure(t)(impl.UnionOf(a, b))
		depth := r.Intn(4)
		below := 1 + r.Intn(20)
		left, right := outputsBelow(r, a, depth, below), outputsBelow(r, b, depth, below)
		if k%6 == 0 {
			right = slices.Clone(left)
		}
		first, ok := impl.TableOf(a, depth, left)
		second, fine := impl.TableOf(b, depth, right)
		if !ok || !fine {
			continue
		}
		want, is := impl.TableOf(union, depth, append(left, right...))
		table, ok := impl.MergeTables(first, second)
		counts[wantTable(t, table, ok, want, is, "union of", a, b)]++
	}
	if counts[true] < 30 || counts[false] < 10 {
		t.Error("tables and others:", counts)
	}
}

func TestKnownCutTables(t *testing.T) {
	deep := tableOf(t, 2, "0.3 9", "1.0(0:2.0(0:1.0,0:1.0)) 4", "1.0(1:2.0(0:1.0,0:1.0)) 5", "2.0(0:1.0(0:2.0),0:1.0(1:2.0)) 6")
	// The order of the first two rows changes, as the part by which they differ first is cut off.
	crossing := tableOf(t, 2, "2.0(0:1.0(0:2.0),0:3.0(0:1.0,0:1.0,0:1.0)) 1", "2.0(0:1.0(1:2.0),0:1.0(0:2.0)) 2", "2.0(0:1.0(1:2.0),0:1.0(1:2.0)) 2")
	for _, c := range []struct {
		table impl.Table
		k     int
		want  impl.Table
		ok    bool
	}{
		{deep, 2, deep, true},
		{deep, 1, tableOf(t, 1, "0.3 9", "1.0(0:2.0) 4", "1.0(1:2.0) 5", "2.0(0:1.0,0:1.0) 6"), true},
		{deep, 0, impl.Table{}, false},
		{deep, 3, impl.Table{}, false},
		{deep, 4, impl.Table{}, false},
		{deep, -1, impl.Table{}, false},
		{crossing, 1, tableOf(t, 1, "2.0(0:1.0,0:1.0) 2", "2.0(0:1.0,0:3.0) 1"), true},
		{crossing, 0, impl.Table{}, false},
		{tableOf(t, 1, "1.0(0:1.0) 3", "1.0(0:2.0) 3", "1.1(0:1.0) 4"), 0, tableOf(t, 0, "1.0 3", "1.1 4"), true},
		{tableOf(t, 1, "1.0(0:1.0) 3", "1.0(0:2.0) 3", "1.0(1:2.0) 4"), 0, impl.Table{}, false},
		{tableOf(t, 1, "1.0(0:1.0) 0", "1.0(0:2.0) 1"), 0, impl.Table{}, false},
		{tableOf(t, 4, "0.0 1", "0.1 2", chain(4)+" 3"), 0, tableOf(t, 0, "0.0 1", "0.1 2", "1.0 3"), true},
		{tableOf(t, 4, "0.0 1", "0.1 2", chain(4)+" 3"), 3, tableOf(t, 3, "0.0 1", "0.1 2", chain(3)+" 3"), true},
		{impl.Table{Depth: 4}, 4, impl.Table{Depth: 4}, true},
		{impl.Table{Depth: 4}, 0, impl.Table{}, true},
		{impl.Table{}, 0, impl.Table{}, true},
		{impl.Table{}, 1, impl.Table{}, false},
		{tableOf(t, 0, "1.0 0"), 0, tableOf(t, 0, "1.0 0"), true},
	} {
		table, ok := impl.CutTable(c.table, c.k)
		wantTable(t, table, ok, c.want, c.ok, c.table, "cut to", c.k)
	}
}

func TestCutTables(t *testing.T) {
	r := rand.New(rand.NewSource(122))
	counts := map[bool]int{}
	for k := range 1500 {
		table := randomTable(r, k%5, 20)
		for i, row := range table.Rows {
			// Views that fall together have equal outputs then, or they may have different ones.
			table.Rows[i].Output = int(row.View[2]-'0') * 11
			if k/5%3 > 0 {
				table.Rows[i].Output = r.Intn(k/5%3 + 1)
			}
		}
		for depth := -1; depth < 6; depth++ {
			want, is := cutByHand(table, depth)
			got, ok := impl.CutTable(table, depth)
			wantTable(t, got, ok, want, is, table, "cut to", depth)
			if depth >= 0 && depth < table.Depth {
				counts[ok]++
			}
		}
	}
	if counts[true] < 300 || counts[false] < 300 {
		t.Error("cut tables and others:", counts)
	}
}

// TestCutTablesOfNetworks checks that a cut table is the one of the less depth, if equal views of that depth have equal outputs.
func TestCutTablesOfNetworks(t *testing.T) {
	r := rand.New(rand.NewSource(123))
	counts := map[bool]int{}
	for k, n := range tableNetworks(t) {
		lists := outputLists(r, n)
		for _, outputs := range [][]int{lists[0], lists[1+k%4], lists[5], lists[8], lists[10], lists[11]} {
			for depth := range 5 {
				table, ok := impl.TableOf(n, depth, outputs)
				for less := range depth {
					want, is := impl.TableOf(n, less, outputs)
					if cut, fine := impl.CutTable(table, less); ok {
						counts[wantTable(t, cut, fine, want, is, table, "cut to", less)]++
					}
				}
			}
		}
	}
	if counts[true] < 500 || counts[false] < 200 {
		t.Error("cut tables and others:", counts)
	}
}

// wantDeepened compares the table for each depth, and cuts it again.
func wantDeepened(t *testing.T, table impl.Table, n impl.Network) int {
	t.Helper()
	count := 0
	for k := -1; k < 7; k++ {
		want, is := deepenedByHand(table, n, k)
		got, ok := impl.DeepenOn(table, n, k)
		if wantTable(t, got, ok, want, is, table, "on", n, "for the depth", k) {
			count++
			cut, fine := impl.CutTable(got, table.Depth)
			// Rows that no node has are lost.
			merged, joins := impl.MergeTables(table, cut)
			wantTable(t, merged, fine && joins, table, true, "cut again", got)
		}
	}
	return count
}

func TestKnownDeepenedTables(t *testing.T) {
	path := sure(t)(impl.PathNetwork(3))
	ends := tableOf(t, 0, "0.0 9", "1.0 5", "2.0 6")
	for _, c := range []struct {
		table impl.Table
		n     impl.Network
		k     int
		want  impl.Table
		ok    bool
	}{
		{ends, path, 0, tableOf(t, 0, "1.0 5", "2.0 6"), true},
		{ends, path, 1, tableOf(t, 1, "1.0(0:2.0) 5", "1.0(1:2.0) 5", "2.0(0:1.0,0:1.0) 6"), true},
		{ends, path, 5, impl.Table{}, false},
		{ends, path, -1, impl.Table{}, false},
		{ends, zeroInputs(bare(40)), 4, tableOf(t, 4, "0.0 9"), true},
		{ends, withInputs(path, 0, 0, 1), 1, impl.Table{}, false},
		{ends, withInputs(path, 0, 0, 1), 0, impl.Table{}, false},
		{tableOf(t, 1, "1.0(0:1.0) 7"), sure(t)(impl.PathNetwork(2)), 0, impl.Table{}, false},
		{tableOf(t, 1, "1.0(0:1.0) 7"), sure(t)(impl.PathNetwork(2)), 1, tableOf(t, 1, "1.0(0:1.0) 7"), true},
		{tableOf(t, 1, "1.0(0:1.0) 7"), sure(t)(impl.PathNetwork(2)), 4, tableOf(t, 4, chain(4)+" 7"), true},
		{tableOf(t, 4, chain(4)+" 7"), sure(t)(impl.PathNetwork(2)), 4, tableOf(t, 4, chain(4)+" 7"), true},
		{tableOf(t, 4, chain(4)+" 7"), sure(t)(impl.PathNetwork(2)), 3, impl.Table{}, false},
		{impl.Table{}, path, 0, impl.Table{}, false},
		{impl.Table{}, path, 4, impl.Table{}, false},
		{tableOf(t, 0, "6.1 1"), full(1), 4, impl.Table{}, false},
	} {
		table, ok := impl.DeepenOn(c.table, c.n, c.k)
		wantTable(t, table, ok, c.want, c.ok, c.table, "on", c.n, "for the depth", c.k)
	}
}

func TestDeepenedTables(t *testing.T) {
	r := rand.New(rand.NewSource(124))
	networks := tableNetworks(t)
	count := 0
	for k, n := range networks {
		depth := k % 5
		table, ok := impl.TableOf(n, depth, outputsBelow(r, n, depth, 100))
		if !ok {
			continue
		}
		if rows, fine := impl.MergeTables(table, randomTable(r, depth, 9)); fine {
			table = rows
		}
		count += wantDeepened(t, table, n)
		if k%4 == 0 {
			wantDeepened(t, table, networks[r.Intn(len(networks))])
			wantDeepened(t, rowsAt(table, 1, len(table.Rows)), n)
		}
	}
	if count < 300 {
		t.Error("deepened tables:", count)
	}
}

// wantChained compares the chained table, and runs it beside both tables one after the other.
func wantChained(t *testing.T, a, b impl.Table, n impl.Network) bool {
	t.Helper()
	want, is := chainedByHand(a, b, n)
	table, ok := impl.ChainTables(a, b, n)
	if !wantTable(t, table, ok, want, is, "chained", a, b, "on", n) {
		return false
	}
	first, _ := impl.RunTable(a, n)
	second, _ := impl.RunTable(b, sure(t)(impl.WithInputs(n, first)))
	outputs, ok := impl.RunTable(table, n)
	wantList(t, outputs, ok, second, "chained", a, b, "on", n)
	return true
}

func TestKnownChainedTables(t *testing.T) {
	path, cycle := sure(t)(impl.PathNetwork(3)), sure(t)(impl.CycleNetwork(5))
	swap := tableOf(t, 0, "1.0 1", "2.0 0")
	ends := tableOf(t, 1, "1.1(0:2.0) 40", "1.1(1:2.0) 50", "2.0(0:1.1,0:1.1) 60")
	same := func(depth, input, output int) impl.Table {
		n := withInputs(cycle, slices.Repeat([]int{input}, 5)...)
		return sureTable(t)(impl.TableOf(n, depth, slices.Repeat([]int{output}, 5)))
	}
	for _, c := range []struct {
		a, b impl.Table
		n    impl.Network
		want impl.Table
		ok   bool
	}{
		{swap, ends, path, tableOf(t, 1, "1.0(0:2.0) 40", "1.0(1:2.0) 50", "2.0(0:1.0,0:1.0) 60"), true},
		{swap, swap, path, impl.Table{}, false},
		{ends, swap, path, impl.Table{}, false},
		{swap, impl.Table{}, path, impl.Table{}, false},
		{impl.Table{}, swap, path, impl.Table{}, false},
		{swap, ends, withIds(path, 3, 2, 1), tableOf(t, 1, "1.0(0:2.0) 40", "1.0(1:2.0) 50", "2.0(0:1.0,0:1.0) 60"), true},
		{tableOf(t, 0, "1.0 9", "2.0 9"), tableOf(t, 0, "1.9 99", "2.9 98"), path, tableOf(t, 0, "1.0 99", "2.0 98"), true},
		{tableOf(t, 0, "1.0 10", "2.0 9"), tableOf(t, 0, "1.9 99", "2.9 98"), path, impl.Table{}, false},
		{tableOf(t, 0, "1.0 9", "2.0 99"), tableOf(t, 0, "1.9 99", "2.9 98"), path, impl.Table{}, false},
		{tableOf(t, 4, "0.0 5"), tableOf(t, 0, "0.5 77"), zeroInputs(bare(2)), tableOf(t, 4, "0.0 77"), true},
		{tableOf(t, 4, "0.0 5"), tableOf(t, 1, "0.5 77"), zeroInputs(bare(2)), impl.Table{}, false},
		{tableOf(t, 4, "0.0 5"), tableOf(t, 4, "0.5 77"), zeroInputs(bare(2)), impl.Table{}, false},
		{tableOf(t, 3, "0.0 5"), tableOf(t, 1, "0.5 77"), zeroInputs(bare(2)), tableOf(t, 4, "0.0 77"), true},
		{tableOf(t, 0, "0.0 5"), tableOf(t, 0, "0.0 5"), zeroInputs(bare(2)), impl.Table{}, false},
		{tableOf(t, 0, "0.0 0"), tableOf(t, 0, "0.0 5"), zeroInputs(bare(2)), tableOf(t, 0, "0.0 5"), true},
		{same(2, 0, 7), same(2, 7, 70), cycle, same(4, 0, 70), true},
		{same(4, 0, 7), same(0, 7, 70), cycle, same(4, 0, 70), true},
		{same(0, 0, 7), same(4, 7, 70), cycle, same(4, 0, 70), true},
		{same(3, 0, 7), same(2, 7, 70), cycle, impl.Table{}, false},
		{same(2, 0, 7), same(3, 7, 70), cycle, impl.Table{}, false},
		{same(4, 0, 7), same(4, 7, 70), cycle, impl.Table{}, false},
		{same(2, 0, 7), same(2, 6, 70), cycle, impl.Table{}, false},
		{same(2, 1, 7), same(2, 7, 70), cycle, impl.Table{}, false},
	} {
		table, ok := impl.ChainTables(c.a, c.b, c.n)
		wantTable(t, table, ok, c.want, c.ok, c.a, c.b, "on", c.n)
	}
}

func TestChainedTables(t *testing.T) {
	r := rand.New(rand.NewSource(125))
	counts := map[bool]int{}
	for k, n := range tableNetworks(t) {
		for _, below := range []int{2, 10, 12} {
			first, second := r.Intn(5), r.Intn(4)
			if k%4 > 0 {
				second = r.Intn(5 - first)
			}
			inputs := outputsBelow(r, n, first, below)
			a, ok := impl.TableOf(n, first, inputs)
			if !ok || below < 12 && slices.Max(inputs) > 9 {
				continue
			}
			m := impl.Network{Ends: n.Ends, Inputs: inputs}
			if slices.Max(inputs) > 9 {
				m.Inputs = make([]int, len(n.Ends))
			}
			b, ok := impl.TableOf(m, second, outputsBelow(r, m, second, 100))
			if !ok {
				continue
			}
			counts[wantChained(t, a, b, n)]++
			if k%5 == 0 {
				wantChained(t, a, rowsAt(b, 0, len(b.Rows)-1), n)
				wantChained(t, rowsAt(a, 1, len(a.Rows)), b, n)
				wantChained(t, b, a, n)
			}
		}
	}
	if counts[true] < 150 || counts[false] < 50 {
		t.Error("chained tables and others:", counts)
	}
}

// TestAllChainedTablesOfSmallNetworks has a second table that is made for the outputs of the first one, so that a chained table fails only for its depth.
func TestAllChainedTablesOfSmallNetworks(t *testing.T) {
	r := rand.New(rand.NewSource(126))
	for _, degrees := range [][]int{{1, 2, 1}, {2, 2}, {0, 3}, {2, 1, 1}} {
		for _, n := range smallNetworks(degrees...) {
			for first := range 5 {
				for second := range 5 {
					inputs := outputsBelow(r, n, first, 10)
					a := sureTable(t)(impl.TableOf(n, first, inputs))
					m := sure(t)(impl.WithInputs(n, inputs))
					b := sureTable(t)(impl.TableOf(m, second, outputsBelow(r, m, second, 100)))
					if is := wantChained(t, a, b, n); is != (first+second <= 4) {
						t.Fatal(fmt.Sprint("depths ", first, " and ", second, ": ", is, n))
					}
				}
			}
		}
	}
}
