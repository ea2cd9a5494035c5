package tests

import (
	"fmt"
	"slices"
	"strings"
	"testing"

	"loop.example/g01084/impl"
)

type namedTable struct {
	name  string
	table impl.Table
}

// copiedTable returns the table in new memory, so that it can be changed.
func copiedTable(table impl.Table) impl.Table {
	table.Rows = slices.Clone(table.Rows)
	return table
}

// knownNetwork returns a network with nodes without ports, an edge and a stub, of which all tables of knownTables know all nodes.
func knownNetwork(t *testing.T) impl.Network {
	edge := sure(t)(impl.UnionOf(zeroInputs(bare(1)), sure(t)(impl.PathNetwork(2))))
	return sure(t)(impl.UnionOf(edge, withInputs(sure(t)(impl.BouquetNetwork(1, 0)), 1)))
}

func knownTables(t *testing.T) []impl.Table {
	list := []impl.Table{}
	for depth := range 5 {
		list = append(list, sureTable(t)(impl.TableOf(knownNetwork(t), depth, []int{0, 9, 9, 5})))
	}
	return list
}

// tablesBesideKnown returns tables that can be chained with the known ones: before them those whose outputs are the inputs of the known network, and behind them those for the outputs.
func tablesBesideKnown(t *testing.T) []impl.Table {
	list := []impl.Table{}
	n := knownNetwork(t)
	for depth := range 5 {
		list = append(list, sureTable(t)(impl.TableOf(n, depth, n.Inputs)))
		m := sure(t)(impl.WithInputs(n, []int{0, 9, 9, 5}))
		list = append(list, sureTable(t)(impl.TableOf(m, depth, []int{7, 8, 8, 9})))
	}
	return list
}

// brokenTables returns tables in which one thing is changed, so that they are none any more.
func brokenTables(t *testing.T) []namedTable {
	list := []namedTable{}
	add := func(name string, table impl.Table, change func(table *impl.Table)) {
		table = copiedTable(table)
		change(&table)
		list = append(list, namedTable{fmt.Sprint(name, ", depth ", table.Depth), table})
	}
	for _, table := range knownTables(t) {
		last := len(table.Rows) - 1
		for _, x := range outside(0, 4) {
			add("another depth", table, func(table *impl.Table) { table.Depth = x })
			add("another depth without rows", table, func(table *impl.Table) { table.Depth, table.Rows = x, nil })
		}
		for _, x := range outside(0, 99) {
			add("a first output", table, func(table *impl.Table) { table.Rows[0].Output = x })
			add("a last output", table, func(table *impl.Table) { table.Rows[last].Output = x })
		}
		for _, row := range table.Rows {
			add("a row twice", table, func(table *impl.Table) { table.Rows = append(table.Rows, row) })
			add("a row at the front", table, func(table *impl.Table) { table.Rows = append([]impl.Row{row}, table.Rows...) })
		}
		add("equal views", table, func(table *impl.Table) { table.Rows[1].View = table.Rows[0].View })
		add("two rows in another order", table, func(table *impl.Table) {
			table.Rows[0], table.Rows[1] = table.Rows[1], table.Rows[0]
		})
		add("the last rows in another order", table, func(table *impl.Table) {
			table.Rows[last], table.Rows[last-1] = table.Rows[last-1], table.Rows[last]
		})
		add("61 rows", table, func(table *impl.Table) { table.Rows = tableWith(table.Depth, 61).Rows })
		add("very many rows", table, func(table *impl.Table) { table.Rows = make([]impl.Row, 100000) })
		for _, view := range []string{"", "1", "x", "7.0", "1.1 ", "1.1\n", "9.9()", "9.9", "6.6(", "\xff", chain(table.Depth + 1), "6" + chain(table.Depth)[1:], strings.Repeat("9", 5000)} {
			add(fmt.Sprintf("the view %.20q", view), table, func(table *impl.Table) { table.Rows[last].View = view })
			add(fmt.Sprintf("the view %.20q behind the others", view), table, func(table *impl.Table) {
				table.Rows = append(table.Rows, impl.Row{View: view})
			})
			add(fmt.Sprintf("the view %.20q before the others", view), table, func(table *impl.Table) {
				table.Rows = append([]impl.Row{{View: view}}, table.Rows...)
			})
		}
		for depth, other := range knownTables(t) {
			if depth != table.Depth {
				add(fmt.Sprint("the rows of depth ", depth), table, func(table *impl.Table) { table.Rows = other.Rows })
			}
		}
	}
	return slices.DeleteFunc(list, func(c namedTable) bool { return isTableByHand(c.table) })
}

// wantNoUse fails the test unless all functions for a table and a network fail.
func wantNoUse(t *testing.T, what string, table impl.Table, n impl.Network) {
	t.Helper()
	outputs, ok := impl.RunTable(table, n)
	refused(t, what+": outputs", outputs, ok)
	missing, ok := impl.MissingNodes(table, n)
	refused(t, what+": missing nodes", missing, ok)
	for _, k := range []int{table.Depth, 0, 1, 2, 3, 4} {
		deep, ok := impl.DeepenOn(table, n, k)
		refused(t, what+": deepened", deep, ok)
	}
	for _, other := range append(tablesBesideKnown(t), table, impl.Table{}) {
		chained, ok := impl.ChainTables(table, other, n)
		refused(t, what+": chained before another one", chained, ok)
		chained, ok = impl.ChainTables(other, table, n)
		refused(t, what+": chained behind another one", chained, ok)
	}
}

func TestBrokenTablesAreRefused(t *testing.T) {
	list := brokenTables(t)
	if len(list) < 400 {
		t.Error("broken tables:", len(list))
	}
	for _, c := range list {
		if impl.IsTable(c.table) {
			t.Errorf("%s: taken for a table", c.name)
		}
		for _, n := range []impl.Network{knownNetwork(t), bare(1), {}} {
			wantNoUse(t, c.name, c.table, n)
		}
		for _, k := range []int{c.table.Depth, c.table.Depth - 1, -1, 0, 1, 2, 3, 4} {
			cut, ok := impl.CutTable(c.table, k)
			refused(t, c.name+": cut", cut, ok)
		}
		for _, other := range append(knownTables(t), c.table, impl.Table{}, impl.Table{Depth: c.table.Depth}) {
			merged, ok := impl.MergeTables(c.table, other)
			refused(t, c.name+": first of two tables", merged, ok)
			merged, ok = impl.MergeTables(other, c.table)
			refused(t, c.name+": second of two tables", merged, ok)
		}
		text, ok := impl.TableText(c.table)
		refused(t, c.name+": text", text, ok)
	}
}

// TestTablesBesideKnownOnesAreChained makes sure that chains of broken tables fail for no other reason.
func TestTablesBesideKnownOnesAreChained(t *testing.T) {
	n := knownNetwork(t)
	for _, known := range knownTables(t) {
		for k, other := range tablesBesideKnown(t) {
			a, b := other, known
			if k%2 > 0 {
				a, b = known, other
			}
			table, ok := impl.ChainTables(a, b, n)
			if want := a.Depth+b.Depth <= 4; ok != want {
				t.Errorf("%v and %v: %v %v", a, b, table, ok)
			}
		}
	}
}

func TestTablesAtTheLimitsAreTables(t *testing.T) {
	for depth := range 5 {
		for _, rows := range []int{0, 1, 59, 60, 61, 70} {
			table := tableWith(depth, rows)
			if is, want := impl.IsTable(table), rows <= 60; is != want || isTableByHand(table) != want {
				t.Errorf("depth %d, %d rows: table %v, want %v", depth, rows, is, want)
			}
		}
		for _, output := range []int{0, 99} {
			table := impl.Table{Depth: depth, Rows: []impl.Row{{View: "0.9", Output: output}, {View: chain(depth), Output: output}}}
			if !impl.IsTable(table) {
				t.Errorf("%v is not taken for a table", table)
			}
		}
		if !impl.IsTable(impl.Table{Depth: depth, Rows: []impl.Row{}}) {
			t.Errorf("no table without rows of depth %d", depth)
		}
	}
	if !impl.IsTable(impl.Table{}) {
		t.Error("the zero value is the table of depth 0 without rows")
	}
}

// TestOneWrongPartOfATable changes the depth, an output or a view, and compares with the conditions of the chapter.
func TestOneWrongPartOfATable(t *testing.T) {
	numbers := append(rising(7), minInt, minInt+1, -2, -1, 59, 60, 61, 98, 99, 100, 101, maxInt-1, maxInt)
	views := append(smallViews(), "", "0", "0.0()", "1.0(", "1.0(0:1.0", "2.0(0:1.0)", "3.0(0:0.0,0:1.0,0:1.0)", "2.0(0:1.0,0:2.0(0:1.0,0:1.0))", "1.0(0:1.0(0:1.0))(", "2.1(0:1.0,1:2.0)", "5.9(0:1.0,0:1.0,0:1.0,0:1.0,0:1.0)")
	for depth := range 7 {
		views = append(views, chain(depth), "0.0"+chain(depth)[3:])
	}
	counts := map[bool]int{}
	check := func(table impl.Table) {
		t.Helper()
		want := isTableByHand(table)
		if is := impl.IsTable(table); is != want {
			t.Fatalf("%v: table %v, want %v", table, is, want)
		}
		if text, ok := impl.TableText(table); ok != want || !ok && text != "" {
			t.Fatalf("%v: text %q %v", table, text, ok)
		}
		counts[want]++
	}
	tables := append(knownTables(t), tableWith(0, 3), tableWith(0, 60), tableWith(2, 12), tableWith(4, 60))
	for _, table := range tables {
		table = copiedTable(table)
		depth := table.Depth
		for _, x := range numbers {
			table.Depth = x
			check(table)
		}
		table.Depth = depth
		for k, row := range table.Rows {
			for _, x := range numbers {
				table.Rows[k].Output = x
				check(table)
			}
			table.Rows[k] = row
			for _, view := range views {
				table.Rows[k].View = view
				check(table)
			}
			table.Rows[k] = row
		}
	}
	if counts[true] < 1000 || counts[false] < 1000 {
		t.Error("tables and others:", counts)
	}
}

func TestRowsWithViewsAtTheLimitOfBytes(t *testing.T) {
	for _, bytes := range []int{4000, 4001} {
		n, v := limitNetwork(bytes)
		table := impl.Table{Depth: 4, Rows: []impl.Row{{View: treeOfNode(n, v, 4).text(), Output: 3}}}
		if is := impl.IsTable(table); is != (bytes == 4000) {
			t.Errorf("a view of %d bytes: table %v", bytes, is)
		}
		want, _ := impl.ViewText(n, v, 1)
		cut, ok := impl.CutTable(table, 1)
		wantTable(t, cut, ok, impl.Table{Depth: 1, Rows: []impl.Row{{View: want, Output: 3}}}, bytes == 4000, "a view of", bytes, "bytes, cut")
	}
}

func TestBrokenNetworksHaveNoTables(t *testing.T) {
	for _, c := range brokenNetworks() {
		for _, table := range append(knownTables(t), impl.Table{}, impl.Table{Depth: 4}, tableWith(0, 60)) {
			wantNoUse(t, c.name, table, c.n)
		}
		for _, outputs := range [][]int{nil, make([]int, len(c.n.Ends)), rising(len(c.n.Ends)), make([]int, len(c.n.Inputs))} {
			wantNoOutputs(t, c.name, c.n, outputs)
		}
	}
}

// wantNoOutputs fails the test unless all functions for outputs of a network fail.
func wantNoOutputs(t *testing.T, what string, n impl.Network, outputs []int) {
	t.Helper()
	for depth := range 5 {
		table, ok := impl.TableOf(n, depth, outputs)
		refused(t, what+": table", table, ok)
	}
	for _, depth := range []int{0, 1, 4, 5, 40, 80} {
		u, v, ok := impl.ConflictOf(n, depth, outputs)
		refused(t, what+": conflict", u, v, ok)
	}
	depth, ok := impl.LeastDepthOf(n, outputs)
	refused(t, what+": least depth", depth, ok)
}

func TestListsThatAreNoOutputs(t *testing.T) {
	for _, n := range []impl.Network{bare(1), zeroInputs(bare(2)), pair(), sure(t)(impl.PathNetwork(3)), line(7), zeroInputs(bare(40)), full(40)} {
		nodes := len(n.Ends)
		// With conflicts and without, as far as the list is one of outputs.
		for _, right := range [][]int{make([]int, nodes), rising(nodes)} {
			for _, list := range [][]int{nil, {}, right[1:], append(slices.Clone(right), 0), slices.Repeat(right, 2), make([]int, 1000)} {
				wantNoOutputs(t, fmt.Sprint("outputs ", list), n, list)
			}
			for _, x := range outside(0, 99) {
				for _, v := range []int{0, nodes / 2, nodes - 1} {
					list := slices.Clone(right)
					list[v] = x
					wantNoOutputs(t, fmt.Sprint("outputs ", list), n, list)
				}
			}
		}
	}
	table, ok := impl.TableOf(bare(2), 0, []int{99, 0})
	wantTable(t, table, ok, tableOf(t, 0, "0.1 99", "0.2 0"), true, "the greatest and the least output")
	u, v, ok := impl.ConflictOf(zeroInputs(bare(2)), 0, []int{99, 0})
	wantList(t, []int{u, v}, ok, []int{0, 1}, "the greatest and the least output")
	depth, ok := impl.LeastDepthOf(bare(2), []int{99, 0})
	wantNumber(t, depth, ok, 0, "the greatest and the least output")
}

func TestDepthsOutOfRangeHaveNoTables(t *testing.T) {
	n := zeroInputs(bare(2))
	for _, x := range append(outside(0, 4), 5, 40, 80, 81) {
		what := fmt.Sprint("depth ", x)
		table, ok := impl.TableOf(n, x, []int{1, 1})
		refused(t, what, table, ok)
		for depth := range 5 {
			zero := impl.Table{Depth: depth, Rows: []impl.Row{{View: "0.0", Output: 1}}}
			table, ok = impl.CutTable(zero, x)
			refused(t, what+": cut", table, ok)
			table, ok = impl.DeepenOn(zero, n, x)
			refused(t, what+": deepened", table, ok)
			table, ok = impl.CutTable(impl.Table{Depth: depth}, x)
			refused(t, what+": cut without rows", table, ok)
		}
	}
	for _, x := range outside(0, 80) {
		for _, outputs := range [][]int{{1, 2}, {1, 1}} {
			u, v, ok := impl.ConflictOf(n, x, outputs)
			refused(t, fmt.Sprint("conflict at depth ", x), u, v, ok)
		}
	}
	u, v, ok := impl.ConflictOf(n, 80, []int{1, 2})
	wantList(t, []int{u, v}, ok, []int{0, 1}, "conflict at depth 80")
	for depth := range 5 {
		zero := impl.Table{Depth: depth, Rows: []impl.Row{{View: "0.0", Output: 1}}}
		for k := range 5 {
			table, ok := impl.CutTable(zero, k)
			wantTable(t, table, ok, impl.Table{Depth: k, Rows: zero.Rows}, k <= depth, "cut from", depth, "to", k)
			table, ok = impl.DeepenOn(zero, n, k)
			wantTable(t, table, ok, impl.Table{Depth: k, Rows: zero.Rows}, k >= depth, "deepened from", depth, "to", k)
		}
	}
}
