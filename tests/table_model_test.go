package tests

import (
	"fmt"
	"math/rand"
	"regexp"
	"slices"
	"strconv"
	"strings"
	"testing"

	"loop.example/g01084/impl"
)

// viewsByHand returns the texts of the views of all nodes, and "" for one that is too long. Each view in it has at least three bytes.
func viewsByHand(n impl.Network, depth int) []string {
	texts := []string{}
	for v := range n.Ends {
		text := ""
		if countWalks(n, v, depth) <= 4000/3 {
			text = treeOfNode(n, v, depth).text()
		}
		if len(text) > 4000 {
			text = ""
		}
		texts = append(texts, text)
	}
	return texts
}

// tableByHand asks, view by view, for the outputs of all nodes that have it.
func tableByHand(n impl.Network, depth int, outputs []int) (impl.Table, bool) {
	views := viewsByHand(n, depth)
	table := impl.Table{Depth: depth}
	for _, view := range slices.Compact(slices.Sorted(slices.Values(views))) {
		asked := []int{}
		for v, other := range views {
			if other == view && !slices.Contains(asked, outputs[v]) {
				asked = append(asked, outputs[v])
			}
		}
		if view == "" || len(asked) > 1 {
			return impl.Table{}, false
		}
		table.Rows = append(table.Rows, impl.Row{View: view, Output: asked[0]})
	}
	return table, true
}

// givenByHand returns the output that a table gives to each node, and -1 where it knows none.
func givenByHand(table impl.Table, n impl.Network) []int {
	given := []int{}
	for _, view := range viewsByHand(n, table.Depth) {
		output := -1
		for _, row := range table.Rows {
			if row.View == view {
				output = row.Output
			}
		}
		given = append(given, output)
	}
	return given
}

// isTableByHand reads each view as a tree.
func isTableByHand(table impl.Table) bool {
	if table.Depth < 0 || table.Depth > 4 || len(table.Rows) > 60 {
		return false
	}
	before := ""
	for _, row := range table.Rows {
		tree, is := treeOfText(row.View)
		if depth, _ := tree.depths(); !is || depth != table.Depth && tree.degree != 0 {
			return false
		}
		if row.View <= before || row.Output < 0 || row.Output > 99 {
			return false
		}
		before = row.View
	}
	return true
}

// ordered returns the table with rows for these views. Rows with the same output for a view count once, and others are refused.
func ordered(depth int, rows ...impl.Row) (impl.Table, bool) {
	slices.SortFunc(rows, func(a, b impl.Row) int { return strings.Compare(a.View, b.View) })
	rows = slices.Compact(rows)
	table := impl.Table{Depth: depth, Rows: rows}
	if !isTableByHand(table) {
		return impl.Table{}, false
	}
	return table, true
}

// sureTable returns the table of a call that must not fail.
func sureTable(t *testing.T) func(impl.Table, bool) impl.Table {
	return func(table impl.Table, ok bool) impl.Table {
		t.Helper()
		if !ok {
			t.Fatal("a table is refused")
		}
		return table
	}
}

// tableOf returns the table with these views and outputs, each written as in a text.
func tableOf(t *testing.T, depth int, lines ...string) impl.Table {
	t.Helper()
	rows := []impl.Row{}
	for _, line := range lines {
		words := strings.Split(line, " ")
		output, err := strconv.Atoi(words[1])
		if err != nil {
			t.Fatalf("no row: %q", line)
		}
		rows = append(rows, impl.Row{View: words[0], Output: output})
	}
	return sureTable(t)(ordered(depth, rows...))
}

// sameTable compares rows as they are. A table without rows may have any empty list.
func sameTable(a, b impl.Table) bool {
	return a.Depth == b.Depth && slices.Equal(a.Rows, b.Rows)
}

// wantTable fails the test unless the call succeeded with the table want, or failed with none. It reports whether there is one.
func wantTable(t *testing.T, got impl.Table, ok bool, want impl.Table, wantOk bool, what ...any) bool {
	t.Helper()
	if !wantOk {
		want = impl.Table{}
	}
	if ok != wantOk || !sameTable(got, want) {
		t.Fatalf("%v: got %v %v, want %v %v", what, got, ok, want, wantOk)
	}
	if ok && !impl.IsTable(got) {
		t.Fatalf("%v: %v is not taken for a table", what, got)
	}
	return ok
}

func mergedByHand(a, b impl.Table) (impl.Table, bool) {
	if a.Depth != b.Depth {
		return impl.Table{}, false
	}
	return ordered(a.Depth, slices.Concat(a.Rows, b.Rows)...)
}

// cutByHand cuts each view as a tree.
func cutByHand(table impl.Table, k int) (impl.Table, bool) {
	rows := []impl.Row{}
	for _, row := range table.Rows {
		tree, _ := treeOfText(row.View)
		rows = append(rows, impl.Row{View: tree.cut(k).text(), Output: row.Output})
	}
	if k < 0 || k > table.Depth {
		return impl.Table{}, false
	}
	return ordered(k, rows...)
}

func deepenedByHand(table impl.Table, n impl.Network, k int) (impl.Table, bool) {
	given := givenByHand(table, n)
	if k < table.Depth || k > 4 || slices.Contains(given, -1) {
		return impl.Table{}, false
	}
	return tableByHand(n, k, given)
}

func chainedByHand(a, b impl.Table, n impl.Network) (impl.Table, bool) {
	first := givenByHand(a, n)
	if slices.Min(first) < 0 || slices.Max(first) > 9 || a.Depth+b.Depth > 4 {
		return impl.Table{}, false
	}
	second := givenByHand(b, impl.Network{Ends: n.Ends, Inputs: first})
	if slices.Contains(second, -1) {
		return impl.Table{}, false
	}
	return tableByHand(n, a.Depth+b.Depth, second)
}

func tableTextByHand(table impl.Table) string {
	text := fmt.Sprintf("%d\n", table.Depth)
	for _, row := range table.Rows {
		text += fmt.Sprintf("%s %d\n", row.View, row.Output)
	}
	return text
}

var (
	tableForm = regexp.MustCompile(`^[0-4]\n(?:[^ \n]+ (?:0|[1-9][0-9]?)\n)*$`)
	rowForm   = regexp.MustCompile(`([^ \n]+) ([0-9]+)\n`)
)

// tableOfTextByHand reads the text of a table as a whole.
func tableOfTextByHand(s string) (impl.Table, bool) {
	if !tableForm.MatchString(s) {
		return impl.Table{}, false
	}
	table := impl.Table{Depth: int(s[0] - '0')}
	for _, parts := range rowForm.FindAllStringSubmatch(s, -1) {
		output, _ := strconv.Atoi(parts[2])
		table.Rows = append(table.Rows, impl.Row{View: parts[1], Output: output})
	}
	if !isTableByHand(table) {
		return impl.Table{}, false
	}
	return table, true
}

// randomTable returns a table of a depth with views of any form, also of nodes without ports.
func randomTable(r *rand.Rand, depth, most int) impl.Table {
	table := impl.Table{Depth: depth}
	views := []string{}
	for range r.Intn(most + 1) {
		view := fmt.Sprint("0.", r.Intn(10))
		if r.Intn(6) > 0 {
			view = randomTree(r, depth, 1+r.Intn(3)).text()
		}
		views = append(views, view)
	}
	for _, view := range slices.Compact(slices.Sorted(slices.Values(views))) {
		table.Rows = append(table.Rows, impl.Row{View: view, Output: r.Intn(100)})
	}
	return table
}

// smallViews returns all 70 views of depth 0 in order: those of six degrees and ten inputs each, and those without ports.
func smallViews() []string {
	views := []string{}
	for degree := range 7 {
		for input := range 10 {
			views = append(views, fmt.Sprintf("%d.%d", degree, input))
		}
	}
	return views
}

// tableWith returns a table of a depth with that many rows whose outputs are their places. It may have too many.
func tableWith(depth, rows int) impl.Table {
	table := impl.Table{Depth: depth}
	trees := []string{}
	for a := range 10 {
		for b := range 10 {
			tree := viewTree{degree: 1, input: a}
			for range depth {
				tree = viewTree{degree: 1, input: b, ports: []int{0}, parts: []viewTree{tree}}
			}
			trees = append(trees, tree.text())
		}
	}
	views := append(smallViews()[:10], slices.Compact(slices.Sorted(slices.Values(trees)))...)
	if depth == 0 {
		views = smallViews()
	}
	for k, view := range views[:rows] {
		table.Rows = append(table.Rows, impl.Row{View: view, Output: k})
	}
	return table
}

// limitNetwork returns a network with one node that has a view of depth 4 with that many bytes: 4000 or 4001. The views of the others have less than 4000.
func limitNetwork(bytes int) (impl.Network, int) {
	if bytes == 4000 {
		return edgeByEdge(4, [][]int{{2, 1}, {1, 3}, {1}, {0, 1}, {0, 3}, {0, 1}, {2, 0}, {1, 0}}), 1
	}
	return edgeByEdge(5, [][]int{{3, 0}, {0, 2}, {2, 2}, {4, 1}, {2, 3}, {0, 1}, {1, 2}, {3, 0}, {4, 3}, {1, 0}, {4, 3}}), 2
}

// tableNetworks returns networks of all forms with few and with many different views.
func tableNetworks(t *testing.T) []impl.Network {
	list := []impl.Network{bare(1), pair(), full(1), sure(t)(impl.PathNetwork(3)), zeroInputs(bare(3))}
	for k, n := range viewNetworks(t) {
		if k%3 == 0 {
			list = append(list, n)
		}
	}
	for k, n := range metricNetworks(t) {
		if k%5 == 0 {
			list = append(list, n)
		}
	}
	for _, bytes := range []int{4000, 4001} {
		n, _ := limitNetwork(bytes)
		list = append(list, n)
	}
	return list
}

// outputsBelow returns outputs that equal views of the depth share, each less than some number.
func outputsBelow(r *rand.Rand, n impl.Network, depth, below int) []int {
	byView := map[int]int{}
	outputs := []int{}
	for _, view := range (viewBook{}).numbersOf(n, depth)[depth] {
		if _, met := byView[view]; !met {
			byView[view] = r.Intn(below)
		}
		outputs = append(outputs, byView[view])
	}
	return outputs
}

// outputLists returns outputs of a network with conflicts and without, up to several depths.
func outputLists(r *rand.Rand, n impl.Network) [][]int {
	nodes := len(n.Ends)
	last := make([]int, nodes)
	last[nodes-1] = 99
	lists := [][]int{make([]int, nodes), last, rising(nodes), numbersBelow(r, nodes, 0, 100), numbersBelow(r, nodes, 0, 2)}
	for depth := range 6 {
		list := outputsBelow(r, n, depth, 100)
		disturbed := slices.Clone(list)
		disturbed[r.Intn(nodes)] = r.Intn(100)
		lists = append(lists, list, disturbed, outputsBelow(r, n, depth, 2))
	}
	return lists
}
