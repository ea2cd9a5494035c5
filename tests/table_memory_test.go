package tests

import (
	"math/rand"
	"reflect"
	"slices"
	"strings"
	"testing"

	"loop.example/g01084/impl"
)

// argumentsOfChapter10 returns tables, broken ones too, networks, outputs, numbers and texts.
func argumentsOfChapter10(t *testing.T) map[reflect.Type][]any {
	tables, networks, numbers, lists, texts := []any{}, []any{}, []any{}, []any{}, []any{}
	for _, table := range append(knownTables(t), impl.Table{}, impl.Table{Depth: 4}, tableOf(t, 0, "1.1 7", "2.2 0"), tableOf(t, 1, "0.1 8", "0.2 99"), tableWith(0, 60), tableWith(3, 12)) {
		tables = append(tables, table)
		text := tableTextByHand(table)
		texts = append(texts, text, text+"\n", strings.TrimSuffix(text, "\n"), strings.ReplaceAll(text, " ", "  "))
	}
	for k, c := range brokenTables(t) {
		if k%37 == 0 && len(c.table.Rows) < 100 {
			tables = append(tables, c.table)
		}
	}
	for _, n := range []impl.Network{{}, bare(3), knownNetwork(t), pair(), withIds(zeroInputs(pair()), 8, 9), withEnd(1, 0), full(1), sure(t)(impl.CycleNetwork(3)), sure(t)(impl.PathNetwork(5))} {
		networks = append(networks, n)
	}
	for _, x := range []int{minInt, -1, 0, 1, 2, 3, 4, 5, 80, 81, maxInt} {
		numbers = append(numbers, x)
	}
	for _, l := range [][]int{nil, {}, {0}, {99}, {100}, {-1}, {0, 1}, {1, 1}, {minInt, maxInt}, {0, 1, 0}, {0, 1, 2}, {5, 5, 5}, {0, 9, 9, 5}, {1, 2, 3, 4}, {0, 0, 0, 0, 0}, {1, 2, 1, 2, 1}, make([]int, 1000)} {
		lists = append(lists, l)
	}
	for _, s := range []string{"", "\n", "0", "0\n", "4\n", "5\n", "0\n1.0 0\n", "0\n1.0 100\n", "0\n1.0 -1\n", "0\n1.0\n", "0\n2.0 0\n1.0 0\n", "-9223372036854775808\n", "9223372036854775807\n", "0\n1.0 9223372036854775808\n", "\xff\xfe", "\x00", strings.Repeat("1.0 0\n", 1000), "0\n" + strings.Repeat(" ", 1000)} {
		texts = append(texts, s)
	}
	return map[reflect.Type][]any{
		reflect.TypeFor[impl.Table]():   tables,
		reflect.TypeFor[impl.Network](): networks,
		reflect.TypeFor[int]():          numbers,
		reflect.TypeFor[[]int]():        lists,
		reflect.TypeFor[string]():       texts,
	}
}

func TestCallsOfChapter10KeepToTheirMemory(t *testing.T) {
	choices := argumentsOfChapter10(t)
	everyCall(t, "IsTable", impl.IsTable, choices)
	everyCall(t, "TableOf", impl.TableOf, choices)
	everyCall(t, "ConflictOf", impl.ConflictOf, choices)
	everyCall(t, "LeastDepthOf", impl.LeastDepthOf, choices)
	everyCall(t, "RunTable", impl.RunTable, choices)
	everyCall(t, "MissingNodes", impl.MissingNodes, choices)
	everyCall(t, "MergeTables", impl.MergeTables, choices)
	everyCall(t, "CutTable", impl.CutTable, choices)
	everyCall(t, "DeepenOn", impl.DeepenOn, choices)
	everyCall(t, "ChainTables", impl.ChainTables, choices)
	everyCall(t, "TableText", impl.TableText, choices)
	everyCall(t, "ParseTable", impl.ParseTable, choices)
}

func TestTablesOfSampleNetworksKeepToTheirMemory(t *testing.T) {
	r := rand.New(rand.NewSource(140))
	for k, n := range tableNetworks(t) {
		depth := k % 4
		outputs := outputsBelow(r, n, depth, 10)
		table, ok := impl.TableOf(n, depth, outputs)
		if !ok || k%5 > 0 {
			continue
		}
		m := sure(t)(impl.WithInputs(n, outputs))
		second, _ := impl.TableOf(m, 1, outputs)
		wantCleanCall(t, "TableOf", impl.TableOf, []any{n, depth, outputs})
		wantCleanCall(t, "ConflictOf", impl.ConflictOf, []any{n, 0, outputs})
		wantCleanCall(t, "LeastDepthOf", impl.LeastDepthOf, []any{n, outputs})
		wantCleanCall(t, "RunTable", impl.RunTable, []any{table, n})
		wantCleanCall(t, "MissingNodes", impl.MissingNodes, []any{table, m})
		wantCleanCall(t, "MergeTables", impl.MergeTables, []any{table, rowsAt(tableWith(depth, 20), 10, 20)})
		wantCleanCall(t, "CutTable", impl.CutTable, []any{table, depth / 2})
		wantCleanCall(t, "DeepenOn", impl.DeepenOn, []any{table, n, depth + 1})
		wantCleanCall(t, "ChainTables", impl.ChainTables, []any{table, second, n})
		wantCleanCall(t, "TableText", impl.TableText, []any{table})
		wantCleanCall(t, "ParseTable", impl.ParseTable, []any{tableTextByHand(table)})
	}
}

// TestViewsOfTablesAreNewMemory looks at the bytes of strings.
func TestViewsOfTablesAreNewMemory(t *testing.T) {
	n := knownNetwork(t)
	for depth, table := range knownTables(t) {
		other := rowsAt(tableWith(depth, 9), 1, 9)
		text := tableTextByHand(table)
		merged, ok := impl.MergeTables(table, other)
		cut, fine := impl.CutTable(table, depth)
		parsed, is := impl.ParseTable(text)
		deep, may := impl.DeepenOn(table, n, depth)
		if !ok || !fine || !is || !may {
			t.Fatal("no tables of", table)
		}
		results := slices.Concat(merged.Rows, cut.Rows, parsed.Rows, deep.Rows)
		for _, row := range results {
			if meet(placeOf(row.View), placeOf(text)) {
				t.Errorf("%q shares memory with a text", row.View)
			}
			for _, given := range slices.Concat(table.Rows, other.Rows) {
				if meet(placeOf(row.View), placeOf(given.View)) {
					t.Errorf("%q shares memory with a table", row.View)
				}
			}
		}
	}
}
