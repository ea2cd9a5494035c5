package tests

import (
	"math/rand"
	"reflect"
	"testing"

	"loop.example/g01084/impl"
)

// argumentsOfChapter7 returns few networks, with lists that are maps, classes or values for some of them, and lists of lists that are permutations or values of ports.
func argumentsOfChapter7(t *testing.T) map[reflect.Type][]any {
	networks, numbers, lists, tables := []any{}, []any{}, []any{}, []any{}
	two := withIds(sure(t)(impl.PathNetwork(2)), 5, 3)
	for _, n := range []impl.Network{{}, zeroInputs(bare(1)), zeroInputs(bare(2)), sure(t)(impl.BouquetNetwork(1, 0)), two, withEnd(1, 0)} {
		networks = append(networks, n)
	}
	for _, x := range []int{minInt, -1, 0, 1, 2, 3, 40, 41, maxInt} {
		numbers = append(numbers, x)
	}
	for _, l := range [][]int{nil, {0}, {1}, {0, 0}, {0, 1}, {1, 0}, {-1, 0}, {0, 1, 2}, {minInt, maxInt}} {
		lists = append(lists, l)
	}
	for _, l := range [][][]int{nil, {}, {nil}, {{0}}, {{0, 1}}, {{1, 0}}, {{0, 0}}, {{1, 2, 0}}, {{2, 1, 0}}, {{}, {}}, {{7}, {8}}, {{minInt}, {maxInt}}, {{0, 1}, {1, 0}}, make([][]int, 100)} {
		tables = append(tables, l)
	}
	return map[reflect.Type][]any{
		reflect.TypeFor[impl.Network](): networks,
		reflect.TypeFor[int]():          numbers,
		reflect.TypeFor[[]int]():        lists,
		reflect.TypeFor[[][]int]():      tables,
	}
}

func TestCallsOfChapter7KeepToTheirMemory(t *testing.T) {
	choices := argumentsOfChapter7(t)
	everyCall(t, "IsPortMap", impl.IsPortMap, choices)
	everyCall(t, "IsCovering", impl.IsCovering, choices)
	everyCall(t, "FibresOf", impl.FibresOf, choices)
	everyCall(t, "SheetsOf", impl.SheetsOf, choices)
	everyCall(t, "ExtendMap", impl.ExtendMap, choices)
	everyCall(t, "PortMapsBetween", impl.PortMapsBetween, choices)
	everyCall(t, "LiftOf", impl.LiftOf, choices)
	everyCall(t, "PullNodes", impl.PullNodes, choices)
	everyCall(t, "PullPorts", impl.PullPorts, choices)
	everyCall(t, "PushNodes", impl.PushNodes, choices)
	choices[reflect.TypeFor[[]int]()] = []any{[]int{0}, []int{0, 0}, []int{0, 1}, []int{-1, 0}}
	everyCall(t, "ComposeMaps", impl.ComposeMaps, choices)
	everyCall(t, "FibreProduct", impl.FibreProduct, choices)
	choices = argumentsOfChapter1()
	everyCall(t, "QuotientOf", impl.QuotientOf, choices)
	everyCall(t, "MinimalBase", impl.MinimalBase, choices)
}

func TestCoveringsKeepToTheirMemory(t *testing.T) {
	r := rand.New(rand.NewSource(85))
	for j, c := range coverMaps(t) {
		if j%3 > 0 {
			continue
		}
		values, lists := valuesOf(r, c.b)
		pulled, _ := impl.PullNodes(c.a, c.b, c.m, values)
		identity := rising(len(c.b.Ends))
		wantCleanCall(t, "IsPortMap", impl.IsPortMap, []any{c.a, c.b, c.m})
		wantCleanCall(t, "IsCovering", impl.IsCovering, []any{c.a, c.b, c.m})
		wantCleanCall(t, "FibresOf", impl.FibresOf, []any{c.a, c.b, c.m})
		wantCleanCall(t, "SheetsOf", impl.SheetsOf, []any{c.a, c.b, c.m})
		wantCleanCall(t, "ExtendMap", impl.ExtendMap, []any{c.a, c.b, c.m[0]})
		wantCleanCall(t, "PortMapsBetween", impl.PortMapsBetween, []any{c.a, c.b})
		wantCleanCall(t, "ComposeMaps", impl.ComposeMaps, []any{c.a, c.b, c.b, c.m, identity})
		wantCleanCall(t, "QuotientOf", impl.QuotientOf, []any{c.a, c.m})
		wantCleanCall(t, "QuotientOf", impl.QuotientOf, []any{c.b, identity})
		wantCleanCall(t, "MinimalBase", impl.MinimalBase, []any{c.a})
		for _, k := range []int{1, 2} {
			wantCleanCall(t, "LiftOf", impl.LiftOf, []any{c.b, k, sheetChanges(r, c.b, k)})
		}
		wantCleanCall(t, "FibreProduct", impl.FibreProduct, []any{c.a, c.b, c.b, c.m, identity})
		wantCleanCall(t, "FibreProduct", impl.FibreProduct, []any{c.a, c.a, c.b, c.m, c.m})
		wantCleanCall(t, "PullNodes", impl.PullNodes, []any{c.a, c.b, c.m, values})
		wantCleanCall(t, "PullPorts", impl.PullPorts, []any{c.a, c.b, c.m, lists})
		wantCleanCall(t, "PushNodes", impl.PushNodes, []any{c.a, c.b, c.m, pulled})
	}
}
