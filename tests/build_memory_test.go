package tests

import (
	"reflect"
	"testing"

	"loop.example/g01084/impl"
)

// argumentsOfChapter3 returns sizes and steps around the limits of the chapter, with the networks of chapter 1.
func argumentsOfChapter3() map[reflect.Type][]any {
	numbers := []any{}
	for _, x := range []int{minInt, minInt + 1, -40, -7, -1, 0, 1, 2, 3, 4, 5, 6, 7, 8, 10, 13, 19, 20, 21, 39, 40, 41, 63, 64, 65, 1 << 31, 1 << 32, 1 << 62, maxInt - 1, maxInt} {
		numbers = append(numbers, x)
	}
	lists := []any{}
	for _, l := range [][]int{nil, {}, {0}, {1}, {3}, {39}, {40}, {-1}, {0, 0}, {1, 1}, {2, 1}, {0, 1, 2}, {39, 38, 20}, {0, 0, 0}, {0, 0, 0, 0}, {minInt}, {maxInt}, {0, minInt}, {0, 1, maxInt}, make([]int, 1000)} {
		lists = append(lists, l)
	}
	return map[reflect.Type][]any{
		reflect.TypeFor[impl.Network](): argumentsOfChapter1()[reflect.TypeFor[impl.Network]()],
		reflect.TypeFor[int]():          numbers,
		reflect.TypeFor[[]int]():        lists,
	}
}

func TestCallsOfChapter3KeepToTheirMemory(t *testing.T) {
	choices := argumentsOfChapter3()
	everyCall(t, "PathNetwork", impl.PathNetwork, choices)
	everyCall(t, "CycleNetwork", impl.CycleNetwork, choices)
	everyCall(t, "CompleteNetwork", impl.CompleteNetwork, choices)
	everyCall(t, "StarNetwork", impl.StarNetwork, choices)
	everyCall(t, "GridNetwork", impl.GridNetwork, choices)
	everyCall(t, "TorusNetwork", impl.TorusNetwork, choices)
	everyCall(t, "HypercubeNetwork", impl.HypercubeNetwork, choices)
	everyCall(t, "RegularTree", impl.RegularTree, choices)
	everyCall(t, "CirculantNetwork", impl.CirculantNetwork, choices)
	everyCall(t, "BouquetNetwork", impl.BouquetNetwork, choices)
	everyCall(t, "DoubleCover", impl.DoubleCover, choices)
	everyCall(t, "SubdivideEdges", impl.SubdivideEdges, choices)
}

func TestCoversAndSubdivisionsKeepToTheirMemory(t *testing.T) {
	for k, n := range sampleNetworks() {
		if k%5 == 0 {
			wantCleanCall(t, "DoubleCover", impl.DoubleCover, []any{n})
			wantCleanCall(t, "SubdivideEdges", impl.SubdivideEdges, []any{n})
		}
	}
}
