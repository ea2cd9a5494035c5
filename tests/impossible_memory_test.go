package tests

import (
	"reflect"
	"testing"

	"loop.example/g01084/impl"
)

// argumentsOfChapter12 returns networks, numbers, lists, and refusals with any parts.
func argumentsOfChapter12(t *testing.T) map[reflect.Type][]any {
	networks, numbers, lists, refusals := []any{}, []any{}, []any{}, []any{}
	six := sure(t)(impl.CycleNetwork(6))
	for _, n := range []impl.Network{{}, bare(3), zeroInputs(bare(2)), pair(), withIds(zeroInputs(pair()), 8, 9), withEnd(1, 0), full(1), full(40), sure(t)(impl.CycleNetwork(3)), six, sure(t)(impl.PathNetwork(5)), oneOff(t, 6, true)} {
		networks = append(networks, n)
	}
	for _, x := range []int{minInt, -1, 0, 1, 2, 3, 4, 80, 81, maxInt} {
		numbers = append(numbers, x)
	}
	for _, l := range [][]int{nil, {}, {0}, {1}, {-1}, {100}, {0, 0}, {0, 1}, {minInt, maxInt}, {0, 1, 0}, {0, 0, 0}, {maxInt, maxInt, maxInt}, {0, 1, 2, 3, 4}, {0, 1, 2, 0, 1, 2}, {0, 0, 0, 0, 0, 0}, make([]int, 40), make([]int, 1000)} {
		lists = append(lists, l)
		for task := range 5 {
			for _, two := range [][2]int{{0, 0}, {0, 1}, {2, 5}, {-1, 0}, {minInt, maxInt}} {
				refusals = append(refusals, impl.Refusal{Task: task, Class: l, U: two[0], V: two[1]})
			}
		}
	}
	return map[reflect.Type][]any{
		reflect.TypeFor[impl.Network](): networks,
		reflect.TypeFor[int]():          numbers,
		reflect.TypeFor[[]int]():        lists,
		reflect.TypeFor[impl.Refusal](): refusals,
	}
}

func TestCallsOfChapter12KeepToTheirMemory(t *testing.T) {
	choices := argumentsOfChapter12(t)
	everyCall(t, "TaskName", impl.TaskName, choices)
	everyCall(t, "MeetsTask", impl.MeetsTask, choices)
	everyCall(t, "CanMeetAt", impl.CanMeetAt, choices)
	everyCall(t, "MeetTask", impl.MeetTask, choices)
	everyCall(t, "LeastDepthFor", impl.LeastDepthFor, choices)
	everyCall(t, "TaskTable", impl.TaskTable, choices)
	everyCall(t, "IsConsistent", impl.IsConsistent, choices)
	everyCall(t, "RefusalOf", impl.RefusalOf, choices)
	everyCall(t, "CheckRefusal", impl.CheckRefusal, choices)
	everyCall(t, "ConnectedTwin", impl.ConnectedTwin, choices)
	everyCall(t, "RefutesSize", impl.RefutesSize, choices)
}

func TestTasksOfSampleNetworksKeepToTheirMemory(t *testing.T) {
	for k, n := range taskNetworks(t) {
		if k%9 > 0 {
			continue
		}
		outputs := rising(len(n.Ends))
		for _, task := range allTasks {
			wantCleanCall(t, "MeetsTask", impl.MeetsTask, []any{n, task, outputs})
			wantCleanCall(t, "CanMeetAt", impl.CanMeetAt, []any{n, task, k % 81})
			wantCleanCall(t, "MeetTask", impl.MeetTask, []any{n, task})
			wantCleanCall(t, "LeastDepthFor", impl.LeastDepthFor, []any{n, task})
			wantCleanCall(t, "TaskTable", impl.TaskTable, []any{n, task})
			wantCleanCall(t, "RefusalOf", impl.RefusalOf, []any{n, task})
			refusal, _ := impl.RefusalOf(n, task)
			wantCleanCall(t, "CheckRefusal", impl.CheckRefusal, []any{n, refusal})
			wantCleanCall(t, "IsConsistent", impl.IsConsistent, []any{n, refusal.Class})
		}
		twin, m, ok := impl.ConnectedTwin(n)
		wantCleanCall(t, "ConnectedTwin", impl.ConnectedTwin, []any{n})
		if ok {
			wantCleanCall(t, "RefutesSize", impl.RefutesSize, []any{n, twin, m})
		}
	}
}
