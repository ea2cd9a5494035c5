package tests

import (
	"fmt"
	"slices"
	"testing"

	"loop.example/g01084/impl"
)

// wantNoTask fails the test unless all functions for a task on a network fail.
func wantNoTask(t *testing.T, what string, n impl.Network, task int) {
	t.Helper()
	for _, outputs := range [][]int{nil, {0}, {1}, {0, 1}, make([]int, len(n.Ends)), rising(len(n.Ends))} {
		is, ok := impl.MeetsTask(n, task, outputs)
		refused(t, what+": outputs", is, ok)
	}
	for _, depth := range []int{0, 1, 4, 40, 80, 81, -1} {
		is, ok := impl.CanMeetAt(n, task, depth)
		refused(t, what+": depth", is, ok)
	}
	outputs, ok := impl.MeetTask(n, task)
	refused(t, what+": met", outputs, ok)
	depth, ok := impl.LeastDepthFor(n, task)
	refused(t, what+": least depth", depth, ok)
	table, ok := impl.TaskTable(n, task)
	refused(t, what+": table", table, ok)
	refusal, ok := impl.RefusalOf(n, task)
	refused(t, what+": refusal", refusal, ok)
}

func TestBrokenNetworksHaveNoTasks(t *testing.T) {
	for _, c := range brokenNetworks() {
		for _, task := range append(outside(1, 3), allTasks...) {
			wantNoTask(t, c.name, c.n, task)
		}
		for _, class := range [][]int{nil, {0}, {0, 0}, {0, 1}, {-1}, make([]int, len(c.n.Ends)), rising(len(c.n.Ends))} {
			is, ok := impl.IsConsistent(c.n, class)
			refused(t, c.name+": list", is, ok)
			for _, r := range []impl.Refusal{{Task: impl.TkLeader}, {Task: impl.TkColouring}, {Task: impl.TkNames, V: 1}, {Task: impl.TkColouring, V: 1}, {Task: 4}} {
				r.Class = class
				is, ok = impl.CheckRefusal(c.n, r)
				refused(t, c.name+": refusal", is, ok)
			}
		}
		twin, m, ok := impl.ConnectedTwin(c.n)
		refused(t, c.name+": twin", twin, m, ok)
	}
}

// TestBrokenNetworksRefuteNoSize breaks one of both networks, or both.
func TestBrokenNetworksRefuteNoSize(t *testing.T) {
	good := []impl.Network{zeroInputs(bare(1)), pair(), sure(t)(impl.BouquetNetwork(0, 1)), sure(t)(impl.CycleNetwork(2))}
	for _, c := range brokenNetworks() {
		for _, n := range append(good, c.n) {
			for _, m := range [][]int{nil, {0}, {0, 0}, {0, 1}, {0, 1, 2}, {-1}, rising(len(c.n.Ends)), make([]int, len(c.n.Ends)), make([]int, len(n.Ends))} {
				is, ok := impl.RefutesSize(c.n, n, m)
				refused(t, c.name+" below", is, ok)
				is, ok = impl.RefutesSize(n, c.n, m)
				refused(t, c.name+" above", is, ok)
			}
		}
	}
	is, ok := impl.RefutesSize(good[2], good[3], []int{0, 0})
	wantTruth(t, is, ok, true, "two good networks")
}

func TestNumbersThatAreNoTasks(t *testing.T) {
	for _, n := range []impl.Network{zeroInputs(bare(1)), bare(2), pair(), sure(t)(impl.PathNetwork(3)), sure(t)(impl.CycleNetwork(3)), full(40)} {
		for _, x := range append(outside(1, 3), 0, 4, 5, 40) {
			wantNoTask(t, fmt.Sprint("task ", x), n, x)
			for _, class := range [][]int{nil, make([]int, len(n.Ends)), rising(len(n.Ends))} {
				is, ok := impl.CheckRefusal(n, impl.Refusal{Task: x, Class: class})
				wantTruth(t, is, ok, false, "refusal of task", x)
			}
		}
	}
}

func TestDepthsAtWhichNoTaskIsMet(t *testing.T) {
	for _, n := range []impl.Network{zeroInputs(bare(1)), pair(), sure(t)(impl.PathNetwork(4)), sure(t)(impl.CycleNetwork(3)), line(40, 0), full(40)} {
		for _, task := range allTasks {
			for _, x := range outside(0, 80) {
				is, ok := impl.CanMeetAt(n, task, x)
				refused(t, fmt.Sprint("depth ", x), is, ok)
			}
			_, met := impl.MeetTask(n, task)
			is, ok := impl.CanMeetAt(n, task, 80)
			wantTruth(t, is, ok, met, "the greatest depth", task, n)
		}
	}
	is, ok := impl.CanMeetAt(sure(t)(impl.PathNetwork(3)), impl.TkLeader, 0)
	wantTruth(t, is, ok, true, "the least depth")
	is, ok = impl.CanMeetAt(sure(t)(impl.PathNetwork(3)), impl.TkNames, 0)
	wantTruth(t, is, ok, false, "the least depth")
}

func TestListsThatAreNoOutputsOfTasks(t *testing.T) {
	for _, n := range []impl.Network{zeroInputs(bare(1)), bare(2), pair(), sure(t)(impl.PathNetwork(3)), line(7), zeroInputs(bare(40)), full(40)} {
		nodes := len(n.Ends)
		leader := make([]int, nodes)
		leader[0] = 1
		for _, task := range allTasks {
			for _, right := range [][]int{leader, rising(nodes), make([]int, nodes)} {
				_, ok := impl.MeetsTask(n, task, right)
				wantTruth(t, ok, ok, true, "outputs", right)
				for _, list := range [][]int{nil, {}, right[1:], append(slices.Clone(right), 0), slices.Repeat(right, 2), make([]int, 1000)} {
					is, ok := impl.MeetsTask(n, task, list)
					refused(t, fmt.Sprint("outputs ", list), is, ok)
				}
				for _, x := range outside(0, 99) {
					for _, v := range []int{0, nodes / 2, nodes - 1} {
						list := slices.Clone(right)
						list[v] = x
						is, ok := impl.MeetsTask(n, task, list)
						refused(t, fmt.Sprint("outputs ", list), is, ok)
					}
				}
			}
		}
	}
	is, ok := impl.MeetsTask(bare(2), impl.TkNames, []int{99, 0})
	wantTruth(t, is, ok, true, "the greatest and the least output")
}

// TestListsThatAreNotConsistent are not refused, as a list may be any one.
func TestListsThatAreNotConsistent(t *testing.T) {
	three := sure(t)(impl.CycleNetwork(3))
	for _, c := range []struct {
		n     impl.Network
		class []int
		want  bool
	}{
		{three, nil, false},
		{three, []int{}, false},
		{three, []int{0, 0}, false},
		{three, []int{0, 0, 0, 0}, false},
		{three, []int{0, 0, 0}, true},
		{three, []int{8, 8, 8}, true},
		{three, []int{0, 0, 1}, false},
		{three, []int{0, 1, 2}, true},
		{three, []int{maxInt, 0, 1}, true},
		{three, []int{maxInt, maxInt, maxInt}, true},
		{three, []int{-1, -1, -1}, false},
		{three, []int{-1, 0, 1}, false},
		{three, []int{0, 1, -1}, false},
		{three, []int{minInt, minInt, minInt}, false},
		{three, make([]int, 100000), false},
		{withIds(three, 1, 2, 3), []int{0, 0, 0}, true},
		{withInputs(three, 0, 0, 1), []int{0, 0, 0}, false},
		{withInputs(three, 0, 0, 1), []int{0, 1, 2}, true},
		{zeroInputs(bare(3)), []int{4, 9, 4}, true},
		{withInputs(bare(3), 1, 2, 1), []int{4, 9, 4}, true},
		{withInputs(bare(3), 1, 2, 2), []int{4, 9, 4}, false},
		{sure(t)(impl.PathNetwork(2)), []int{0, 0}, true},
		{sure(t)(impl.PathNetwork(3)), []int{0, 1, 0}, false},
		{sure(t)(impl.PathNetwork(4)), []int{0, 1, 1, 0}, false},
		{zeroInputs(joined([]int{2, 2}, [4]int{0, 0, 1, 1}, [4]int{0, 1, 1, 0})), []int{3, 3}, true},
		{zeroInputs(joined([]int{2, 2}, [4]int{0, 0, 0, 1}, [4]int{1, 0, 1, 0}, [4]int{1, 1, 1, 1})), []int{3, 3}, false},
		{zeroInputs(pair()), []int{0, 0}, false},
		{zeroInputs(pair()), []int{1, 0}, true},
	} {
		is, ok := impl.IsConsistent(c.n, c.class)
		wantTruth(t, is, ok, c.want, "list", len(c.class), c.n)
		refusal := impl.Refusal{Task: impl.TkNames, Class: c.class, U: 0, V: 1}
		is, ok = impl.CheckRefusal(c.n, refusal)
		wantTruth(t, is, ok, c.want && c.class[0] == c.class[1], "refusal with the list", len(c.class), c.n)
	}
}
