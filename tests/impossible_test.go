package tests

import (
	"fmt"
	"math/rand"
	"slices"
	"testing"

	"loop.example/g01084/impl"
)

func TestExampleOfChapter12(t *testing.T) {
	for k := 1; k <= 40; k++ {
		cycle := sure(t)(impl.CycleNetwork(k))
		outputs, ok := impl.MeetTask(cycle, impl.TkLeader)
		wantOutputs(t, outputs, ok, []int{1}, k == 1, "leader of a cycle of", k)
	}
	three := sure(t)(impl.CycleNetwork(3))
	refusal, ok := impl.RefusalOf(three, impl.TkColouring)
	wantRefusal(t, refusal, ok, impl.Refusal{Task: impl.TkColouring, Class: []int{0, 0, 0}, V: 1}, true, "cycle")
	path := sure(t)(impl.PathNetwork(3))
	outputs, ok := impl.MeetTask(path, impl.TkLeader)
	wantList(t, outputs, ok, []int{1, 0, 0}, "leader of the path")
	depth, ok := impl.LeastDepthFor(path, impl.TkLeader)
	wantNumber(t, depth, ok, 0, "least depth for a leader")
	table, ok := impl.TaskTable(path, impl.TkLeader)
	wantTable(t, table, ok, tableOf(t, 1, "1.0(0:2.0) 1", "1.0(1:2.0) 0", "2.0(0:1.0,0:1.0) 0"), true, "table of the leader")
}

func TestTasksHaveNumbersAndNames(t *testing.T) {
	if !slices.Equal(allTasks, []int{1, 2, 3}) {
		t.Error(allTasks)
	}
	for k, want := range []string{"leader", "colouring", "names"} {
		if name, ok := impl.TaskName(k + 1); name != want || !ok {
			t.Errorf("task %d: %q %v, want %q", k+1, name, ok, want)
		}
	}
	for _, x := range outside(1, 3) {
		name, ok := impl.TaskName(x)
		refused(t, fmt.Sprint("task ", x), name, ok)
	}
}

// TestKnownOutputsThatMeetTasks has nodes without ports, stubs, loops, several edges between two nodes, and one output 1, several and none.
func TestKnownOutputsThatMeetTasks(t *testing.T) {
	one, three := zeroInputs(bare(1)), bare(3)
	stub, loop := sure(t)(impl.BouquetNetwork(1, 0)), sure(t)(impl.BouquetNetwork(0, 1))
	twice := joined([]int{2, 2}, [4]int{0, 0, 1, 0}, [4]int{0, 1, 1, 1})
	path := sure(t)(impl.PathNetwork(3))
	for _, c := range []struct {
		n       impl.Network
		outputs []int
		meets   [3]bool
	}{
		{one, []int{0}, [3]bool{false, true, true}},
		{one, []int{1}, [3]bool{true, true, true}},
		{one, []int{2}, [3]bool{false, true, true}},
		{one, []int{99}, [3]bool{false, true, true}},
		{stub, []int{1}, [3]bool{true, false, true}},
		{loop, []int{1}, [3]bool{true, false, true}},
		{loop, []int{0}, [3]bool{false, false, true}},
		{full(1), []int{99}, [3]bool{false, false, true}},
		{three, []int{0, 0, 0}, [3]bool{false, true, false}},
		{three, []int{0, 0, 1}, [3]bool{true, true, false}},
		{three, []int{1, 0, 0}, [3]bool{true, true, false}},
		{three, []int{1, 0, 1}, [3]bool{false, true, false}},
		{three, []int{1, 1, 1}, [3]bool{false, true, false}},
		{three, []int{1, 0, 2}, [3]bool{false, true, true}},
		{three, []int{1, 2, 2}, [3]bool{false, true, false}},
		{three, []int{0, 99, 0}, [3]bool{false, true, false}},
		{three, []int{99, 98, 97}, [3]bool{false, true, true}},
		{twice, []int{0, 1}, [3]bool{true, true, true}},
		{twice, []int{1, 1}, [3]bool{false, false, false}},
		{twice, []int{7, 8}, [3]bool{false, true, true}},
		{pair(), []int{0, 1}, [3]bool{true, false, true}},
		{withIds(pair(), 1, 2), []int{5, 5}, [3]bool{false, false, false}},
		{path, []int{0, 1, 0}, [3]bool{true, true, false}},
		{path, []int{1, 0, 0}, [3]bool{true, false, false}},
		{path, []int{0, 0, 1}, [3]bool{true, false, false}},
		{path, []int{4, 4, 5}, [3]bool{false, false, false}},
		{path, []int{4, 5, 5}, [3]bool{false, false, false}},
		{path, []int{4, 5, 4}, [3]bool{false, true, false}},
		{path, []int{2, 1, 0}, [3]bool{false, true, true}},
		{sure(t)(impl.UnionOf(path, stub)), []int{0, 1, 2, 3}, [3]bool{false, false, true}},
		{zeroInputs(bare(40)), rising(40), [3]bool{false, true, true}},
	} {
		for k, want := range c.meets {
			is, ok := impl.MeetsTask(c.n, k+1, c.outputs)
			wantTruth(t, is, ok, want, "task", k+1, c.outputs, c.n)
		}
	}
}

// TestOutputsThatMeetTasks compares outputs made by chance with those that the tasks ask for.
func TestOutputsThatMeetTasks(t *testing.T) {
	r := rand.New(rand.NewSource(122))
	counts := map[string]int{}
	check := func(n impl.Network, outputs []int) {
		t.Helper()
		for _, task := range allTasks {
			want := meetsByHand(n, task, outputs)
			is, ok := impl.MeetsTask(n, task, outputs)
			wantTruth(t, is, ok, want, "task", task, outputs, n)
			counts[fmt.Sprint(task, want)]++
		}
	}
	for _, n := range taskNetworks(t) {
		nodes := len(n.Ends)
		leader := make([]int, nodes)
		leader[r.Intn(nodes)] = 1
		colours := colouringByHand(n)
		check(n, leader)
		check(n, colours)
		check(n, r.Perm(100)[:nodes])
		for _, list := range [][]int{leader, colours, rising(nodes)} {
			other := slices.Clone(list)
			other[r.Intn(nodes)] = r.Intn(3)
			check(n, other)
		}
		check(n, numbersBelow(r, nodes, 0, 1+r.Intn(100)))
	}
	for _, task := range allTasks {
		for _, is := range []bool{true, false} {
			if counts[fmt.Sprint(task, is)] < 500 {
				t.Error("outputs that meet tasks and others:", counts)
			}
		}
	}
}

// wantTask compares all that the chapter tells about a task, given the numbers of views of the depths from 0 on, and checks that it is met with a table or refused. It returns the least depth, or -1.
func wantTask(t *testing.T, n impl.Network, task int, numbers [][]int) int {
	t.Helper()
	what := fmt.Sprint("task ", task, " on ", n)
	class := classesOfNumbers(numbers[len(numbers)-1])
	least, can := leastDepthByHand(n, task, numbers)
	depth, ok := impl.LeastDepthFor(n, task)
	if ok != can || depth != least {
		t.Fatalf("%s: least depth %d %v, want %d %v", what, depth, ok, least, can)
	}
	for k := range numbers {
		is, ok := impl.CanMeetAt(n, task, k)
		wantTruth(t, is, ok, can && k >= least, "depth", k, what)
	}
	want, meets := outputsByHand(n, task, class)
	outputs, ok := impl.MeetTask(n, task)
	wantOutputs(t, outputs, ok, want, can, what)
	if meets != can {
		t.Fatalf("%s: met by %v: %v, at depth %d: %v", what, want, meets, least, can)
	}
	wantRefusalOf(t, n, task, class)
	if !can {
		table, ok := impl.TaskTable(n, task)
		wantTable(t, table, ok, impl.Table{}, false, what)
		return -1
	}
	is, ok := impl.MeetsTask(n, task, outputs)
	wantTruth(t, is, ok, true, "outputs", outputs, what)
	wantTaskTable(t, n, task, numbers, outputs)
	return least
}

// wantTaskTable compares the table of a task that can be met with one by hand, at the least depth at which equal views have equal outputs.
func wantTaskTable(t *testing.T, n impl.Network, task int, numbers [][]int, outputs []int) bool {
	t.Helper()
	depth := slices.IndexFunc(numbers, func(list []int) bool { return len(conflictsByHand(list, outputs)) == 0 })
	want, is := impl.Table{}, false
	if depth >= 0 && depth <= 4 {
		want, is = tableByHand(n, depth, outputs)
	}
	table, ok := impl.TaskTable(n, task)
	wantTable(t, table, ok, want, is, "table of task", task, "at depth", depth, n)
	if ok {
		given, fine := impl.RunTable(table, n)
		wantList(t, given, fine, outputs, "run of the table of task", task, n)
	}
	return ok
}

func TestTasksOnNetworks(t *testing.T) {
	counts := map[[2]int]int{}
	for _, n := range taskNetworks(t) {
		numbers := (viewBook{}).numbersOf(n, 41)
		for _, task := range allTasks {
			counts[[2]int{task, wantTask(t, n, task, numbers)}]++
		}
	}
	for _, task := range allTasks {
		for least := -1; least <= 5; least++ {
			if counts[[2]int{task, least}] < 2 {
				t.Errorf("few networks for task %d with the least depth %d: %v", task, least, counts)
			}
		}
	}
}

// TestTasksOnSmallNetworks tries all outputs without a conflict.
func TestTasksOnSmallNetworks(t *testing.T) {
	for _, degrees := range [][]int{{0}, {1}, {4}, {0, 0}, {1, 1}, {2, 2}, {3, 1}, {1, 2, 1}, {2, 2, 2}, {2, 0, 2}, {1, 1, 0, 1}} {
		for k, n := range smallNetworks(degrees...) {
			if k%3 > 0 {
				n = zeroInputs(n)
			}
			numbers := (viewBook{}).numbersOf(n, 5)
			for depth, list := range numbers {
				can := map[int]bool{}
				// A leader needs the output 1, and no more different outputs are of use than there are nodes.
				allLists(len(degrees), rising(max(2, len(degrees))), func(outputs []int) {
					for _, task := range allTasks {
						can[task] = can[task] || len(conflictsByHand(list, outputs)) == 0 && meetsByHand(n, task, outputs)
					}
				})
				for _, task := range allTasks {
					is, ok := impl.CanMeetAt(n, task, depth)
					wantTruth(t, is, ok, can[task], "task", task, "at depth", depth, n)
				}
			}
			for _, task := range allTasks {
				wantTask(t, n, task, numbers)
			}
		}
	}
}

// TestTasksOnPaths knows the depths: after t rounds all nodes but k-2-2t inner ones of a path of k nodes have seen an end, and the ends know which of them they are after one round.
func TestTasksOnPaths(t *testing.T) {
	for k := 1; k <= 40; k++ {
		n := sure(t)(impl.PathNetwork(k))
		half := max(0, (k-2)/2)
		for task, want := range map[int]int{impl.TkLeader: min(half, 1), impl.TkColouring: half, impl.TkNames: max(half, min(k-1, 1))} {
			depth, ok := impl.LeastDepthFor(n, task)
			if k == 2 {
				refused(t, fmt.Sprint("two twins, task ", task), depth, ok)
				continue
			}
			wantNumber(t, depth, ok, want, "task", task, "on a path of", k)
			for depth := range 81 {
				is, ok := impl.CanMeetAt(n, task, depth)
				wantTruth(t, is, ok, depth >= want, "task", task, "at depth", depth, "on a path of", k)
			}
			outputs, ok := impl.MeetTask(n, task)
			leader := make([]int, k)
			leader[0] = 1
			wantList(t, outputs, ok, map[int][]int{1: leader, 2: rising(k), 3: rising(k)}[task], "task", task, "on a path of", k)
			table, ok := impl.TaskTable(n, task)
			end := max(half, min(k-1, 1))
			if task == impl.TkLeader {
				end = min(k-1, 1)
			}
			if ok != (end <= 4) || table.Depth != end && ok {
				t.Errorf("task %d on a path of %d nodes: table %v %v, want depth %d", task, k, table, ok, end)
			}
		}
	}
}

// TestTasksAtTheStableDepthOnly has networks in which only the last depth tells the last nodes apart.
func TestTasksAtTheStableDepthOnly(t *testing.T) {
	for k := 3; k <= 40; k++ {
		n := oneOff(t, k, false)
		stable, ok := impl.StableDepth(n)
		wantNumber(t, stable, ok, k-1, "stable depth")
		depth, ok := impl.LeastDepthFor(n, impl.TkNames)
		wantNumber(t, depth, ok, k-1, "names")
		depth, ok = impl.LeastDepthFor(n, impl.TkLeader)
		wantNumber(t, depth, ok, 1, "leader")
		depth, ok = impl.LeastDepthFor(n, impl.TkColouring)
		refused(t, "stubs", depth, ok)
		for depth := range 81 {
			is, ok := impl.CanMeetAt(n, impl.TkNames, depth)
			wantTruth(t, is, ok, depth >= k-1, "names at depth", depth, "of", k)
			is, ok = impl.CanMeetAt(n, impl.TkLeader, depth)
			wantTruth(t, is, ok, depth >= 1, "leader at depth", depth, "of", k)
			is, ok = impl.CanMeetAt(n, impl.TkColouring, depth)
			wantTruth(t, is, ok, false, "colouring at depth", depth, "of", k)
		}
	}
}

// TestTablesOfTasksMeetTheirLimits has outputs that need the greatest depth of a table and one more, and views of this depth that are too long.
func TestTablesOfTasksMeetTheirLimits(t *testing.T) {
	for _, thick := range []bool{false, true} {
		for k := 3; k <= 9; k++ {
			n := oneOff(t, k, thick)
			for _, task := range []int{impl.TkLeader, impl.TkNames} {
				outputs, ok := impl.MeetTask(n, task)
				// Node 0 is the leader, and only views of the depth k-1 tell it from node 1.
				depth, fine := impl.LeastDepthOf(n, outputs)
				wantNumber(t, depth, ok && fine, k-1, "depth")
				want := k <= 5
				if thick {
					want = k <= 4
				}
				if table, ok := impl.TaskTable(n, task); ok != want || ok && table.Depth != k-1 {
					t.Errorf("task %d, %d nodes, thick %v: %v %v", task, k, thick, table, ok)
				}
			}
		}
	}
	forty := sure(t)(impl.WithInputs(sure(t)(impl.UnionOf(bare(30), bare(10))), slices.Repeat(rising(10), 4)))
	for task, want := range map[int]bool{impl.TkLeader: false, impl.TkColouring: true, impl.TkNames: false} {
		table, ok := impl.TaskTable(forty, task)
		if ok != want || ok && len(table.Rows) != 10 {
			t.Errorf("task %d: %v %v", task, table, ok)
		}
	}
}

// TestTheFirstNodeAloneIsTheLeader has several nodes without twins, and nodes that only identifiers tell apart.
func TestTheFirstNodeAloneIsTheLeader(t *testing.T) {
	for _, c := range []struct {
		inputs  []int
		outputs []int
	}{
		{[]int{5}, []int{1}},
		{[]int{5, 5}, nil},
		{[]int{5, 0}, []int{1, 0}},
		{[]int{5, 5, 0}, []int{0, 0, 1}},
		{[]int{0, 5, 0}, []int{0, 1, 0}},
		{[]int{9, 0, 9, 1}, []int{0, 1, 0, 0}},
		{[]int{9, 1, 9, 0}, []int{0, 1, 0, 0}},
		{[]int{9, 1, 1, 9}, nil},
		{[]int{9, 1, 1, 1}, []int{1, 0, 0, 0}},
		{[]int{1, 1, 2, 2, 3, 4, 3, 5}, []int{0, 0, 0, 0, 0, 1, 0, 0}},
		{[]int{1, 1, 1, 2, 2}, nil},
	} {
		for _, ids := range [][]int{nil, idsUpTo(len(c.inputs))} {
			n := withIds(withInputs(bare(len(c.inputs)), c.inputs...), ids...)
			outputs, ok := impl.MeetTask(n, impl.TkLeader)
			wantOutputs(t, outputs, ok, c.outputs, c.outputs != nil, "leader", n)
			for _, depth := range []int{0, 1, 80} {
				is, ok := impl.CanMeetAt(n, impl.TkLeader, depth)
				wantTruth(t, is, ok, c.outputs != nil, "depth", depth, n)
			}
		}
	}
}

// TestOutputsOnCoverings takes outputs that meet a task to the nodes of coverings: colours stay some, and leaders and names do not.
func TestOutputsOnCoverings(t *testing.T) {
	for _, c := range coverMaps(t) {
		covers, _ := impl.IsCovering(c.a, c.b, c.m)
		for _, task := range allTasks {
			outputs, ok := impl.MeetTask(c.b, task)
			pulled, _ := impl.PullNodes(c.a, c.b, c.m, outputs)
			if !ok || !covers {
				continue
			}
			want := len(c.m) == len(c.b.Ends) || task == impl.TkColouring
			if task == impl.TkLeader {
				want = len(fibresByHand(len(outputs), c.m)[slices.Index(outputs, 1)]) == 1
			}
			is, ok := impl.MeetsTask(c.a, task, pulled)
			wantTruth(t, is, ok, want, "task", task, "on a covering", c)
		}
		for _, task := range []int{impl.TkColouring, impl.TkNames} {
			outputs, ok := impl.MeetTask(c.a, task)
			pushed, is := impl.PushNodes(c.a, c.b, c.m, outputs)
			meets, _ := impl.MeetsTask(c.b, task, pushed)
			if ok && covers && (!is || !meets) {
				t.Fatalf("task %d: met above and not below: %v", task, c)
			}
		}
	}
}

// TestIdentifiersDoNotHelp gives other identifiers to nodes.
func TestIdentifiersDoNotHelp(t *testing.T) {
	r := rand.New(rand.NewSource(123))
	for k, n := range taskNetworks(t) {
		if k%4 > 0 {
			continue
		}
		plain, other := withIds(n), withIds(n, shifted(r.Perm(len(n.Ends)), 24000, 1)...)
		for _, task := range allTasks {
			a, ok := impl.MeetTask(plain, task)
			b, fine := impl.MeetTask(other, task)
			wantOutputs(t, b, fine, a, ok, "task", task, n)
			first, ok := impl.RefusalOf(plain, task)
			second, fine := impl.RefusalOf(other, task)
			wantRefusal(t, second, fine, first, ok, "task", task, n)
			is, ok := impl.CheckRefusal(other, first)
			wantTruth(t, is, ok, !slices.Equal(first.Class, nil), "task", task, n)
		}
	}
}
