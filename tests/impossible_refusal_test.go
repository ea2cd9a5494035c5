package tests

import (
	"fmt"
	"math/rand"
	"slices"
	"testing"

	"loop.example/g01084/impl"
)

// wantRefusalOf compares the refusal of a task with the one by hand for twin classes, and checks that it is right.
func wantRefusalOf(t *testing.T, n impl.Network, task int, class []int) bool {
	t.Helper()
	want, is := refusalByHand(n, task, class)
	refusal, ok := impl.RefusalOf(n, task)
	wantRefusal(t, refusal, ok, want, is, "refusal of task", task, n)
	if _, met := impl.MeetTask(n, task); met == ok {
		t.Fatalf("task %d on %v: met %v, refused %v", task, n, met, ok)
	}
	right, fine := impl.CheckRefusal(n, refusal)
	wantTruth(t, right, fine, is, "refusal", refusal, "of", n)
	return is
}

// wantCheck compares the check of a refusal with the one by hand. A right one means that the task cannot be met.
func wantCheck(t *testing.T, n impl.Network, r impl.Refusal) bool {
	t.Helper()
	want := isRightByHand(n, r)
	is, ok := impl.CheckRefusal(n, r)
	wantTruth(t, is, ok, want, "refusal", r, "of", n)
	if outputs, met := impl.MeetTask(n, r.Task); met && want {
		t.Fatalf("the refusal %v of %v is right, and %v meet the task", r, n, outputs)
	}
	return want
}

// TestKnownRefusals has stubs, loops, several edges between two nodes, and several pairs of twins.
func TestKnownRefusals(t *testing.T) {
	two := sure(t)(impl.PathNetwork(2))
	six := withInputs(bare(6), 1, 2, 3, 3, 2, 1)
	edges := sure(t)(impl.UnionOf(sure(t)(impl.PathNetwork(3)), two))
	stub, loop := sure(t)(impl.BouquetNetwork(1, 0)), sure(t)(impl.BouquetNetwork(0, 1))
	twice := zeroInputs(joined([]int{2, 2}, [4]int{0, 0, 1, 0}, [4]int{0, 1, 1, 1}))
	last := zeroInputs(joined([]int{1, 2}, [4]int{0, 0, 1, 1}, [4]int{1, 0, 1, 0}))
	for _, c := range []struct {
		n     impl.Network
		task  int
		class []int
		u, v  int
	}{
		{zeroInputs(bare(2)), impl.TkLeader, []int{0, 0}, 0, 0},
		{zeroInputs(bare(2)), impl.TkNames, []int{0, 0}, 0, 1},
		{zeroInputs(bare(40)), impl.TkNames, make([]int, 40), 0, 1},
		{two, impl.TkLeader, []int{0, 0}, 0, 0},
		{two, impl.TkColouring, []int{0, 0}, 0, 1},
		{two, impl.TkNames, []int{0, 0}, 0, 1},
		{six, impl.TkLeader, []int{0, 1, 2, 2, 1, 0}, 0, 0},
		{six, impl.TkNames, []int{0, 1, 2, 2, 1, 0}, 0, 5},
		{withInputs(bare(6), 1, 2, 3, 3, 2, 4), impl.TkNames, []int{0, 1, 2, 2, 1, 3}, 1, 4},
		{withInputs(bare(6), 1, 2, 2, 3, 2, 4), impl.TkNames, []int{0, 1, 1, 2, 1, 3}, 1, 2},
		{edges, impl.TkColouring, []int{0, 1, 2, 3, 3}, 3, 4},
		{edges, impl.TkNames, []int{0, 1, 2, 3, 3}, 3, 4},
		{sure(t)(impl.UnionOf(edges, two)), impl.TkColouring, []int{0, 1, 2, 3, 3, 3, 3}, 3, 4},
		{sure(t)(impl.UnionOf(edges, two)), impl.TkNames, []int{0, 1, 2, 3, 3, 3, 3}, 3, 4},
		{stub, impl.TkColouring, []int{0}, 0, 0},
		{loop, impl.TkColouring, []int{0}, 0, 0},
		{full(1), impl.TkColouring, []int{0}, 0, 0},
		{twice, impl.TkColouring, []int{0, 0}, 0, 1},
		{twice, impl.TkLeader, []int{0, 0}, 0, 0},
		{last, impl.TkColouring, []int{0, 1}, 1, 1},
		{sure(t)(impl.UnionOf(bare(3), withIds(full(2)))), impl.TkColouring, []int{0, 1, 2, 3, 4}, 3, 3},
		{sure(t)(impl.RenumberNodes(two, []int{1, 0})), impl.TkColouring, []int{0, 0}, 0, 1},
	} {
		refusal, ok := impl.RefusalOf(c.n, c.task)
		wantRefusal(t, refusal, ok, impl.Refusal{Task: c.task, Class: c.class, U: c.u, V: c.v}, true, c.n)
		is, ok := impl.CheckRefusal(c.n, refusal)
		wantTruth(t, is, ok, true, "refusal", refusal, c.n)
	}
	for _, n := range []impl.Network{zeroInputs(bare(1)), sure(t)(impl.PathNetwork(3)), pair()} {
		for _, task := range allTasks {
			_, met := impl.MeetTask(n, task)
			refusal, ok := impl.RefusalOf(n, task)
			if met {
				refused(t, fmt.Sprint("a task that is met ", task, n), refusal, ok)
			}
		}
	}
}

// consistentLists returns lists of a network most of which are consistent: the twins, the orbits, all nodes by themselves, each of them with large numbers too.
func consistentLists(r *rand.Rand, n impl.Network) [][]int {
	orbits, _ := impl.OrbitsOf(withIds(n))
	large := []int{0, 1, maxInt, maxInt - 1, 1 << 40}
	lists := [][]int{}
	for _, list := range [][]int{twinClassesByHand(n), orbits, rising(len(n.Ends))} {
		other := []int{}
		for _, x := range list {
			if x < len(large) {
				x = large[x]
			}
			other = append(other, x)
		}
		lists = append(lists, list, other, shifted(list, 1+r.Intn(1000), r.Intn(1000)))
	}
	return lists
}

// changedLists returns lists that are changed at one node, and with other lengths.
func changedLists(r *rand.Rand, list []int) [][]int {
	lists := [][]int{list[1:], append(slices.Clone(list), list[0]), list[:0]}
	for _, x := range []int{0, list[r.Intn(len(list))], slices.Max(list)/2 + 1, maxInt - 7, -1, minInt} {
		other := slices.Clone(list)
		other[r.Intn(len(list))] = x
		lists = append(lists, other)
	}
	return lists
}

func TestConsistentLists(t *testing.T) {
	r := rand.New(rand.NewSource(124))
	counts := map[bool]int{}
	check := func(n impl.Network, class []int) {
		t.Helper()
		want := isConsistentByHand(n, class)
		is, ok := impl.IsConsistent(n, class)
		wantTruth(t, is, ok, want, "list", class, "of", n)
		counts[want]++
		for v, x := range class {
			w := slices.Index(class, x)
			if twins, _ := impl.AreTwins(n, v, n, w); want && !twins {
				t.Fatalf("%v is consistent, and nodes %d and %d of %v are no twins", class, v, w, n)
			}
		}
		if _, is := impl.QuotientOf(n, classesOfNumbers(class)); len(class) > 0 && slices.Min(class) >= 0 && is != want {
			t.Fatalf("%v of %v: consistent %v, quotient %v", class, n, want, is)
		}
	}
	for k, n := range taskNetworks(t) {
		if k%5 > 0 {
			continue
		}
		for _, list := range consistentLists(r, n) {
			check(n, list)
			for _, other := range changedLists(r, list) {
				check(n, other)
			}
		}
		check(n, make([]int, len(n.Ends)))
		check(n, slices.Repeat([]int{maxInt}, len(n.Ends)))
	}
	for _, c := range coverMaps(t) {
		check(c.a, c.m)
	}
	if counts[true] < 1000 || counts[false] < 1000 {
		t.Error("consistent lists and others:", counts)
	}
}

// TestAllListsOfSmallNetworks tries all lists with few numbers, and all refusals with them.
func TestAllListsOfSmallNetworks(t *testing.T) {
	counts := map[string]int{}
	for _, degrees := range [][]int{{0}, {2}, {0, 0}, {1, 1}, {2, 2}, {3, 1}, {1, 2, 1}, {2, 0, 2}, {1, 1, 1}} {
		for k, n := range smallNetworks(degrees...) {
			if k%4 > 0 {
				n = zeroInputs(n)
			}
			allLists(len(degrees), []int{-1, 0, 1, 7}, func(class []int) {
				want := isConsistentByHand(n, class)
				is, ok := impl.IsConsistent(n, class)
				wantTruth(t, is, ok, want, "list", class, "of", n)
				for task := range 5 {
					for u := -1; u <= len(degrees); u++ {
						for v := -1; v <= len(degrees); v++ {
							right := wantCheck(t, n, impl.Refusal{Task: task, Class: class, U: u, V: v})
							counts[fmt.Sprint(task, right)]++
						}
					}
				}
			})
		}
	}
	for _, task := range allTasks {
		if counts[fmt.Sprint(task, true)] < 50 {
			t.Error("right refusals and others:", counts)
		}
	}
}

// refusalsNear returns the refusal with other tasks, nodes and lists.
func refusalsNear(r *rand.Rand, n impl.Network, refusal impl.Refusal) []impl.Refusal {
	list := []impl.Refusal{refusal}
	add := func(task int, class []int, u, v int) {
		list = append(list, impl.Refusal{Task: task, Class: class, U: u, V: v})
	}
	task, class, u, v := refusal.Task, refusal.Class, refusal.U, refusal.V
	add(task, class, v, u)
	for other := range 5 {
		add(other, class, u, v)
	}
	for range 6 {
		x, y := r.Intn(len(n.Ends)), r.Intn(len(n.Ends))
		if len(n.Ends[y]) > 0 {
			x = n.Ends[y][r.Intn(len(n.Ends[y]))].Node
		}
		for _, two := range [][2]int{{x, y}, {y, x}, {y, y}, {slices.Index(class, class[y]), y}, {0, 0}, {0, y}} {
			add(task, class, two[0], two[1])
		}
	}
	for _, x := range append(outside(0, len(n.Ends)-1), -len(n.Ends)) {
		add(task, class, x, v)
		add(task, class, u, x)
		add(task, class, x, x)
		add(x, class, u, v)
	}
	for _, other := range append(consistentLists(r, n), changedLists(r, class)...) {
		add(task, other, u, v)
	}
	return list
}

// TestRefusalsThatAreNearlyRight changes one part of a refusal.
func TestRefusalsThatAreNearlyRight(t *testing.T) {
	r := rand.New(rand.NewSource(125))
	counts := map[string]int{}
	for k, n := range taskNetworks(t) {
		for _, task := range allTasks {
			refusal, ok := impl.RefusalOf(n, task)
			if !ok || k%8 > 0 {
				continue
			}
			for _, other := range refusalsNear(r, n, refusal) {
				counts[fmt.Sprint(task, wantCheck(t, n, other))]++
			}
		}
	}
	for _, task := range allTasks {
		for _, is := range []bool{true, false} {
			if counts[fmt.Sprint(task, is)] < 500 {
				t.Error("right refusals and others:", counts)
			}
		}
	}
}

// TestKnownRefusalsThatAreWrong are right in all but one part.
func TestKnownRefusalsThatAreWrong(t *testing.T) {
	three := sure(t)(impl.CycleNetwork(3))
	six := sure(t)(impl.CycleNetwork(6))
	path := sure(t)(impl.PathNetwork(3))
	loop := sure(t)(impl.BouquetNetwork(0, 1))
	zero, finer := []int{0, 0, 0}, []int{0, 1, 2, 0, 1, 2}
	for _, c := range []struct {
		n     impl.Network
		r     impl.Refusal
		right bool
	}{
		{three, impl.Refusal{Task: impl.TkLeader, Class: zero}, true},
		{three, impl.Refusal{Task: impl.TkLeader, Class: []int{maxInt, maxInt, maxInt}}, true},
		{three, impl.Refusal{Task: impl.TkLeader, Class: zero, U: 1}, false},
		{three, impl.Refusal{Task: impl.TkLeader, Class: zero, V: 1}, false},
		{three, impl.Refusal{Task: impl.TkLeader, Class: []int{0, 1, 2}}, false},
		{three, impl.Refusal{Task: impl.TkLeader, Class: []int{0, 0, 1}}, false},
		{three, impl.Refusal{Task: impl.TkLeader, Class: []int{-1, -1, -1}}, false},
		{three, impl.Refusal{Task: impl.TkLeader, Class: []int{0, 0}}, false},
		{three, impl.Refusal{Task: impl.TkLeader, Class: []int{0, 0, 0, 0}}, false},
		{three, impl.Refusal{Task: impl.TkLeader}, false},
		{three, impl.Refusal{Class: zero}, false},
		{three, impl.Refusal{}, false},
		{six, impl.Refusal{Task: impl.TkLeader, Class: finer}, true},
		{six, impl.Refusal{Task: impl.TkNames, Class: finer, U: 0, V: 3}, true},
		{six, impl.Refusal{Task: impl.TkNames, Class: finer, U: 2, V: 5}, true},
		{six, impl.Refusal{Task: impl.TkNames, Class: finer, U: 5, V: 2}, false},
		{six, impl.Refusal{Task: impl.TkNames, Class: finer, U: 2, V: 4}, false},
		{six, impl.Refusal{Task: impl.TkNames, Class: finer, U: 2, V: 2}, false},
		{six, impl.Refusal{Task: impl.TkNames, Class: []int{0, 1, 0, 1, 0, 1}, U: 1, V: 5}, true},
		{six, impl.Refusal{Task: impl.TkNames, Class: []int{0, 1, 1, 0, 1, 1}, U: 0, V: 3}, false},
		{six, impl.Refusal{Task: impl.TkColouring, Class: finer, U: 0, V: 1}, false},
		{six, impl.Refusal{Task: impl.TkColouring, Class: make([]int, 6), U: 0, V: 5}, true},
		{six, impl.Refusal{Task: impl.TkColouring, Class: make([]int, 6), U: 5, V: 0}, false},
		{six, impl.Refusal{Task: impl.TkColouring, Class: make([]int, 6), U: 4, V: 5}, true},
		{six, impl.Refusal{Task: impl.TkColouring, Class: make([]int, 6), U: 3, V: 5}, false},
		{six, impl.Refusal{Task: impl.TkColouring, Class: make([]int, 6), U: 3, V: 3}, false},
		{six, impl.Refusal{Task: impl.TkColouring, Class: make([]int, 6), U: 0, V: 6}, false},
		{six, impl.Refusal{Task: impl.TkColouring, Class: make([]int, 6), U: -1, V: 0}, false},
		{loop, impl.Refusal{Task: impl.TkColouring, Class: []int{maxInt}}, true},
		{loop, impl.Refusal{Task: impl.TkColouring, Class: []int{-1}}, false},
		{loop, impl.Refusal{Task: impl.TkColouring, Class: []int{0}, V: 1}, false},
		{loop, impl.Refusal{Task: impl.TkLeader, Class: []int{0}}, false},
		{loop, impl.Refusal{Task: impl.TkNames, Class: []int{0}}, false},
		{path, impl.Refusal{Task: impl.TkLeader, Class: zero}, false},
		{path, impl.Refusal{Task: impl.TkNames, Class: []int{0, 1, 0}, U: 0, V: 2}, false},
		{path, impl.Refusal{Task: impl.TkColouring, Class: []int{0, 1, 1}, U: 1, V: 2}, false},
		{bare(2), impl.Refusal{Task: impl.TkLeader, Class: []int{0, 0}}, false},
		{withInputs(bare(2), 9, 9), impl.Refusal{Task: impl.TkLeader, Class: []int{5, 5}}, true},
	} {
		if is := isRightByHand(c.n, c.r); is != c.right {
			t.Fatal("the model is wrong: ", c)
		}
		is, ok := impl.CheckRefusal(c.n, c.r)
		wantTruth(t, is, ok, c.right, "refusal", c.r, "of", c.n)
	}
}

// TestRefusalsByMapsOfCoverings takes the images of nodes as their classes: a covering with several sheets refuses names, and leaders if no node is alone over its image.
func TestRefusalsByMapsOfCoverings(t *testing.T) {
	counts := map[bool]int{}
	for _, c := range coverMaps(t) {
		alone := slices.ContainsFunc(fibresByHand(len(c.b.Ends), c.m), func(fibre []int) bool { return len(fibre) == 1 })
		is, ok := impl.CheckRefusal(c.a, impl.Refusal{Task: impl.TkLeader, Class: c.m})
		wantTruth(t, is, ok, !alone, "leader", c)
		counts[is]++
		for v, image := range c.m {
			u := slices.Index(c.m, image)
			is, ok = impl.CheckRefusal(c.a, impl.Refusal{Task: impl.TkNames, Class: c.m, U: u, V: v})
			wantTruth(t, is, ok, u < v, "names", u, v, c)
			if _, named := impl.MeetTask(c.a, impl.TkNames); is && named {
				t.Fatal("names for twins: ", c)
			}
		}
	}
	if counts[true] < 20 || counts[false] < 20 {
		t.Error("coverings that refuse leaders and others:", counts)
	}
}
