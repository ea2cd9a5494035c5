package tests

import (
	"fmt"
	"slices"
	"testing"

	"loop.example/g01084/impl"
)

// brokenPrograms returns lists of operations that are almost programs.
func brokenPrograms(t *testing.T) [][]impl.ValueOp {
	list := [][]impl.ValueOp{nil, {}, {{}}, make([]impl.ValueOp, 40), make([]impl.ValueOp, 100000)}
	for _, kind := range append(outside(1, 19), 11, 12, 13, 14, 15, 16, 17, 18, 19) {
		list = append(list, []impl.ValueOp{{Kind: kind}})
	}
	for _, x := range outside(0, maxValue) {
		list = append(list, []impl.ValueOp{{Kind: impl.VpConst, Value: x}})
	}
	for kind := 2; kind <= 10; kind++ {
		for _, x := range append(outside(0, 0), maxValue) {
			list = append(list, []impl.ValueOp{{Kind: kind, Value: x}})
		}
	}
	for _, words := range []string{"own count", "own own add", "own own less", "own own own if"} {
		prog := programOf(t, words)
		for k := range prog {
			for _, x := range outside(0, 0) {
				other := slices.Clone(prog)
				other[k].Value = x
				list = append(list, other)
			}
			for _, kind := range outside(1, 19) {
				other := slices.Clone(prog)
				other[k].Kind = kind
				list = append(list, other)
			}
			list = append(list, slices.Delete(slices.Clone(prog), k, k+1), slices.Insert(slices.Clone(prog), k, prog[0]))
		}
		list = append(list, slices.Concat(prog, prog), slices.Repeat(prog, 14), slices.Concat(prog, prog[:1]), slices.Concat(prog[len(prog)-1:], prog))
		slices.Reverse(prog)
		list = append(list, prog)
	}
	return slices.DeleteFunc(list, func(prog []impl.ValueOp) bool { return len(prog) == 1 && isProgramByHand(prog) })
}

// wantNoValues fails the test unless all functions for a program on a network fail.
func wantNoValues(t *testing.T, what string, prog []impl.ValueOp, n impl.Network, values []int) {
	t.Helper()
	for _, x := range []int{0, 1, 2, 40, 2000} {
		next, ok := impl.StepValues(prog, n, x, values)
		refused(t, what+": step", next, ok)
		run, ok := impl.RunValues(prog, n, values, x)
		refused(t, what+": run", run, ok)
		after, ok := impl.ValuesAfter(prog, n, values, x)
		refused(t, what+": values after", after, ok)
		k, ok := impl.RestRound(prog, n, values, x)
		refused(t, what+": rest", k, ok)
	}
}

func TestBrokenProgramsAreRefused(t *testing.T) {
	for _, prog := range brokenPrograms(t) {
		what := fmt.Sprintf("%.200v", prog)
		if isProgramByHand(prog) || impl.IsValueProgram(prog) {
			t.Fatal("taken for a program: ", what)
		}
		for _, near := range [][]int{nil, {0}, {1, 1, 1, 1, 1, 1}} {
			x, ok := impl.EvalValue(prog, 0, 0, 0, 1, near)
			refused(t, what, x, ok)
		}
		is, ok := impl.NeedsIds(prog)
		refused(t, what+": identifiers", is, ok)
		is, ok = impl.NeedsRound(prog)
		refused(t, what+": rounds", is, ok)
		text, ok := impl.ValueText(prog)
		refused(t, what+": text", text, ok)
		wantNoValues(t, what, prog, pair(), []int{0, 0})
	}
	for _, prog := range [][]impl.ValueOp{{{Kind: impl.VpId}, {}}, {{Kind: impl.VpId}, {Kind: impl.VpRound}}} {
		is, ok := impl.NeedsIds(prog)
		refused(t, "an identifier in no program", is, ok)
		is, ok = impl.NeedsRound(prog)
		refused(t, "a round in no program", is, ok)
	}
}

// TestOneWrongOperation changes the kind or the Value of one operation, and compares with the rules of the chapter.
func TestOneWrongOperation(t *testing.T) {
	numbers := append(rising(22), minInt, minInt+1, -1, 999999, 1000000, 1000001, maxInt-1, maxInt)
	for _, words := range []string{"0", "own", "1000000 count", "own 7 add", "id round less", "own least 3 if", "free own sum if 2 below input max add"} {
		prog := programOf(t, words)
		for k, op := range prog {
			for _, x := range numbers {
				prog[k] = impl.ValueOp{Kind: x, Value: op.Value}
				wantProgram(t, prog, sight{round: 1})
				prog[k] = impl.ValueOp{Kind: op.Kind, Value: x}
				wantProgram(t, prog, sight{round: 1})
				prog[k] = impl.ValueOp{Kind: 1, Value: x}
				wantProgram(t, prog, sight{round: 1})
			}
			prog[k] = op
		}
	}
}

func TestNodesThatThereAreNot(t *testing.T) {
	good := []sight{{round: 1}, {own: maxValue, id: 999999, input: 9, round: 2000, near: slices.Repeat([]int{maxValue}, 6)}, {own: -maxValue, round: 7, near: slices.Repeat([]int{-maxValue}, 6)}}
	for _, words := range []string{"5", "own", "id", "input", "round", "least", "sum", "own 1 add"} {
		prog := programOf(t, words)
		for _, s := range good {
			wantProgram(t, prog, s)
			bad := []sight{}
			for _, x := range outside(-maxValue, maxValue) {
				bad = append(bad, sight{x, s.id, s.input, s.round, s.near}, sight{s.own, s.id, s.input, s.round, []int{x}}, sight{s.own, s.id, s.input, s.round, []int{0, 0, 0, 0, 0, x}}, sight{s.own, s.id, s.input, s.round, []int{0, x, 0}})
			}
			for _, x := range outside(0, 999999) {
				bad = append(bad, sight{s.own, x, s.input, s.round, s.near})
			}
			for _, x := range outside(0, 9) {
				bad = append(bad, sight{s.own, s.id, x, s.round, s.near})
			}
			for _, x := range outside(1, 2000) {
				bad = append(bad, sight{s.own, s.id, s.input, x, s.near})
			}
			for _, length := range []int{7, 8, 40, 10000} {
				bad = append(bad, sight{s.own, s.id, s.input, s.round, make([]int, length)})
			}
			for _, other := range bad {
				x, ok := other.eval(prog)
				refused(t, fmt.Sprintf("%s for %.200v", words, other), x, ok)
			}
		}
	}
}

func TestBrokenNetworksHaveNoValues(t *testing.T) {
	for _, c := range brokenNetworks() {
		for _, words := range []string{"0", "own", "sum id input add add"} {
			wantNoValues(t, c.name, programOf(t, words), c.n, make([]int, len(c.n.Ends)))
		}
		for _, radius := range []int{0, 1, 40} {
			ball, nodes, ok := impl.KeepBall(c.n, 0, radius)
			refused(t, c.name+": ball", ball, nodes, ok)
		}
		ranked, ok := impl.RankIds(c.n)
		refused(t, c.name+": ranks", ranked, ok)
	}
}

func TestListsThatAreNoValues(t *testing.T) {
	for _, n := range []impl.Network{bare(1), pair(), sure(t)(impl.CycleNetwork(3)), full(40)} {
		nodes := len(n.Ends)
		lists := [][]int{nil, make([]int, nodes-1), make([]int, nodes+1), make([]int, 1000)}
		for _, x := range outside(-maxValue, maxValue) {
			for _, v := range []int{0, nodes / 2, nodes - 1} {
				list := make([]int, nodes)
				list[v] = x
				lists = append(lists, list)
			}
		}
		for _, list := range lists {
			for _, words := range []string{"0", "own", "round sum add"} {
				wantNoValues(t, fmt.Sprint("values ", list), programOf(t, words), n, list)
			}
		}
		for _, x := range []int{-maxValue, maxValue} {
			wantRun(t, programOf(t, "sum own add"), n, slices.Repeat([]int{x}, nodes), 2)
		}
	}
}

func TestNumbersThatAreNoRounds(t *testing.T) {
	path := sure(t)(impl.PathNetwork(4))
	start := []int{5, 3, 8, 1}
	for _, words := range []string{"0", "own", "least own min", "round"} {
		prog := programOf(t, words)
		for _, x := range outside(1, 2000) {
			next, ok := impl.StepValues(prog, path, x, start)
			refused(t, fmt.Sprint("round ", x), next, ok)
		}
		for _, x := range outside(0, 40) {
			run, ok := impl.RunValues(prog, path, start, x)
			refused(t, fmt.Sprint("a run of rounds ", x), run, ok)
		}
		for _, x := range outside(0, 2000) {
			after, ok := impl.ValuesAfter(prog, path, start, x)
			refused(t, fmt.Sprint("values after ", x), after, ok)
			k, ok := impl.RestRound(prog, path, start, x)
			refused(t, fmt.Sprint("rest up to ", x), k, ok)
		}
	}
}

func TestBallsThatThereAreNot(t *testing.T) {
	for _, n := range []impl.Network{bare(1), pair(), withIds(pair(), 3, 4), full(40)} {
		last := len(n.Ends) - 1
		for _, v := range outside(0, last) {
			for _, radius := range []int{0, 1, 40, v} {
				ball, nodes, ok := impl.KeepBall(n, v, radius)
				refused(t, fmt.Sprint("ball of ", v), ball, nodes, ok)
			}
		}
		for _, radius := range outside(0, 40) {
			ball, nodes, ok := impl.KeepBall(n, last, radius)
			refused(t, fmt.Sprint("radius ", radius), ball, nodes, ok)
		}
	}
	for _, n := range []impl.Network{bare(1), pair(), full(40), withIds(pair())} {
		ranked, ok := impl.RankIds(n)
		refused(t, "ranks without identifiers", ranked, ok)
	}
}
