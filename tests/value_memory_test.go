package tests

import (
	"math/rand"
	"reflect"
	"strings"
	"testing"

	"loop.example/g01084/impl"
)

// argumentsOfChapter11 returns programs, broken ones too, networks, values, numbers and texts.
func argumentsOfChapter11(t *testing.T) map[reflect.Type][]any {
	programs, networks, numbers, lists, texts := []any{}, []any{}, []any{}, []any{}, []any{}
	for _, words := range []string{"0", "1000000", "own 1 add", "least own min", "id least less free own if", "round sum add", "greatest count degree below add"} {
		programs = append(programs, programOf(t, words))
		texts = append(texts, words, words+" ", words+"\n", " "+words, strings.ToUpper(words), strings.ReplaceAll(words, " ", "  "), words+" own")
	}
	for k, prog := range brokenPrograms(t) {
		if k%101 == 0 && len(prog) < 100 {
			programs = append(programs, prog)
		}
	}
	for _, n := range []impl.Network{{}, bare(3), pair(), withIds(pair(), 999999, 1), withEnd(1, 0), full(1), sure(t)(impl.CycleNetwork(3)), withIds(sure(t)(impl.PathNetwork(4)), 30, 7, 900, 8)} {
		networks = append(networks, n)
	}
	for _, x := range []int{minInt, -1, 0, 1, 2, 40, 41, 300, 2001, maxInt} {
		numbers = append(numbers, x)
	}
	for _, l := range [][]int{nil, {}, {0}, {maxValue}, {maxValue + 1}, {0, 1}, {-maxValue, maxValue}, {minInt, maxInt}, {0, 1, 0}, {2, 0, 1}, {5, 3, 8, 1}, {0, 0, 0, 0, 0}, {1, 2, 3, 4, 5, 6}, make([]int, 41)} {
		lists = append(lists, l)
	}
	for _, s := range []string{"", " ", "\n", "-1", "+1", "01", "1000001", "9223372036854775808", "\xff\xfe", "\x00", strings.Repeat("own ", 1000), strings.Repeat(" ", 1000)} {
		texts = append(texts, s)
	}
	return map[reflect.Type][]any{
		reflect.TypeFor[[]impl.ValueOp](): programs,
		reflect.TypeFor[impl.Network]():   networks,
		reflect.TypeFor[int]():            numbers,
		reflect.TypeFor[[]int]():          lists,
		reflect.TypeFor[string]():         texts,
	}
}

func TestCallsOfChapter11KeepToTheirMemory(t *testing.T) {
	choices := argumentsOfChapter11(t)
	everyCall(t, "IsValueProgram", impl.IsValueProgram, choices)
	everyCall(t, "StepValues", impl.StepValues, choices)
	everyCall(t, "RunValues", impl.RunValues, choices)
	everyCall(t, "ValuesAfter", impl.ValuesAfter, choices)
	everyCall(t, "RestRound", impl.RestRound, choices)
	everyCall(t, "KeepBall", impl.KeepBall, choices)
	everyCall(t, "RankIds", impl.RankIds, choices)
	everyCall(t, "NeedsIds", impl.NeedsIds, choices)
	everyCall(t, "NeedsRound", impl.NeedsRound, choices)
	everyCall(t, "ValueText", impl.ValueText, choices)
	everyCall(t, "ParseValue", impl.ParseValue, choices)
	// As it takes four numbers, there are fewer ones to choose from.
	choices[reflect.TypeFor[int]()] = []any{minInt, 1, maxInt}
	choices[reflect.TypeFor[[]int]()] = []any{[]int(nil), []int{}, []int{0}, []int{minInt, maxInt}, []int{5, 3, 8, 1}, []int{1, 2, 3, 4, 5, 6}, []int{1, 2, 3, 4, 5, 6, 7}}
	everyCall(t, "EvalValue", impl.EvalValue, choices)
}

func TestValuesOfSampleNetworksKeepToTheirMemory(t *testing.T) {
	r := rand.New(rand.NewSource(120))
	for k, n := range valueNetworks(t) {
		if k%4 > 0 {
			continue
		}
		prog, start := randomProgram(r, 1+r.Intn(40)), someValues(r, len(n.Ends))
		s := someSight(r)
		last := len(n.Ends) - 1
		wantCleanCall(t, "IsValueProgram", impl.IsValueProgram, []any{prog})
		wantCleanCall(t, "EvalValue", impl.EvalValue, []any{prog, s.own, s.id, s.input, s.round, s.near})
		wantCleanCall(t, "StepValues", impl.StepValues, []any{prog, n, s.round, start})
		for _, rounds := range []int{0, 1, 5} {
			wantCleanCall(t, "RunValues", impl.RunValues, []any{prog, n, start, rounds})
			wantCleanCall(t, "ValuesAfter", impl.ValuesAfter, []any{prog, n, start, rounds})
			wantCleanCall(t, "RestRound", impl.RestRound, []any{prog, n, start, rounds})
			wantCleanCall(t, "KeepBall", impl.KeepBall, []any{n, last, rounds})
		}
		wantCleanCall(t, "RankIds", impl.RankIds, []any{n})
		wantCleanCall(t, "NeedsIds", impl.NeedsIds, []any{prog})
		wantCleanCall(t, "NeedsRound", impl.NeedsRound, []any{prog})
		wantCleanCall(t, "ValueText", impl.ValueText, []any{prog})
		wantCleanCall(t, "ParseValue", impl.ParseValue, []any{strings.Join(wordsByHand(prog), " ")})
	}
}
