package tests

import (
	"fmt"
	"math/rand"
	"regexp"
	"slices"
	"strings"
	"testing"

	"loop.example/g01084/impl"
)

// wantLabeling checks that a labeling has this text, and that the text has this labeling.
func wantLabeling(t *testing.T, l [][]int, text string) {
	t.Helper()
	if s, ok := impl.LabelingText(l); s != text || !ok {
		t.Errorf("text of %v: %q %v, want %q", l, s, ok, text)
	}
	if got, ok := impl.ParseLabeling(text); !same(got, l) || !ok {
		t.Errorf("labeling of %q: %v %v, want %v", text, got, ok, l)
	}
}

func TestTextsOfLabelings(t *testing.T) {
	wantLabeling(t, nil, "-")
	wantLabeling(t, [][]int{}, "-")
	wantLabeling(t, [][]int{nil}, "")
	wantLabeling(t, [][]int{{}}, "")
	wantLabeling(t, [][]int{nil, nil}, "|")
	wantLabeling(t, [][]int{{}, {}, {}}, "||")
	wantLabeling(t, [][]int{{1, 2}, nil}, "1,2|")
	wantLabeling(t, [][]int{nil, {1, 2}}, "|1,2")
	wantLabeling(t, [][]int{{3}, nil, nil, {4}}, "3|||4")
	wantLabeling(t, [][]int{{0}}, "0")
	wantLabeling(t, [][]int{{99}}, "99")
	wantLabeling(t, [][]int{{0, 0}}, "0,0")
	wantLabeling(t, [][]int{{10, 1, 9}, {2}}, "10,1,9|2")
	wantLabeling(t, [][]int{{1}, {2}, {3}}, "1|2|3")
	wantLabeling(t, [][]int{{1, 2, 3, 4, 5, 99}}, "1,2,3,4,5,99")
	wantLabeling(t, make([][]int, 40), strings.Repeat("|", 39))
	most := slices.Repeat([][]int{{99, 99, 99, 99, 99, 99}}, 40)
	wantLabeling(t, most, strings.Repeat("99,99,99,99,99,99|", 39)+"99,99,99,99,99,99")
}

func TestLabelingsAreReadBack(t *testing.T) {
	r := rand.New(rand.NewSource(49))
	for k := range 500 {
		l, lists := [][]int{}, []string{}
		for range 1 + k%40 {
			labels, words := []int{}, []string{}
			for range r.Intn(7) {
				labels = append(labels, r.Intn(100))
				words = append(words, fmt.Sprint(labels[len(labels)-1]))
			}
			l, lists = append(l, labels), append(lists, strings.Join(words, ","))
		}
		wantLabeling(t, l, strings.Join(lists, "|"))
	}
}

func TestListsThatAreNoLabelings(t *testing.T) {
	lists := [][][]int{make([][]int, 41), make([][]int, 42), make([][]int, 10000), {make([]int, 7)}, {{1}, make([]int, 7)}, {make([]int, 7), {1}}, {make([]int, 10000)}, slices.Repeat([][]int{{1}}, 41)}
	for _, x := range outside(0, 99) {
		lists = append(lists, [][]int{{x}}, [][]int{{0, x}}, [][]int{{x, 0}}, [][]int{{}, {x}}, [][]int{{x}, {}}, [][]int{{1, 2, 3, 4, 5, x}}, append(make([][]int, 39), []int{x}))
	}
	for _, l := range lists {
		s, ok := impl.LabelingText(l)
		refused(t, fmt.Sprint(len(l), " lists, from ", l[:min(2, len(l))]), s, ok)
	}
}

func TestTextsThatAreNoLabelings(t *testing.T) {
	texts := []string{"--", "-|", "|-", "-|-", " ", "- ", " -", "-\n", "\n", "x", ".", "#", ",", "1,", ",1", "1,,2", ",,", "1,|2", "1|,2", "1|2,", "|,", "1, 2", "1 ,2", " 1", "1 ", "1\n", "1| 2", "1 |2", "1||x", "1;2", "1.2", "1/2"}
	texts = append(texts, "100", "999", "1,100", "100,1", "1|100", "100|1", "00", "01", "09", "099", "000", "1,01", "01|1", "-1", "+1", "-0", "1,-1", "1|-1", "0x1", "1e1", "1_0", "999999", "1000000", "9223372036854775808", "1\x00", "\x00", "\xff", "\uff11", "\u0661", "1\t", "1\r")
	texts = append(texts, "1,2,3,4,5,6,7", "|1,2,3,4,5,6,7", "1,2,3,4,5,6,7|", "1,2,3,4,5,6,", "1,2,3,4,5,6,,", "1,2,3,4,5,6,7,8", "1,2,3,4,5,6,x", ",,,,,,", ",,,,,")
	texts = append(texts, strings.Repeat("|", 40), strings.Repeat("|", 41), strings.Repeat("|", 1000000), strings.Repeat("1|", 40), strings.Repeat("1|", 40)+"1", strings.Repeat("1,", 1000000), strings.Repeat("1", 1000000), strings.Repeat("-", 1000))
	for _, s := range texts {
		l, ok := impl.ParseLabeling(s)
		refused(t, fmt.Sprintf("labeling of %.40q", s), l, ok)
	}
}

func TestShortTextsOfLabelings(t *testing.T) {
	form := regexp.MustCompile(`^(-|(\d|[1-9]\d)?(,(\d|[1-9]\d))*(\|((\d|[1-9]\d)(,(\d|[1-9]\d))*)?)*)$`)
	count := 0
	textsOver("019,|-", 6, func(s string) {
		l, ok := impl.ParseLabeling(s)
		// The pattern has no way to say that a comma has a label before it.
		want := form.MatchString(s) && !strings.HasPrefix(s, ",")
		if ok != want {
			t.Fatalf("labeling of %q: %v %v", s, l, ok)
		}
		if !ok {
			refused(t, s, l, ok)
			return
		}
		count++
		if again, ok := impl.LabelingText(l); again != s || !ok {
			t.Fatalf("%q is written as %q %v", s, again, ok)
		}
	})
	if count < 1000 {
		t.Error("few texts of labelings", count)
	}
}
