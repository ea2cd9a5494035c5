package tests

import (
	"math/rand"
	"regexp"
	"slices"
	"strconv"
	"strings"
	"testing"

	"loop.example/g01084/impl"
)

var valueTextForm = regexp.MustCompile(`^[a-z0-9]+(?: [a-z0-9]+)*$`)

// programByHand reads a text word by word.
func programByHand(s string) ([]impl.ValueOp, bool) {
	if !valueTextForm.MatchString(s) || strings.HasSuffix(s, "\n") {
		return nil, false
	}
	prog := []impl.ValueOp{}
	for _, word := range strings.Fields(s) {
		if valueNeeds(word) < 0 {
			return nil, false
		}
		op := impl.ValueOp{Kind: max(1, slices.Index(valueWords, word))}
		op.Value, _ = strconv.Atoi(word)
		prog = append(prog, op)
	}
	return prog, isProgramByHand(prog)
}

// wantValueText compares a text with what is read by hand, and the text of what is read with the text.
func wantValueText(t *testing.T, s string) bool {
	t.Helper()
	prog, ok := impl.ParseValue(s)
	want, wantOk := programByHand(s)
	if !wantOk {
		refused(t, strconv.Quote(s), prog, ok)
		return false
	}
	if !ok || !slices.Equal(prog, want) {
		t.Fatalf("%q: program %v %v, want %v", s, prog, ok, want)
	}
	text, ok := impl.ValueText(prog)
	if !ok || text != s {
		t.Fatalf("%q: text %q %v", s, text, ok)
	}
	return true
}

func TestTextsOfKnownPrograms(t *testing.T) {
	for _, c := range []struct {
		text string
		prog []impl.ValueOp
	}{
		{"least own min", []impl.ValueOp{{Kind: impl.VpLeast}, {Kind: impl.VpOwn}, {Kind: impl.VpMin}}},
		{"id least less free own if", []impl.ValueOp{{Kind: impl.VpId}, {Kind: impl.VpLeast}, {Kind: impl.VpLess}, {Kind: impl.VpFree}, {Kind: impl.VpOwn}, {Kind: impl.VpIf}}},
		{"0", []impl.ValueOp{{Kind: impl.VpConst}}},
		{"7", []impl.ValueOp{{Kind: impl.VpConst, Value: 7}}},
		{"1000000", []impl.ValueOp{{Kind: impl.VpConst, Value: 1000000}}},
		{"999999 count", []impl.ValueOp{{Kind: impl.VpConst, Value: 999999}, {Kind: impl.VpCount}}},
		{"10 below", []impl.ValueOp{{Kind: impl.VpConst, Value: 10}, {Kind: impl.VpBelow}}},
		{"degree input add", []impl.ValueOp{{Kind: impl.VpDegree}, {Kind: impl.VpInput}, {Kind: impl.VpAdd}}},
		{"round greatest sub", []impl.ValueOp{{Kind: impl.VpRound}, {Kind: impl.VpGreatest}, {Kind: impl.VpSub}}},
		{"sum 1 max", []impl.ValueOp{{Kind: impl.VpSum}, {Kind: impl.VpConst, Value: 1}, {Kind: impl.VpMax}}},
		{"own free equal", []impl.ValueOp{{Kind: impl.VpOwn}, {Kind: impl.VpFree}, {Kind: impl.VpEqual}}},
	} {
		text, ok := impl.ValueText(c.prog)
		if !ok || text != c.text {
			t.Errorf("%v: text %q %v, want %q", c.prog, text, ok, c.text)
		}
		if prog, ok := impl.ParseValue(c.text); !ok || !slices.Equal(prog, c.prog) {
			t.Errorf("%q: program %v %v, want %v", c.text, prog, ok, c.prog)
		}
		if !wantValueText(t, c.text) {
			t.Errorf("%q: no program by hand", c.text)
		}
	}
}

func TestTextsThatAreNoPrograms(t *testing.T) {
	for _, s := range []string{
		"", " ", "\n", "own\n", " own", "own ", "\town", "own\t", "own\r", "own\r\n", "own  1 add", "own\t1 add", "own 1  add", "own 1 add ", "own\n1\nadd", "own,1,add", "own 1add",
		"00", "01", "007", "+1", "-1", "-0", "+0", "1.", "1.0", "1e3", "0x1", "1_0", " 1", "1000001", "01000000", "9999999", "9223372036854775807", "9223372036854775808", "-9223372036854775808", "18446744073709551616", "99999999999999999999999999",
		"Own", "OWN", "owns", "ow", "o", "const", "VpOwn", "value", "-", "*", "own own", "1 2", "add", "own add", "count", "if", "1 2 if", "1 2 3 4 if", "add 1 2", "1 add 2", "round input", "lesser", "1 2 3 add",
		"\xff", "\x00", "own\x00", "１", "٣", "own\u00a01 add", "ｏwn",
		strings.Repeat("own ", 41), strings.TrimSuffix(strings.Repeat("own ", 41), " "), "own" + strings.Repeat(" 1 add", 20), strings.Repeat(" ", 100000), strings.Repeat("1", 100000),
	} {
		if wantValueText(t, s) {
			t.Errorf("%q is read by hand", s)
		}
	}
}

func TestTextsOfForty(t *testing.T) {
	texts := []string{
		"own" + strings.Repeat(" 1 add", 19) + " count",
		strings.Repeat("1000000 ", 20) + strings.Repeat("equal ", 19) + "below",
		"free" + strings.Repeat(" 999999 greatest", 13) + strings.Repeat(" if", 13),
	}
	for _, s := range texts {
		if words := strings.Fields(s); len(words) != 40 || !wantValueText(t, s) {
			t.Errorf("%q: no program of forty operations", s)
		}
		if wantValueText(t, s+" count") {
			t.Errorf("%q is read with one more", s)
		}
	}
}

// TestTextsOfPrograms reads texts back, and texts in which something is changed.
func TestTextsOfPrograms(t *testing.T) {
	r := rand.New(rand.NewSource(119))
	read := 0
	for k := range 3000 {
		prog := randomProgram(r, 1+k%40)
		s := strings.Join(wordsByHand(prog), " ")
		text, ok := impl.ValueText(prog)
		if !ok || text != s || !wantValueText(t, s) {
			t.Fatalf("%v: text %q %v, want %q", prog, text, ok, s)
		}
		for range 4 {
			if wantValueText(t, disturbedProgram(r, s)) {
				read++
			}
		}
	}
	if read < 500 || read > 11000 {
		t.Error("changed texts that are read:", read)
	}
}

// disturbedProgram changes a word, or any byte.
func disturbedProgram(r *rand.Rand, s string) string {
	words := strings.Split(s, " ")
	k := r.Intn(len(words))
	switch r.Intn(4) {
	case 0:
		return disturbed(r, s)
	case 1:
		words[k] = wordByHand(randomOperation(r))
	case 2:
		words[k] = "0" + words[k]
	case 3:
		words[k] += []string{"0", " ", "\n", "s", " own", "\t", " 1 sub", " 0 add"}[r.Intn(8)]
	}
	return strings.Join(words, " ")
}

// TestAllShortTexts tries all texts over a few letters, and over a few words.
func TestAllShortTexts(t *testing.T) {
	read := 0
	textsOver("01 own+", 5, func(s string) {
		if wantValueText(t, s) {
			read++
		}
	})
	// The word own, 0, and the numbers of 1 to 5 digits, 1 first; no two of them make a program.
	if want := 1 + 1 + 1 + 2 + 4 + 8 + 16; read != want {
		t.Errorf("%d texts are read, want %d", read, want)
	}
	tokens := []string{"own", "2", "add", "count", "if", "less", " ", "  ", "\n", "-", "0", "Own"}
	for length := range 6 {
		allLists(length, rising(len(tokens)), func(l []int) {
			s := ""
			for _, k := range l {
				s += tokens[k]
			}
			wantValueText(t, s)
		})
	}
}
