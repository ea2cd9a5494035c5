package tests

import (
	"math/rand"
	"slices"
	"strings"
	"testing"

	"loop.example/g01084/impl"
)

// wantTableText fails the test unless the text is read as the table, or refused if there is none.
func wantTableText(t *testing.T, s string) bool {
	t.Helper()
	want, is := tableOfTextByHand(s)
	table, ok := impl.ParseTable(s)
	if !wantTable(t, table, ok, want, is, "reading", s) {
		return false
	}
	if again, ok := impl.TableText(table); again != s || !ok {
		t.Fatalf("%q is written as %q %v", s, again, ok)
	}
	return true
}

func TestTextsOfTables(t *testing.T) {
	tables := []impl.Table{}
	for depth := range 5 {
		tables = append(tables, impl.Table{Depth: depth}, tableWith(depth, 1), tableWith(depth, 10), tableWith(depth, 60))
	}
	r := rand.New(rand.NewSource(130))
	for k := range 1000 {
		tables = append(tables, randomTable(r, k%5, 1+k%40))
	}
	for k, n := range tableNetworks(t) {
		if table, ok := impl.TableOf(n, k%4, outputsBelow(r, n, k%4, 100)); ok {
			tables = append(tables, table)
		}
	}
	for _, table := range tables {
		want := tableTextByHand(table)
		if text, ok := impl.TableText(table); text != want || !ok {
			t.Fatalf("text of %v: %q %v, want %q", table, text, ok, want)
		}
		if !wantTableText(t, want) {
			t.Fatalf("%q is no text of a table", want)
		}
		read, ok := impl.ParseTable(want)
		wantTable(t, read, ok, table, true, want)
	}
}

func TestTextsOfTablesAreWrittenOut(t *testing.T) {
	for _, c := range []struct {
		table impl.Table
		text  string
	}{
		{impl.Table{}, "0\n"},
		{impl.Table{Depth: 4, Rows: []impl.Row{}}, "4\n"},
		{impl.Table{Rows: []impl.Row{{View: "1.0"}, {View: "2.0", Output: 1}}}, "0\n1.0 0\n2.0 1\n"},
		{impl.Table{Depth: 1, Rows: []impl.Row{{View: "0.9", Output: 99}, {View: "1.0(0:2.0)", Output: 10}}}, "1\n0.9 99\n1.0(0:2.0) 10\n"},
		{impl.Table{Depth: 3, Rows: []impl.Row{{View: "1.0(0:1.0(0:1.0(0:1.0)))", Output: 9}}}, "3\n1.0(0:1.0(0:1.0(0:1.0))) 9\n"},
	} {
		if text, ok := impl.TableText(c.table); text != c.text || !ok {
			t.Errorf("text of %v: %q %v, want %q", c.table, text, ok, c.text)
		}
		table, ok := impl.ParseTable(c.text)
		wantTable(t, table, ok, c.table, true, c.text)
	}
}

func TestTextsThatAreNoTables(t *testing.T) {
	right := "1\n0.9 99\n1.0(0:2.0) 10\n1.0(1:2.0) 0\n2.0(0:1.0,0:1.0) 7\n"
	if !wantTableText(t, right) {
		t.Fatal("no table:", right)
	}
	for _, s := range []string{
		"", "\n", "0", "4", " ", "x", "\x00", "\xff\n", "5\n", "-1\n", "+1\n", "00\n", "01\n", "10\n", "0 \n", " 0\n", "0\r\n", "0\n\n", "\n0\n", "0x\n", "x\n", "*\n", "9223372036854775808\n", "18446744073709551616\n", "0.0 0\n", "1.0 0\n2.0 1\n",
		strings.TrimSuffix(right, "\n"), right + "\n", right + " ", "\n" + right, " " + right, right + "x", right + "\x00", right + right, right[1:], right[2:],
		strings.ReplaceAll(right, "\n", "\r\n"), strings.ReplaceAll(right, "\n", "\n\n"), strings.ReplaceAll(right, "\n", " \n"), strings.ReplaceAll(right, "\n", "\n "), strings.ReplaceAll(right, "\n", " "), strings.ReplaceAll(right, "\n", ""),
		strings.ReplaceAll(right, " ", "  "), strings.ReplaceAll(right, " ", ""), strings.ReplaceAll(right, " ", "\t"), strings.ReplaceAll(right, " ", ": "), strings.ReplaceAll(right, " ", " +"), strings.ReplaceAll(right, " ", " 0"), strings.ReplaceAll(right, " ", " -"), strings.ReplaceAll(right, " 7", " 7 "), strings.ReplaceAll(right, ",", ", "), strings.ReplaceAll(right, "(", " ("),
		strings.ReplaceAll(right, "99", "100"), strings.ReplaceAll(right, "99", "-1"), strings.ReplaceAll(right, "99", "1000000"), strings.ReplaceAll(right, "99", "099"), strings.ReplaceAll(right, "99", ""), strings.ReplaceAll(right, " 99", ""), strings.ReplaceAll(right, "99", "x"), strings.ReplaceAll(right, "99", "9 9"), strings.ReplaceAll(right, "99", "9.9"), strings.ReplaceAll(right, "99", "9223372036854775807"),
		"0" + right[1:], "2" + right[1:], "4" + right[1:], "1.0" + right[1:],
		"1\n1.0(0:2.0) 10\n0.9 99\n", "1\n1.0(1:2.0) 0\n1.0(0:2.0) 10\n", "1\n0.9 99\n0.9 99\n", "1\n0.9 99\n0.9 98\n", "0\n2.0 1\n1.0 0\n", "0\n1.0 0\n1.0 0\n",
		"1\n1.0 5\n", "1\n1.0(0:1.0(0:1.0)) 5\n", "0\n1.0(0:1.0) 5\n", "0\n1.0() 5\n", "0\n0.0() 5\n", "0\n7.0 5\n", "0\n1.10 5\n", "0\n-1.0 5\n", "0\n1 5\n", "0\n 5\n", "0\n5\n", "0\n1.0\n", "0\n1.0 \n", "0\n1.0 5 \n", "0\n1.0 5 6\n", "0\n5 1.0\n", "0\n1.0,2.0 5\n",
	} {
		if wantTableText(t, s) {
			t.Errorf("%q is taken for a table", s)
		}
	}
	for _, s := range []string{"0\n", "1\n", "4\n", "3\n0.0 0\n", "0\n0.0 0\n1.0 0\n", "0\n1.0 99\n", "4\n" + chain(4) + " 10\n"} {
		if !wantTableText(t, s) {
			t.Errorf("%q is refused", s)
		}
	}
}

// TestRowsInAnyOrder puts the lines of a text in all orders.
func TestRowsInAnyOrder(t *testing.T) {
	count := 0
	lines := []string{"1\n", "0.0 5\n", "0.1 5\n", "1.0(0:1.0) 1\n", "1.0(0:2.0) 0\n"}
	for _, perm := range permutationsOf(len(lines)) {
		text := ""
		for _, k := range perm {
			text += lines[k]
		}
		if wantTableText(t, text) {
			count++
		}
		for _, line := range lines {
			wantTableText(t, strings.Replace(text, line, "", 1))
		}
	}
	if count != 1 {
		t.Errorf("%d orders of the lines are a table, want 1", count)
	}
}

// TestShortTextsOfTables puts pieces together in all ways.
func TestShortTextsOfTables(t *testing.T) {
	count := 0
	pieces := []string{"0", "1", "\n", " ", "0.0", "1.0", "(0:1.0)"}
	allLists(6, rising(len(pieces)), func(l []int) {
		text := ""
		for _, k := range l {
			text += pieces[k]
		}
		if wantTableText(t, text) {
			count++
		}
	})
	// There are two views for the depth 0 and one for the depth 1, with two outputs each.
	if count != 6 {
		t.Errorf("%d tables, want 6", count)
	}
}

func TestDisturbedTextsOfTables(t *testing.T) {
	r := rand.New(rand.NewSource(131))
	counts := map[bool]int{}
	for k := range 8000 {
		text := tableTextByHand(randomTable(r, k%3, 1+k%5))
		for range 1 + k%2 {
			text = disturbedLines(r, text, "01234567890123456789.:,() \n\n\t\r\x00-+")
			if text == "" {
				break
			}
		}
		counts[wantTableText(t, text)]++
	}
	if counts[true] < 500 || counts[false] < 500 {
		t.Error("texts that are tables or not:", counts)
	}
}

func TestAnyBytesAreNoTable(t *testing.T) {
	r := rand.New(rand.NewSource(132))
	for range 3000 {
		s := make([]byte, r.Intn(30))
		for i := range s {
			s[i] = byte(r.Intn(256))
		}
		wantTableText(t, string(s))
		wantTableText(t, "0\n"+string(s))
		wantTableText(t, "0\n1.0 "+string(s)+"\n")
	}
}

// TestLongTextsOfTables has texts with the longest views, and with far more rows and digits than a table can have.
func TestLongTextsOfTables(t *testing.T) {
	r := rand.New(rand.NewSource(133))
	for bytes := 3998; bytes <= 4002; bytes++ {
		text := "4\n" + longView(r, 4, bytes) + " 5\n"
		if is := wantTableText(t, text); is != (bytes <= 4000) {
			t.Errorf("a view of %d bytes: table %v", bytes, is)
		}
	}
	views := []string{}
	for range 60 {
		views = append(views, longView(r, 4, 4000))
	}
	text := "4\n"
	for _, view := range slices.Compact(slices.Sorted(slices.Values(views))) {
		text += view + " 99\n"
	}
	if !wantTableText(t, text) || len(text) < 200000 {
		t.Errorf("%d bytes of long views are no table", len(text))
	}
	all := tableTextByHand(tableWith(0, 60))
	if !wantTableText(t, all) {
		t.Error("60 rows are no table")
	}
	for _, s := range []string{
		tableTextByHand(tableWith(0, 61)), tableTextByHand(tableWith(0, 70)), strings.Repeat("0\n", 10000), "0\n" + strings.Repeat("1.0 5\n", 10000), strings.Repeat(all, 100), strings.Repeat("9", 10000) + "\n", "0\n1.0 " + strings.Repeat("9", 10000) + "\n", "0\n" + strings.Repeat("1.0(0:", 10000) + " 5\n", strings.Repeat(" ", 10000), strings.Repeat("\n", 10000), "0\n" + strings.Repeat("\n", 10000), "0\n" + strings.Repeat(" ", 10000) + "\n",
	} {
		if wantTableText(t, s) {
			t.Errorf("%.100q is taken for a table", s)
		}
	}
}
