package tests

import (
	"math"
	"slices"
	"strings"
	"testing"

	"loop.example/ordinalhydras/impl"
)

// treeTexts returns the texts of all hydras of so many numbers.
func treeTexts(size int) []string {
	if size == 1 {
		return []string{"()"}
	}
	var all []string
	// The first branch has so many numbers; what is left is a hydra, too, of the same root.
	for first := 1; first < size; first++ {
		for _, branch := range treeTexts(first) {
			for _, rest := range treeTexts(size - first) {
				all = append(all, "("+branch+rest[1:])
			}
		}
	}
	return all
}

// rowOfText returns the row of a text with a bracket pair for each number: how many pairs stand directly within it.
func rowOfText(text string) []int {
	var row, open []int
	for _, c := range text {
		if c == ')' {
			open = open[:len(open)-1]
			continue
		}
		if len(open) > 0 {
			row[open[len(open)-1]]++
		}
		open = append(open, len(row))
		row = append(row, 0)
	}
	return row
}

// smallHydras returns all hydras of at most most numbers.
func smallHydras(most int) [][]int {
	var all [][]int
	for size := 1; size <= most; size++ {
		for _, text := range treeTexts(size) {
			all = append(all, rowOfText(text))
		}
	}
	return all
}

// longHydras returns hydras with many numbers: wide ones, deep ones, and such as lie between them.
func longHydras() [][]int {
	var all [][]int
	for _, text := range []string{
		pairs(58), pairs(59), repeated("(())", 29), repeated("(())", 29) + "()", "()" + repeated("(())", 29), repeated("(()())", 19) + "()()",
		nested(28), nested(29), nested(30), nested(31), nested(58), nested(59), nested(29) + nested(30), nested(30) + nested(29), pairs(30) + nested(29), nested(29) + pairs(30), nested(20) + nested(10) + nested(29),
		"(" + pairs(57) + ")" + "()", "()" + "(" + pairs(57) + ")", "(" + nested(20) + nested(21) + ")" + nested(17), nested(17) + "(" + nested(20) + nested(21) + ")",
		stair(7), stair(8), stair(9), stair(10), "(" + stair(9) + ")" + "()", "(" + stair(9) + nested(12) + ")" + "(" + nested(8) + ")", "(()" + stair(5) + ")" + "(" + stair(5) + "()()" + "(()()))" + "()()((()))",
	} {
		all = append(all, rowOfText("("+text+")"))
	}
	return all
}

func repeated(text string, n int) string {
	return strings.Repeat(text, n)
}

func pairs(n int) string {
	return repeated("()", n)
}

// nested returns n brackets one in the other.
func nested(n int) string {
	return repeated("(", n) + repeated(")", n)
}

// stair returns branches that are deeper and deeper, of 1+2+..+n numbers.
func stair(n int) string {
	text := ""
	for i := range n {
		text += nested(i + 1)
	}
	return text
}

func badHydras() [][]int {
	return [][]int{
		nil,
		{},
		{1},
		{2},
		{-1},
		{math.MinInt},
		{math.MaxInt},
		{60},
		{61},
		{0, 0},
		{0, 1, 0},
		{1, 0, 0},
		{1, 1},
		{2, 0},
		{1, -1},
		{2, -1},
		{3, -1, 0},
		{2, 0, 0, 0},
		{2, -1, 1, 0},
		{1, -1, 1, 1},
		{-1, 2, 0},
		{-1, 0, 0},
		{math.MaxInt, 0, 0},
		{math.MaxInt, 1, math.MinInt, 0},
		// Their sums come round to those of hydras.
		{math.MaxInt, math.MaxInt, 4},
		{math.MaxInt/2 + 1, math.MaxInt/2 + 1, math.MaxInt/2 + 1, math.MaxInt/2 + 1, 4},
		rowOfText("(" + pairs(60) + ")"),
		rowOfText(nested(61)),
		make([]int, impl.MaxSize),
		make([]int, impl.MaxSize+1),
		append([]int{99999}, make([]int, 99999)...),
	}
}

func badCopies() []int {
	return []int{-1, 0, 10, 100, math.MinInt, math.MaxInt}
}

// innerTexts returns the texts of the branches of a hydra's text.
func innerTexts(text string) []string {
	var all []string
	open, begin := 0, 1
	for i, c := range text[1 : len(text)-1] {
		if c == '(' {
			open++
		} else {
			open--
		}
		if open == 0 {
			all = append(all, text[begin:i+2])
			begin = i + 2
		}
	}
	return all
}

// sortedText returns a text with the greater branches first.
// An opening bracket is less than a closing one as a byte, and where two sorted texts differ, the greater hydra has the opening one, as it has one branch more.
func sortedText(text string) string {
	inner := innerTexts(text)
	for i := range inner {
		inner[i] = sortedText(inner[i])
	}
	slices.Sort(inner)
	return "(" + strings.Join(inner, "") + ")"
}

// ordOfSortedText returns the row of the ordinal of a sorted text, however long.
func ordOfSortedText(text string) []int {
	row := []int{0}
	inner := innerTexts(text)
	for i := 0; i < len(inner); {
		times := 1
		for i+times < len(inner) && inner[i+times] == inner[i] {
			times++
		}
		row[0]++
		row = append(append(row, times), ordOfSortedText(inner[i])...)
		i += times
	}
	return row
}

// ordOfHydra returns the ordinal that HydraOrd must tell, or nil.
func ordOfHydra(h []int) []int {
	return fits(ordOfSortedText(sortedText(impl.HydraText(h))))
}

// cutText returns the text of a hydra with a head cut off, or "" if there is no such head.
func cutText(text string, head, copies int) string {
	if text == "()" {
		return ""
	}
	at := -1
	for ; head >= 0; head-- {
		next := strings.Index(text[at+1:], "()")
		if next < 0 {
			return ""
		}
		at += 1 + next
	}
	// The branch on which the head grows begins with the last bracket before it that is still open there.
	begin, open := at, 0
	for open < 1 {
		begin--
		if text[begin] == '(' {
			open++
		} else {
			open--
		}
	}
	text = text[:at] + text[at+2:]
	if begin == 0 {
		return text
	}
	end := begin
	for open = 0; open > 0 || end == begin; end++ {
		if text[end] == '(' {
			open++
		} else {
			open--
		}
	}
	return text[:begin] + repeated(text[begin:end], copies) + text[end:]
}

// hydra returns the hydra of a text.
func hydra(t *testing.T, text string) []int {
	t.Helper()
	h, ok := impl.ReadHydra(text)
	if !ok || !impl.HydraValid(h) {
		t.Fatalf("ReadHydra(%q) is %v, %t", text, h, ok)
	}
	return h
}

func TestHydraConstants(t *testing.T) {
	if impl.MaxCopies != 9 || impl.MaxCuts != 400 {
		t.Error(impl.MaxCopies, impl.MaxCuts)
	}
}

func TestHydraValidOfAllShortRows(t *testing.T) {
	const most = 7
	valid := map[string]bool{}
	for _, h := range smallHydras(most) {
		valid[string(bytesOf(h))] = true
	}
	if len(valid) != 1+1+2+5+14+42+132 {
		t.Fatal(len(valid))
	}
	textsOf("\x00\x01\x02\x03\x04\x05\x06", most, func(text string) {
		row := make([]int, len(text))
		for i := range row {
			row[i] = int(text[i])
		}
		if ok := impl.HydraValid(row); ok != valid[text] {
			t.Fatalf("HydraValid(%v) is %t", row, ok)
		}
	})
}

func TestHydraValidOfLongRows(t *testing.T) {
	for _, h := range longHydras() {
		if ok := impl.HydraValid(h); ok != (len(h) <= impl.MaxSize) {
			t.Errorf("HydraValid(%v) is %t", h, ok)
		}
	}
	for _, h := range badHydras() {
		if impl.HydraValid(h) {
			t.Errorf("HydraValid(%v) is true", h)
		}
	}
}

// allHydras returns small and long valid hydras.
func allHydras(t *testing.T, most int) [][]int {
	t.Helper()
	all := smallHydras(most)
	for _, h := range longHydras() {
		if len(h) <= impl.MaxSize {
			all = append(all, h)
		}
	}
	if len(all) < 20 || !slices.ContainsFunc(all, func(h []int) bool { return len(h) == impl.MaxSize }) {
		t.Fatal("there are too few hydras")
	}
	return all
}

func TestP59HydrasCanBeBranches(t *testing.T) {
	for _, h := range allHydras(t, 8) {
		if !impl.HydraValid(h) {
			t.Fatalf("HydraValid(%v) is false", h)
		}
		rooted := append([]int{1}, h...)
		if ok := impl.HydraValid(rooted); ok != (len(rooted) <= impl.MaxSize) {
			t.Fatalf("HydraValid(%v) is %t", rooted, ok)
		}
		for _, n := range []int{0, 1, 2, -1, math.MaxInt, math.MinInt} {
			if more := append(slices.Clone(h), n); impl.HydraValid(more) {
				t.Fatalf("HydraValid(%v) is true", more)
			}
		}
	}
}

func TestP60OnlyTheDeadHaveNoHeads(t *testing.T) {
	for _, h := range allHydras(t, 8) {
		text := impl.HydraText(h)
		want := strings.Count(text, "()")
		if text == "()" {
			want = 0
		}
		heads := impl.HydraHeads(h)
		if heads != want || (heads == 0) != slices.Equal(h, []int{0}) {
			t.Fatalf("HydraHeads(%v) is %d, not %d", h, heads, want)
		}
	}
}

func TestHydraCutOfText(t *testing.T) {
	for _, x := range []struct {
		text         string
		head, copies int
		cut          string
	}{
		{"()", 0, 1, ""}, {"()", 0, 9, ""}, {"()", -1, 1, ""}, {"()", 1, 1, ""},
		// Heads at the root are gone, whatever stands beside them.
		{"(())", 0, 1, "()"}, {"(())", 0, 9, "()"}, {"(())", 1, 9, ""}, {"(()()())", 0, 3, "(()())"}, {"(()()())", 2, 3, "(()())"}, {"(()()())", 3, 3, ""},
		{"(()(()))", 0, 5, "((()))"}, {"(()(()))", 1, 5, "(()()()()()())"}, {"((())())", 0, 2, "(()()())"}, {"((())())", 1, 2, "((()))"},
		{"((()))", 0, 1, "(())"}, {"((()))", 0, 2, "(()())"}, {"((()))", 0, 9, "(()()()()()()()()())"},
		{"((()()))", 0, 1, "((()))"}, {"((()()))", 0, 3, "((())(())(()))"}, {"((()()))", 1, 3, "((())(())(()))"}, {"((()()))", 2, 3, ""},
		{"(((())()))", 0, 3, "((()()()()))"}, {"(((())()))", 1, 3, "(((()))((()))((())))"}, {"((()(())))", 0, 2, "(((()))((())))"}, {"((()(())))", 1, 2, "((()()()))"},
		{"((()((())())())())", 0, 2, "((((())())())(((())())())())"}, {"((()((())())())())", 1, 2, "((()(()()())())())"}, {"((()((())())())())", 2, 2, "((()((()))((()))())())"},
		{"((()((())())())())", 3, 2, "((()((())()))(()((())()))())"}, {"((()((())())())())", 4, 2, "((()((())())()))"}, {"((()((())())())())", 5, 2, ""},
	} {
		h, ok := impl.HydraCut(hydra(t, x.text), x.head, x.copies)
		if ok != (x.cut != "") || impl.HydraText(h) != x.cut || !ok && h != nil {
			t.Errorf("HydraCut of %s, %d, %d is %v, %s, %t, not %s", x.text, x.head, x.copies, h, impl.HydraText(h), ok, x.cut)
		}
	}
}

func TestHydraCutIsAChangeOfTheText(t *testing.T) {
	grown, tooLong := 0, 0
	for _, h := range allHydras(t, 8) {
		text := impl.HydraText(h)
		heads := impl.HydraHeads(h)
		for head := range heads + 2 {
			for copies := 1; copies <= impl.MaxCopies; copies++ {
				want := cutText(text, head, copies)
				if (want == "") != (head >= heads) {
					t.Fatalf("the text %s has not %d heads", text, heads)
				}
				x, ok := impl.HydraCut(h, head, copies)
				if len(want) > 2*impl.MaxSize {
					tooLong++
					want = ""
				} else if want != "" {
					grown++
				}
				if ok != (want != "") || impl.HydraText(x) != want || !ok && x != nil {
					t.Fatalf("HydraCut(%v, %d, %d) is %v, %t, not of the text %s", h, head, copies, x, ok, want)
				}
			}
		}
	}
	if grown < 1000 || tooLong < 100 {
		t.Errorf("%d hydras were told, and %d were too long", grown, tooLong)
	}
}

func TestHydraCutAtTheBounds(t *testing.T) {
	for _, x := range []struct {
		text         string
		head, copies int
		size         int
	}{
		// One branch of 1+b numbers without its head, c times, beside others.
		{"(" + "(" + pairs(58) + ")" + ")", 0, 1, 59},
		{"(" + "(" + pairs(58) + ")" + ")", 57, 1, 59},
		{"(" + "(" + pairs(58) + ")" + ")", 0, 2, 0},
		{"(" + "(" + pairs(29) + ")" + "()" + ")", 0, 2, 60},
		{"(" + "(" + pairs(29) + ")" + ")", 0, 2, 59},
		{"(" + "(" + pairs(29) + ")" + "()" + ")", 28, 2, 60},
		{"(" + "(" + pairs(29) + ")" + "()" + ")", 28, 3, 0},
		{"(" + "(" + pairs(29) + ")" + "()" + ")", 29, 9, 31},
		{"(" + "(" + pairs(28) + ")" + "()()()" + ")", 0, 2, 60},
		{"(" + "(" + pairs(28) + ")" + "()()()()" + ")", 0, 2, 0},
		{"(" + "(())" + pairs(50) + ")", 0, 9, 60},
		{"(" + "(())" + pairs(51) + ")", 0, 9, 0},
		{"(" + "(())" + pairs(51) + ")", 0, 8, 60},
		{"(" + "(())" + pairs(51) + ")", 1, 9, 53},
		{"(" + pairs(59) + ")", 0, 9, 59},
		{"(" + pairs(59) + ")", 58, 9, 59},
		{nested(60), 0, 1, 59},
		{nested(60), 0, 2, 60},
		{nested(60), 0, 3, 0},
		{nested(60), 0, 9, 0},
		{nested(53), 0, 9, 60},
		{nested(54), 0, 9, 0},
	} {
		h, ok := impl.HydraCut(hydra(t, x.text), x.head, x.copies)
		if ok != (x.size > 0) || len(h) != x.size || ok && !impl.HydraValid(h) {
			t.Errorf("HydraCut of %s, %d, %d is %v, %t, not of %d numbers", x.text, x.head, x.copies, h, ok, x.size)
		}
	}
}

func TestP16EveryCutMakesTheOrdinalLess(t *testing.T) {
	compared := 0
	for _, h := range allHydras(t, 8) {
		before, told := impl.HydraOrd(h)
		for head := range impl.HydraHeads(h) {
			for copies := 1; copies <= impl.MaxCopies; copies++ {
				x, ok := impl.HydraCut(h, head, copies)
				if copies == 1 && (!ok || len(x) != len(h)-1) {
					t.Fatalf("HydraCut(%v, %d, 1) is %v, %t", h, head, x, ok)
				}
				if !ok {
					continue
				}
				o, fits := impl.HydraOrd(x)
				if !told || !fits {
					continue
				}
				compared++
				if impl.OrdCompare(o, before) != -1 {
					t.Fatalf("HydraCut(%v, %d, %d) is %v, of the ordinal %s, not less than %s", h, head, copies, x, impl.OrdText(o), impl.OrdText(before))
				}
			}
		}
	}
	if compared < 1000 {
		t.Errorf("only %d ordinals were compared", compared)
	}
}

func TestHydraOrdOfText(t *testing.T) {
	for _, x := range []struct{ text, ord string }{
		{"()", "0"}, {"(())", "1"}, {"(()())", "2"}, {"(" + pairs(59) + ")", "59"}, {"((()))", "w"}, {"((())())", "w+1"}, {"(()(()))", "w+1"}, {"(()(())()(())())", "w*2+3"},
		{"((()()))", "w^2"}, {"(((())()))", "w^(w+1)"}, {"((()(())))", "w^(w+1)"}, {"(((())))", "w^w"}, {"((((()))))", "w^(w^w)"}, {"(((()()))((()))(()))", "w^(w^2)+w^w+w"}, {"((())((()))((()()))())", "w^(w^2)+w^w+w+1"},
		{"((()(())())((())()())(()()(())))", "w^(w+2)*3"}, {"(" + repeated("(())", 29) + ")", "w*29"}, {"((" + pairs(58) + "))", "w^58"},
	} {
		if o, ok := impl.HydraOrd(hydra(t, x.text)); !ok || impl.OrdText(o) != x.ord {
			t.Errorf("HydraOrd of %s is %s, %t, not %s", x.text, impl.OrdText(o), ok, x.ord)
		}
	}
	for size := 1; size <= impl.MaxSize; size++ {
		var want []int
		if size <= 30 {
			want = tower(size - 1)
		}
		if o, ok := impl.HydraOrd(rowOfText(nested(size))); ok != (want != nil) || !slices.Equal(o, want) || !ok && o != nil {
			t.Errorf("HydraOrd of %d numbers one on the other is %v, %t", size, o, ok)
		}
	}
}

func TestHydraOrdIsThatOfTheSortedText(t *testing.T) {
	short, long := 0, 0
	for _, h := range append(allHydras(t, 8), grownHydras(t)...) {
		want := ordOfHydra(h)
		if o, ok := impl.HydraOrd(h); ok != (want != nil) || !slices.Equal(o, want) || !ok && o != nil {
			t.Fatalf("HydraOrd(%v) is %v, %t, not %v", h, o, ok, want)
		}
		if want == nil {
			long++
		} else {
			short++
		}
	}
	if short < 600 || long < 8 {
		t.Errorf("%d ordinals were told, and %d were too long", short, long)
	}
}

// grownHydras returns what hydras become in fights with changing heads and numbers of branches.
func grownHydras(t *testing.T) [][]int {
	t.Helper()
	var all [][]int
	n := 1
	for _, text := range []string{"(((())((())())()))", "((((((()))))))", "((()()())(()((())()))((())()()))", "((((()())())())())", nested(26)} {
		h := hydra(t, text)
		for range 120 {
			heads := impl.HydraHeads(h)
			if heads == 0 {
				break
			}
			n = n * 48271 % math.MaxInt32
			if x, ok := impl.HydraCut(h, n%heads, n/heads%3+1); ok {
				h = x
				all = append(all, h)
			}
		}
	}
	if len(all) < 100 {
		t.Fatalf("there are only %d hydras", len(all))
	}
	return all
}

func TestHydraOfText(t *testing.T) {
	for _, x := range []struct{ ord, text string }{
		{"0", "()"}, {"1", "(())"}, {"3", "(()()())"}, {"w", "((()))"}, {"w+1", "((())())"}, {"w*2+3", "((())(())()()())"}, {"w^2", "((()()))"}, {"w^2+w+1", "((()())(())())"},
		{"w^w", "(((())))"}, {"w^(w+1)", "(((())()))"}, {"w^(w+1)*2+w^w+5", "(((())())((())())((()))()()()()())"}, {"w^(w^w*2+w^3)", "((((()))((()))(()()())))"},
		{"59", "(" + pairs(59) + ")"}, {"60", ""}, {"9999", ""}, {"w*29", "(" + repeated("(())", 29) + ")"}, {"w*29+1", "(" + repeated("(())", 29) + "())"}, {"w*29+2", ""}, {"w*30", ""}, {"w*9999+9999", ""},
		{"w^58", "((" + pairs(58) + "))"}, {"w^58+1", ""}, {"w^59", ""}, {"w^9999", ""}, {"w^28*2+1", "(" + repeated("("+pairs(28)+")", 2) + "())"}, {"w^28*2+2", ""}, {"w^29*2", ""},
		{"w^(w^57)", "(((" + pairs(57) + ")))"}, {"w^(w^58)", ""}, {"w^(w*29)", "((" + repeated("(())", 29) + "))"}, {"w^(w*29)+1", ""}, {"w^(w*30)", ""}, {"w^(w*9999)*9999", ""}, {"w^(w^9999*9999)*9999+w^9999*9999+9999", ""},
	} {
		h, ok := impl.HydraOf(read(t, x.ord))
		if ok != (x.text != "") || impl.HydraText(h) != x.text || !ok && h != nil {
			t.Errorf("HydraOf of %s is %v, %s, %t, not %s", x.ord, h, impl.HydraText(h), ok, x.text)
		}
	}
}

func TestHydraOfGrowsTooMuch(t *testing.T) {
	// So many branches of branches of branches that no number tells how many.
	huge := append(slices.Repeat([]int{1, impl.MaxTimes}, 29), 0)
	// They would come to 2^60, and more, and to sums whose lower bits are all 0.
	twice := append(slices.Repeat([]int{1, 2}, 29), 0)
	lowBits := append(slices.Repeat([]int{1, 8192}, 29), 0)
	for _, o := range [][]int{huge, twice, lowBits, longSum(14)} {
		if h, ok := impl.HydraOf(o); !impl.OrdValid(o) || ok || h != nil {
			t.Errorf("HydraOf(%v) is %v, %t", o, h, ok)
		}
	}
	if h, ok := impl.HydraOf(tower(29)); !ok || impl.HydraText(h) != nested(30) {
		t.Errorf("HydraOf of a tower is %v, %t", h, ok)
	}
	// 1+2+..+(n+1) numbers, and the root.
	for n := 1; n <= 14; n++ {
		h, ok := impl.HydraOf(longSum(n))
		size := (n+1)*(n+2)/2 - 1 + 1
		if ok != (size <= impl.MaxSize) || ok && len(h) != size {
			t.Errorf("HydraOf(%v) is %v, %t, not of %d numbers", longSum(n), h, ok, size)
		}
	}
}

func TestP17HydrasWithTheSameOrdinalAreTheSame(t *testing.T) {
	for _, h := range append(allHydras(t, 8), grownHydras(t)...) {
		o, ok := impl.HydraOrd(h)
		if !ok {
			continue
		}
		// It has as many numbers, and so it fits.
		x, ok := impl.HydraOf(o)
		if !ok || len(x) != len(h) || !impl.HydraSame(x, h) {
			t.Fatalf("HydraOf(%v) is %v, %t, not the same as %v", o, x, ok, h)
		}
	}
	fitting := 0
	for _, o := range append(smallOrds(11, 3), wideOrds(t)...) {
		h, ok := impl.HydraOf(o)
		if !ok {
			continue
		}
		fitting++
		if x, ok := impl.HydraOrd(h); !impl.HydraValid(h) || !ok || !slices.Equal(x, o) {
			t.Fatalf("HydraOf(%v) is %v, of the ordinal %v, %t", o, h, x, ok)
		}
		if x := impl.HydraSort(h); !slices.Equal(x, h) {
			t.Fatalf("HydraOf(%v) is %v, not sorted", o, h)
		}
	}
	if fitting < 1000 {
		t.Errorf("only %d ordinals had hydras", fitting)
	}
}

func TestP18CuttingTheLastHeadIsAStepDown(t *testing.T) {
	cuts := 0
	for _, o := range append(smallOrds(11, 2), wideOrds(t)...) {
		h, ok := impl.HydraOf(o)
		if !ok || len(h) == 1 {
			continue
		}
		for copies := 1; copies <= impl.MaxCopies; copies++ {
			x, ok := impl.HydraCut(h, impl.HydraHeads(h)-1, copies)
			if !ok {
				continue
			}
			y, told := impl.HydraOrd(x)
			stepped, fits := impl.OrdStep(o, copies)
			if !told || !fits {
				continue
			}
			cuts++
			if !slices.Equal(y, stepped) {
				t.Fatalf("the last head of %v cut off leaves %v, of the ordinal %v, not %v", h, x, y, stepped)
			}
		}
	}
	if cuts < 1000 {
		t.Errorf("only %d heads were cut", cuts)
	}
}

func TestHydraSortOfText(t *testing.T) {
	for _, x := range []struct{ text, sorted string }{
		{"()", "()"}, {"(())", "(())"}, {"(()(()))", "((())())"}, {"((())())", "((())())"}, {"(()(())()(()()))", "((()())(())()())"},
		// Deeper ones are greater, however many numbers others have.
		{"((()()()())((())))", "(((()))(()()()()))"}, {"((()())(()()())())", "((()()())(()())())"},
		// Branches of branches are in order, too, and they decide when they are.
		{"((()(())))", "(((())()))"}, {"(((()))(()(())))", "(((())())((())))"}, {"((()((())()))(((())()())))", "((((())()()))(((())())()))"},
		{"(()(()((())(()()))))", "((((()())(()))())())"},
	} {
		if h := impl.HydraSort(hydra(t, x.text)); impl.HydraText(h) != x.sorted {
			t.Errorf("HydraSort of %s is %s, not %s", x.text, impl.HydraText(h), x.sorted)
		}
	}
}

func TestP61SortedHydrasAreTheSameHydras(t *testing.T) {
	longer := 0
	for _, h := range append(allHydras(t, 9), grownHydras(t)...) {
		sorted := impl.HydraSort(h)
		if !impl.HydraValid(sorted) || len(sorted) != len(h) || impl.HydraText(sorted) != sortedText(impl.HydraText(h)) {
			t.Fatalf("HydraSort(%v) is %v", h, sorted)
		}
		if again := impl.HydraSort(sorted); !slices.Equal(again, sorted) {
			t.Fatalf("HydraSort(%v) is %v, and sorted again %v", h, sorted, again)
		}
		before, ok := impl.HydraOrd(h)
		if o, same := impl.HydraOrd(sorted); ok != same || !slices.Equal(o, before) {
			t.Fatalf("HydraSort(%v) is %v, of the ordinal %v, not %v", h, sorted, o, before)
		}
		if !ok {
			longer++
		}
	}
	if longer < 8 {
		t.Errorf("only %d hydras had ordinals that are too long", longer)
	}
}

func TestP19TheSameHydrasHaveTheSameOrdinals(t *testing.T) {
	all := append(smallHydras(7), longHydras()...)
	same := 0
	for _, a := range all {
		x, okA := impl.HydraOrd(a)
		for _, b := range all {
			y, okB := impl.HydraOrd(b)
			is := impl.HydraSame(a, b)
			if okA && okB && is != slices.Equal(x, y) {
				t.Fatalf("HydraSame(%v, %v) is %t, and the ordinals are %v and %v", a, b, is, x, y)
			}
			if is && !slices.Equal(a, b) {
				same++
			}
		}
	}
	if same < 100 {
		t.Errorf("only %d pairs of hydras that differ were the same", same)
	}
}

func TestHydraSameOfText(t *testing.T) {
	for _, x := range []struct {
		a, b string
		same bool
	}{
		{"()", "()", true}, {"()", "(())", false}, {"(()(()))", "((())())", true}, {"(()(()))", "(()(()()))", false}, {"((()()))", "((())())", false},
		{"((()(()))())", "(()((())()))", true}, {"((()(()))())", "(()(())(()))", false}, {"((())(()(())))", "((()(()))(()))", true},
		// Their ordinals are too long to be told.
		{nested(60), nested(60), true}, {nested(60), nested(59), false},
		{"(" + nested(29) + nested(30) + ")", "(" + nested(30) + nested(29) + ")", true}, {"(" + nested(29) + nested(30) + ")", "(" + nested(31) + nested(28) + ")", false},
		{"((" + nested(29) + nested(28) + ")())", "(()(" + nested(28) + nested(29) + "))", true}, {"((" + nested(29) + nested(28) + ")())", "(()(" + nested(27) + nested(30) + "))", false},
	} {
		if same := impl.HydraSame(hydra(t, x.a), hydra(t, x.b)); same != x.same {
			t.Errorf("HydraSame of %s and %s is %t", x.a, x.b, same)
		}
	}
}

// lastHeads returns the numbers of the heads that are cut if so many times the last one is.
func lastHeads(t *testing.T, h []int, copies, cuts int) []int {
	t.Helper()
	var heads []int
	for range cuts {
		heads = append(heads, impl.HydraHeads(h)-1)
		x, ok := impl.HydraCut(h, heads[len(heads)-1], copies)
		if !ok {
			t.Fatalf("HydraCut(%v, %d, %d) is told nothing", h, heads[len(heads)-1], copies)
		}
		h = x
	}
	return heads
}

func TestHydraRunOfText(t *testing.T) {
	for _, x := range []struct {
		text   string
		heads  []int
		copies int
		left   string
	}{
		{"()", nil, 1, "()"}, {"()", []int{}, 9, "()"}, {"()", []int{0}, 1, ""}, {"(()(()))", nil, 3, "(()(()))"},
		{"((()))", []int{0, 1, 0}, 2, "()"}, {"((()))", []int{0, 1, 0, 0}, 2, ""}, {"((()))", []int{0, 2}, 2, ""}, {"((()))", []int{-1}, 2, ""}, {"((()))", []int{0, -1}, 2, ""},
		{"(((())()))", []int{1, 2}, 3, "(((()))((()))(()()()))"}, {"(((())()))", []int{1, 2, 2, 1}, 3, "(((()))(()()())(()())(()())(()()))"}, {"(()(()))", []int{1, 0, 0}, 3, "(()())"},
		{"(((())()))", []int{0, 0, 0, 0}, 2, "(()()(())(()()))"}, {"((()()))", []int{0, 0, 2}, 2, "(()()()())"}, {"((()()))", []int{1, 0, 9}, 1, ""},
	} {
		h, ok := impl.HydraRun(hydra(t, x.text), x.heads, x.copies)
		if ok != (x.left != "") || impl.HydraText(h) != x.left || !ok && h != nil {
			t.Errorf("HydraRun of %s, %v, %d is %v, %s, %t, not %s", x.text, x.heads, x.copies, h, impl.HydraText(h), ok, x.left)
		}
	}
}

// textAfter returns a text after heads are cut off, or "" if one of them cannot be.
func textAfter(text string, heads []int, copies int) string {
	for _, head := range heads {
		if head < 0 || text == "" {
			return ""
		}
		text = cutText(text, head, copies)
		if len(text) > 2*impl.MaxSize {
			return ""
		}
	}
	return text
}

// longFight returns a hydra that 400 cuts kill, if 9 branches stand in place of one: 91 for w^2, 10 for w.
func longFight(t *testing.T) []int {
	t.Helper()
	h, ok := impl.HydraOf(read(t, "w^2*4+w*3+6"))
	if !ok {
		t.Fatal("there is no such hydra")
	}
	return h
}

func TestHydraRunAtTheBounds(t *testing.T) {
	h := longFight(t)
	more := slices.Concat([]int{h[0] + 1}, h[1:], []int{0})
	heads := lastHeads(t, h, 9, 400)
	moreHeads := lastHeads(t, more, 9, 401)
	if x, ok := impl.HydraRun(h, heads, 9); !ok || !slices.Equal(x, []int{0}) {
		t.Error(x, ok)
	}
	if x, ok := impl.HydraRun(h, heads[:399], 9); !ok || !slices.Equal(x, []int{1, 0}) {
		t.Error(x, ok)
	}
	if x, ok := impl.HydraRun(more, moreHeads[:400], 9); !ok || !slices.Equal(x, []int{1, 0}) {
		t.Error(x, ok)
	}
	// All of these cuts can be made, but there are too many.
	if x, ok := impl.HydraRun(more, moreHeads, 9); ok || x != nil {
		t.Error(x, ok)
	}
	if x, ok := impl.HydraRun(h, make([]int, 100000), 9); ok || x != nil {
		t.Error(x, ok)
	}
	wide := rowOfText("((())" + pairs(51) + ")")
	for copies, ok := range map[int]bool{1: true, 8: true, 9: false} {
		if x, told := impl.HydraRun(wide, []int{0, 0}, copies); told != ok || !ok && x != nil {
			t.Errorf("HydraRun of a wide hydra with %d branches is %v, %t", copies, x, told)
		}
	}
	// It would fit again behind the second cut, but not behind the first one.
	if x, ok := impl.HydraRun(wide, []int{0, 1}, 9); ok || x != nil {
		t.Error(x, ok)
	}
	if x, ok := impl.HydraRun(wide, []int{1, 0}, 9); !ok || len(x) != impl.MaxSize {
		t.Error(x, ok)
	}
}

func TestP62EachCutIsANumberLess(t *testing.T) {
	for _, h := range append(allHydras(t, 7), grownHydras(t)...) {
		now, heads := h, []int(nil)
		for impl.HydraHeads(now) > 0 {
			heads = append(heads, (len(heads)*7+len(h))%impl.HydraHeads(now))
			x, ok := impl.HydraRun(h, heads, 1)
			if !ok || len(x) != len(h)-len(heads) {
				t.Fatalf("HydraRun(%v, %v, 1) is %v, %t", h, heads, x, ok)
			}
			now = x
		}
		if len(heads) != len(h)-1 {
			t.Fatalf("%d cuts kill %v", len(heads), h)
		}
	}
}

func TestP62InTwoPartsItIsTheSame(t *testing.T) {
	ended := map[bool]int{}
	for i, h := range append(allHydras(t, 6), grownHydras(t)...) {
		for copies := 1; copies <= 4; copies++ {
			heads := make([]int, 6)
			for k := range heads {
				heads[k] = (i*5 + k*k*3 + copies) % (impl.HydraHeads(h) + 2)
			}
			want := textAfter(impl.HydraText(h), heads, copies)
			whole, ok := impl.HydraRun(h, heads, copies)
			if ok != (want != "") || impl.HydraText(whole) != want || !ok && whole != nil {
				t.Fatalf("HydraRun(%v, %v, %d) is %v, %t, not of the text %s", h, heads, copies, whole, ok, want)
			}
			ended[ok]++
			for k := range heads {
				first, okFirst := impl.HydraRun(h, heads[:k], copies)
				x, okBoth := impl.HydraRun(first, heads[k:], copies)
				if okBoth != ok || !slices.Equal(x, whole) || okBoth && !okFirst {
					t.Fatalf("HydraRun(%v, %v, %d) is %v, %t, and in two parts %v, %t", h, heads, copies, whole, ok, x, okBoth)
				}
			}
		}
	}
	if ended[true] < 100 || ended[false] < 100 {
		t.Error(ended)
	}
}

func TestHydraFightOfText(t *testing.T) {
	for _, x := range []struct {
		text         string
		copies, cuts int
	}{
		{"()", 1, 0}, {"()", 9, 0}, {"(())", 1, 1}, {"(())", 9, 1}, {"(()())", 5, 2}, {"((()))", 1, 2}, {"((()))", 3, 4}, {"((()))", 9, 10}, {"(" + pairs(59) + ")", 9, 59},
		{"((()()))", 2, 7}, {"((()()))", 9, 91}, {"(((())()))", 2, 17}, {"(((())))", 2, 8}, {"(((())))", 3, 41}, {"(((())))", 4, 342}, {"(((())))", 5, -1}, {"((()())(())())", 1, 6}, {nested(60), 1, 59}, {nested(60), 2, -1}, {nested(60), 9, -1},
		// Not sorted: the last head stands elsewhere.
		{"(()((()))())", 2, 10}, {"((()(())))", 2, 16},
	} {
		if cuts := impl.HydraFight(hydra(t, x.text), x.copies); cuts != x.cuts {
			t.Errorf("HydraFight of %s, %d is %d, not %d", x.text, x.copies, cuts, x.cuts)
		}
	}
}

// fight counts the cuts that kill the hydra of a text.
func fight(text string, copies int) int {
	cuts := 0
	for ; text != "()"; cuts++ {
		text = cutText(text, strings.Count(text, "()")-1, copies)
		if cuts == impl.MaxCuts || len(text) > 2*impl.MaxSize {
			return -1
		}
	}
	return cuts
}

func TestHydraFightsAreCountedOneByOne(t *testing.T) {
	ended := map[bool]int{}
	for _, h := range append(allHydras(t, 7), grownHydras(t)...) {
		for copies := 1; copies <= impl.MaxCopies; copies++ {
			want := fight(impl.HydraText(h), copies)
			if cuts := impl.HydraFight(h, copies); cuts != want {
				t.Fatalf("HydraFight(%v, %d) is %d, not %d", h, copies, cuts, want)
			}
			ended[want >= 0]++
		}
	}
	if ended[true] < 100 || ended[false] < 100 {
		t.Error(ended)
	}
}

func TestHydraFightAtTheBounds(t *testing.T) {
	h := longFight(t)
	more := slices.Concat([]int{h[0] + 1}, h[1:], []int{0})
	fewer := slices.Concat([]int{h[0] - 1}, h[1:len(h)-1])
	for _, x := range []struct {
		h    []int
		cuts int
	}{
		{fewer, 399}, {h, 400}, {more, -1},
	} {
		if cuts := impl.HydraFight(x.h, 9); cuts != x.cuts {
			t.Errorf("HydraFight(%v, 9) is %d, not %d", x.h, cuts, x.cuts)
		}
	}
}

func TestP20EveryHydraDies(t *testing.T) {
	counted := 0
	for _, h := range append(allHydras(t, 8), grownHydras(t)...) {
		if cuts := impl.HydraFight(h, 1); cuts != len(h)-1 {
			t.Fatalf("HydraFight(%v, 1) is %d", h, cuts)
		}
		sorted := impl.HydraSort(h)
		o, ok := impl.HydraOrd(sorted)
		if !ok {
			continue
		}
		for copies := 1; copies <= impl.MaxCopies; copies++ {
			cuts := impl.HydraFight(sorted, copies)
			if cuts < 0 {
				continue
			}
			steps, _ := impl.StepsDown(o, copies)
			if steps < 0 {
				continue
			}
			counted++
			if cuts != steps {
				t.Fatalf("HydraFight(%v, %d) is %d, but its ordinal makes %d steps", sorted, copies, cuts, steps)
			}
		}
	}
	if counted < 1000 {
		t.Errorf("only %d fights were counted", counted)
	}
}

func TestP63TextsOfHydrasAreRead(t *testing.T) {
	for size := 1; size <= 8; size++ {
		for _, text := range treeTexts(size) {
			if got := impl.HydraText(rowOfText(text)); got != text {
				t.Fatalf("HydraText(%v) is %s, not %s", rowOfText(text), got, text)
			}
		}
	}
	for _, h := range append(allHydras(t, 8), grownHydras(t)...) {
		text := impl.HydraText(h)
		if x, ok := impl.ReadHydra(text); !ok || !slices.Equal(x, h) || !slices.Equal(rowOfText(text), h) {
			t.Fatalf("ReadHydra(%q) is %v, %t, not %v", text, x, ok, h)
		}
	}
}

func TestP64ReadTextsAreCanonical(t *testing.T) {
	for _, h := range append(allHydras(t, 7), grownHydras(t)...) {
		text := impl.HydraText(h)
		for _, more := range []string{"(", ")", "()", " ", "\n", "\x00", "x", text} {
			if x, ok := impl.ReadHydra(text + more); ok || x != nil {
				t.Fatalf("ReadHydra(%q) is %v, %t", text+more, x, ok)
			}
			if x, ok := impl.ReadHydra(more + text); ok || x != nil {
				t.Fatalf("ReadHydra(%q) is %v, %t", more+text, x, ok)
			}
		}
		for _, beside := range textsBeside(text, "() 0") {
			if x, ok := impl.ReadHydra(beside); ok && impl.HydraText(x) != beside {
				t.Fatalf("ReadHydra(%q) is %v", beside, x)
			}
		}
	}
}

func TestReadHydraOfAllShortTexts(t *testing.T) {
	valid := map[string]bool{}
	for size := 1; size <= 5; size++ {
		for _, text := range treeTexts(size) {
			valid[text] = true
		}
	}
	read := 0
	textsOf("() ", 10, func(text string) {
		h, ok := impl.ReadHydra(text)
		if ok != valid[text] || ok && impl.HydraText(h) != text || !ok && h != nil {
			t.Fatalf("ReadHydra(%q) is %v, %t", text, h, ok)
		}
		if ok {
			read++
		}
	})
	if read != len(valid) {
		t.Errorf("%d texts were read, not %d", read, len(valid))
	}
}

func TestReadHydraOfBadTexts(t *testing.T) {
	for _, text := range []string{
		"", "(", ")", ")(", "()()", "(()", "())", "((", "))", "( )", " ()", "() ", "()\n", "[]", "{}", "(x)", "(0)", "0", "(\x00)", "(\xff)", "（）", "()(", "((())", "(()))", "\x00",
		nested(61), "(" + pairs(60) + ")", "(" + repeated("(())", 30) + ")", repeated("(", 60), repeated("(", 120), repeated(")", 120), pairs(60), pairs(2), nested(60) + "(", nested(60) + ")", "(" + nested(60), nested(59) + "()",
		repeated("(", 3000000), nested(1500000), pairs(1500000), repeated(")", 3000000), "(" + pairs(1500000) + ")",
	} {
		if h, ok := impl.ReadHydra(text); ok || h != nil {
			t.Errorf("ReadHydra(%.150q) is %v, %t", text, h, ok)
		}
	}
	for _, text := range []string{nested(60), "(" + pairs(59) + ")", "(" + repeated("(())", 29) + "())"} {
		if h, ok := impl.ReadHydra(text); !ok || len(h) != impl.MaxSize {
			t.Errorf("ReadHydra(%q) is %v, %t", text, h, ok)
		}
	}
}

func TestInvalidHydras(t *testing.T) {
	for _, h := range badHydras() {
		if heads := impl.HydraHeads(h); heads != -1 {
			t.Errorf("HydraHeads(%v) is %d", h, heads)
		}
		if o, ok := impl.HydraOrd(h); ok || o != nil {
			t.Errorf("HydraOrd(%v) is %v, %t", h, o, ok)
		}
		if x := impl.HydraSort(h); x != nil {
			t.Errorf("HydraSort(%v) is %v", h, x)
		}
		if text := impl.HydraText(h); text != "" {
			t.Errorf("HydraText(%v) is %q", h, text)
		}
		for _, other := range append(badHydras(), []int{0}, []int{1, 0}) {
			if impl.HydraSame(h, other) || impl.HydraSame(other, h) {
				t.Errorf("HydraSame(%v, %v) is true", h, other)
			}
		}
		for _, copies := range append(badCopies(), 1, 9) {
			checkNotCut(t, h, copies)
		}
	}
}

// checkNotCut reports results of cuts of a hydra with a number of branches of which one is invalid.
func checkNotCut(t *testing.T, h []int, copies int) {
	t.Helper()
	for _, head := range []int{-1, 0, 1, 2, math.MinInt, math.MaxInt} {
		if x, ok := impl.HydraCut(h, head, copies); ok || x != nil {
			t.Errorf("HydraCut(%v, %d, %d) is %v, %t", h, head, copies, x, ok)
		}
		if x, ok := impl.HydraRun(h, []int{head}, copies); ok || x != nil {
			t.Errorf("HydraRun(%v, [%d], %d) is %v, %t", h, head, copies, x, ok)
		}
	}
	if x, ok := impl.HydraRun(h, nil, copies); ok || x != nil {
		t.Errorf("HydraRun(%v, [], %d) is %v, %t", h, copies, x, ok)
	}
	if cuts := impl.HydraFight(h, copies); cuts != -1 {
		t.Errorf("HydraFight(%v, %d) is %d", h, copies, cuts)
	}
}

func TestInvalidNumbersOfBranchesAndHeads(t *testing.T) {
	for _, h := range allHydras(t, 5) {
		// Also where only heads at the root are cut, or none at all.
		for _, copies := range badCopies() {
			checkNotCut(t, h, copies)
		}
		heads := impl.HydraHeads(h)
		for _, head := range []int{-1, -2, heads, heads + 1, math.MinInt, math.MaxInt} {
			for _, copies := range []int{1, 2, 9} {
				if x, ok := impl.HydraCut(h, head, copies); ok || x != nil {
					t.Errorf("HydraCut(%v, %d, %d) is %v, %t", h, head, copies, x, ok)
				}
				if x, ok := impl.HydraRun(h, []int{head}, copies); ok || x != nil {
					t.Errorf("HydraRun(%v, [%d], %d) is %v, %t", h, head, copies, x, ok)
				}
			}
		}
	}
	for _, o := range badOrds() {
		if h, ok := impl.HydraOf(o); ok || h != nil {
			t.Errorf("HydraOf(%v) is %v, %t", o, h, ok)
		}
	}
}

func TestHydrasShareNoMemory(t *testing.T) {
	for _, h := range append(allHydras(t, 5), badHydras()[:20]...) {
		for _, copies := range []int{1, 3, 0} {
			l, heads, other := lend(h), lend([]int{0, 0}), lend(h)
			impl.HydraValid(l.row)
			impl.HydraHeads(l.row)
			impl.HydraFight(l.row, copies)
			impl.HydraText(l.row)
			impl.HydraSame(l.row, other.row)
			cut, _ := impl.HydraCut(l.row, 0, copies)
			o, _ := impl.HydraOrd(l.row)
			sorted := impl.HydraSort(l.row)
			ran, _ := impl.HydraRun(l.row, heads.row, copies)
			stayed, _ := impl.HydraRun(l.row, nil, copies)
			results := [][]int{cut, o, sorted, ran, stayed}
			checkApart(t, "a function of hydras", results...)
			l.checkKept(t, "a function of hydras", results...)
			heads.checkKept(t, "HydraRun", results...)
			other.checkKept(t, "HydraSame", results...)
		}
	}
	for _, o := range append(widest(t), badOrds()...) {
		l := lend(o)
		h, _ := impl.HydraOf(l.row)
		l.checkKept(t, "HydraOf", h)
	}
}
