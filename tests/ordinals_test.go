package tests

import (
	"cmp"
	"math"
	"slices"
	"strings"
	"testing"

	"loop.example/ordinalhydras/impl"
)

func TestOrdinalConstants(t *testing.T) {
	if impl.MaxSize != 60 || impl.MaxTimes != 9999 {
		t.Error(impl.MaxSize, impl.MaxTimes)
	}
}

func TestOrdValid(t *testing.T) {
	for _, o := range wideOrds(t) {
		if !impl.OrdValid(o) {
			t.Errorf("OrdValid(%v) is false", o)
		}
	}
	for _, o := range badOrds() {
		if impl.OrdValid(o) {
			t.Errorf("OrdValid(%v) is true", o)
		}
	}
}

func TestOrdValidOfAllShortRows(t *testing.T) {
	const most = 8
	valid := map[string]bool{}
	for _, o := range smallOrds(most, 3) {
		valid[string(bytesOf(o))] = true
	}
	textsOf("\x00\x01\x02\x03", most, func(text string) {
		row := make([]int, len(text))
		for i := range row {
			row[i] = int(text[i])
		}
		if impl.OrdValid(row) != valid[text] {
			t.Errorf("OrdValid(%v) is %t", row, !valid[text])
		}
	})
}

func bytesOf(row []int) []byte {
	var b []byte
	for _, n := range row {
		b = append(b, byte(n))
	}
	return b
}

func TestP1OrdinalsAreInOneOrder(t *testing.T) {
	all := smallOrds(11, 2)
	for i, a := range all {
		for j, b := range all {
			if c := impl.OrdCompare(a, b); c != cmp.Compare(i, j) {
				t.Fatalf("OrdCompare(%v, %v) is %d, not %d", a, b, c, cmp.Compare(i, j))
			}
		}
	}
	wide := wideOrds(t)
	for _, a := range wide {
		for _, b := range wide {
			c := impl.OrdCompare(a, b)
			if c != -impl.OrdCompare(b, a) || (c == 0) != slices.Equal(a, b) || c < -1 || c > 1 {
				t.Fatalf("OrdCompare(%v, %v) is %d", a, b, c)
			}
		}
	}
}

func TestP1ThreeOrdinals(t *testing.T) {
	all := wideOrds(t)
	for _, a := range all {
		for _, b := range all {
			if impl.OrdCompare(a, b) != -1 {
				continue
			}
			for _, c := range all {
				if impl.OrdCompare(b, c) == -1 && impl.OrdCompare(a, c) != -1 {
					t.Fatalf("%v < %v < %v, but OrdCompare of the outer two is not -1", a, b, c)
				}
			}
		}
	}
}

func TestOrdCompareOfText(t *testing.T) {
	ascending := []string{
		"0", "1", "2", "9999", "w", "w+1", "w+9999", "w*2", "w*9999+9999", "w^2", "w^2+w", "w^2*2", "w^9999*9999+w^9998",
		"w^w", "w^w+w^9999", "w^w*2", "w^(w+1)", "w^(w*2)", "w^(w^2)", "w^(w^w)", "w^(w^w+1)", "w^(w^(w^w))",
	}
	for i, a := range ascending {
		for j, b := range ascending {
			if c := impl.OrdCompare(read(t, a), read(t, b)); c != cmp.Compare(i, j) {
				t.Errorf("OrdCompare of %s and %s is %d", a, b, c)
			}
		}
	}
}

func read(t *testing.T, text string) []int {
	t.Helper()
	o, ok := impl.ReadOrd(text)
	if !ok {
		t.Fatalf("ReadOrd(%q) reads nothing", text)
	}
	return o
}

func TestP2PowersKeepTheOrder(t *testing.T) {
	all := smallOrds(9, 2)
	for _, a := range all {
		p := power(t, a)
		if impl.OrdCompare(a, p) != -1 {
			t.Fatalf("%v is not less than its power", a)
		}
		for _, b := range all {
			if q := power(t, b); impl.OrdCompare(p, q) != impl.OrdCompare(a, b) {
				t.Fatalf("the powers of %v and %v are in another order", a, b)
			}
		}
	}
}

func power(t *testing.T, o []int) []int {
	t.Helper()
	p, ok := impl.OrdPower(o)
	if !ok {
		t.Fatalf("OrdPower(%v) is nothing", o)
	}
	return p
}

func TestP42PowersOfOrdinalsAreOrdinals(t *testing.T) {
	for _, o := range wideOrds(t) {
		p, ok := impl.OrdPower(o)
		if ok != (len(o)+2 <= impl.MaxSize) {
			t.Fatalf("OrdPower(%v) is %v, %t", o, p, ok)
		}
		if !ok {
			if len(p) > 0 {
				t.Errorf("OrdPower(%v) is %v beside false", o, p)
			}
			continue
		}
		if !impl.OrdValid(p) || !slices.Equal(p, append([]int{1, 1}, o...)) {
			t.Errorf("OrdPower(%v) is %v", o, p)
		}
		for _, n := range []int{-1, 0, 1, 2} {
			if impl.OrdValid(append(slices.Clone(p), n)) {
				t.Errorf("%v with %d behind it is valid", p, n)
			}
		}
	}
	if p, ok := impl.OrdPower(tower(28)); !ok || !slices.Equal(p, tower(29)) {
		t.Error(p, ok)
	}
}

func TestP3NothingIsBetween(t *testing.T) {
	all := smallOrds(11, 2)
	for _, o := range all {
		next, ok := impl.OrdNext(o)
		if !ok {
			t.Fatalf("OrdNext(%v) is nothing", o)
		}
		before, ok := impl.OrdBefore(next)
		if !ok || !slices.Equal(before, o) || impl.OrdCompare(o, next) != -1 {
			t.Fatalf("OrdNext(%v) is %v, and the one before it %v", o, next, before)
		}
		for _, x := range all {
			if impl.OrdCompare(o, x) == -1 && impl.OrdCompare(x, next) == -1 {
				t.Fatalf("%v is between %v and %v", x, o, next)
			}
		}
	}
}

func TestOrdNextAndOrdBeforeOfText(t *testing.T) {
	for _, x := range [][2]string{
		{"0", "1"}, {"1", "2"}, {"9998", "9999"}, {"w", "w+1"}, {"w+1", "w+2"}, {"w*3", "w*3+1"}, {"w+9998", "w+9999"},
		{"w^w*2", "w^w*2+1"}, {"w^(w+1)", "w^(w+1)+1"}, {"w^2+w+4", "w^2+w+5"},
	} {
		o, next := read(t, x[0]), read(t, x[1])
		if got, ok := impl.OrdNext(o); !ok || !slices.Equal(got, next) {
			t.Errorf("OrdNext of %s is %v, %t", x[0], got, ok)
		}
		if got, ok := impl.OrdBefore(next); !ok || !slices.Equal(got, o) {
			t.Errorf("OrdBefore of %s is %v, %t", x[1], got, ok)
		}
	}
}

func TestOrdNextAtTheBounds(t *testing.T) {
	for _, o := range [][]int{read(t, "9999"), read(t, "w+9999"), read(t, "w^w+9999"), tower(29)} {
		if next, ok := impl.OrdNext(o); ok || len(next) > 0 {
			t.Errorf("OrdNext(%v) is %v, %t", o, next, ok)
		}
	}
	long, ok := impl.OrdNext(longSum(14))
	if !ok || len(long) != 59 {
		t.Fatal(long, ok)
	}
	if longer, ok := impl.OrdNext(long); !ok || longer[57] != 2 {
		t.Error(longer, ok)
	}
	long[0], long[57] = 15, impl.MaxTimes
	if next, ok := impl.OrdNext(long); ok || len(next) > 0 {
		t.Error(next, ok)
	}
}

func TestP43NumbersAreOrdinalsInTheirOrder(t *testing.T) {
	for n := 0; n <= impl.MaxTimes; n++ {
		o := impl.OrdOf(n)
		if impl.OrdNumber(o) != n || !impl.OrdValid(o) {
			t.Fatalf("OrdNumber(OrdOf(%d)) is %d", n, impl.OrdNumber(o))
		}
		if next, ok := impl.OrdNext(o); ok != (n < impl.MaxTimes) || !slices.Equal(next, impl.OrdOf(n+1)) {
			t.Fatalf("OrdNext(OrdOf(%d)) is %v, %t", n, next, ok)
		}
	}
	if o := impl.OrdOf(0); !slices.Equal(o, []int{0}) {
		t.Error(o)
	}
	if o := impl.OrdOf(9999); !slices.Equal(o, []int{1, 9999, 0}) {
		t.Error(o)
	}
	for _, n := range []int{-1, 10000, math.MinInt, math.MaxInt} {
		if o := impl.OrdOf(n); len(o) > 0 {
			t.Errorf("OrdOf(%d) is %v", n, o)
		}
	}
}

func TestP44WhatIsNoNumberIsGreater(t *testing.T) {
	numbers := 0
	for _, o := range wideOrds(t) {
		n := impl.OrdNumber(o)
		if n >= 0 {
			numbers++
			if !slices.Equal(impl.OrdOf(n), o) {
				t.Errorf("OrdNumber(%v) is %d", o, n)
			}
		} else if n != -1 || impl.OrdCompare(o, impl.OrdOf(impl.MaxTimes)) != 1 {
			t.Errorf("OrdNumber(%v) is %d", o, n)
		}
	}
	if numbers != 5 {
		t.Errorf("%d numbers, but 0, 1, 2, 9998 and 9999 are among the ordinals", numbers)
	}
}

func TestP45WhoHasOneBeforeIsOfTheKind1(t *testing.T) {
	for _, o := range wideOrds(t) {
		before, ok := impl.OrdBefore(o)
		if ok != (impl.OrdKind(o) == 1) || !ok && len(before) > 0 {
			t.Errorf("OrdBefore(%v) is %v, %t, but its kind is %d", o, before, ok, impl.OrdKind(o))
		}
		if next, ok := impl.OrdNext(o); ok && impl.OrdKind(next) != 1 {
			t.Errorf("the kind of %v, behind %v, is %d", next, o, impl.OrdKind(next))
		}
	}
}

func TestOrdKindOfText(t *testing.T) {
	for text, kind := range map[string]int{
		"0": 0, "1": 1, "9999": 1, "w": 2, "w*2": 2, "w+1": 1, "w^2+w": 2, "w^w": 2, "w^(w+1)": 2, "w^(w+1)+3": 1, "w^w+w^3+w*5+7": 1,
	} {
		if k := impl.OrdKind(read(t, text)); k != kind {
			t.Errorf("OrdKind of %s is %d", text, k)
		}
	}
}

func TestP46BeforeAndNextBelongTogether(t *testing.T) {
	for _, o := range wideOrds(t) {
		before, ok := impl.OrdBefore(o)
		if !ok {
			continue
		}
		if next, ok := impl.OrdNext(before); !ok || !slices.Equal(next, o) || !impl.OrdValid(before) {
			t.Errorf("OrdNext of %v, before %v, is %v, %t", before, o, next, ok)
		}
	}
}

func TestP47DeeperOrdinalsAreGreater(t *testing.T) {
	all := wideOrds(t)
	for _, a := range all {
		depth := impl.OrdDepth(a)
		if depth < 0 || (depth == 0) != (len(a) == 1) {
			t.Fatalf("OrdDepth(%v) is %d", a, depth)
		}
		for _, b := range all {
			if depth > impl.OrdDepth(b) && impl.OrdCompare(a, b) != 1 {
				t.Fatalf("%v is deeper than %v, but not greater", a, b)
			}
		}
	}
}

func TestOrdDepthOfText(t *testing.T) {
	for text, depth := range map[string]int{
		"0": 0, "1": 1, "9999": 1, "w": 2, "w^2": 2, "w^9999*9999+7": 2, "w^w": 3, "w^(w*2+1)+w^w": 3, "w^(w^w)*3+w^w+1": 4,
	} {
		if d := impl.OrdDepth(read(t, text)); d != depth {
			t.Errorf("OrdDepth of %s is %d", text, d)
		}
	}
	if d := impl.OrdDepth(tower(29)); d != 29 {
		t.Error(d)
	}
}

func TestOrdText(t *testing.T) {
	for _, x := range []struct {
		text string
		row  []int
	}{
		{"0", []int{0}},
		{"1", []int{1, 1, 0}},
		{"9999", []int{1, 9999, 0}},
		{"w", []int{1, 1, 1, 1, 0}},
		{"w*2", []int{1, 2, 1, 1, 0}},
		{"w+1", []int{2, 1, 1, 1, 0, 1, 0}},
		{"w^2", []int{1, 1, 1, 2, 0}},
		{"w^10*3+w^9", []int{2, 3, 1, 10, 0, 1, 1, 9, 0}},
		{"w^w", []int{1, 1, 1, 1, 1, 1, 0}},
		{"w^w*2", []int{1, 2, 1, 1, 1, 1, 0}},
		{"w^(w*2)", []int{1, 1, 1, 2, 1, 1, 0}},
		{"w^(w+1)", []int{1, 1, 2, 1, 1, 1, 0, 1, 0}},
		{"w^(w^2)", []int{1, 1, 1, 1, 1, 2, 0}},
		{"w^(w^w)", []int{1, 1, 1, 1, 1, 1, 1, 1, 0}},
		{"w^(w^w)*12+w*9999+5", []int{3, 12, 1, 1, 1, 1, 1, 1, 0, 9999, 1, 1, 0, 5, 0}},
		{"w^(w^(w+1)*2)", []int{1, 1, 1, 2, 2, 1, 1, 1, 0, 1, 0}},
	} {
		if text := impl.OrdText(x.row); text != x.text {
			t.Errorf("OrdText(%v) is %q, not %q", x.row, text, x.text)
		}
		if row, ok := impl.ReadOrd(x.text); !ok || !slices.Equal(row, x.row) {
			t.Errorf("ReadOrd(%q) is %v, %t", x.text, row, ok)
		}
	}
}

func TestP48TextsOfOrdinalsAreRead(t *testing.T) {
	for _, o := range append(smallOrds(13, 2), wideOrds(t)...) {
		if got, ok := impl.ReadOrd(impl.OrdText(o)); !ok || !slices.Equal(got, o) {
			t.Fatalf("ReadOrd(%q) is %v, %t, not %v", impl.OrdText(o), got, ok, o)
		}
	}
	longest := []int{0}
	for range 29 {
		longest = append([]int{1, impl.MaxTimes}, longest...)
	}
	if got, ok := impl.ReadOrd(impl.OrdText(longest)); !ok || !slices.Equal(got, longest) {
		t.Errorf("the text of %v is read as %v, %t", longest, got, ok)
	}
}

func TestP49ReadTextsAreCanonical(t *testing.T) {
	textsOf("w^*+()0129", 5, func(text string) { checkCanonical(t, text) })
	for _, o := range wideOrds(t) {
		text := impl.OrdText(o)
		if got, ok := impl.ReadOrd(text + "+"); ok || len(got) > 0 {
			t.Errorf("ReadOrd(%q) is %v, %t", text+"+", got, ok)
		}
		for _, beside := range textsBeside(text, "w^*+()01 -") {
			checkCanonical(t, beside)
		}
	}
}

// checkCanonical reports a text that is read as no ordinal or as one with another text.
func checkCanonical(t *testing.T, text string) {
	t.Helper()
	o, ok := impl.ReadOrd(text)
	if ok && (!impl.OrdValid(o) || impl.OrdText(o) != text) || !ok && len(o) > 0 {
		t.Errorf("ReadOrd(%q) is %v, %t", text, o, ok)
	}
}

func TestReadOrdRefuses(t *testing.T) {
	for _, text := range []string{
		"", " ", "+", "^", "*", "(", ")", "x", "W", "ω", "\x00", "\xff", "w\n", " w", "w ", "w + 1",
		"00", "01", "007", "-1", "+1", "1+", "1.0", "0x1", "1_0", "10000", "99999999999999999999999",
		"w+", "w+0", "0+w", "0+0", "w+01", "w++1", "w+-1", "w+10000",
		"w*", "w*0", "w*1", "w*02", "w*2*2", "2*w", "w*w", "w*10000", "1*2", "w*-2", "w*(2)",
		"w^", "w^0", "w^1", "w^01", "w^10000", "w^()", "w^(0)", "w^(1)", "w^(2)", "w^(w)", "w^((w+1))", "w^w^w", "w^w^2", "w^2^2", "w^w+1)", "w^-1",
		"(w)", "(w+1)", "()", "ww", "w2", "2w", "w^w2",
		"1+1", "1+2", "1+w", "3+w", "w+w", "w+w*2", "w*2+w", "w+w^2", "w+1+w", "w+1+1", "w^w+w^(w+1)", "w^2+w^2*3", "w^(1+w)", "w^(w+w)", "w^(w+w^2)",
		"w^(", "w^(w", "w^(w+1", "w^(w^(w+1)", "w^(w^(w^(w+1", "w^(w+1))", "w^(w+1)w", "w^(w+1)2", "w^(w+1)*", "w^(w+1)*1", "w^(w^1)", "w^(w^(w))",
	} {
		if o, ok := impl.ReadOrd(text); ok || len(o) > 0 {
			t.Errorf("ReadOrd(%q) is %v, %t", text, o, ok)
		}
	}
}

func TestReadOrdRefusesLongTexts(t *testing.T) {
	long := "w^15+w^14+w^13+w^12+w^11+w^10+w^9+w^8+w^7+w^6+w^5+w^4+w^3+w^2"
	if o, ok := impl.ReadOrd(long + "+1"); !ok || len(o) != 59 {
		t.Error(o, ok)
	}
	deepest := strings.Repeat("w^(", 26) + "w^w" + strings.Repeat(")", 26)
	if o, ok := impl.ReadOrd(deepest); !ok || !slices.Equal(o, tower(29)) {
		t.Error(o, ok)
	}
	const many = 5000000
	for _, text := range []string{
		long + "+w",
		"w^(" + deepest + ")",
		strings.Repeat("w^(", many),
		strings.Repeat("w^(", many) + "w+1" + strings.Repeat(")", many),
		strings.Repeat("(", many),
		strings.Repeat("9", many),
		strings.Repeat("w+", many) + "1",
		"w^" + strings.Repeat("0", many),
		strings.Repeat("\x00", many),
	} {
		if o, ok := impl.ReadOrd(text); ok || len(o) > 0 {
			t.Errorf("ReadOrd of %d bytes, beginning with %q, is %v, %t", len(text), text[:20], o, ok)
		}
	}
}

func TestOrdinalsWithInvalidArguments(t *testing.T) {
	good := []int{1, 1, 1, 1, 0}
	for _, o := range badOrds() {
		if impl.OrdCompare(o, good) != -2 || impl.OrdCompare(good, o) != -2 || impl.OrdCompare(o, o) != -2 {
			t.Errorf("OrdCompare with %v is not -2", o)
		}
		if n := impl.OrdNumber(o); n != -1 {
			t.Errorf("OrdNumber(%v) is %d", o, n)
		}
		if k := impl.OrdKind(o); k != -1 {
			t.Errorf("OrdKind(%v) is %d", o, k)
		}
		if d := impl.OrdDepth(o); d != -1 {
			t.Errorf("OrdDepth(%v) is %d", o, d)
		}
		if text := impl.OrdText(o); text != "" {
			t.Errorf("OrdText(%v) is %q", o, text)
		}
		for name, f := range map[string]func([]int) ([]int, bool){"OrdPower": impl.OrdPower, "OrdNext": impl.OrdNext, "OrdBefore": impl.OrdBefore} {
			if x, ok := f(o); ok || len(x) > 0 {
				t.Errorf("%s(%v) is %v, %t", name, o, x, ok)
			}
		}
	}
}

func TestOrdinalsShareNoMemory(t *testing.T) {
	for _, o := range append(wideOrds(t), badOrds()...) {
		l := lend(o)
		impl.OrdValid(l.row)
		impl.OrdCompare(l.row, l.row)
		impl.OrdNumber(l.row)
		impl.OrdKind(l.row)
		impl.OrdDepth(l.row)
		impl.OrdText(l.row)
		power, _ := impl.OrdPower(l.row)
		next, _ := impl.OrdNext(l.row)
		before, _ := impl.OrdBefore(l.row)
		l.checkKept(t, "a function of ordinals", power, next, before)
	}
}

func TestOrdinalsAreNewEachTime(t *testing.T) {
	for _, n := range []int{0, 1, 9999} {
		l := lend(impl.OrdOf(n))
		first := impl.OrdOf(n)
		l.checkKept(t, "OrdOf", first)
		if again := impl.OrdOf(n); !slices.Equal(again, l.row) {
			t.Errorf("OrdOf(%d) is %v the second time", n, again)
		}
	}
	for _, text := range []string{"0", "1", "w", "w^w", "w^(w+1)*2+7"} {
		first := read(t, text)
		kept := slices.Clone(first)
		clear(first[:cap(first)])
		if again := read(t, text); !slices.Equal(again, kept) {
			t.Errorf("ReadOrd(%q) is %v the second time", text, again)
		}
	}
}
