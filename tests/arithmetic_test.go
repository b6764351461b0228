package tests

import (
	"math"
	"slices"
	"testing"

	"loop.example/ordinalhydras/impl"
)

// ofTwo is a function of two ordinals, such as their sum.
type ofTwo func(a, b []int) ([]int, bool)

// told returns the ordinal that a function of two ordinals must have.
func told(t *testing.T, f ofTwo, a, b []int) []int {
	t.Helper()
	o, ok := f(a, b)
	if !ok || !impl.OrdValid(o) {
		t.Fatalf("of %v and %v there is %v, %t", a, b, o, ok)
	}
	return o
}

// checkTexts tells results of a function of two ordinals by texts; "" is none.
func checkTexts(t *testing.T, name string, f ofTwo, cases [][3]string) {
	t.Helper()
	for _, x := range cases {
		o, ok := f(read(t, x[0]), read(t, x[1]))
		if ok != (x[2] != "") || impl.OrdText(o) != x[2] || !ok && len(o) > 0 {
			t.Errorf("%s of %s and %s is %v, %t, not %s", name, x[0], x[1], o, ok, x[2])
		}
	}
}

// checkSame reports two ways that are both told, but not to the same ordinal.
func checkSame(t *testing.T, a []int, aOk bool, b []int, bOk bool, of ...[]int) {
	t.Helper()
	if aOk && bOk && !slices.Equal(a, b) {
		t.Fatalf("of %v there are %v and %v", of, a, b)
	}
}

func TestOrdAddOfText(t *testing.T) {
	checkTexts(t, "OrdAdd", impl.OrdAdd, [][3]string{
		{"0", "0", "0"},
		{"0", "w+1", "w+1"},
		{"w+1", "0", "w+1"},
		{"5", "7", "12"},
		{"1", "w", "w"},
		{"w", "1", "w+1"},
		{"w+1", "w+1", "w*2+1"},
		{"w^2*3+w+4", "w*2+1", "w^2*3+w*3+1"},
		{"w*2+1", "w^2*3+w+4", "w^2*3+w+4"},
		{"w^2+w+4", "w^2", "w^2*2"},
		{"w^3+w^2+w+4", "w^2*5+7", "w^3+w^2*6+7"},
		{"w^3+w+4", "w^2*5+7", "w^3+w^2*5+7"},
		{"w^w+w^5", "w^(w+1)", "w^(w+1)"},
		{"w^(w+1)+w^5", "w^w+w", "w^(w+1)+w^w+w"},
		{"w^(w^w)*2+1", "w^(w^w)+2", "w^(w^w)*3+2"},
		{"9998", "1", "9999"},
		{"9999", "1", ""},
		{"5000", "5000", ""},
		{"9999", "w", "w"},
		{"w*9998+9999", "w", "w*9999"},
		{"w*9999+1", "w", ""},
		{"w*9999+1", "w^2", "w^2"},
		{"w^2+w*9999", "w+1", ""},
		{"w^2+w*9999", "1", "w^2+w*9999+1"},
	})
}

func TestOrdAddOfLongOrdinals(t *testing.T) {
	long := longSum(14)
	if o := told(t, impl.OrdAdd, long, impl.OrdOf(9)); len(o) != 59 || !slices.Equal(o[57:], []int{9, 0}) {
		t.Error(o)
	}
	if o := told(t, impl.OrdAdd, long, long); len(o) != 57 || o[1] != 2 || o[5] != 1 {
		t.Error(o)
	}
	if o := told(t, impl.OrdAdd, long, tower(29)); !slices.Equal(o, tower(29)) {
		t.Error(o)
	}
	for _, b := range [][]int{{1, 1, 0}, {1, 1, 1, 1, 0}, long} {
		if o, ok := impl.OrdAdd(tower(29), b); ok || len(o) > 0 {
			t.Errorf("OrdAdd of the longest tower and %v is %v, %t", b, o, ok)
		}
	}
}

func TestP4BracketsDoNotMatterInSums(t *testing.T) {
	all := smallOrds(9, 1)
	for _, a := range all {
		for _, b := range all {
			left := told(t, impl.OrdAdd, a, b)
			for _, c := range all {
				right := told(t, impl.OrdAdd, b, c)
				if x, y := told(t, impl.OrdAdd, left, c), told(t, impl.OrdAdd, a, right); !slices.Equal(x, y) {
					t.Fatalf("(%v + %v) + %v is %v, but with the brackets behind %v", a, b, c, x, y)
				}
			}
		}
	}
	wide := widest(t)
	for _, a := range wide {
		for _, b := range wide {
			ab, ok := impl.OrdAdd(a, b)
			for _, c := range wide {
				bc, bcOk := impl.OrdAdd(b, c)
				x, xOk := impl.OrdAdd(ab, c)
				y, yOk := impl.OrdAdd(a, bc)
				checkSame(t, x, ok && xOk, y, bcOk && yOk, a, b, c)
			}
		}
	}
}

// widest returns few ordinals, but those at which the bounds are met.
func widest(t *testing.T) [][]int {
	t.Helper()
	all := wideOrds(t)
	return append(smallOrds(7, 2), all[len(smallOrds(9, 2)):]...)
}

func TestP4TheOrderMattersInSums(t *testing.T) {
	all := smallOrds(9, 2)
	for _, a := range all {
		before := []int(nil)
		for _, b := range all {
			s := told(t, impl.OrdAdd, a, b)
			if before != nil && impl.OrdCompare(before, s) != -1 {
				t.Fatalf("%v behind %v is not more than what is less behind it", b, a)
			}
			if impl.OrdCompare(s, a) < 0 || impl.OrdCompare(s, b) < 0 {
				t.Fatalf("%v + %v is %v", a, b, s)
			}
			before = s
		}
	}
	w := read(t, "w")
	if slices.Equal(told(t, impl.OrdAdd, impl.OrdOf(1), w), told(t, impl.OrdAdd, w, impl.OrdOf(1))) {
		t.Error("1+w is w+1")
	}
}

func TestOrdTimesOfText(t *testing.T) {
	checkTexts(t, "OrdTimes", impl.OrdTimes, [][3]string{
		{"0", "0", "0"},
		{"0", "w", "0"},
		{"w^w+1", "0", "0"},
		{"0", "1", "0"},
		{"1", "0", "0"},
		{"6", "7", "42"},
		{"2", "w", "w"},
		{"w", "2", "w*2"},
		{"w", "w", "w^2"},
		{"9999", "w*9999", "w*9999"},
		{"w*2+1", "3", "w*6+1"},
		{"w*2+1", "w^2*3+w+4", "w^3*3+w^2+w*8+1"},
		{"w^2*3+w+4", "w*2+1", "w^3*2+w^2*3+w+4"},
		{"w+1", "w+1", "w^2+w+1"},
		{"w+1", "w^w*5", "w^w*5"},
		{"w^w", "w*5", "w^(w+1)*5"},
		{"w^w*3+w+2", "w^w*2+w^2+1", "w^(w*2)*2+w^(w+2)+w^w*3+w+2"},
		{"5", "w^w+w^3+2", "w^w+w^3+10"},
		{"99", "101", "9999"},
		{"100", "100", ""},
		{"w*100+1", "100", ""},
		{"w*9999", "9999", ""},
		{"w^9998", "w", "w^9999"},
		{"w^9999", "w", ""},
		{"w^9999", "w^w", "w^w"},
		{"w^(w+9999)", "w^w+w", ""},
	})
}

func TestOrdTimesOfLongOrdinals(t *testing.T) {
	long := longSum(14)
	if o := told(t, impl.OrdTimes, long, impl.OrdOf(3)); len(o) != 57 || o[1] != 3 || o[5] != 1 {
		t.Error(o)
	}
	if o := told(t, impl.OrdTimes, long, read(t, "w^w*2")); impl.OrdText(o) != "w^w*2" {
		t.Error(o)
	}
	if o := told(t, impl.OrdTimes, impl.OrdOf(1), tower(29)); !slices.Equal(o, tower(29)) {
		t.Error(o)
	}
	if o := told(t, impl.OrdTimes, long, long); len(o) != 57 || o[3] != 28 || o[55] != 15 {
		t.Error(o)
	}
	for _, x := range [][2][]int{{long, read(t, "w+1")}, {long, read(t, "w^w+1")}, {tower(29), {1, 1, 1, 1, 0}}, {tower(29), tower(28)}} {
		if o, ok := impl.OrdTimes(x[0], x[1]); ok || len(o) > 0 {
			t.Errorf("OrdTimes(%v, %v) is %v, %t", x[0], x[1], o, ok)
		}
	}
}

func TestP5ProductsGoIntoSumsFromTheLeft(t *testing.T) {
	all := smallOrds(9, 1)
	for _, a := range all {
		for _, b := range all {
			ab := told(t, impl.OrdTimes, a, b)
			for _, c := range all {
				ac, sum := told(t, impl.OrdTimes, a, c), told(t, impl.OrdAdd, b, c)
				if x, y := told(t, impl.OrdTimes, a, sum), told(t, impl.OrdAdd, ab, ac); !slices.Equal(x, y) {
					t.Fatalf("%v * (%v + %v) is %v, but the sum of the products is %v", a, b, c, x, y)
				}
				bc := told(t, impl.OrdTimes, b, c)
				if x, y := told(t, impl.OrdTimes, ab, c), told(t, impl.OrdTimes, a, bc); !slices.Equal(x, y) {
					t.Fatalf("(%v * %v) * %v is %v, but with the brackets behind %v", a, b, c, x, y)
				}
			}
		}
	}
}

func TestP5AtTheBounds(t *testing.T) {
	wide := widest(t)
	for _, a := range wide {
		for _, b := range wide {
			ab, abOk := impl.OrdTimes(a, b)
			for _, c := range wide {
				ac, acOk := impl.OrdTimes(a, c)
				sum, sumOk := impl.OrdAdd(b, c)
				x, xOk := impl.OrdTimes(a, sum)
				y, yOk := impl.OrdAdd(ab, ac)
				checkSame(t, x, sumOk && xOk, y, abOk && acOk && yOk, a, b, c)
				bc, bcOk := impl.OrdTimes(b, c)
				x, xOk = impl.OrdTimes(ab, c)
				y, yOk = impl.OrdTimes(a, bc)
				checkSame(t, x, abOk && xOk, y, bcOk && yOk, a, b, c)
			}
		}
	}
}

func TestP5With1(t *testing.T) {
	for _, o := range wideOrds(t) {
		if x := told(t, impl.OrdTimes, o, impl.OrdOf(1)); !slices.Equal(x, o) {
			t.Errorf("%v * 1 is %v", o, x)
		}
		if x := told(t, impl.OrdTimes, impl.OrdOf(1), o); !slices.Equal(x, o) {
			t.Errorf("1 * %v is %v", o, x)
		}
	}
}

func TestOrdTimesPowers(t *testing.T) {
	exponents := smallOrds(7, 2)
	for _, first := range exponents {
		for _, rest := range []string{"0", "1", "7"} {
			a := told(t, impl.OrdAdd, power(t, first), read(t, rest))
			for _, e := range exponents[1:] {
				product := power(t, told(t, impl.OrdAdd, first, e))
				if x := told(t, impl.OrdTimes, a, power(t, e)); !slices.Equal(x, product) {
					t.Fatalf("%v times w to the power of %v is %v", a, e, x)
				}
			}
		}
	}
}

func TestOrdMinusOfText(t *testing.T) {
	checkTexts(t, "OrdMinus", impl.OrdMinus, [][3]string{
		{"0", "0", "0"},
		{"w+1", "0", "w+1"},
		{"w+1", "w+1", "0"},
		{"12", "5", "7"},
		{"w", "9999", "w"},
		{"w+7", "w+4", "3"},
		{"w+7", "w", "7"},
		{"w^2*3+w+4", "w^2*2+5", "w^2+w+4"},
		{"w^2*3+w+4", "w^2*3+5", "w+4"},
		{"w^2*3+w+4", "w*8", "w^2*3+w+4"},
		{"w^w+w^3*2+1", "w^w+w^3+w^2*5+9", "w^3+1"},
		{"w*2+1", "w^2", ""},
		{"5", "7", ""},
		{"w+4", "w+5", ""},
		{"0", "1", ""},
		{"w^w", "w^(w+1)", ""},
	})
}

func TestP6WhatIsTakenFromTheLeftCanBePutThereAgain(t *testing.T) {
	for _, all := range [][][]int{smallOrds(11, 2), wideOrds(t)} {
		for _, a := range all {
			for _, b := range all {
				rest, ok := impl.OrdMinus(a, b)
				if ok != (impl.OrdCompare(a, b) >= 0) || !ok && len(rest) > 0 {
					t.Fatalf("OrdMinus(%v, %v) is %v, %t", a, b, rest, ok)
				}
				if ok && !slices.Equal(told(t, impl.OrdAdd, b, rest), a) {
					t.Fatalf("OrdMinus(%v, %v) is %v", a, b, rest)
				}
			}
		}
	}
}

func TestOrdDivideOfText(t *testing.T) {
	for _, x := range [][4]string{
		{"0", "1", "0", "0"},
		{"0", "w", "0", "0"},
		{"17", "5", "3", "2"},
		{"w+3", "1", "w+3", "0"},
		{"w", "2", "w", "0"},
		{"w*3+7", "2", "w*3+3", "1"},
		{"5", "w", "0", "5"},
		{"w^2*3+w+4", "w*2+1", "w*3", "w+4"},
		{"w*5+1", "w*2+1", "2", "w+1"},
		{"w*4+1", "w*2+1", "2", "0"},
		{"w*4", "w*2+1", "1", "w*2"},
		{"w*2", "w*2+1", "0", "w*2"},
		{"w*4+9", "w*2+1", "2", "8"},
		{"w*9999+9999", "w", "9999", "9999"},
		{"w^w*2+w^2*5+w", "w^2*2+w*3", "w^w*2+2", "w^2+w"},
		{"w^(w*2)*3+w^(w+1)+w^w*7+w", "w^w*2+1", "w^w*3+w+3", "w^w+w"},
		{"w^(w+1)", "w^2+5", "w^(w+1)", "0"},
		{"w^(w+1)+w^3", "w^2", "w^(w+1)+w", "0"},
	} {
		often, left, ok := impl.OrdDivide(read(t, x[0]), read(t, x[1]))
		if !ok || impl.OrdText(often) != x[2] || impl.OrdText(left) != x[3] {
			t.Errorf("OrdDivide of %s and %s is %s, %s, %t", x[0], x[1], impl.OrdText(often), impl.OrdText(left), ok)
		}
	}
}

func TestP7WhatIsLeftIsLess(t *testing.T) {
	for _, all := range [][][]int{smallOrds(11, 2), wideOrds(t), widest(t)} {
		for _, a := range all {
			for _, b := range all {
				often, left, ok := impl.OrdDivide(a, b)
				if ok != (len(b) > 1) || !ok && len(often)+len(left) > 0 {
					t.Fatalf("OrdDivide(%v, %v) is %v, %v, %t", a, b, often, left, ok)
				}
				if !ok {
					continue
				}
				whole := told(t, impl.OrdAdd, told(t, impl.OrdTimes, b, often), left)
				if !slices.Equal(whole, a) || impl.OrdCompare(left, b) != -1 {
					t.Fatalf("OrdDivide(%v, %v) is %v, %v", a, b, often, left)
				}
			}
		}
	}
}

// Both results are valid here, but the product of the one and the divisor is longer than an ordinal may be.
func TestOrdDivideWhereTheProductIsTooLong(t *testing.T) {
	a := read(t, "w^30+w^29+w^20+w^19")
	b := told(t, impl.OrdAdd, read(t, "w^20"), longSum(12))
	often, left, ok := impl.OrdDivide(a, b)
	if !ok || impl.OrdText(often) != "w^10+w^9+1" || impl.OrdText(left) != "w^19" {
		t.Error(often, left, ok)
	}
}

func TestOrdNaturalOfText(t *testing.T) {
	checkTexts(t, "OrdNatural", impl.OrdNatural, [][3]string{
		{"0", "0", "0"},
		{"0", "w^w+1", "w^w+1"},
		{"w^w+1", "0", "w^w+1"},
		{"1", "w", "w+1"},
		{"w", "1", "w+1"},
		{"w*2+1", "w^2*3+w+4", "w^2*3+w*3+5"},
		{"w^3+w", "w^2+1", "w^3+w^2+w+1"},
		{"w^2+1", "w^3+w", "w^3+w^2+w+1"},
		{"w^w+w^2*2", "w^(w+1)+w^2*3+5", "w^(w+1)+w^w+w^2*5+5"},
		{"9998", "1", "9999"},
		{"9999", "1", ""},
		{"w*5000", "w^2+w*5000", ""},
		{"9999", "w", "w+9999"},
	})
	if o := told(t, impl.OrdNatural, read(t, "w^20"), longSum(13)); len(o) != 57 {
		t.Error(o)
	}
	for _, o := range [][]int{impl.OrdOf(1), read(t, "w"), longSum(14)} {
		if x, ok := impl.OrdNatural(tower(29), o); ok || len(x) > 0 {
			t.Error(x, ok)
		}
	}
}

func TestP8TheNaturalSumHasNoOrder(t *testing.T) {
	all := smallOrds(9, 1)
	for _, a := range all {
		for _, b := range all {
			ab := told(t, impl.OrdNatural, a, b)
			if ba := told(t, impl.OrdNatural, b, a); !slices.Equal(ab, ba) {
				t.Fatalf("OrdNatural of %v and %v is %v, and exchanged %v", a, b, ab, ba)
			}
			for _, c := range all {
				x := told(t, impl.OrdNatural, ab, c)
				if y := told(t, impl.OrdNatural, a, told(t, impl.OrdNatural, b, c)); !slices.Equal(x, y) {
					t.Fatalf("OrdNatural of %v, %v and %v is %v or %v", a, b, c, x, y)
				}
			}
		}
	}
	wide := widest(t)
	for _, a := range wide {
		for _, b := range wide {
			ab, ok := impl.OrdNatural(a, b)
			ba, baOk := impl.OrdNatural(b, a)
			if ok != baOk || !slices.Equal(ab, ba) || ok && !impl.OrdValid(ab) || !ok && len(ab) > 0 {
				t.Fatalf("OrdNatural of %v and %v is %v, and exchanged %v", a, b, ab, ba)
			}
		}
	}
}

func TestP8TheNaturalSumLosesNothing(t *testing.T) {
	all := smallOrds(9, 2)
	for _, a := range all {
		before := []int(nil)
		for _, b := range all {
			s := told(t, impl.OrdNatural, a, b)
			if impl.OrdCompare(s, told(t, impl.OrdAdd, a, b)) < 0 {
				t.Fatalf("OrdNatural(%v, %v) is %v, less than OrdAdd", a, b, s)
			}
			if before != nil && impl.OrdCompare(before, s) != -1 {
				t.Fatalf("OrdNatural(%v, %v) is %v, not greater than with one less", a, b, s)
			}
			// Each has the lesser terms of the other one, by which a sum would lose them.
			if rest, ok := impl.OrdMinus(s, a); !ok || len(b) > 1 && len(rest) == 1 {
				t.Fatalf("OrdNatural(%v, %v) is %v", a, b, s)
			}
			before = s
		}
	}
}

func TestP50TowersPassEverything(t *testing.T) {
	all := wideOrds(t)
	before := impl.OrdOf(0)
	for n := range 10 {
		x, ok := impl.OrdTower(n)
		if !ok || !slices.Equal(x, tower(n+1)) {
			t.Fatalf("OrdTower(%d) is %v, %t", n, x, ok)
		}
		if impl.OrdCompare(before, x) != -1 {
			t.Errorf("OrdTower(%d) is %v, not greater than %v", n, x, before)
		}
		for _, o := range all {
			if impl.OrdDepth(o) < impl.OrdDepth(x) && impl.OrdCompare(o, x) != -1 {
				t.Errorf("%v is less deep than OrdTower(%d), but not less", o, n)
			}
		}
		before = x
	}
	for _, n := range []int{-1, 10, 29, math.MinInt, math.MaxInt} {
		if x, ok := impl.OrdTower(n); ok || len(x) > 0 {
			t.Errorf("OrdTower(%d) is %v, %t", n, x, ok)
		}
	}
}

func TestOrdRaiseOfText(t *testing.T) {
	for _, x := range []struct {
		text  string
		n     int
		power string
	}{
		{"0", 0, "1"}, {"0", 1, "0"}, {"0", 9, "0"}, {"1", 9, "1"}, {"w", 0, "1"}, {"2", 9, "512"}, {"3", 8, "6561"}, {"3", 9, ""},
		{"9999", 0, "1"}, {"9999", 1, "9999"}, {"9999", 2, ""}, {"w", 9, "w^9"}, {"w*2+1", 2, "w^2*2+w*2+1"}, {"w+1", 3, "w^3+w^2+w+1"},
		{"w*2", 3, "w^3*2"}, {"w^w", 3, "w^(w*3)"}, {"w^(w+1)", 2, "w^(w*2+1)"}, {"w^9999", 1, "w^9999"}, {"w^9999", 2, ""}, {"w^3333", 3, "w^9999"},
		{"w^3333", 4, ""}, {"w^5+w^4+w^3+w^2+w", 2, "w^10+w^9+w^8+w^7+w^6"},
	} {
		o, ok := impl.OrdRaise(read(t, x.text), x.n)
		if ok != (x.power != "") || impl.OrdText(o) != x.power || !ok && len(o) > 0 {
			t.Errorf("OrdRaise of %s to %d is %v, %t, not %s", x.text, x.n, o, ok, x.power)
		}
	}
}

func TestP51PowersMultiply(t *testing.T) {
	for _, o := range wideOrds(t) {
		before := impl.OrdOf(1)
		for n := range 10 {
			x, ok := impl.OrdRaise(o, n)
			if n == 0 && (!ok || !slices.Equal(x, impl.OrdOf(1))) || n == 1 && (!ok || !slices.Equal(x, o)) {
				t.Fatalf("OrdRaise(%v, %d) is %v, %t", o, n, x, ok)
			}
			if n > 0 {
				next, fits := impl.OrdTimes(before, o)
				if fits != ok || !slices.Equal(next, x) {
					t.Fatalf("OrdRaise(%v, %d) is %v, %t, but the product %v, %t", o, n, x, ok, next, fits)
				}
			}
			before = x
		}
	}
}

func TestArithmeticWithInvalidArguments(t *testing.T) {
	for _, bad := range badOrds() {
		for _, good := range append(smallOrds(5, 1), bad) {
			for name, f := range map[string]ofTwo{"OrdAdd": impl.OrdAdd, "OrdTimes": impl.OrdTimes, "OrdMinus": impl.OrdMinus, "OrdNatural": impl.OrdNatural} {
				if x, ok := f(bad, good); ok || len(x) > 0 {
					t.Errorf("%s(%v, %v) is %v, %t", name, bad, good, x, ok)
				}
				if x, ok := f(good, bad); ok || len(x) > 0 {
					t.Errorf("%s(%v, %v) is %v, %t", name, good, bad, x, ok)
				}
			}
			if x, y, ok := impl.OrdDivide(bad, good); ok || len(x)+len(y) > 0 {
				t.Errorf("OrdDivide(%v, %v) is %v, %v, %t", bad, good, x, y, ok)
			}
			if x, y, ok := impl.OrdDivide(good, bad); ok || len(x)+len(y) > 0 {
				t.Errorf("OrdDivide(%v, %v) is %v, %v, %t", good, bad, x, y, ok)
			}
		}
		for n := range 10 {
			if x, ok := impl.OrdRaise(bad, n); ok || len(x) > 0 {
				t.Errorf("OrdRaise(%v, %d) is %v, %t", bad, n, x, ok)
			}
		}
	}
	for _, n := range []int{-1, 10, math.MinInt, math.MaxInt} {
		for _, o := range smallOrds(5, 2) {
			if x, ok := impl.OrdRaise(o, n); ok || len(x) > 0 {
				t.Errorf("OrdRaise(%v, %d) is %v, %t", o, n, x, ok)
			}
		}
	}
}

func TestArithmeticSharesNoMemory(t *testing.T) {
	all := append(widest(t), badOrds()...)
	for _, a := range all {
		for _, b := range all {
			x, y := lend(a), lend(b)
			var results [][]int
			for _, f := range []ofTwo{impl.OrdAdd, impl.OrdTimes, impl.OrdMinus, impl.OrdNatural} {
				o, _ := f(x.row, y.row)
				results = append(results, o)
			}
			often, left, _ := impl.OrdDivide(x.row, y.row)
			checkApart(t, "OrdDivide", often, left)
			raised, _ := impl.OrdRaise(x.row, 1)
			results = append(results, often, left, raised)
			x.checkKept(t, "a function of sums and products", results...)
			y.checkKept(t, "a function of sums and products", results...)
		}
	}
}
