package tests

import (
	"math"
	"slices"
	"testing"

	"loop.example/ordinalhydras/impl"
)

// beyond stands for all numbers that are far too great.
const beyond = 1 << 40

func badNumbers() []int {
	return []int{-1, -2, -99, impl.MaxNumber + 1, math.MinInt, math.MaxInt}
}

func badRoots() []int {
	return []int{-2, -1, 0, 1, impl.MaxRoot + 1, impl.MaxBase, math.MinInt, math.MaxInt}
}

// someNumbers returns numbers in ascending order: all small ones, and few of the others, those beside powers among them.
func someNumbers() []int {
	var all []int
	for n := range 1100 {
		all = append(all, n)
	}
	for base := 2; base <= impl.MaxRoot; base++ {
		for power := base; power <= impl.MaxNumber; power *= base {
			all = append(all, power-1, power)
			all = append(all, min(power+1, impl.MaxNumber), power/base*(base-1))
		}
	}
	n := 1
	for range 500 {
		n = n * 48271 % math.MaxInt32
		all = append(all, n%impl.MaxNumber, n%(1<<17))
	}
	for d := range 3 {
		all = append(all, impl.MaxNumber-d)
	}
	slices.Sort(all)
	return slices.Compact(all)
}

// writtenOut returns the row of a number in a base, however long. Its exponents stay numbers if it is plain.
func writtenOut(n, base int, plain bool) []int {
	row := []int{0}
	power, exponent := 1, 0
	for n/power >= base {
		power *= base
		exponent++
	}
	for ; n > 0; power, exponent = power/base, exponent-1 {
		if n < power {
			continue
		}
		row[0]++
		row = append(row, n/power)
		switch {
		case !plain:
			row = append(row, writtenOut(exponent, base, false)...)
		case exponent > 0:
			row = append(row, 1, exponent, 0)
		default:
			row = append(row, 0)
		}
		n %= power
	}
	return row
}

// grown returns what a number becomes if its base becomes another one, in exponents, too, unless it is plain; beyond if it is far too great.
func grown(n, from, to int, plain bool) int {
	sum := 0
	for exponent := 0; n > 0; n, exponent = n/from, exponent+1 {
		e := exponent
		if !plain {
			e = grown(e, from, to, false)
		}
		power := n % from
		for range min(e, 64) {
			power = min(power*to, beyond)
		}
		sum = min(sum+power, beyond)
	}
	return sum
}

// fits returns a row that is written out, or nil if it is too long.
func fits(row []int) []int {
	if len(row) > impl.MaxSize {
		return nil
	}
	return row
}

// grownIfTold returns what ChangeBase must be.
func grownIfTold(n, from, to int) int {
	x := grown(n, from, to, false)
	if fits(writtenOut(n, from, false)) == nil || x > impl.MaxNumber {
		return -1
	}
	return x
}

func TestGoodsteinConstants(t *testing.T) {
	if impl.MaxRoot != 90 || impl.MaxNumber != 1000000000 || impl.MaxTerms != 60 {
		t.Error(impl.MaxRoot, impl.MaxNumber, impl.MaxTerms)
	}
}

func TestOrdInBaseOfNumber(t *testing.T) {
	for _, x := range []struct {
		n, base     int
		text, plain string
	}{
		{0, 2, "0", "0"}, {0, 90, "0", "0"}, {1, 2, "1", "1"}, {1, 90, "1", "1"}, {2, 3, "2", "2"}, {7, 8, "7", "7"}, {89, 90, "89", "89"},
		{2, 2, "w", "w"}, {3, 2, "w+1", "w+1"}, {90, 90, "w", "w"}, {91, 90, "w+1", "w+1"}, {179, 90, "w+89", "w+89"}, {180, 90, "w*2", "w*2"},
		{4, 2, "w^w", "w^2"}, {8, 2, "w^(w+1)", "w^3"}, {15, 2, "w^(w+1)+w^w+w+1", "w^3+w^2+w+1"}, {16, 2, "w^(w^w)", "w^4"}, {32, 2, "w^(w^w+1)", "w^5"},
		{100, 2, "w^(w^w+w)+w^(w^w+1)+w^w", "w^6+w^5+w^2"}, {266, 2, "w^(w^(w+1))+w^(w+1)+w", "w^8+w^3+w"}, {65536, 2, "w^(w^(w^w))", "w^16"},
		{26, 3, "w^2*2+w*2+2", "w^2*2+w*2+2"}, {27, 3, "w^w", "w^3"}, {81, 3, "w^(w+1)", "w^4"}, {100, 3, "w^(w+1)+w^2*2+1", "w^4+w^2*2+1"},
		{255, 4, "w^3*3+w^2*3+w*3+3", "w^3*3+w^2*3+w*3+3"}, {256, 4, "w^w", "w^4"}, {467, 5, "w^3*3+w^2*3+w*3+2", "w^3*3+w^2*3+w*3+2"},
		{1 << 29, 2, "w^(w^(w^w)+w^(w+1)+w^w+1)", "w^29"}, {387420488, 9, "w^8*8+w^7*8+w^6*8+w^5*8+w^4*8+w^3*8+w^2*8+w*8+8", "w^8*8+w^7*8+w^6*8+w^5*8+w^4*8+w^3*8+w^2*8+w*8+8"},
		{387420489, 9, "w^w", "w^9"}, {1000000000, 10, "w^9", "w^9"}, {999999999, 10, "w^8*9+w^7*9+w^6*9+w^5*9+w^4*9+w^3*9+w^2*9+w*9+9", "w^8*9+w^7*9+w^6*9+w^5*9+w^4*9+w^3*9+w^2*9+w*9+9"},
		{1000000000, 8, "w^(w+1)*7+w^w*3+w^7*4+w^6*6+w^5*5+w^4*4+w^3*5", "w^9*7+w^8*3+w^7*4+w^6*6+w^5*5+w^4*4+w^3*5"},
		{1000000000, 90, "w^4*15+w^3*21+w^2*66+w*71+10", "w^4*15+w^3*21+w^2*66+w*71+10"},
		{1000000000, 2, "", "w^29+w^28+w^27+w^25+w^24+w^23+w^20+w^19+w^17+w^15+w^14+w^11+w^9"},
		{32767, 2, "", "w^14+w^13+w^12+w^11+w^10+w^9+w^8+w^7+w^6+w^5+w^4+w^3+w^2+w+1"}, {65534, 2, "", ""}, {65535, 2, "", ""}, {1<<29 - 1, 2, "", ""},
		{29523, 3, "w^(w^2)+w^(w*2+2)+w^(w*2+1)+w^(w*2)+w^(w+2)+w^(w+1)+w^w+w^2+w", "w^9+w^8+w^7+w^6+w^5+w^4+w^3+w^2+w"}, {29524, 3, "", "w^9+w^8+w^7+w^6+w^5+w^4+w^3+w^2+w+1"},
	} {
		if o := impl.OrdInBase(x.n, x.base); impl.OrdText(o) != x.text || x.text == "" && o != nil {
			t.Errorf("OrdInBase(%d, %d) is %s, %v, not %s", x.n, x.base, impl.OrdText(o), o, x.text)
		}
		if o := impl.PlainOrd(x.n, x.base); impl.OrdText(o) != x.plain || x.plain == "" && o != nil {
			t.Errorf("PlainOrd(%d, %d) is %s, %v, not %s", x.n, x.base, impl.OrdText(o), o, x.plain)
		}
	}
}

func TestOrdInBaseIsWrittenOut(t *testing.T) {
	short, long := 0, 0
	for _, n := range someNumbers() {
		for base := 2; base <= impl.MaxRoot; base++ {
			row := fits(writtenOut(n, base, false))
			if o := impl.OrdInBase(n, base); !slices.Equal(o, row) {
				t.Fatalf("OrdInBase(%d, %d) is %v, not %v", n, base, o, row)
			}
			if row == nil {
				long++
			} else {
				short++
			}
			plain := fits(writtenOut(n, base, true))
			if o := impl.PlainOrd(n, base); !slices.Equal(o, plain) {
				t.Fatalf("PlainOrd(%d, %d) is %v, not %v", n, base, o, plain)
			}
		}
	}
	if short < 1000 || long < 1000 {
		t.Errorf("%d ordinals were told, and %d were not", short, long)
	}
}

func TestP12NumbersAndTheirOrdinalsAreInTheSameOrder(t *testing.T) {
	for base := 2; base <= impl.MaxRoot; base++ {
		before := []int(nil)
		for _, n := range someNumbers() {
			o := impl.OrdInBase(n, base)
			if o == nil {
				continue
			}
			if before != nil && impl.OrdCompare(before, o) != -1 {
				t.Fatalf("OrdInBase(%d, %d) is %v, not greater than %v of a lesser number", n, base, o, before)
			}
			if value := impl.SlowValue(o, base); value != n {
				t.Fatalf("OrdInBase(%d, %d) is %v, of the value %d", n, base, o, value)
			}
			if !impl.BaseOk(o, base) {
				t.Fatalf("OrdInBase(%d, %d) is %v, not one of the base", n, base, o)
			}
			before = o
		}
	}
}

func TestP12OfAllPairs(t *testing.T) {
	for _, base := range []int{2, 3, 4, 7, 90} {
		for a := range 200 {
			for b := range 200 {
				want := min(1, max(-1, a-b))
				if c := impl.OrdCompare(impl.OrdInBase(a, base), impl.OrdInBase(b, base)); c != want {
					t.Fatalf("in the base %d the ordinals of %d and %d compare as %d", base, a, b, c)
				}
			}
		}
	}
}

func TestBaseOkOfText(t *testing.T) {
	for _, x := range []struct {
		text string
		base int
		ok   bool
	}{
		{"0", 2, true}, {"0", 90, true}, {"0", 1, false}, {"0", 91, false}, {"1", 2, true}, {"2", 2, false}, {"2", 3, true}, {"89", 90, true}, {"90", 90, false},
		{"w", 2, true}, {"w^w*2+1", 3, true}, {"w^w*2+1", 2, false}, {"w^w*2+1", 99, false}, {"w^2", 2, false}, {"w^2", 3, true}, {"w+9999", 90, false},
		{"w^(w*4+1)*2+1", 4, false}, {"w^(w*4+1)*2+1", 5, true}, {"w^(w^(w^7))", 7, false}, {"w^(w^(w^7))", 8, true}, {"w^(w^(w^(w^w)))", 2, true},
		{"w^89*89", 90, true}, {"w^89*90", 90, false}, {"w^90*89", 90, false}, {"w", 1, false}, {"w", 0, false}, {"w", -1, false}, {"w", 91, false},
	} {
		if ok := impl.BaseOk(read(t, x.text), x.base); ok != x.ok {
			t.Errorf("BaseOk of %s and %d is %t", x.text, x.base, ok)
		}
	}
	if !impl.BaseOk(tower(29), 2) || !impl.BaseOk(longSum(14), 15) || impl.BaseOk(longSum(14), 14) {
		t.Error("BaseOk of a long ordinal")
	}
}

func TestP54OrdinalsOfABaseAreThoseOfNumbers(t *testing.T) {
	valued := 0
	all := slices.Concat(smallOrds(11, 2), smallOrds(9, 4), wideOrds(t))
	for _, o := range all {
		ofBase := false
		for base := 2; base <= impl.MaxRoot; base++ {
			ok := impl.BaseOk(o, base)
			if ok != (impl.OrdMost(o) < base) || ofBase && !ok {
				t.Fatalf("BaseOk(%v, %d) is %t", o, base, ok)
			}
			ofBase = ok
			value := impl.SlowValue(o, base)
			if !ok || value < 0 || value > impl.MaxNumber {
				continue
			}
			valued++
			if x := impl.OrdInBase(value, base); !slices.Equal(x, o) {
				t.Fatalf("OrdInBase(%d, %d) is %v, not %v", value, base, x, o)
			}
		}
	}
	if valued < 1000 {
		t.Errorf("only %d ordinals had a value", valued)
	}
}

func TestChangeBaseOfNumber(t *testing.T) {
	for _, x := range []struct{ n, from, to, changed int }{
		{0, 2, 3, 0}, {0, 90, 2, 0}, {1, 2, 90, 1}, {1, 90, 2, 1}, {4, 2, 3, 27}, {4, 2, 2, 4}, {4, 2, 9, 387420489}, {4, 2, 10, -1}, {5, 2, 9, 387420490}, {3, 2, 90, 91},
		{8, 2, 3, 81}, {15, 2, 3, 112}, {16, 2, 3, -1}, {16, 2, 2, 16}, {100, 3, 2, 17}, {2, 3, 2, 2}, {7, 8, 2, 7}, {89, 90, 2, 89}, {8, 3, 2, 6}, {7, 8, 7, 7}, {90, 90, 89, 89}, {8100, 90, 2, 4},
		{27, 3, 2, 4}, {256, 4, 2, 4}, {387420489, 9, 2, 4}, {387420489, 9, 3, 27}, {387420489, 9, 10, -1}, {1000000000, 10, 2, 512}, {1000000000, 10, 10, 1000000000}, {1000000000, 10, 11, -1}, {1000000000, 90, 89, 956467079},
		{506642184, 11, 12, 1000000000}, {506642185, 11, 12, -1}, {956467079, 89, 90, 1000000000}, {956467080, 89, 90, -1},
		{253, 2, 2, -1}, {253, 2, 3, -1}, {1<<29 - 1, 2, 2, -1}, {1000000000, 2, 2, -1}, {29524, 3, 2, -1},
	} {
		if changed := impl.ChangeBase(x.n, x.from, x.to); changed != x.changed {
			t.Errorf("ChangeBase(%d, %d, %d) is %d, not %d", x.n, x.from, x.to, changed, x.changed)
		}
	}
}

func TestP55GreaterBasesMakeGreaterNumbers(t *testing.T) {
	roots := []int{2, 3, 4, 5, 9, 10, 11, 45, 89, 90}
	for _, n := range someNumbers() {
		for _, from := range roots {
			o := impl.OrdInBase(n, from)
			before := -1
			for _, to := range roots {
				changed := impl.ChangeBase(n, from, to)
				if changed != grownIfTold(n, from, to) {
					t.Fatalf("ChangeBase(%d, %d, %d) is %d, not %d", n, from, to, changed, grownIfTold(n, from, to))
				}
				if changed < 0 {
					continue
				}
				if from == to && changed != n || from < to && changed < n || changed < before {
					t.Fatalf("ChangeBase(%d, %d, %d) is %d, and for a lesser base %d", n, from, to, changed, before)
				}
				if from <= to && !slices.Equal(impl.OrdInBase(changed, to), o) {
					t.Fatalf("ChangeBase(%d, %d, %d) is %d, with another ordinal", n, from, to, changed)
				}
				before = changed
			}
		}
	}
}

func TestGoodsteinNextOfNumber(t *testing.T) {
	for _, x := range []struct{ n, base, next, plain int }{
		{1, 2, 0, 0}, {1, 89, 0, 0}, {2, 2, 2, 2}, {3, 2, 3, 3}, {4, 2, 26, 8}, {5, 2, 27, 9}, {8, 2, 80, 26}, {2, 3, 1, 1}, {7, 8, 6, 6}, {88, 89, 87, 87}, {89, 89, 89, 89}, {90, 89, 90, 90},
		{27, 3, 255, 63}, {28, 3, 256, 64}, {26, 3, 41, 41}, {41, 4, 60, 60}, {255, 4, 467, 467}, {256, 4, 3124, 624}, {16, 2, -1, 80}, {253, 2, -1, 3276}, {65534, 2, -1, 21523358}, {65535, 2, -1, 21523359},
		{1<<18 - 1, 2, -1, 193710243}, {1<<19 - 1, 2, -1, 581130732}, {1 << 18, 2, -1, 387420488}, {1 << 19, 2, -1, -1}, {1<<29 - 1, 2, -1, -1}, {1 << 29, 2, -1, -1}, {1000000000, 2, -1, -1},
		{387420488, 9, 888888887, 888888887}, {387420489, 9, -1, 999999999}, {387420490, 9, -1, 1000000000}, {387420491, 9, -1, -1},
		{506642184, 11, 999999999, 999999999}, {506642185, 11, -1, 1000000000}, {506642186, 11, -1, -1}, {1000000000, 89, -1, -1},
		{956467079, 89, 999999999, 999999999}, {956467080, 89, -1, 1000000000}, {956467081, 89, -1, -1},
	} {
		if next := impl.GoodsteinNext(x.n, x.base); next != x.next {
			t.Errorf("GoodsteinNext(%d, %d) is %d, not %d", x.n, x.base, next, x.next)
		}
		if next := impl.PlainNext(x.n, x.base); next != x.plain {
			t.Errorf("PlainNext(%d, %d) is %d, not %d", x.n, x.base, next, x.plain)
		}
	}
}

func TestNextNumbersAreGrown(t *testing.T) {
	for _, n := range someNumbers()[1:] {
		for base := 2; base < impl.MaxRoot; base++ {
			want := max(-1, grownIfTold(n, base, base+1)-1)
			if next := impl.GoodsteinNext(n, base); next != want {
				t.Fatalf("GoodsteinNext(%d, %d) is %d, not %d", n, base, next, want)
			}
			want = grown(n, base, base+1, true) - 1
			if want > impl.MaxNumber {
				want = -1
			}
			if next := impl.PlainNext(n, base); next != want {
				t.Fatalf("PlainNext(%d, %d) is %d, not %d", n, base, next, want)
			}
		}
	}
}

// checkFalls reports a next number whose ordinal in the next base is not less, and tells whether both were there.
func checkFalls(t *testing.T, ordOf func(n, base int) []int, n, base, next int) bool {
	t.Helper()
	if next < 0 {
		return false
	}
	before, behind := ordOf(n, base), ordOf(next, base+1)
	if before == nil || behind == nil {
		return false
	}
	if impl.OrdCompare(behind, before) != -1 {
		t.Fatalf("%d in the base %d has %v, and then %d in the next one %v", n, base, before, next, behind)
	}
	return true
}

func TestP13TheOrdinalFalls(t *testing.T) {
	told := 0
	for _, n := range someNumbers()[1:] {
		for base := 2; base < impl.MaxRoot; base++ {
			if checkFalls(t, impl.OrdInBase, n, base, impl.GoodsteinNext(n, base)) {
				told++
			}
		}
	}
	if told < 1000 {
		t.Errorf("only %d next numbers had ordinals", told)
	}
}

func TestP15ThePlainSequenceFalls(t *testing.T) {
	told := 0
	for _, n := range someNumbers()[1:] {
		for base := 2; base < impl.MaxRoot; base++ {
			next := impl.PlainNext(n, base)
			if checkFalls(t, impl.PlainOrd, n, base, next) {
				told++
			}
			if full := impl.GoodsteinNext(n, base); full >= 0 && (next < 0 || next > full) {
				t.Fatalf("PlainNext(%d, %d) is %d, but GoodsteinNext %d", n, base, next, full)
			}
		}
	}
	if told < 1000 {
		t.Errorf("only %d next numbers had ordinals", told)
	}
}

func TestP57ExponentsThatStayNumbersAreEnough(t *testing.T) {
	for base := 2; base <= impl.MaxRoot; base++ {
		// The base to the power of itself, as far as there are such numbers.
		same := 1
		for range base {
			same = min(same*base, beyond)
		}
		before := []int(nil)
		for _, n := range someNumbers() {
			o := impl.PlainOrd(n, base)
			if n < same && !slices.Equal(o, impl.OrdInBase(n, base)) {
				t.Fatalf("PlainOrd(%d, %d) is %v, not OrdInBase", n, base, o)
			}
			if o == nil {
				continue
			}
			if value := impl.SlowValue(o, base); value != n {
				t.Fatalf("PlainOrd(%d, %d) is %v, of the value %d", n, base, o, value)
			}
			if before != nil && impl.OrdCompare(before, o) != -1 {
				t.Fatalf("PlainOrd(%d, %d) is %v, not greater than %v of a lesser number", n, base, o, before)
			}
			before = o
		}
		if same <= impl.MaxNumber && slices.Equal(impl.PlainOrd(same, base), impl.OrdInBase(same, base)) {
			t.Errorf("PlainOrd(%d, %d) is OrdInBase", same, base)
		}
	}
}

func TestGoodsteinRunOfNumber(t *testing.T) {
	for _, x := range []struct {
		n, length, end int
		begin          []int
	}{
		{0, 1, 1, []int{0}}, {1, 2, 2, []int{1, 0}}, {2, 4, 4, []int{2, 2, 1, 0}}, {3, 6, 6, []int{3, 3, 3, 2, 1, 0}},
		{4, 60, -1, []int{4, 26, 41, 60, 83, 109, 139, 173, 211, 253, 299, 348}}, {5, 60, -1, []int{5, 27, 255, 467, 775, 1197, 1751, 2454, 3325}},
		{6, 44, -1, []int{6, 29, 257, 3125, 46655, 98039, 187243}}, {7, 13, -1, []int{7, 30, 259, 3127, 46657, 823543, 16777215, 37665879}},
		{8, 8, -1, []int{8, 80, 553, 6310, 93395, 1647195, 33554571, 774841151}}, {15, 7, -1, []int{15, 111, 1283, 18752, 326593, 6588344, 150994943}},
		{16, 1, -1, []int{16}}, {17, 1, -1, []int{17}}, {253, 1, -1, []int{253}}, {1 << 29, 1, -1, []int{1 << 29}}, {1<<29 - 1, 1, -1, []int{1<<29 - 1}}, {1000000000, 1, -1, []int{1000000000}},
	} {
		run := impl.GoodsteinRun(x.n)
		if len(run) != x.length || !slices.Equal(run[:min(len(run), len(x.begin))], x.begin) {
			t.Errorf("GoodsteinRun(%d) is %v, %d numbers, not %d with %v", x.n, run, len(run), x.length, x.begin)
		}
		if end := impl.GoodsteinEnd(x.n); end != x.end {
			t.Errorf("GoodsteinEnd(%d) is %d, not %d", x.n, end, x.end)
		}
	}
}

func TestP56SequencesGoOnByOneRule(t *testing.T) {
	for _, n := range someNumbers() {
		run := impl.GoodsteinRun(n)
		if len(run) < 1 || len(run) > impl.MaxTerms || run[0] != n {
			t.Fatalf("GoodsteinRun(%d) is %v", n, run)
		}
		for i := range run[1:] {
			if run[i] == 0 || run[i+1] != impl.GoodsteinNext(run[i], i+2) || run[i+1] != grownIfTold(run[i], i+2, i+3)-1 {
				t.Fatalf("GoodsteinRun(%d) is %v, with another number behind %d", n, run, run[i])
			}
		}
		last, base := run[len(run)-1], len(run)+1
		if last != 0 && len(run) < impl.MaxTerms && grownIfTold(last, base, base+1) != -1 {
			t.Fatalf("GoodsteinRun(%d) is %v, and does not go on", n, run)
		}
	}
}

func TestP14GoodsteinSequencesFall(t *testing.T) {
	for _, n := range someNumbers() {
		run, ords := impl.GoodsteinRun(n), impl.GoodsteinOrds(n)
		if len(ords) > len(run) {
			t.Fatalf("GoodsteinOrds(%d) has %d ordinals for %d numbers", n, len(ords), len(run))
		}
		for i, o := range ords {
			if !impl.OrdValid(o) || !slices.Equal(o, impl.OrdInBase(run[i], i+2)) {
				t.Fatalf("GoodsteinOrds(%d) has %v for %d", n, o, run[i])
			}
			if i > 0 && impl.OrdCompare(o, ords[i-1]) != -1 {
				t.Fatalf("GoodsteinOrds(%d) has %v behind %v", n, o, ords[i-1])
			}
		}
		if len(ords) < len(run) && impl.OrdInBase(run[len(ords)], len(ords)+2) != nil {
			t.Fatalf("GoodsteinOrds(%d) has only %d ordinals for %d numbers", n, len(ords), len(run))
		}
	}
}

func TestGoodsteinOrdsOfText(t *testing.T) {
	for n, texts := range map[int][]string{
		0: {"0"}, 1: {"1", "0"}, 2: {"w", "2", "1", "0"}, 3: {"w+1", "w", "3", "2", "1", "0"}, 16: {"w^(w^w)"}, 253: nil, 1<<29 - 1: nil, 1000000000: nil,
		8: {"w^(w+1)", "w^w*2+w^2*2+w*2+2", "w^w*2+w^2*2+w*2+1", "w^w*2+w^2*2+w*2", "w^w*2+w^2*2+w+5", "w^w*2+w^2*2+w+4", "w^w*2+w^2*2+w+3", "w^w*2+w^2*2+w+2"},
	} {
		var got []string
		for _, o := range impl.GoodsteinOrds(n) {
			got = append(got, impl.OrdText(o))
		}
		if !slices.Equal(got, texts) {
			t.Errorf("GoodsteinOrds(%d) is %v, not %v", n, got, texts)
		}
	}
	for n, length := range map[int]int{4: 60, 5: 60, 6: 44, 7: 13, 15: 7} {
		if ords := impl.GoodsteinOrds(n); len(ords) != length {
			t.Errorf("GoodsteinOrds(%d) has %d ordinals, not %d", n, len(ords), length)
		}
	}
}

func TestP58ShortSequencesEnd(t *testing.T) {
	for n, length := range []int{1, 2, 4, 6} {
		if end, run := impl.GoodsteinEnd(n), impl.GoodsteinRun(n); end != length || len(run) != length || run[length-1] != 0 {
			t.Errorf("GoodsteinEnd(%d) is %d, not %d, and GoodsteinRun %v", n, end, length, run)
		}
	}
	for _, n := range someNumbers() {
		run, want := impl.GoodsteinRun(n), -1
		if run[len(run)-1] == 0 {
			want = len(run)
		}
		if end := impl.GoodsteinEnd(n); end != want || n > 3 && end != -1 {
			t.Fatalf("GoodsteinEnd(%d) is %d, but GoodsteinRun has %d numbers up to %d", n, end, len(run), run[len(run)-1])
		}
	}
}

// checkNotTold reports results of a number in a base of which one is invalid.
func checkNotTold(t *testing.T, n, base int) {
	t.Helper()
	if o := impl.OrdInBase(n, base); o != nil {
		t.Errorf("OrdInBase(%d, %d) is %v", n, base, o)
	}
	if o := impl.PlainOrd(n, base); o != nil {
		t.Errorf("PlainOrd(%d, %d) is %v", n, base, o)
	}
	for _, other := range append(badRoots(), 2, 3, 89, 90) {
		if x := impl.ChangeBase(n, base, other); x != -1 {
			t.Errorf("ChangeBase(%d, %d, %d) is %d", n, base, other, x)
		}
	}
	checkNoNext(t, n, base)
}

func checkNoNext(t *testing.T, n, base int) {
	t.Helper()
	if x := impl.GoodsteinNext(n, base); x != -1 {
		t.Errorf("GoodsteinNext(%d, %d) is %d", n, base, x)
	}
	if x := impl.PlainNext(n, base); x != -1 {
		t.Errorf("PlainNext(%d, %d) is %d", n, base, x)
	}
}

func TestGoodsteinWithInvalidNumbers(t *testing.T) {
	for _, n := range badNumbers() {
		for _, base := range append(badRoots(), 2, 3, 10, 89, 90) {
			checkNotTold(t, n, base)
		}
		if run := impl.GoodsteinRun(n); run != nil {
			t.Errorf("GoodsteinRun(%d) is %v", n, run)
		}
		if ords := impl.GoodsteinOrds(n); ords != nil {
			t.Errorf("GoodsteinOrds(%d) is %v", n, ords)
		}
		if end := impl.GoodsteinEnd(n); end != -1 {
			t.Errorf("GoodsteinEnd(%d) is %d", n, end)
		}
	}
}

func TestGoodsteinWithInvalidBases(t *testing.T) {
	for _, n := range []int{0, 1, 2, 4, 100, 1000000000} {
		for _, base := range badRoots() {
			checkNotTold(t, n, base)
			for _, from := range []int{2, 3, 90} {
				if x := impl.ChangeBase(n, from, base); x != -1 {
					t.Errorf("ChangeBase(%d, %d, %d) is %d", n, from, base, x)
				}
			}
		}
		// There is such a base, but no next one.
		checkNoNext(t, n, impl.MaxRoot)
	}
	// There is such a number, but none before it.
	for base := 2; base <= impl.MaxRoot; base++ {
		checkNoNext(t, 0, base)
	}
}

func TestBaseOkWithInvalidArguments(t *testing.T) {
	for _, o := range badOrds() {
		for _, base := range append(badRoots(), 2, 3, 10, 90) {
			if impl.BaseOk(o, base) {
				t.Errorf("BaseOk(%v, %d) is true", o, base)
			}
		}
	}
	for _, o := range wideOrds(t) {
		for _, base := range badRoots() {
			if impl.BaseOk(o, base) {
				t.Errorf("BaseOk(%v, %d) is true", o, base)
			}
		}
	}
}

func TestGoodsteinSharesNoMemory(t *testing.T) {
	for _, o := range append(widest(t), badOrds()...) {
		l := lend(o)
		impl.BaseOk(l.row, 2)
		impl.BaseOk(l.row, 90)
		l.checkKept(t, "BaseOk")
	}
	for _, n := range []int{0, 1, 3, 4, 7, 16, 100, 387420489} {
		rows := append(impl.GoodsteinOrds(n), impl.GoodsteinRun(n), impl.GoodsteinRun(n), impl.PlainOrd(n, 5), impl.PlainOrd(n, 5))
		for base := 2; base < 12; base++ {
			rows = append(rows, impl.OrdInBase(n, base), impl.OrdInBase(n, base))
		}
		checkApart(t, "a function of Goodstein sequences", rows...)
		if o := impl.OrdInBase(n, 5); !slices.Equal(o, fits(writtenOut(n, 5, false))) {
			t.Errorf("OrdInBase(%d, 5) is %v behind its results that were written to", n, o)
		}
	}
}
