package tests

import (
	"math"
	"slices"
	"strconv"
	"strings"
	"testing"

	"loop.example/ordinalhydras/impl"
)

// badSteps returns numbers that no step has.
func badSteps() []int {
	return []int{-1, 100, math.MinInt, math.MaxInt, -99, 1000}
}

// step returns the step down that there must be.
func step(t *testing.T, o []int, n int) []int {
	t.Helper()
	x, ok := impl.OrdStep(o, n)
	if !ok || !impl.OrdValid(x) {
		t.Fatalf("OrdStep(%v, %d) is %v, %t", o, n, x, ok)
	}
	return x
}

// longDown returns w^n+..+w^2*2: an ordinal of 4n-3 numbers of which the last term stays behind a step.
func longDown(n int) []int {
	o := []int{n - 1}
	for ; n > 2; n-- {
		o = append(o, 1, 1, n, 0)
	}
	return append(o, 2, 1, 2, 0)
}

func TestStepConstants(t *testing.T) {
	if impl.MaxBase != 99 || impl.MaxFall != 3000 || impl.MaxValue != 1000000000 {
		t.Error(impl.MaxBase, impl.MaxFall, impl.MaxValue)
	}
}

func TestOrdStepOfText(t *testing.T) {
	for _, x := range []struct {
		text string
		n    int
		step string
	}{
		{"0", 0, "0"}, {"0", 3, "0"}, {"0", 99, "0"},
		{"1", 0, "0"}, {"1", 99, "0"}, {"2", 0, "1"}, {"7", 3, "6"}, {"9999", 99, "9998"},
		{"w+1", 0, "w"}, {"w+1", 5, "w"}, {"w^w*2+w+8", 5, "w^w*2+w+7"},
		{"w", 0, "0"}, {"w", 1, "1"}, {"w", 5, "5"}, {"w", 99, "99"},
		{"w*2", 0, "w"}, {"w*2", 1, "w+1"}, {"w*2", 7, "w+7"}, {"w*9999", 99, "w*9998+99"},
		{"w^2", 0, "0"}, {"w^2", 1, "w"}, {"w^2", 2, "w*2"}, {"w^2*3", 4, "w^2*2+w*4"},
		{"w^2+w", 0, "w^2"}, {"w^2+w", 3, "w^2+3"}, {"w^9999*2", 3, "w^9999+w^9998*3"},
		{"w^w", 0, "1"}, {"w^w", 1, "w"}, {"w^w", 2, "w^2"}, {"w^w", 99, "w^99"},
		{"w^w*2", 0, "w^w+1"}, {"w^w*2", 3, "w^w+w^3"}, {"w^w*2+w^2", 3, "w^w*2+w*3"}, {"w^w*2+w^2", 0, "w^w*2"},
		{"w^(w+1)", 0, "0"}, {"w^(w+1)", 1, "w^w"}, {"w^(w+1)", 3, "w^w*3"}, {"w^(w+1)*2+w^w", 3, "w^(w+1)*2+w^3"},
		{"w^(w*2)", 0, "w^w"}, {"w^(w*2)", 1, "w^(w+1)"}, {"w^(w*2)*4", 5, "w^(w*2)*3+w^(w+5)"},
		{"w^(w^2)", 0, "1"}, {"w^(w^2)", 1, "w^w"}, {"w^(w^2)", 3, "w^(w*3)"},
		{"w^(w^w)", 0, "w"}, {"w^(w^w)", 1, "w^w"}, {"w^(w^w)", 2, "w^(w^2)"},
		{"w^(w^w*2+w)", 0, "w^(w^w*2)"}, {"w^(w^w*2+w)", 6, "w^(w^w*2+6)"},
		{"w^(w^(w*2+1))*2", 2, "w^(w^(w*2+1))+w^(w^(w*2)*2)"},
	} {
		if o, ok := impl.OrdStep(read(t, x.text), x.n); !ok || impl.OrdText(o) != x.step {
			t.Errorf("OrdStep of %s for %d is %s, %t, not %s", x.text, x.n, impl.OrdText(o), ok, x.step)
		}
	}
}

func TestOrdStepOfLongOrdinals(t *testing.T) {
	twice := append([]int{1, 2}, tower(28)...)
	for _, x := range []struct {
		o    []int
		n    int
		step []int
	}{
		{tower(29), 0, tower(27)},
		{tower(29), 1, tower(28)},
		{tower(29), 99, append(slices.Repeat([]int{1}, 55), 99, 0)},
		{longSum(14), 0, append([]int{13}, longSum(14)[1:53]...)},
		{longSum(14), 5, append(append([]int{14}, longSum(14)[1:53]...), 5, 0)},
		{longDown(15), 0, append([]int{14, 1}, append(longDown(15)[2:53], 1, 1, 2, 0)...)},
		{longDown(14), 3, append(append([]int{14}, longDown(14)[1:49]...), 1, 1, 2, 0, 3, 1, 1, 0)},
		{longDown(15), 1, nil},
		{longDown(15), 99, nil},
		{twice, 0, nil},
		{twice, 1, nil},
		{twice, 99, nil},
		{append([]int{1, 1}, longDown(14)...), 2, append([]int{1, 1}, step(t, longDown(14), 2)...)},
		{append([]int{1, 2}, longDown(14)...), 2, nil},
		{append([]int{1, 1, 1, 1, 1, 1}, longDown(14)...), 1, nil},
	} {
		o, ok := impl.OrdStep(x.o, x.n)
		if !impl.OrdValid(x.o) || ok != (x.step != nil) || !slices.Equal(o, x.step) || len(o) > impl.MaxSize {
			t.Errorf("OrdStep(%v, %d) is %v, %t, not %v", x.o, x.n, o, ok, x.step)
		}
	}
}

func TestP9StepsComeUpToTheirOrdinal(t *testing.T) {
	all := smallOrds(9, 3)
	for i, o := range all {
		for n := range 6 {
			x := step(t, o, n)
			if c := impl.OrdCompare(x, o); c != -1 && i > 0 || c != 0 && i == 0 {
				t.Fatalf("OrdStep(%v, %d) is %v", o, n, x)
			}
			if impl.OrdKind(o) != 2 {
				continue
			}
			if next := step(t, o, n+1); impl.OrdCompare(x, next) != -1 {
				t.Fatalf("OrdStep(%v, %d) is %v, but for one more %v", o, n, x, next)
			}
			for _, below := range all[:i] {
				if impl.OrdMost(below) < n && impl.OrdCompare(below, x) != -1 {
					t.Fatalf("OrdStep(%v, %d) is %v, not greater than %v", o, n, x, below)
				}
			}
		}
	}
}

func TestP9AtTheBounds(t *testing.T) {
	wide := append(widest(t), longDown(14), longDown(15))
	for _, o := range wide {
		before := []int(nil)
		for n := range impl.MaxBase + 1 {
			x, ok := impl.OrdStep(o, n)
			if !ok {
				if len(x) > 0 {
					t.Fatalf("OrdStep(%v, %d) is %v beside false", o, n, x)
				}
				continue
			}
			if !impl.OrdValid(x) || len(o) > 1 && impl.OrdCompare(x, o) != -1 {
				t.Fatalf("OrdStep(%v, %d) is %v", o, n, x)
			}
			if impl.OrdKind(o) != 2 {
				before, _ = impl.OrdBefore(o)
				if len(o) > 1 && !slices.Equal(x, before) {
					t.Fatalf("OrdStep(%v, %d) is %v, and the one before %v", o, n, x, before)
				}
				continue
			}
			if before != nil && impl.OrdCompare(before, x) != -1 {
				t.Fatalf("OrdStep(%v, %d) is %v, not greater than %v", o, n, x, before)
			}
			for _, below := range wide {
				if impl.OrdCompare(below, o) == -1 && impl.OrdMost(below) < n && impl.OrdCompare(below, x) != -1 {
					t.Fatalf("OrdStep(%v, %d) is %v, not greater than %v", o, n, x, below)
				}
			}
			before = x
		}
	}
}

// texts returns the texts of ordinals.
func texts(all [][]int) string {
	var list []string
	for _, o := range all {
		list = append(list, impl.OrdText(o))
	}
	return strings.Join(list, " ")
}

func TestOrdFallOfText(t *testing.T) {
	for _, x := range []struct {
		text    string
		numbers []int
		fall    string
	}{
		{"0", nil, ""},
		{"0", []int{1, 2, 3}, ""},
		{"w", nil, ""},
		{"w", []int{}, ""},
		{"w", []int{0}, "0"},
		{"w", []int{0, 5, 5}, "0"},
		{"w", []int{2, 7, 7, 7}, "2 1 0"},
		{"w", []int{2, 7, 7}, "2 1 0"},
		{"w", []int{2, 7}, "2 1"},
		{"3", []int{0, 99, 0, 99}, "2 1 0"},
		{"1", []int{4, 4}, "0"},
		{"w^2", []int{1, 2, 3, 4}, "w 2 1 0"},
		{"w^2", []int{2, 1, 0, 3, 3, 3}, "w*2 w+1 w 3 2 1"},
		{"w^w*2+w^2", []int{0, 0, 0, 0, 0}, "w^w*2 w^w+1 w^w 1 0"},
		{"w^(w+1)", []int{2, 3, 1, 0, 99}, "w^w*2 w^w+w^3 w^w+w^2 w^w w^99"},
	} {
		fall, ok := impl.OrdFall(read(t, x.text), x.numbers)
		if !ok || texts(fall) != x.fall {
			t.Errorf("OrdFall of %s with %v is %s, %t, not %s", x.text, x.numbers, texts(fall), ok, x.fall)
		}
	}
}

func TestOrdFallAtTheBounds(t *testing.T) {
	most := make([]int, impl.MaxFall)
	fall, ok := impl.OrdFall(impl.OrdOf(3000), most)
	if !ok || len(fall) != 3000 || !slices.Equal(fall[2999], impl.OrdOf(0)) || !slices.Equal(fall[0], impl.OrdOf(2999)) {
		t.Error(len(fall), ok)
	}
	fall, ok = impl.OrdFall(impl.OrdOf(3001), most)
	if !ok || len(fall) != 3000 || !slices.Equal(fall[2999], impl.OrdOf(1)) {
		t.Error(len(fall), ok)
	}
	twice := append([]int{1, 2}, tower(28)...)
	// From 2 more than the long one there are two steps before there is no place for the third one.
	long, _ := impl.OrdNext(longDown(15))
	long, _ = impl.OrdNext(long)
	for _, x := range []struct {
		o       []int
		numbers []int
		ok      bool
	}{
		{long, []int{4, 4}, true},
		{long, []int{4, 4, 4}, false},
		{long, []int{4, 4, 0}, true},
		{long, []int{4, 4, 0, 1, 1}, true},
		{twice, []int{0}, false},
		{twice, nil, true},
		{longDown(15), []int{1, 1}, false},
		{impl.OrdOf(0), most, true},
		{impl.OrdOf(0), append(most, 0), false},
		{impl.OrdOf(5), append(most, 0), false},
		{nil, most, false},
	} {
		fall, ok := impl.OrdFall(x.o, x.numbers)
		if ok != x.ok || !ok && len(fall) > 0 || ok && len(x.o) > 1 && len(fall) != len(x.numbers) {
			t.Errorf("OrdFall(%v) with %d numbers is %v, %t", x.o, len(x.numbers), fall, ok)
		}
	}
}

func TestP52FallsGoDown(t *testing.T) {
	for _, numbers := range [][]int{
		{}, {0}, {1}, {99}, {0, 1, 2, 3, 4, 5, 6, 7}, {3, 2, 1, 0, 3, 2, 1, 0}, slices.Repeat([]int{0}, 40), slices.Repeat([]int{1}, 40), {99, 0, 50, 1, 1, 98, 2, 2, 2},
	} {
		for _, o := range append(wideOrds(t), longDown(14), longDown(15)) {
			fall, ok := impl.OrdFall(o, numbers)
			if !ok && len(fall) > 0 {
				t.Fatalf("OrdFall(%v, %v) is %v beside false", o, numbers, fall)
			}
			now, fits, made := o, true, 0
			for _, n := range numbers {
				if slices.Equal(now, impl.OrdOf(0)) {
					break
				}
				next, stepOk := impl.OrdStep(now, n)
				if fits = stepOk; !fits {
					break
				}
				if ok && (made >= len(fall) || !slices.Equal(fall[made], next) || impl.OrdCompare(next, now) != -1 || impl.OrdCompare(next, o) != -1) {
					t.Fatalf("OrdFall(%v, %v) is %v", o, numbers, fall)
				}
				now = next
				made++
			}
			if ok != fits || ok && len(fall) != made {
				t.Fatalf("OrdFall(%v, %v) is %v, %t", o, numbers, fall, ok)
			}
		}
	}
}

func TestStepsDownOfText(t *testing.T) {
	for _, x := range []struct {
		text        string
		n           int
		steps, ones int
	}{
		{"0", 0, 0, 0}, {"0", 99, 0, 0}, {"1", 0, 1, 1}, {"7", 0, 7, 7}, {"7", 99, 7, 7},
		{"w", 0, 1, 0}, {"w", 1, 2, 1}, {"w", 5, 6, 5}, {"w", 99, 100, 99}, {"w+5", 0, 6, 5},
		{"w^2", 0, 1, 0}, {"w^2", 1, 3, 1}, {"w^2", 3, 13, 9}, {"w^3", 2, 15, 8}, {"w*2+3", 4, 13, 11},
		{"w^w", 0, 2, 1}, {"w^w", 1, 3, 1}, {"w^w", 2, 8, 4}, {"w^w", 3, 41, 27}, {"w^w*2+w^2", 2, 23, 12},
		{"w^(w^w)", 0, 2, 0}, {"w^(w^w)", 1, 4, 1}, {"w^(w+1)", 0, 1, 0},
		{"2999", 7, 2999, 2999}, {"3000", 0, 3000, 3000}, {"3001", 0, -1, -1}, {"9999", 99, -1, -1},
		{"w*30", 99, 3000, 2970}, {"w*30+1", 99, -1, -1}, {"w*3000", 0, 3000, 0}, {"w*3000+1", 0, -1, -1},
		{"w^2", 54, 2971, 2916}, {"w^2", 55, -1, -1}, {"w^w", 5, -1, -1}, {"w^9999*3000", 0, 3000, 0}, {"w^9999", 1, -1, -1}, {"w^2999", 1, 3000, 1},
		{"w^3000", 1, -1, -1},
	} {
		if steps, ones := impl.StepsDown(read(t, x.text), x.n); steps != x.steps || ones != x.ones {
			t.Errorf("StepsDown of %s for %d is %d, %d, not %d, %d", x.text, x.n, steps, ones, x.steps, x.ones)
		}
	}
}

func TestStepsDownOfLongOrdinals(t *testing.T) {
	twice := append([]int{1, 2}, tower(28)...)
	for _, x := range []struct {
		o           []int
		n           int
		steps, ones int
	}{
		{tower(29), 0, 15, 1},
		{tower(28), 0, 14, 0},
		{tower(29), 1, 29, 1},
		{longSum(14), 0, 14, 0},
		{longDown(15), 0, 15, 0},
		{longDown(15), 1, -1, -1},
		{twice, 0, -1, -1},
		{twice, 1, -1, -1},
	} {
		if steps, ones := impl.StepsDown(x.o, x.n); steps != x.steps || ones != x.ones {
			t.Errorf("StepsDown(%v, %d) is %d, %d, not %d, %d", x.o, x.n, steps, ones, x.steps, x.ones)
		}
	}
}

// walkDown counts the steps down, and those from the kind 1, one by one.
func walkDown(o []int, n int) (int, int) {
	steps, ones := 0, 0
	for !slices.Equal(o, impl.OrdOf(0)) {
		next, ok := impl.OrdStep(o, n)
		if !ok || steps == impl.MaxFall {
			return -1, -1
		}
		if impl.OrdKind(o) == 1 {
			ones++
		}
		o = next
		steps++
	}
	return steps, ones
}

func TestStepsDownAreCountedOneByOne(t *testing.T) {
	for _, o := range append(wideOrds(t), longDown(14), longDown(15)) {
		for _, n := range []int{0, 1, 2, 3, 99} {
			steps, ones := walkDown(o, n)
			if x, y := impl.StepsDown(o, n); x != steps || y != ones {
				t.Fatalf("StepsDown(%v, %d) is %d, %d, not %d, %d", o, n, x, y, steps, ones)
			}
		}
	}
}

// addsInOrder tells whether the last exponent of the first one of two ordinals that are not 0 is not less than the first one of the second one: then no number of either is lost in the sum.
func addsInOrder(t *testing.T, a, b []int) bool {
	t.Helper()
	x, ok := impl.OrdAdd(a, b)
	y, natural := impl.OrdNatural(a, b)
	return ok && natural && slices.Equal(x, y)
}

func TestP10StepsAddUp(t *testing.T) {
	all := smallOrds(9, 2)
	counted := 0
	for _, a := range all {
		for _, b := range all {
			if len(a) == 1 || len(b) == 1 || !addsInOrder(t, a, b) {
				continue
			}
			sum := told(t, impl.OrdAdd, a, b)
			for n := range 3 {
				steps, ones := impl.StepsDown(a, n)
				stepsB, onesB := impl.StepsDown(b, n)
				x, y := impl.StepsDown(sum, n)
				// Behind the terms of the first one there may be no place for the steps of the second one.
				if steps < 0 || stepsB < 0 || x < 0 {
					continue
				}
				counted++
				if x != steps+stepsB || y != ones+onesB {
					t.Fatalf("%v + %v makes %d steps, %d of the kind 1, and both make %d and %d, %d and %d", a, b, x, y, steps, stepsB, ones, onesB)
				}
			}
		}
	}
	if counted < 1000 {
		t.Errorf("only %d sums were counted", counted)
	}
}

func TestP10TheValueIsHowOftenOneSteps(t *testing.T) {
	counted := 0
	for _, o := range append(smallOrds(11, 2), wideOrds(t)...) {
		for n := 1; n <= impl.MaxBase; n += 1 + n/3 {
			steps, ones := impl.StepsDown(o, n)
			if steps < 0 {
				if steps != -1 || ones != -1 {
					t.Fatalf("StepsDown(%v, %d) is %d, %d", o, n, steps, ones)
				}
				continue
			}
			counted++
			if value := impl.SlowValue(o, n); value != ones || steps < ones {
				t.Fatalf("SlowValue(%v, %d) is %d, but there are %d steps, %d of the kind 1", o, n, value, steps, ones)
			}
		}
	}
	if counted < 1000 {
		t.Errorf("only %d ordinals were counted", counted)
	}
}

func TestSlowValueOfText(t *testing.T) {
	for _, x := range []struct {
		text     string
		n, value int
	}{
		{"0", 1, 0}, {"0", 99, 0}, {"7", 1, 7}, {"9999", 99, 9999},
		{"w", 1, 1}, {"w", 2, 2}, {"w", 99, 99}, {"w*3+4", 5, 19}, {"w^2", 3, 9}, {"w^w*2+w^2", 2, 12},
		{"w^w", 1, 1}, {"w^w", 3, 27}, {"w^w", 9, 387420489}, {"w^w", 10, -1}, {"w^w*2", 9, 774840978}, {"w^w*3", 9, -1},
		{"w^(w^w)", 2, 16}, {"w^(w^w)", 3, -1}, {"w^(w^(w^w))", 2, 65536}, {"w^(w^(w^(w^w)))", 2, -1}, {"w^(w+1)", 3, 81}, {"w^(w*2+1)*5+w^w", 2, 164},
		{"w^9", 10, 1000000000}, {"w^9+1", 10, -1}, {"w^9*2", 10, -1}, {"w^8*9+w^7*9+w^6*10", 10, 1000000000}, {"w^8*9+w^7*9+w^6*10+1", 10, -1}, {"w^10", 10, -1},
		{"w^5*9999+w^4*9+w^3*10", 10, 1000000000}, {"w^5*9999+w^4*9+w^3*10+1", 10, -1}, {"w^5*9999+w^4*9+w^3*9+w^2*9999", 10, -1},
		{"w^29", 2, 536870912}, {"w^30", 2, -1}, {"w^29+w^28*9999", 2, -1}, {"w^9999", 2, -1}, {"w^9999*9999", 1, 9999}, {"w^9999*9999", 99, -1},
		{"w^4*10", 99, 960596010}, {"w^4*11", 99, -1}, {"w^5", 99, -1}, {"w^2*9999", 99, 98000199},
		{"w^(w^9999*9999)*5+w^w+3", 1, 9}, {"w^(w*9999)", 1, 1}, {"w^(w^30)", 2, -1}, {"w^(w^9999)", 99, -1}, {"w^(w^w*9999)*9999", 3, -1},
	} {
		if value := impl.SlowValue(read(t, x.text), x.n); value != x.value {
			t.Errorf("SlowValue of %s for %d is %d, not %d", x.text, x.n, value, x.value)
		}
	}
	if value := impl.SlowValue(tower(29), 1); value != 1 {
		t.Error(value)
	}
	if value := impl.SlowValue(tower(29), 2); value != -1 {
		t.Error(value)
	}
	if value := impl.SlowValue(longSum(14), 2); value != 32766 {
		t.Error(value)
	}
}

func TestSlowValueOfSums(t *testing.T) {
	all := wideOrds(t)
	for _, a := range all {
		for _, b := range all {
			sum, ok := impl.OrdNatural(a, b)
			if !ok {
				continue
			}
			for _, n := range []int{1, 2, 3, 10, 99} {
				x, y := impl.SlowValue(a, n), impl.SlowValue(b, n)
				both := x + y
				if x < 0 || y < 0 || both > impl.MaxValue {
					both = -1
				}
				if value := impl.SlowValue(sum, n); value != both {
					t.Fatalf("SlowValue(%v, %d) is %d, but both parts have %d and %d", sum, n, value, x, y)
				}
			}
		}
	}
}

func TestP11StepsKeepTheValue(t *testing.T) {
	for _, o := range append(smallOrds(11, 2), wideOrds(t)...) {
		for n := 1; n <= impl.MaxBase; n += 1 + n/4 {
			x, ok := impl.OrdStep(o, n)
			value := impl.SlowValue(o, n)
			if !ok || len(o) == 1 || impl.OrdKind(o) == 1 && value < 0 {
				continue
			}
			if impl.OrdKind(o) == 1 {
				value--
			}
			if got := impl.SlowValue(x, n); got != value {
				t.Fatalf("OrdStep(%v, %d) is %v, of the value %d, not %d", o, n, x, got, value)
			}
		}
	}
}

func TestOrdMostOfText(t *testing.T) {
	for text, most := range map[string]int{
		"0": 0, "1": 1, "7": 7, "9999": 9999, "w": 1, "w*2": 2, "w+5": 5, "w*3+2": 3, "w^2": 2, "w^7*3+2": 7, "w^w": 1, "w^w*2+w^2": 2,
		"w^(w^w)": 1, "w^(w^(w*4+1)*2+3)+w^(w^2)*3": 4, "w^(w^(w^9999))*5+6": 9999, "w^(w+8)+w^w*2+9": 9, "w^(w+9)+w^w*2+8": 9, "w^(w+8)+w^w*9+2": 9,
	} {
		if m := impl.OrdMost(read(t, text)); m != most {
			t.Errorf("OrdMost of %s is %d, not %d", text, m, most)
		}
	}
}

func TestP53NumbersOfTermsAreAmongAllNumbers(t *testing.T) {
	all := append(wideOrds(t), longDown(14), longDown(15))
	for _, o := range all {
		// All numbers of terms but 1 stand in the text.
		most := min(1, len(o)-1)
		for _, part := range strings.FieldsFunc(impl.OrdText(o), func(r rune) bool { return r < '0' || r > '9' }) {
			n, _ := strconv.Atoi(part)
			most = max(most, n)
		}
		if m := impl.OrdMost(o); m != most {
			t.Errorf("OrdMost(%v) is %d, not %d", o, m, most)
		}
	}
	for _, a := range all {
		for _, b := range all {
			sum, ok := impl.OrdNatural(a, b)
			if m := impl.OrdMost(sum); ok && (m > impl.OrdMost(a)+impl.OrdMost(b) || m < impl.OrdMost(a) || m < impl.OrdMost(b)) {
				t.Fatalf("OrdMost(%v) is %d, but of both parts %d and %d", sum, m, impl.OrdMost(a), impl.OrdMost(b))
			}
		}
	}
}

func TestStepsWithInvalidOrdinals(t *testing.T) {
	for _, o := range badOrds() {
		for _, n := range append(badSteps(), 0, 1, 5, 99) {
			if x, ok := impl.OrdStep(o, n); ok || len(x) > 0 {
				t.Errorf("OrdStep(%v, %d) is %v, %t", o, n, x, ok)
			}
			if fall, ok := impl.OrdFall(o, []int{n}); ok || len(fall) > 0 {
				t.Errorf("OrdFall(%v, [%d]) is %v, %t", o, n, fall, ok)
			}
			if steps, ones := impl.StepsDown(o, n); steps != -1 || ones != -1 {
				t.Errorf("StepsDown(%v, %d) is %d, %d", o, n, steps, ones)
			}
			if value := impl.SlowValue(o, n); value != -1 {
				t.Errorf("SlowValue(%v, %d) is %d", o, n, value)
			}
		}
		if fall, ok := impl.OrdFall(o, nil); ok || len(fall) > 0 {
			t.Errorf("OrdFall(%v) without numbers is %v, %t", o, fall, ok)
		}
		if most := impl.OrdMost(o); most != -1 {
			t.Errorf("OrdMost(%v) is %d", o, most)
		}
	}
}

func TestStepsWithInvalidNumbers(t *testing.T) {
	for _, o := range wideOrds(t) {
		for _, n := range badSteps() {
			if x, ok := impl.OrdStep(o, n); ok || len(x) > 0 {
				t.Errorf("OrdStep(%v, %d) is %v, %t", o, n, x, ok)
			}
			// The falls are over before the number is there, but it is checked before.
			for _, numbers := range [][]int{{n}, {n, 1}, append(slices.Repeat([]int{0}, 2000), n), {0, 0, n, 0}} {
				if fall, ok := impl.OrdFall(o, numbers); ok || len(fall) > 0 {
					t.Errorf("OrdFall(%v) with %d among the numbers is %v, %t", o, n, fall, ok)
				}
			}
			if steps, ones := impl.StepsDown(o, n); steps != -1 || ones != -1 {
				t.Errorf("StepsDown(%v, %d) is %d, %d", o, n, steps, ones)
			}
			if value := impl.SlowValue(o, n); value != -1 {
				t.Errorf("SlowValue(%v, %d) is %d", o, n, value)
			}
		}
		if value := impl.SlowValue(o, 0); value != -1 {
			t.Errorf("SlowValue(%v, 0) is %d", o, value)
		}
		if _, ok := impl.OrdFall(o, make([]int, 100000)); ok {
			t.Errorf("OrdFall(%v) with too many numbers is told", o)
		}
	}
}

func TestStepsShareNoMemory(t *testing.T) {
	for _, o := range append(widest(t), badOrds()...) {
		for _, n := range []int{0, 1, 2, 99, -1} {
			l, numbers := lend(o), lend([]int{n, 1, 0, 2, 2})
			impl.StepsDown(l.row, n)
			impl.SlowValue(l.row, n)
			impl.OrdMost(l.row)
			x, _ := impl.OrdStep(l.row, n)
			fall, _ := impl.OrdFall(l.row, numbers.row)
			checkApart(t, "OrdFall", fall...)
			l.checkKept(t, "a function of steps down", append(fall, x)...)
			numbers.checkKept(t, "OrdFall", append(fall, x)...)
		}
	}
}
