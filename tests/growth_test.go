package tests

import (
	"math"
	"slices"
	"testing"

	"loop.example/ordinalhydras/impl"
)

// badGrowing returns numbers that do not grow.
func badGrowing() []int {
	return []int{0, -1, 91, 92, 99, 100, -90, math.MinInt, math.MaxInt}
}

// growOrds returns ordinals of all kinds, among them such that are too long at once or behind some steps.
func growOrds(t *testing.T) [][]int {
	t.Helper()
	all := append(wideOrds(t), longDown(14), longDown(15), append([]int{1, 2}, tower(28)...))
	for _, text := range []string{"89", "90", "w+89", "w*6+3", "w^2+5", "w^2*2", "w^3", "w^2999", "w^3000", "w^(w*3)", "w^w*2+w^7", "w^1500+w^1499", "w^1499*2"} {
		all = append(all, read(t, text))
	}
	return all
}

// growOn steps down one by one, as Grow has it, and returns the numbers and how many steps it takes; nil and -1 if it cannot be told.
func growOn(o []int, n int) ([]int, int) {
	path := []int{n}
	for steps := 0; steps <= impl.MaxStairs; steps++ {
		switch impl.OrdKind(o) {
		case 0:
			return path, steps
		case 1:
			before, ok := impl.OrdBefore(o)
			if n++; !ok || n > impl.MaxGrow {
				return nil, -1
			}
			o, path = before, append(path, n)
		case 2:
			next, ok := impl.OrdStep(o, n)
			if !ok {
				return nil, -1
			}
			o = next
		}
	}
	return nil, -1
}

func TestGrowthConstants(t *testing.T) {
	if impl.MaxGrow != 90 || impl.MaxStairs != 3000 {
		t.Error(impl.MaxGrow, impl.MaxStairs)
	}
}

func TestGrowOfText(t *testing.T) {
	for _, x := range []struct {
		text            string
		n, grown, steps int
	}{
		// Along 0 nothing becomes greater, also the greatest number.
		{"0", 1, 1, 0}, {"0", 7, 7, 0}, {"0", 90, 90, 0},
		{"1", 1, 2, 1}, {"5", 3, 8, 5}, {"89", 1, 90, 89}, {"90", 1, -1, -1}, {"1", 89, 90, 1}, {"2", 89, -1, -1}, {"1", 90, -1, -1}, {"9999", 1, -1, -1}, {"9999", 90, -1, -1},
		{"w", 1, 2, 2}, {"w", 3, 6, 4}, {"w", 45, 90, 46}, {"w", 46, -1, -1}, {"w", 90, -1, -1},
		// The number of a step down is the one that is reached then: the last term is the first one that goes.
		{"w+1", 2, 6, 5}, {"w+1", 44, 90, 47}, {"w+1", 45, -1, -1}, {"w+88", 1, -1, -1}, {"w+44", 1, 90, 90}, {"w*2", 2, 8, 8}, {"w*2+1", 2, 12, 12}, {"w*6", 1, 64, 69}, {"w*7", 1, -1, -1},
		{"w^2", 1, 2, 3}, {"w^2", 2, 8, 9}, {"w^2", 3, 24, 25}, {"w^2", 4, 64, 65}, {"w^2", 5, -1, -1}, {"w^2", 9, -1, -1}, {"w^2+3", 1, 64, 68}, {"w^2+4", 1, -1, -1}, {"w^2*2", 1, 8, 12}, {"w^2*3", 1, -1, -1}, {"w^2+w", 1, 8, 11},
		{"w^3", 1, 2, 4}, {"w^3", 2, -1, -1}, {"w^3+w^2", 1, -1, -1}, {"w^w", 1, 2, 3}, {"w^w", 2, 8, 10}, {"w^w", 3, -1, -1}, {"w^(w+1)", 1, 2, 4}, {"w^(w*2)", 1, 2, 5}, {"w^(w^w)", 1, 2, 4}, {"w^(w^w)", 2, -1, -1}, {"w^w+1", 1, 8, 11},
	} {
		if grown, steps := impl.Grow(read(t, x.text), x.n); grown != x.grown || steps != x.steps {
			t.Errorf("Grow(%s, %d) is %d, %d, not %d, %d", x.text, x.n, grown, steps, x.grown, x.steps)
		}
	}
}

func TestGrowAtTheBounds(t *testing.T) {
	twice := append([]int{1, 2}, tower(28)...)
	for _, x := range []struct {
		o               []int
		n, grown, steps int
	}{
		// From 1 a power takes one step for each of its exponent, and one more.
		{read(t, "w^2998"), 1, 2, 2999}, {read(t, "w^2999"), 1, 2, 3000}, {read(t, "w^3000"), 1, -1, -1}, {read(t, "w^9999"), 1, -1, -1}, {read(t, "w^9999*9999"), 90, -1, -1},
		{read(t, "w^(w*2998)"), 1, -1, -1}, {read(t, "w^(w*1499)"), 1, 2, 2999}, {read(t, "w^(w*1499+1)"), 1, 2, 3000}, {read(t, "w^(w*1499+2)"), 1, -1, -1},
		// The longest ordinals, and such that are too long behind a step.
		{tower(29), 1, 2, 29}, {tower(28), 1, 2, 28}, {tower(29), 2, -1, -1}, {longDown(15), 1, -1, -1}, {longDown(14), 1, -1, -1}, {twice, 1, -1, -1}, {longSum(14), 1, -1, -1},
		// Only that it is too long behind a step keeps the second one from being told.
		{append([]int{1, 1}, longDown(14)...), 1, 2, 121}, {append([]int{1, 1}, longDown(15)...), 1, -1, -1},
	} {
		if grown, steps := impl.Grow(x.o, x.n); !impl.OrdValid(x.o) || grown != x.grown || steps != x.steps {
			t.Errorf("Grow(%v, %d) is %d, %d, not %d, %d", x.o, x.n, grown, steps, x.grown, x.steps)
		}
	}
}

func TestGrowStepsOneByOne(t *testing.T) {
	told := map[bool]int{}
	for _, o := range growOrds(t) {
		for _, n := range []int{1, 2, 3, 4, 5, 11, 45, 46, 88, 89, 90} {
			path, want := growOn(o, n)
			grown, steps := impl.Grow(o, n)
			told[path != nil]++
			if path == nil {
				path = []int{-1}
			}
			if grown != path[len(path)-1] || steps != want {
				t.Fatalf("Grow(%v, %d) is %d, %d, not %d, %d", o, n, grown, steps, path[len(path)-1], want)
			}
		}
	}
	if told[true] < 100 || told[false] < 100 {
		t.Error(told)
	}
}

func TestP34SumsAreOneGrowthBehindAnotherOne(t *testing.T) {
	counted := 0
	all := append(smallOrds(7, 3), read(t, "w^2*3+w*2+1"), read(t, "30"), read(t, "w+20"), read(t, "w^1500"), read(t, "w^1499"), read(t, "w^9999"))
	for _, a := range all {
		for _, b := range all {
			if len(a) > 1 && len(b) > 1 && !addsInOrder(t, a, b) {
				continue
			}
			sum := told(t, impl.OrdAdd, a, b)
			for n := 1; n <= impl.MaxGrow; n += 1 + n/4 {
				grown, steps := impl.Grow(sum, n)
				if grown < 0 {
					continue
				}
				counted++
				// If the sum is told, so are both parts: they have no more steps, and no greater numbers.
				first, stepsB := impl.Grow(b, n)
				second, stepsA := impl.Grow(a, first)
				if grown != second || steps != stepsA+stepsB {
					t.Fatalf("Grow(%v, %d) is %d, %d, and %d, %d along %v, and then %d, %d along %v", sum, n, grown, steps, first, stepsB, b, second, stepsA, a)
				}
			}
		}
	}
	if counted < 1000 {
		t.Errorf("only %d sums were told", counted)
	}
}

func TestP34NumbersAreAdded(t *testing.T) {
	for n := 1; n <= impl.MaxGrow; n++ {
		for more := range 200 {
			want, wantSteps := n+more, more
			if want > impl.MaxGrow {
				want, wantSteps = -1, -1
			}
			if grown, steps := impl.Grow(impl.OrdOf(more), n); grown != want || steps != wantSteps {
				t.Fatalf("Grow(%d, %d) is %d, %d, not %d, %d", more, n, grown, steps, want, wantSteps)
			}
		}
	}
}

func TestIterateOfLevels(t *testing.T) {
	for _, x := range [][3]int{
		{0, 1, 2}, {0, 89, 90}, {0, 90, -1}, {1, 1, 2}, {1, 3, 6}, {1, 45, 90}, {1, 46, -1}, {1, 90, -1}, {2, 1, 2}, {2, 2, 8}, {2, 3, 24}, {2, 4, 64}, {2, 5, -1}, {2, 90, -1},
		{3, 1, 2}, {3, 2, -1}, {3, 3, -1}, {3, 90, -1}, {4, 1, 2}, {4, 2, -1}, {9, 1, 2}, {9, 2, -1}, {9, 3, -1}, {9, 90, -1},
		{10, 1, -1}, {-1, 1, -1}, {0, 0, -1}, {1, 0, -1}, {9, 0, -1}, {0, 91, -1}, {0, -1, -1}, {1, -1, -1}, {0, -2, -1},
	} {
		if grown := impl.Iterate(x[0], x[1]); grown != x[2] {
			t.Errorf("Iterate(%d, %d) is %d, not %d", x[0], x[1], grown, x[2])
		}
	}
}

func TestP35PowersOfWAreIterations(t *testing.T) {
	for level := range 10 {
		before := 0
		for n := 1; n <= impl.MaxGrow; n++ {
			grown := impl.Iterate(level, n)
			// None of these powers takes too many steps: both are told for the same numbers.
			if along, _ := impl.Grow(power(t, impl.OrdOf(level)), n); along != grown {
				t.Fatalf("Iterate(%d, %d) is %d, and Grow along the power %d", level, n, grown, along)
			}
			want := iteratedByHand(level, n)
			if grown != want {
				t.Fatalf("Iterate(%d, %d) is %d, not %d", level, n, grown, want)
			}
			if grown > 0 && (before < 0 || grown <= before || grown <= n) {
				t.Fatalf("Iterate(%d, %d) is %d, and of the number less by 1 %d", level, n, grown, before)
			}
			before = grown
		}
	}
}

// iteratedByHand returns what Iterate must be: from the level 3 on only 1 does not become too much.
func iteratedByHand(level, n int) int {
	grown := 91
	switch {
	case level == 0:
		grown = n + 1
	case level == 1:
		grown = 2 * n
	case n == 1:
		grown = 2
	case level == 2 && n < 10:
		grown = n << n
	}
	if grown > 90 {
		return -1
	}
	return grown
}

func TestGrowPathOfText(t *testing.T) {
	for _, x := range []struct {
		text string
		n    int
		path []int
	}{
		{"0", 1, []int{1}}, {"0", 90, []int{90}}, {"1", 1, []int{1, 2}}, {"1", 89, []int{89, 90}}, {"1", 90, nil}, {"4", 3, []int{3, 4, 5, 6, 7}}, {"w", 1, []int{1, 2}}, {"w", 3, []int{3, 4, 5, 6}}, {"w", 46, nil},
		{"w+1", 2, []int{2, 3, 4, 5, 6}}, {"w^2", 2, []int{2, 3, 4, 5, 6, 7, 8}}, {"w^2", 5, nil}, {"w^w", 1, []int{1, 2}}, {"w^2999", 1, []int{1, 2}}, {"w^3000", 1, nil},
	} {
		if path := impl.GrowPath(read(t, x.text), x.n); !slices.Equal(path, x.path) {
			t.Errorf("GrowPath(%s, %d) is %v, not %v", x.text, x.n, path, x.path)
		}
	}
}

func TestP83GrowthGoesOneByOne(t *testing.T) {
	told := map[bool]int{}
	for _, o := range growOrds(t) {
		for n := 1; n <= impl.MaxGrow; n += 1 + n/4 {
			grown, _ := impl.Grow(o, n)
			path := impl.GrowPath(o, n)
			told[grown > 0]++
			if grown < 0 {
				if path != nil {
					t.Fatalf("GrowPath(%v, %d) is %v, but Grow is -1", o, n, path)
				}
				continue
			}
			if len(path) == 0 || path[0] != n || path[len(path)-1] != grown {
				t.Fatalf("GrowPath(%v, %d) is %v, and Grow %d", o, n, path, grown)
			}
			for i, number := range path[1:] {
				if number != path[i]+1 {
					t.Fatalf("GrowPath(%v, %d) is %v", o, n, path)
				}
			}
		}
	}
	if told[true] < 100 || told[false] < 100 {
		t.Error(told)
	}
}

func TestGrowLeastOfNumbers(t *testing.T) {
	for _, x := range []struct {
		n, goal int
		text    string
	}{
		// Goals that are reached already.
		{1, 1, "0"}, {90, 90, "0"}, {90, 1, "0"}, {7, 3, "0"}, {45, 45, "0"},
		{1, 2, "1"}, {3, 5, "2"}, {89, 90, "1"}, {1, 10, "9"}, {81, 90, "9"},
		// Of the power 0 both numbers are one ordinal together.
		{1, 11, "10"}, {1, 19, "18"}, {72, 90, "18"}, {80, 90, "10"}, {46, 64, "18"},
		{1, 20, "w+9"}, {1, 21, "w*2+5"}, {9, 30, "w+6"}, {45, 90, "w"}, {44, 90, "w+1"}, {1, 41, "w*3+5"}, {1, 80, "w*3+9"}, {2, 88, "w*3+9"},
		// What becomes too great reaches no goal.
		{46, 65, ""}, {46, 90, ""}, {71, 90, ""}, {1, 81, ""}, {1, 90, ""}, {2, 89, ""},
	} {
		if o, ok := impl.GrowLeast(x.n, x.goal); impl.OrdText(o) != x.text || ok != (x.text != "") || !ok && o != nil {
			t.Errorf("GrowLeast(%d, %d) is %s, %t, not %s", x.n, x.goal, impl.OrdText(o), ok, x.text)
		}
	}
}

// form is w^2 times a number, and then w times a number, and then a number; grown is what a number becomes along it.
type form struct {
	row   [3]int
	grown int
}

// formsFor returns all ordinals of the form of GrowLeast, the least one first, with what a number becomes along them, which is reckoned and not stepped.
func formsFor(n int) []form {
	var all []form
	for times := range 10 {
		for more := range 10 {
			twice, power := n+more, n+more
			for range times {
				twice = min(2*twice, 91)
				power = min(power<<min(power, 7), 91)
			}
			all = append(all, form{[3]int{0, 0, times + more}, n + times + more}, form{[3]int{0, times, more}, twice}, form{[3]int{times, 0, more}, power})
		}
	}
	slices.SortFunc(all, func(a, b form) int { return slices.Compare(a.row[:], b.row[:]) })
	for i := range all {
		if all[i].grown > 90 {
			all[i].grown = -1
		}
	}
	return all
}

func TestGrowAlongTheFormsOfGrowLeast(t *testing.T) {
	for n := 1; n <= impl.MaxGrow; n++ {
		for _, f := range formsFor(n) {
			if grown, _ := impl.Grow(impl.RowOrd(f.row[:]), n); grown != f.grown {
				t.Fatalf("Grow along %v of %d is %d, not %d", f.row, n, grown, f.grown)
			}
		}
	}
}

func TestP84FartherGoalsNeedGreaterOrdinals(t *testing.T) {
	reached := map[bool]int{}
	for n := 1; n <= impl.MaxGrow; n++ {
		forms := formsFor(n)
		before := impl.OrdOf(0)
		for goal := 1; goal <= impl.MaxGrow; goal++ {
			var want []int
			if i := slices.IndexFunc(forms, func(f form) bool { return f.grown >= goal }); i >= 0 {
				want = impl.RowOrd(forms[i].row[:])
			}
			o, ok := impl.GrowLeast(n, goal)
			if ok != (want != nil) || !slices.Equal(o, want) {
				t.Fatalf("GrowLeast(%d, %d) is %v, %t, not %v", n, goal, o, ok, want)
			}
			reached[ok]++
			if !ok {
				// Then there is none for any goal that is farther.
				before = nil
				continue
			}
			if grown, _ := impl.Grow(o, n); grown < goal || before == nil || impl.OrdCompare(before, o) > 0 {
				t.Fatalf("GrowLeast(%d, %d) is %v, and for the goal less by 1 %v", n, goal, o, before)
			}
			before = o
		}
	}
	if reached[true] < 1000 || reached[false] < 100 {
		t.Error(reached)
	}
}

// checkNoGrowth checks what the functions along an ordinal return if one of their arguments is not valid.
func checkNoGrowth(t *testing.T, o []int, n int) {
	t.Helper()
	if grown, steps := impl.Grow(o, n); grown != -1 || steps != -1 {
		t.Errorf("Grow(%v, %d) is %d, %d", o, n, grown, steps)
	}
	if path := impl.GrowPath(o, n); path != nil {
		t.Errorf("GrowPath(%v, %d) is %v", o, n, path)
	}
}

func TestInvalidGrowth(t *testing.T) {
	for _, o := range badOrds() {
		for _, n := range append(badGrowing(), 1, 2, 45, 90) {
			checkNoGrowth(t, o, n)
		}
	}
	for _, n := range badGrowing() {
		for _, o := range growOrds(t) {
			checkNoGrowth(t, o, n)
		}
		for level := range 10 {
			if grown := impl.Iterate(level, n); grown != -1 {
				t.Errorf("Iterate(%d, %d) is %d", level, n, grown)
			}
		}
		for _, other := range append(badGrowing(), 1, 2, 45, 90) {
			for _, x := range [][2]int{{n, other}, {other, n}} {
				if o, ok := impl.GrowLeast(x[0], x[1]); ok || o != nil {
					t.Errorf("GrowLeast(%d, %d) is %v, %t", x[0], x[1], o, ok)
				}
			}
		}
	}
	for _, level := range []int{-1, 10, 11, 1000000, math.MinInt, math.MaxInt} {
		for _, n := range append(badGrowing(), 1, 2, 45, 90) {
			if grown := impl.Iterate(level, n); grown != -1 {
				t.Errorf("Iterate(%d, %d) is %d", level, n, grown)
			}
		}
	}
}

func TestGrowthSharesNoMemory(t *testing.T) {
	for _, o := range append(growOrds(t), badOrds()...) {
		for _, n := range []int{0, 1, 2, 44, 90} {
			l := lend(o)
			impl.Grow(l.row, n)
			path, again := impl.GrowPath(l.row, n), impl.GrowPath(l.row, n)
			checkApart(t, "GrowPath", path, again)
			l.checkKept(t, "a function of growth", path, again)
		}
	}
	for n := 1; n <= impl.MaxGrow; n += 11 {
		for goal := 1; goal <= impl.MaxGrow; goal += 7 {
			o, _ := impl.GrowLeast(n, goal)
			again, _ := impl.GrowLeast(n, goal)
			checkApart(t, "GrowLeast", o, again)
		}
	}
}
