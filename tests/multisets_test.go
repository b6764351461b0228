package tests

import (
	"math"
	"slices"
	"testing"

	"loop.example/ordinalhydras/impl"
)

// listsOf returns all lists of exactly so many numbers in 0..most.
func listsOf(length, most int) [][]int {
	all := [][]int{{}}
	for range length {
		var longer [][]int
		for _, list := range all {
			for n := range most + 1 {
				longer = append(longer, append(slices.Clone(list), n))
			}
		}
		all = longer
	}
	return all
}

// listsUpTo returns all lists of at most so many numbers in 0..most.
func listsUpTo(length, most int) [][]int {
	var all [][]int
	for n := range length + 1 {
		all = append(all, listsOf(n, most)...)
	}
	return all
}

// bagsOf returns all multisets of at most so many numbers in 0..most; the one without numbers is the first.
func bagsOf(length, most int) [][]int {
	var all [][]int
	for _, list := range listsUpTo(length, most) {
		if falls(list) {
			all = append(all, list)
		}
	}
	return all
}

func falls(list []int) bool {
	for i := 1; i < len(list); i++ {
		if list[i] > list[i-1] {
			return false
		}
	}
	return true
}

// wideBags returns multisets with great numbers, and with as many numbers as there may be.
func wideBags() [][]int {
	return [][]int{
		{9}, {9, 0}, {9, 8, 7, 6, 5, 4, 3, 2, 1, 0}, {9, 9, 8, 8, 7, 6, 5, 4, 3, 2, 1, 0}, {8, 8, 8, 8, 8, 8}, {9, 4, 4, 4}, {9, 4, 4}, {9, 4, 3, 3, 3, 3, 3, 3}, {7, 5, 0, 0, 0}, {7, 4, 4, 0, 0, 0, 0},
		slices.Repeat([]int{9}, 15), slices.Repeat([]int{9}, 16), slices.Repeat([]int{0}, 16), slices.Repeat([]int{8}, 16), append(slices.Repeat([]int{9}, 15), 8), append(slices.Repeat([]int{9}, 15), 0),
		{9, 9, 9, 9, 9, 9, 9, 8, 7, 6, 5, 4, 3, 2, 1, 0}, {9, 8, 7, 6, 5, 4, 3, 2, 1, 0, 0, 0, 0, 0, 0, 0}, {9, 9, 8, 8, 7, 7, 6, 6, 5, 5, 4, 4, 3, 3, 2, 2},
	}
}

func allBags() [][]int {
	return append(bagsOf(5, 3), wideBags()...)
}

// badItems returns lists that have no multiset.
func badItems() [][]int {
	return [][]int{
		{-1}, {10}, {9, -1}, {10, 9}, {3, 10, 2}, {math.MinInt}, {math.MaxInt}, {0, math.MinInt}, {math.MaxInt, 0},
		slices.Repeat([]int{0}, 17), slices.Repeat([]int{9}, 17), append(slices.Repeat([]int{9}, 16), 0), make([]int, 100000),
	}
}

// badBags returns rows that are no multisets.
func badBags() [][]int {
	return append(badItems(), []int{0, 1}, []int{1, 3}, []int{8, 9}, []int{3, 3, 1, 2}, []int{5, 0, 5}, []int{0, 0, 0, 9}, append(slices.Repeat([]int{4}, 15), 5))
}

// countIn returns how often a number is in a list.
func countIn(list []int, n int) int {
	count := 0
	for _, m := range list {
		if m == n {
			count++
		}
	}
	return count
}

// bagOrder compares multisets by how often they have each number.
func bagOrder(a, b []int) int {
	for n := impl.MaxItem; n >= 0; n-- {
		if x, y := countIn(a, n), countIn(b, n); x < y {
			return -1
		} else if x > y {
			return 1
		}
	}
	return 0
}

// comesOf tells whether one multiset comes of another one if some numbers, 1 at least, are replaced by lesser ones.
func comesOf(a, b []int) bool {
	for set := 1; set < 1<<len(b); set++ {
		put, ok := slices.Clone(a), true
		for i, n := range b {
			if set>>i&1 == 1 {
				continue
			}
			at := slices.Index(put, n)
			if at < 0 {
				ok = false
				break
			}
			put = slices.Delete(put, at, at+1)
		}
		isGreater := func(n int) bool {
			for i, gone := range b {
				if set>>i&1 == 1 && gone > n {
					return true
				}
			}
			return false
		}
		if ok && !slices.ContainsFunc(put, func(n int) bool { return !isGreater(n) }) {
			return true
		}
	}
	return false
}

// writtenBag returns the ordinal of a multiset, written out.
func writtenBag(bag []int) []int {
	o := []int{0}
	for n := impl.MaxItem; n >= 0; n-- {
		if count := countIn(bag, n); count > 0 {
			o[0]++
			o = append(append(o, count), impl.OrdOf(n)...)
		}
	}
	return o
}

func TestBagConstants(t *testing.T) {
	if impl.MaxItem != 9 || impl.MaxItems != 16 || impl.MaxRow != 5 {
		t.Error(impl.MaxItem, impl.MaxItems, impl.MaxRow)
	}
}

func TestBagValidOfAllShortRows(t *testing.T) {
	for length := range 5 {
		for _, row := range listsOf(length, 12) {
			want := true
			for i := range row {
				row[i]--
				want = want && row[i] >= 0 && row[i] <= 9
			}
			if want = want && falls(row); impl.BagValid(row) != want {
				t.Fatalf("BagValid(%v) is %t", row, !want)
			}
		}
	}
}

func TestP65MultisetsCanBeEmptied(t *testing.T) {
	if !impl.BagValid(nil) || !impl.BagValid([]int{}) {
		t.Error("the multiset without numbers is not valid")
	}
	for _, bag := range allBags() {
		for rest := bag; ; rest = rest[1:] {
			if !impl.BagValid(rest) {
				t.Fatalf("BagValid(%v) is false", rest)
			}
			if len(rest) == 0 {
				break
			}
		}
	}
	for _, bag := range badBags() {
		if impl.BagValid(bag) {
			t.Errorf("BagValid(%v) is true", bag)
		}
	}
}

func TestBagOfList(t *testing.T) {
	for _, x := range []struct{ list, bag []int }{
		{nil, nil}, {[]int{}, nil}, {[]int{0}, []int{0}}, {[]int{9}, []int{9}}, {[]int{1, 3, 2, 3}, []int{3, 3, 2, 1}}, {[]int{0, 1, 2, 3, 4, 5, 6, 7, 8, 9}, []int{9, 8, 7, 6, 5, 4, 3, 2, 1, 0}}, {[]int{0, 9, 0, 9, 0}, []int{9, 9, 0, 0, 0}},
		{[]int{0, 0, 0, 0, 0, 0, 0, 0, 0, 0, 0, 0, 0, 0, 0, 9}, []int{9, 0, 0, 0, 0, 0, 0, 0, 0, 0, 0, 0, 0, 0, 0, 0}},
	} {
		if bag := impl.BagOf(x.list); !slices.Equal(bag, x.bag) {
			t.Errorf("BagOf(%v) is %v, not %v", x.list, bag, x.bag)
		}
	}
	for _, list := range badItems() {
		if bag := impl.BagOf(list); bag != nil {
			t.Errorf("BagOf(%v) is %v", list, bag)
		}
	}
}

func TestP66OrdersDoNotMatterInMultisets(t *testing.T) {
	lists := append(listsUpTo(5, 3), wideBags()...)
	for _, bag := range wideBags() {
		// A row in which neighbours of the multiset stand far from each other.
		mixed := make([]int, len(bag))
		for i, n := range bag {
			mixed[(i*7+3)%len(bag)] = n
		}
		if len(bag)%7 != 0 {
			lists = append(lists, mixed)
		}
	}
	for _, list := range lists {
		bag := impl.BagOf(list)
		if !impl.BagValid(bag) || len(bag) != len(list) || bagOrder(bag, list) != 0 {
			t.Fatalf("BagOf(%v) is %v", list, bag)
		}
		back := slices.Clone(list)
		slices.Reverse(back)
		if x := impl.BagOf(back); !slices.Equal(x, bag) {
			t.Fatalf("BagOf(%v) is %v, not %v", back, x, bag)
		}
		if x := impl.BagOf(bag); !slices.Equal(x, bag) {
			t.Fatalf("BagOf(%v) is %v", bag, x)
		}
	}
}

func TestBagCompareOfBags(t *testing.T) {
	for _, x := range []struct {
		a, b  []int
		order int
	}{
		{nil, nil, 0}, {[]int{}, nil, 0}, {nil, []int{0}, -1}, {nil, []int{9}, -1}, {[]int{0}, nil, 1}, {[]int{3}, nil, 1}, {[]int{3}, []int{3}, 0}, {[]int{0}, []int{0, 0}, -1}, {[]int{1}, []int{0, 0}, 1},
		{[]int{3, 1, 1, 1}, []int{3, 2}, -1}, {[]int{3, 1, 1, 1}, []int{3, 1, 1}, 1}, {[]int{2, 2, 2}, []int{3}, -1}, {[]int{5, 5, 0}, []int{5, 4, 4, 4, 4}, 1}, {[]int{9}, []int{8, 8, 8, 8, 8, 8, 8, 8}, 1},
		{slices.Repeat([]int{8}, 16), []int{9}, -1}, {slices.Repeat([]int{9}, 16), slices.Repeat([]int{9}, 15), 1}, {[]int{4, 2, 0}, []int{4, 1, 1}, 1},
	} {
		if order := impl.BagCompare(x.a, x.b); order != x.order {
			t.Errorf("BagCompare(%v, %v) is %d, not %d", x.a, x.b, order, x.order)
		}
		if below := impl.BagBelow(x.a, x.b); below != (x.order < 0) {
			t.Errorf("BagBelow(%v, %v) is %t", x.a, x.b, below)
		}
	}
}

func TestP21MultisetsAreComparedAsTheirOrdinals(t *testing.T) {
	all := allBags()
	for _, a := range all {
		for _, b := range all {
			order := impl.BagCompare(a, b)
			if order != bagOrder(a, b) || order != impl.OrdCompare(impl.BagOrd(a), impl.BagOrd(b)) || order != -impl.BagCompare(b, a) {
				t.Fatalf("BagCompare(%v, %v) is %d", a, b, order)
			}
		}
	}
}

func TestP22BothOrdersAreOne(t *testing.T) {
	all := allBags()
	for _, a := range all {
		for _, b := range all {
			if below := impl.BagBelow(a, b); below != (bagOrder(a, b) < 0) || below != (impl.BagCompare(a, b) == -1) {
				t.Fatalf("BagBelow(%v, %v) is %t", a, b, below)
			}
		}
	}
}

func TestBagBelowIsManyReplacementsAtOnce(t *testing.T) {
	all := append(bagsOf(4, 3), []int{9}, []int{9, 8, 8, 1}, []int{9, 8, 7, 7, 7}, []int{8, 8, 8, 8, 8})
	below := 0
	for _, a := range all {
		for _, b := range all {
			want := comesOf(a, b)
			if impl.BagBelow(a, b) != want {
				t.Fatalf("BagBelow(%v, %v) is %t", a, b, !want)
			}
			if want {
				below++
			}
		}
	}
	if below < 1000 {
		t.Errorf("only %d multisets came of others", below)
	}
}

func TestBagOrdOfBag(t *testing.T) {
	for _, x := range []struct {
		bag  []int
		text string
	}{
		{nil, "0"}, {[]int{}, "0"}, {[]int{0}, "1"}, {[]int{0, 0, 0}, "3"}, {[]int{1}, "w"}, {[]int{9}, "w^9"}, {[]int{3, 3, 2, 1}, "w^3*2+w^2+w"}, {[]int{9, 8, 7, 6, 5, 4, 3, 2, 1, 0}, "w^9+w^8+w^7+w^6+w^5+w^4+w^3+w^2+w+1"},
		{slices.Repeat([]int{9}, 16), "w^9*16"}, {slices.Repeat([]int{0}, 16), "16"}, {[]int{9, 9, 0, 0, 0}, "w^9*2+3"},
	} {
		if o := impl.BagOrd(x.bag); impl.OrdText(o) != x.text {
			t.Errorf("BagOrd(%v) is %v, %s, not %s", x.bag, o, impl.OrdText(o), x.text)
		}
	}
}

func TestP67MultisetsHaveSmallOrdinals(t *testing.T) {
	bound := read(t, "w^10")
	for _, bag := range allBags() {
		o := impl.BagOrd(bag)
		if !impl.OrdValid(o) || impl.OrdCompare(o, bound) != -1 || !slices.Equal(o, writtenBag(bag)) {
			t.Fatalf("BagOrd(%v) is %v", bag, o)
		}
	}
	if o := impl.BagOrd(nil); !slices.Equal(o, []int{0}) {
		t.Errorf("BagOrd(nil) is %v", o)
	}
}

func TestBagPutOfBag(t *testing.T) {
	for _, x := range []struct {
		bag  []int
		n    int
		list []int
		ok   bool
		put  []int
	}{
		{[]int{3, 1}, 3, []int{2, 0, 2}, true, []int{2, 2, 1, 0}}, {[]int{3, 1}, 1, []int{0, 0}, true, []int{3, 0, 0}}, {[]int{3, 3}, 3, []int{1}, true, []int{3, 1}},
		// Nothing is put in for the number.
		{[]int{0}, 0, nil, true, nil}, {[]int{3}, 3, nil, true, nil}, {[]int{3, 1}, 3, []int{}, true, []int{1}}, {[]int{3, 1}, 1, nil, true, []int{3}}, {[]int{2, 2, 0, 0}, 0, nil, true, []int{2, 2, 0}},
		{[]int{5, 3, 3, 1}, 3, []int{2, 1, 0}, true, []int{5, 3, 2, 1, 1, 0}}, {[]int{9}, 9, []int{0, 8, 0, 8}, true, []int{8, 8, 0, 0}},
		// There is no such number.
		{nil, 0, nil, false, nil}, {nil, 3, []int{1}, false, nil}, {[]int{3, 1}, 2, nil, false, nil}, {[]int{3, 1}, 0, nil, false, nil}, {[]int{3, 1}, 10, []int{9}, false, nil}, {[]int{3, 1}, -1, nil, false, nil}, {[]int{3, 1}, math.MinInt, nil, false, nil}, {[]int{3, 1}, math.MaxInt, []int{0}, false, nil},
		// One of these is not less, or less than 0.
		{[]int{3, 1}, 3, []int{3}, false, nil}, {[]int{3, 1}, 3, []int{2, 4}, false, nil}, {[]int{3, 1}, 1, []int{0, 1}, false, nil}, {[]int{0}, 0, []int{0}, false, nil}, {[]int{0}, 0, []int{-1}, false, nil}, {[]int{3, 1}, 3, []int{0, -1}, false, nil}, {[]int{3, 1}, 3, []int{math.MinInt}, false, nil}, {[]int{3, 1}, 3, []int{math.MaxInt, 0}, false, nil},
		{[]int{9}, 9, make([]int, 16), true, make([]int, 16)}, {[]int{9}, 9, make([]int, 17), false, nil}, {[]int{9}, 9, make([]int, 100000), false, nil}, {slices.Repeat([]int{9}, 16), 9, []int{8}, true, append(slices.Repeat([]int{9}, 15), 8)}, {slices.Repeat([]int{9}, 16), 9, []int{8, 8}, false, nil}, {slices.Repeat([]int{9}, 16), 9, nil, true, slices.Repeat([]int{9}, 15)},
		{[]int{9, 1, 1, 1}, 1, make([]int, 13), true, append([]int{9, 1, 1}, make([]int, 13)...)}, {[]int{9, 1, 1, 1}, 1, make([]int, 14), false, nil},
	} {
		if put, ok := impl.BagPut(x.bag, x.n, x.list); ok != x.ok || !slices.Equal(put, x.put) || !ok && put != nil {
			t.Errorf("BagPut(%v, %d, %v) is %v, %t, not %v", x.bag, x.n, x.list, put, ok, x.put)
		}
	}
}

func TestP23HoweverManyLesserOnesArePutInItIsLess(t *testing.T) {
	lists := append(listsUpTo(3, 3), slices.Repeat([]int{8}, 8), slices.Repeat([]int{0}, 15), []int{0, 8, 1, 7, 2, 6, 3}, []int{-1}, []int{2, -1})
	replaced := map[bool]int{}
	for _, bag := range allBags() {
		for n := -1; n <= impl.MaxItem+1; n++ {
			for _, list := range lists {
				put, ok := impl.BagPut(bag, n, list)
				replaced[ok]++
				may := slices.Contains(bag, n) && !slices.ContainsFunc(list, func(m int) bool { return m < 0 || m >= n }) && len(bag)+len(list) <= 17
				if ok != may || !ok && put != nil {
					t.Fatalf("BagPut(%v, %d, %v) is %v, %t", bag, n, list, put, ok)
				}
				if ok {
					checkPut(t, bag, n, list, put)
				}
			}
		}
	}
	if replaced[true] < 1000 || replaced[false] < 1000 {
		t.Error(replaced)
	}
}

// checkPut reports a multiset that is not what another one becomes if a number is replaced by a list, or not less.
func checkPut(t *testing.T, bag []int, n int, list, put []int) {
	t.Helper()
	for m := range impl.MaxItem + 1 {
		want := countIn(bag, m) + countIn(list, m)
		if m == n {
			want--
		}
		if countIn(put, m) != want {
			t.Fatalf("BagPut(%v, %d, %v) is %v", bag, n, list, put)
		}
	}
	if !impl.BagValid(put) || impl.BagCompare(put, bag) != -1 || !impl.BagBelow(put, bag) || impl.OrdCompare(impl.BagOrd(put), impl.BagOrd(bag)) != -1 {
		t.Fatalf("BagPut(%v, %d, %v) is %v, which is not less", bag, n, list, put)
	}
}

func TestInvalidMultisets(t *testing.T) {
	for _, bag := range badBags() {
		if o := impl.BagOrd(bag); o != nil {
			t.Errorf("BagOrd(%v) is %v", bag, o)
		}
		for _, other := range append(badBags(), nil, []int{0}, []int{9, 9, 9}, bag) {
			if x, y := impl.BagCompare(bag, other), impl.BagCompare(other, bag); x != -2 || y != -2 {
				t.Errorf("BagCompare of %v and %v is %d, %d", bag, other, x, y)
			}
			if impl.BagBelow(bag, other) || impl.BagBelow(other, bag) {
				t.Errorf("BagBelow of %v and %v is true", bag, other)
			}
		}
		for _, n := range append(slices.Clone(bag[:min(len(bag), 20)]), 0, 1, 9) {
			for _, list := range [][]int{nil, {0}, {-1}} {
				if put, ok := impl.BagPut(bag, n, list); ok || put != nil {
					t.Errorf("BagPut(%v, %d, %v) is %v, %t", bag, n, list, put, ok)
				}
			}
		}
	}
}

func TestMultisetsShareNoMemory(t *testing.T) {
	for _, bag := range append(append(bagsOf(4, 3), wideBags()...), badBags()...) {
		list := slices.Clone(bag)
		slices.Reverse(list)
		l, other, back := lend(bag), lend(bag), lend(list)
		impl.BagValid(l.row)
		impl.BagCompare(l.row, other.row)
		impl.BagBelow(l.row, other.row)
		results := [][]int{impl.BagOf(l.row), impl.BagOf(back.row), impl.BagOrd(l.row)}
		for n := range impl.MaxItem + 1 {
			// What is put in may be the same memory as the multiset.
			put, _ := impl.BagPut(l.row, n, l.row[len(bag):])
			lesser, _ := impl.BagPut(l.row, n, l.row[min(1, len(bag)):])
			ones, _ := impl.BagPut(l.row, n, []int{0})
			results = append(results, put, lesser, ones)
		}
		checkApart(t, "a function of multisets", results...)
		l.checkKept(t, "a function of multisets", results...)
		other.checkKept(t, "a function of two multisets", results...)
		back.checkKept(t, "BagOf", results...)
	}
}
