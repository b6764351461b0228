package tests

import (
	"math"
	"slices"
	"testing"

	"loop.example/ordinalhydras/impl"
)

// allRows returns lists of each length, with small and great numbers.
func allRows() [][]int {
	return append(smallRows(),
		[]int{4}, []int{9998}, []int{9999}, []int{9999, 9999}, []int{9999, 9998}, []int{9998, 9999}, []int{1, 9999}, []int{0, 9999}, []int{0, 0, 9999}, []int{9999, 0, 0, 1}, []int{9, 9, 9, 9}, []int{5, 0, 7, 9999},
		[]int{9999, 9999, 9999, 9999, 9999}, []int{9999, 9999, 9999, 9999, 9998}, []int{9999, 9999, 9999, 9999, 0}, []int{9999, 0, 0, 0, 0}, []int{1, 0, 0, 0, 0}, []int{0, 1, 0, 0, 0}, []int{0, 0, 0, 0, 1}, []int{0, 0, 0, 0, 0}, []int{1, 2, 3, 4, 5}, []int{9, 9, 9, 9, 9}, []int{0, 9999, 9999, 9999, 9999})
}

// smallRows returns all lists of at most 4 numbers in 0..2 and 1 number in 0..3.
func smallRows() [][]int {
	return append(listsUpTo(4, 2)[1:], []int{3})
}

// badNumbersOfRows returns lists with a number that is out of range.
func badNumbersOfRows() [][]int {
	return [][]int{{-1}, {10000}, {math.MinInt}, {math.MaxInt}, {0, -1}, {-1, 0}, {1, 2, 10000}, {10000, 1, 2}, {1, 2, 3, 4, -1}, {1, 2, 3, 4, 10000}, {0, 0, math.MaxInt, 0}, {0, 0, 0, math.MinInt}}
}

func badRows() [][]int {
	return append(badNumbersOfRows(), nil, []int{}, []int{0, 0, 0, 0, 0, 0}, []int{1, 2, 3, 4, 5, 6}, slices.Repeat([]int{1}, 7), make([]int, 100000))
}

// writtenRow returns the ordinal of a list, written out.
func writtenRow(row []int) []int {
	o := []int{0}
	for i, n := range row {
		if n > 0 {
			o[0]++
			o = append(append(o, n), impl.OrdOf(len(row)-1-i)...)
		}
	}
	return o
}

// rowOrder compares lists of the same length.
func rowOrder(a, b []int) int {
	for i := range a {
		if a[i] < b[i] {
			return -1
		}
		if a[i] > b[i] {
			return 1
		}
	}
	return 0
}

// isAll tells whether a list has a number at every place.
func isAll(list []int, n int) bool {
	return !slices.ContainsFunc(list, func(m int) bool { return m != n })
}

func TestP68ListsCanBeAll0(t *testing.T) {
	for _, row := range allRows() {
		if !impl.RowValid(row) || !impl.RowValid(make([]int, len(row))) {
			t.Fatalf("RowValid(%v) is false, or that of so many 0", row)
		}
	}
	for _, row := range badRows() {
		if impl.RowValid(row) {
			t.Errorf("RowValid(%v) is true", row)
		}
	}
}

func TestRowCompareOfRows(t *testing.T) {
	for _, x := range []struct {
		a, b  []int
		order int
	}{
		{[]int{0}, []int{0}, 0}, {[]int{3}, []int{4}, -1}, {[]int{9999}, []int{9998}, 1}, {[]int{1, 0, 0}, []int{0, 9, 9}, 1}, {[]int{2, 3, 9999}, []int{2, 4, 0}, -1}, {[]int{1, 2, 3, 4, 5}, []int{1, 2, 3, 4, 6}, -1}, {[]int{1, 2, 3, 4, 5}, []int{1, 2, 3, 4, 5}, 0},
		// Not of the same length.
		{[]int{1}, []int{1, 0}, -2}, {[]int{0, 1}, []int{1}, -2}, {[]int{0}, []int{0, 0}, -2}, {[]int{9, 0, 0, 0, 0}, []int{1, 0, 0, 0}, -2},
	} {
		if order := impl.RowCompare(x.a, x.b); order != x.order {
			t.Errorf("RowCompare(%v, %v) is %d, not %d", x.a, x.b, order, x.order)
		}
	}
}

func TestP24ListsAreComparedAsTheirOrdinals(t *testing.T) {
	all := allRows()
	for _, a := range all {
		for _, b := range all {
			order := impl.RowCompare(a, b)
			if len(a) != len(b) {
				if order != -2 {
					t.Fatalf("RowCompare(%v, %v) is %d", a, b, order)
				}
				continue
			}
			if order != rowOrder(a, b) || order != impl.OrdCompare(impl.RowOrd(a), impl.RowOrd(b)) || order != -impl.RowCompare(b, a) {
				t.Fatalf("RowCompare(%v, %v) is %d", a, b, order)
			}
		}
	}
}

func TestRowOrdOfRow(t *testing.T) {
	for _, x := range []struct {
		row  []int
		text string
	}{
		{[]int{0}, "0"}, {[]int{0, 0, 0, 0, 0}, "0"}, {[]int{5}, "5"}, {[]int{9999}, "9999"}, {[]int{1, 0}, "w"}, {[]int{0, 1}, "1"}, {[]int{2, 0, 5}, "w^2*2+5"}, {[]int{0, 3, 0, 0}, "w^2*3"},
		{[]int{1, 1, 1, 1, 1}, "w^4+w^3+w^2+w+1"}, {[]int{9999, 9999, 9999, 9999, 9999}, "w^4*9999+w^3*9999+w^2*9999+w*9999+9999"}, {[]int{0, 0, 0, 12, 0}, "w*12"},
	} {
		if o := impl.RowOrd(x.row); impl.OrdText(o) != x.text {
			t.Errorf("RowOrd(%v) is %v, %s, not %s", x.row, o, impl.OrdText(o), x.text)
		}
	}
}

func TestP69ListsHaveOrdinalsByTheirLength(t *testing.T) {
	for _, row := range allRows() {
		o := impl.RowOrd(row)
		if !slices.Equal(o, writtenRow(row)) || impl.OrdCompare(o, power(t, impl.OrdOf(len(row)))) != -1 {
			t.Fatalf("RowOrd(%v) is %v", row, o)
		}
		more := slices.Clone(row)
		more[len(more)-1]++
		next, ok := impl.OrdNext(o)
		if ok != impl.RowValid(more) || ok && !slices.Equal(impl.RowOrd(more), next) {
			t.Fatalf("RowOrd(%v) is %v, and the next one of %v is %v, %t", more, impl.RowOrd(more), o, next, ok)
		}
	}
}

func TestRowDropOfRow(t *testing.T) {
	for _, x := range []struct {
		row  []int
		at   int
		list []int
		drop []int
	}{
		{[]int{2, 0, 5}, 0, []int{7, 7}, []int{1, 7, 7}}, {[]int{2, 0, 5}, 2, nil, []int{2, 0, 4}}, {[]int{2, 0, 5}, 2, []int{}, []int{2, 0, 4}}, {[]int{1}, 0, nil, []int{0}}, {[]int{9999}, 0, nil, []int{9998}},
		{[]int{1, 3}, 0, []int{9999}, []int{0, 9999}}, {[]int{1, 3}, 0, []int{0}, []int{0, 0}}, {[]int{1, 2, 3, 4, 5}, 0, []int{9999, 0, 9999, 0}, []int{0, 9999, 0, 9999, 0}}, {[]int{1, 2, 3, 4, 5}, 3, []int{8}, []int{1, 2, 3, 3, 8}}, {[]int{1, 2, 3, 4, 5}, 4, nil, []int{1, 2, 3, 4, 4}},
		// The number there is 0.
		{[]int{2, 0, 5}, 1, []int{7}, nil}, {[]int{0}, 0, nil, nil}, {[]int{0, 1}, 0, []int{0}, nil},
		// There is no such place.
		{[]int{2, 0, 5}, 3, nil, nil}, {[]int{2, 0, 5}, -1, []int{1, 1, 1}, nil}, {[]int{2, 0, 5}, -1, nil, nil}, {[]int{2, 0, 5}, math.MinInt, nil, nil}, {[]int{2, 0, 5}, math.MaxInt, nil, nil},
		// Not as many numbers as are behind it.
		{[]int{2, 0, 5}, 0, nil, nil}, {[]int{2, 0, 5}, 0, []int{7}, nil}, {[]int{2, 0, 5}, 0, []int{7, 7, 7}, nil}, {[]int{2, 0, 5}, 2, []int{7}, nil}, {[]int{2, 0, 5}, 0, make([]int, 100000), nil},
		{[]int{2, 0, 5}, 0, []int{7, -1}, nil}, {[]int{2, 0, 5}, 0, []int{10000, 7}, nil}, {[]int{2, 0}, 0, []int{math.MinInt}, nil}, {[]int{2, 0}, 0, []int{math.MaxInt}, nil},
	} {
		if drop, ok := impl.RowDrop(x.row, x.at, x.list); ok != (x.drop != nil) || !slices.Equal(drop, x.drop) || !ok && drop != nil {
			t.Errorf("RowDrop(%v, %d, %v) is %v, %t, not %v", x.row, x.at, x.list, drop, ok, x.drop)
		}
	}
}

func TestP25WhateverIsPutInBehindTheListIsLess(t *testing.T) {
	lists := append(listsUpTo(3, 1), []int{9999}, []int{10000}, []int{-1}, []int{9999, 9999}, []int{9999, 10000}, []int{9999, 9999, 9999}, []int{-1, 0, 0}, []int{9999, 9999, 9999, 9999}, []int{0, 0, 0, 0}, []int{0, 0, 0, 0, 0})
	dropped := map[bool]int{}
	for _, row := range allRows() {
		for at := -1; at <= len(row); at++ {
			for _, list := range lists {
				drop, ok := impl.RowDrop(row, at, list)
				dropped[ok]++
				may := at >= 0 && at < len(row) && row[at] > 0 && at+1+len(list) == len(row) && !slices.ContainsFunc(list, func(n int) bool { return n < 0 || n > 9999 })
				if ok != may || !ok && drop != nil {
					t.Fatalf("RowDrop(%v, %d, %v) is %v, %t", row, at, list, drop, ok)
				}
				if !ok {
					continue
				}
				if !slices.Equal(drop[:at], row[:at]) || drop[at] != row[at]-1 || !slices.Equal(drop[at+1:], list) {
					t.Fatalf("RowDrop(%v, %d, %v) is %v", row, at, list, drop)
				}
				if !impl.RowValid(drop) || impl.RowCompare(drop, row) != -1 || impl.OrdCompare(impl.RowOrd(drop), impl.RowOrd(row)) != -1 {
					t.Fatalf("RowDrop(%v, %d, %v) is %v, which is not less", row, at, list, drop)
				}
			}
		}
	}
	if dropped[true] < 500 || dropped[false] < 500 {
		t.Error(dropped)
	}
}

func TestRowMostOfRow(t *testing.T) {
	for _, x := range []struct {
		row        []int
		most, drop int
	}{
		{[]int{1, 2, 0}, 2, 15}, {[]int{3}, 2, -1}, {[]int{3}, 3, 3}, {[]int{3}, 9, 3}, {[]int{0}, 0, 0}, {[]int{0, 0, 0, 0, 0}, 0, 0}, {[]int{0, 0, 0, 0, 0}, 9, 0}, {[]int{1}, 0, -1}, {[]int{0, 1}, 0, -1},
		{[]int{1, 0}, 1, 2}, {[]int{1, 0}, 9, 10}, {[]int{1, 1, 1, 1, 1}, 1, 31}, {[]int{1, 2, 3, 4, 5}, 9, 12345}, {[]int{9, 9, 9, 9, 9}, 9, 99999}, {[]int{9, 9, 9, 9, 9}, 8, -1}, {[]int{8, 8, 8, 8, 8}, 8, 59048}, {[]int{1, 2, 3, 4, 5}, 4, -1}, {[]int{5, 4, 3, 2, 1}, 5, 7465},
		{[]int{10}, 10, -1}, {[]int{1}, 10, -1}, {[]int{0}, 10, -1}, {[]int{0}, -1, -1}, {[]int{1}, -1, -1}, {[]int{1}, math.MinInt, -1}, {[]int{1}, math.MaxInt, -1}, {[]int{1}, 9999, -1}, {[]int{9999}, 9999, -1}, {[]int{10}, 9, -1},
	} {
		if drop := impl.RowMost(x.row, x.most); drop != x.drop {
			t.Errorf("RowMost(%v, %d) is %d, not %d", x.row, x.most, drop, x.drop)
		}
	}
}

// longestDrop returns how often RowDrop can be done at most, by going through all that can follow; told keeps what is known.
func longestDrop(t *testing.T, row []int, most int, told map[string]int) int {
	key := string(bytesOf(row))
	if n, ok := told[key]; ok {
		return n
	}
	longest := 0
	for at := range row {
		for _, list := range listsOf(len(row)-1-at, most) {
			if drop, ok := impl.RowDrop(row, at, list); ok {
				longest = max(longest, 1+longestDrop(t, drop, most, told))
			} else if row[at] > 0 {
				t.Fatalf("RowDrop(%v, %d, %v) is false", row, at, list)
			}
		}
	}
	told[key] = longest
	return longest
}

func TestRowMostIsTheLongestRowOfDrops(t *testing.T) {
	for _, x := range []struct{ length, most int }{
		{1, 0}, {1, 1}, {1, 9}, {2, 0}, {2, 1}, {2, 2}, {2, 5}, {2, 9}, {3, 0}, {3, 1}, {3, 2}, {3, 3}, {4, 1}, {4, 2}, {5, 0}, {5, 1},
	} {
		told := map[string]int{}
		for _, row := range listsOf(x.length, x.most) {
			want := longestDrop(t, row, x.most, told)
			if drop := impl.RowMost(row, x.most); drop != want {
				t.Fatalf("RowMost(%v, %d) is %d, not %d", row, x.most, drop, want)
			}
		}
	}
}

func TestP26EachTimeThereIsAtLeastOneFewer(t *testing.T) {
	for _, row := range allRows() {
		for most := -1; most <= impl.MaxItem+1; most++ {
			times := impl.RowMost(row, most)
			if told := most >= 0 && most <= 9 && slices.Max(row) <= most; told != (times >= 0) || !told && times != -1 {
				t.Fatalf("RowMost(%v, %d) is %d", row, most, times)
			}
			if times < 0 {
				continue
			}
			if (times == 0) != isAll(row, 0) {
				t.Fatalf("RowMost(%v, %d) is %d", row, most, times)
			}
			for at := range row {
				checkFewer(t, row, at, most)
			}
		}
	}
}

// checkFewer reports lists behind RowDrop at a place that have not fewer times, or not one fewer where they must.
func checkFewer(t *testing.T, row []int, at, most int) {
	t.Helper()
	times, behind := impl.RowMost(row, most), len(row)-1-at
	lists := [][]int{make([]int, behind), slices.Repeat([]int{most}, behind), slices.Repeat([]int{most / 2}, behind)}
	for _, list := range append(lists, listsOf(min(behind, 2), min(most, 2))...) {
		drop, ok := impl.RowDrop(row, at, list)
		if !ok {
			continue
		}
		fewer := impl.RowMost(drop, most)
		if fewer < 0 || fewer >= times {
			t.Fatalf("RowMost of %v for %d is %d, and of %v %d", row, most, times, drop, fewer)
		}
		if isAll(row[at+1:], 0) && isAll(list, most) && fewer != times-1 {
			t.Fatalf("RowMost of %v for %d is %d, and of %v %d", row, most, times, drop, fewer)
		}
	}
}

func TestInvalidLists(t *testing.T) {
	for _, row := range badRows() {
		if o := impl.RowOrd(row); o != nil {
			t.Errorf("RowOrd(%v) is %v", row, o)
		}
		for _, other := range append(badRows(), row, []int{0}, []int{1, 2, 3, 4, 5}, make([]int, min(len(row), 9))) {
			if x, y := impl.RowCompare(row, other), impl.RowCompare(other, row); x != -2 || y != -2 {
				t.Errorf("RowCompare of %v and %v is %d, %d", row, other, x, y)
			}
		}
		for at := -1; at <= min(len(row), 8); at++ {
			for _, list := range [][]int{nil, {1}, make([]int, max(len(row)-1-at, 0))} {
				if drop, ok := impl.RowDrop(row, at, list); ok || drop != nil {
					t.Errorf("RowDrop(%v, %d, %v) is %v, %t", row, at, list, drop, ok)
				}
			}
		}
		for _, most := range []int{-1, 0, 5, 9, 10, 9999, math.MaxInt, math.MinInt} {
			if times := impl.RowMost(row, most); times != -1 {
				t.Errorf("RowMost(%v, %d) is %d", row, most, times)
			}
		}
	}
}

func TestListsShareNoMemory(t *testing.T) {
	for _, row := range append(allRows(), badRows()...) {
		l, other := lend(row), lend(row)
		impl.RowValid(l.row)
		impl.RowCompare(l.row, other.row)
		impl.RowMost(l.row, 9)
		results := [][]int{impl.RowOrd(l.row)}
		for at := range min(len(row), 6) {
			// What is put in may be the same memory as the list.
			same, _ := impl.RowDrop(l.row, at, l.row[at+1:])
			begun, _ := impl.RowDrop(l.row, at, other.row[:len(row)-1-at])
			results = append(results, same, begun)
		}
		checkApart(t, "a function of lists", results...)
		l.checkKept(t, "a function of lists", results...)
		other.checkKept(t, "a function of two lists", results...)
	}
}
