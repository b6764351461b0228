package tests

import (
	"math"
	"slices"
	"testing"

	"loop.example/ordinalhydras/impl"
)

// relsOf returns all relations of exactly so many points.
func relsOf(points int) [][]int {
	return listsOf(points, 1<<points-1)
}

// smallRels returns all relations of at most 3 points.
func smallRels() [][]int {
	return slices.Concat(relsOf(1), relsOf(2), relsOf(3))
}

// relBy returns the relation of so many points in which a function tells which point leads to which.
func relBy(points int, leads func(from, to int) bool) []int {
	rel := make([]int, points)
	for from := range rel {
		for to := range points {
			if leads(from, to) {
				rel[from] += 1 << to
			}
		}
	}
	return rel
}

// chain, ladder and circle lead from each point to the one before, to all before, and to the next one round and round.
func chain(points int) []int {
	return relBy(points, func(from, to int) bool { return from == to+1 })
}

func ladder(points int) []int {
	return relBy(points, func(from, to int) bool { return from > to })
}

func circle(points int) []int {
	return relBy(points, func(from, to int) bool { return to == (from+1)%points })
}

// mixedRel returns a relation in which a few of all pairs, far from each other, are there: only downwards, if it shall fall.
func mixedRel(points, seed int, falls bool) []int {
	return relBy(points, func(from, to int) bool {
		return (from*from*31+to*17+from*to*seed+seed*7)%11 < 3 && (!falls || from > to)
	})
}

// wideRels returns relations of more than 3 points, some in which walks go on for ever and some in which none does.
func wideRels() [][]int {
	all := [][]int{
		relBy(12, func(from, to int) bool { return false }), relBy(12, func(from, to int) bool { return true }), relBy(12, func(from, to int) bool { return from == to }),
		relBy(12, func(from, to int) bool { return from < to }), relBy(12, func(from, to int) bool { return from/2 > to/2 }), relBy(12, func(from, to int) bool { return from != to }),
		// Walks into a point that leads to itself, and into a circle.
		relBy(12, func(from, to int) bool { return to == max(from-1, 0) }), relBy(12, func(from, to int) bool { return to == from-1 || from == 0 && to == 4 }), relBy(12, func(from, to int) bool { return to == from+1 || from == 11 && to == 7 }),
		// Two circles, and a point that leads nowhere, from which nothing leads to them.
		{0, 4, 2, 16, 32, 8}, {48, 4, 2, 8, 0, 16},
		relBy(12, func(from, to int) bool { return to == from%5*2 }), relBy(12, func(from, to int) bool { return from%3 == 1 && to < from && to%3 != 1 }),
	}
	for points := 4; points <= impl.MaxDots; points++ {
		all = append(all, chain(points), ladder(points), circle(points))
		for seed := range 9 {
			all = append(all, mixedRel(points, seed, true), mixedRel(points, seed, false))
		}
	}
	return all
}

func allRels() [][]int {
	return append(smallRels(), wideRels()...)
}

// badRels returns rows that are no relations.
func badRels() [][]int {
	return [][]int{
		nil, {}, {2}, {-1}, {math.MinInt}, {math.MaxInt}, {4, 0}, {0, 4}, {0, -1}, {3, math.MinInt}, {8, 1, 2}, {1, 2, 8}, {0, math.MaxInt, 0}, {0, 0, -2},
		append(make([]int, 11), 4096), append(make([]int, 11), -1), append([]int{4096}, make([]int, 11)...),
		make([]int, 13), append(make([]int, 12), 1), slices.Repeat([]int{1}, 13), make([]int, 62), make([]int, 63), make([]int, 64), make([]int, 65), make([]int, 100000),
	}
}

// leads tells whether a relation leads from one point to another one.
func leads(rel []int, from, to int) bool {
	for range to {
		from, rel = 0, []int{rel[from] / 2}
	}
	return rel[from]%2 == 1
}

// longestWalk returns how many steps, up to so many, a walk from a point has at most.
func longestWalk(rel []int, point, most int) int {
	longest := 0
	for next := range rel {
		if longest < most && leads(rel, point, next) {
			longest = max(longest, 1+longestWalk(rel, next, most-1))
		}
	}
	return longest
}

// rankOf returns the rank of a point. A walk of as many steps as there are points comes to one of them twice, and so goes on for ever.
func rankOf(rel []int, point int) int {
	if longest := longestWalk(rel, point, len(rel)); longest < len(rel) {
		return longest
	}
	return -1
}

// hasWalk tells whether there is a walk of so many steps from one point to another one, by going through all of them.
func hasWalk(rel []int, from, to, steps int) bool {
	if steps == 0 {
		return from == to
	}
	for next := range rel {
		if leads(rel, from, next) && hasWalk(rel, next, to, steps-1) {
			return true
		}
	}
	return false
}

// numberOrds returns the ordinals of numbers.
func numberOrds(numbers []int) [][]int {
	ords := make([][]int, len(numbers))
	for i, n := range numbers {
		ords[i] = impl.OrdOf(n)
	}
	return ords
}

func TestRankConstants(t *testing.T) {
	if impl.MaxDots != 12 {
		t.Error(impl.MaxDots)
	}
}

func TestRelValidOfAllShortRows(t *testing.T) {
	for length := range 4 {
		for _, row := range listsOf(length, 11) {
			want := length > 0
			for i := range row {
				row[i]--
				want = want && row[i] >= 0 && row[i] < []int{1, 2, 4, 8}[length]
			}
			if impl.RelValid(row) != want {
				t.Fatalf("RelValid(%v) is %t", row, !want)
			}
		}
	}
}

func TestP70RelationsMayLeadNowhere(t *testing.T) {
	for _, rel := range allRels() {
		if !impl.RelValid(rel) || !impl.RelValid(make([]int, len(rel))) {
			t.Fatalf("RelValid(%v) is false, or that of so many empty rows", rel)
		}
	}
	greatest := 2
	for points := 1; points <= 12; points++ {
		for at := range points {
			rel := make([]int, points)
			rel[at] = greatest - 1
			if !impl.RelValid(rel) {
				t.Errorf("RelValid(%v) is false", rel)
			}
			rel[at]++
			if impl.RelValid(rel) {
				t.Errorf("RelValid(%v) is true", rel)
			}
		}
		greatest *= 2
	}
	for _, rel := range badRels() {
		if impl.RelValid(rel) {
			t.Errorf("RelValid(%v) is true", rel)
		}
	}
}

func TestRanksOfRelation(t *testing.T) {
	for _, x := range []struct{ rel, ranks []int }{
		// Relations that lead nowhere.
		{[]int{0}, []int{0}}, {[]int{0, 0, 0}, []int{0, 0, 0}}, {make([]int, 12), make([]int, 12)},
		// Points that lead to themselves.
		{[]int{1}, []int{-1}}, {[]int{0, 2}, []int{0, -1}}, {[]int{1, 0}, []int{-1, 0}}, {[]int{1, 1}, []int{-1, -1}}, {[]int{0, 3}, []int{0, -1}}, {[]int{2, 2, 0}, []int{-1, -1, 0}},
		{[]int{0, 1, 3, 4}, []int{0, 1, 2, 3}}, {[]int{2, 4, 2}, []int{-1, -1, -1}}, {[]int{2, 0}, []int{1, 0}}, {[]int{6, 4, 0}, []int{2, 1, 0}},
		// A greatest rank that does not come first, and one that comes by the shorter of two rows.
		{[]int{0, 1, 2, 0, 5}, []int{0, 1, 2, 0, 3}}, {[]int{0, 1, 2, 9, 12}, []int{0, 1, 2, -1, -1}}, {[]int{14, 0, 2, 4}, []int{3, 0, 1, 2}},
		// One point has a rank although others of the same relation have none.
		{[]int{2, 1, 0, 4, 9}, []int{-1, -1, 0, 1, -1}}, {[]int{3, 0, 2}, []int{-1, 0, 1}},
		{[]int{0, 1, 2, 4, 8, 16, 32, 64, 128, 256, 512, 1024}, []int{0, 1, 2, 3, 4, 5, 6, 7, 8, 9, 10, 11}},
		{[]int{2, 4, 8, 16, 32, 64, 128, 256, 512, 1024, 2048, 0}, []int{11, 10, 9, 8, 7, 6, 5, 4, 3, 2, 1, 0}},
		{[]int{2, 4, 8, 16, 32, 64, 128, 256, 512, 1024, 2048, 2048}, slices.Repeat([]int{-1}, 12)},
	} {
		if ranks := impl.RanksOf(x.rel); !slices.Equal(ranks, x.ranks) {
			t.Errorf("RanksOf(%v) is %v, not %v", x.rel, ranks, x.ranks)
		}
		if ends := impl.WellFounded(x.rel); ends != !slices.Contains(x.ranks, -1) {
			t.Errorf("WellFounded(%v) is %t", x.rel, ends)
		}
	}
}

func TestRanksAreOneMoreThanTheGreatest(t *testing.T) {
	for _, rel := range append(allRels(), relsOf(4)...) {
		ranks := impl.RanksOf(rel)
		if len(ranks) != len(rel) {
			t.Fatalf("RanksOf(%v) is %v", rel, ranks)
		}
		for point, rank := range ranks {
			want, all := 0, true
			for next := range rel {
				if leads(rel, point, next) {
					want, all = max(want, ranks[next]+1), all && ranks[next] >= 0
				}
			}
			if all && rank != want || !all && rank != -1 {
				t.Fatalf("RanksOf(%v) is %v, with %d at %d", rel, ranks, rank, point)
			}
		}
	}
}

func TestP27ARankIsTheLengthOfTheLongestWalk(t *testing.T) {
	endless := map[bool]int{}
	for _, rel := range append(allRels(), relsOf(4)...) {
		for point, rank := range impl.RanksOf(rel) {
			if want := rankOf(rel, point); rank != want {
				t.Fatalf("RanksOf(%v) has %d at %d, not %d", rel, rank, point, want)
			}
			endless[rank < 0]++
			for _, steps := range []int{0, 1, 2, 3, rank, rank + 1, 12, 13, 98, 99} {
				if steps < 0 {
					continue
				}
				if ends := impl.WalksTo(rel, point, steps); ends < 0 || (ends > 0) != (rank < 0 || steps <= rank) {
					t.Fatalf("WalksTo(%v, %d, %d) is %d, and the rank is %d", rel, point, steps, ends, rank)
				}
			}
		}
	}
	if endless[true] < 1000 || endless[false] < 1000 {
		t.Error(endless)
	}
}

func TestWalksToOfRelation(t *testing.T) {
	for _, x := range []struct {
		rel               []int
		point, steps, set int
	}{
		{[]int{0, 1, 3, 4}, 3, 0, 8}, {[]int{0, 1, 3, 4}, 3, 1, 4}, {[]int{0, 1, 3, 4}, 3, 2, 3}, {[]int{0, 1, 3, 4}, 3, 3, 1}, {[]int{0, 1, 3, 4}, 3, 4, 0}, {[]int{0, 1, 3, 4}, 3, 99, 0}, {[]int{0, 1, 3, 4}, 0, 0, 1}, {[]int{0, 1, 3, 4}, 0, 1, 0},
		// No step leads anywhere, but the point is there behind none.
		{[]int{0}, 0, 0, 1}, {[]int{0}, 0, 1, 0}, {[]int{0, 0, 0}, 2, 0, 4}, {[]int{0, 0, 0}, 2, 1, 0},
		// A point that leads to itself.
		{[]int{1}, 0, 0, 1}, {[]int{1}, 0, 1, 1}, {[]int{1}, 0, 99, 1}, {[]int{0, 3}, 1, 1, 3}, {[]int{0, 3}, 1, 99, 3}, {[]int{0, 3}, 0, 1, 0},
		{[]int{2, 1}, 0, 98, 1}, {[]int{2, 1}, 0, 99, 2}, {[]int{2, 4, 1}, 0, 99, 1}, {[]int{2, 4, 1}, 1, 98, 1}, {circle(12), 0, 11, 2048}, {circle(12), 0, 12, 1}, {circle(12), 11, 99, 4}, {relBy(12, func(from, to int) bool { return true }), 5, 99, 4095}, {chain(12), 11, 11, 1}, {chain(12), 11, 12, 0},
		// There is no such point, or so many steps are too many or too few.
		{[]int{1}, 1, 0, -1}, {[]int{1}, -1, 0, -1}, {[]int{1}, 1, 1, -1}, {[]int{1}, 64, 0, -1}, {[]int{1}, math.MinInt, 1, -1}, {[]int{1}, math.MaxInt, 1, -1}, {make([]int, 12), 12, 0, -1}, {make([]int, 12), 11, 0, 2048},
		{[]int{1}, 0, -1, -1}, {[]int{1}, 0, 100, -1}, {[]int{1}, 0, math.MinInt, -1}, {[]int{1}, 0, math.MaxInt, -1}, {[]int{0}, 0, 100, -1}, {[]int{0}, 0, -1, -1},
	} {
		if set := impl.WalksTo(x.rel, x.point, x.steps); set != x.set {
			t.Errorf("WalksTo(%v, %d, %d) is %d, not %d", x.rel, x.point, x.steps, set, x.set)
		}
	}
}

func TestWalksToAreAllWalks(t *testing.T) {
	for _, rel := range append(smallRels(), []int{0, 1, 3, 4}, []int{8, 9, 2, 6}, circle(5), ladder(6), []int{48, 4, 2, 8, 0, 16}, mixedRel(6, 2, false)) {
		for point := range rel {
			for steps := range 5 {
				set := impl.WalksTo(rel, point, steps)
				for to := range rel {
					if hasWalk(rel, point, to, steps) != (set>>to%2 == 1) {
						t.Fatalf("WalksTo(%v, %d, %d) is %d", rel, point, steps, set)
					}
				}
				if set < 0 || set >= 1<<len(rel) {
					t.Fatalf("WalksTo(%v, %d, %d) is %d", rel, point, steps, set)
				}
			}
		}
	}
}

func TestP71WalksFollowEachOther(t *testing.T) {
	for _, rel := range allRels() {
		// There are many small ones; among the wide ones are such as long walks need.
		most := 99
		if len(rel) < 4 {
			most = 12
		}
		for point := range rel {
			for steps := range most {
				want := 0
				for at := range rel {
					if impl.WalksTo(rel, point, steps)>>at%2 == 1 {
						want |= impl.WalksTo(rel, at, 1)
					}
				}
				if set := impl.WalksTo(rel, point, steps+1); set != want {
					t.Fatalf("WalksTo(%v, %d, %d) is %d, not %d", rel, point, steps+1, set, want)
				}
			}
		}
	}
}

func TestP28OneOfBothIsThereACircleOrRanks(t *testing.T) {
	found := map[bool]int{}
	for _, rel := range append(allRels(), relsOf(4)...) {
		want := true
		for point := range rel {
			want = want && rankOf(rel, point) >= 0
		}
		points, ok := impl.CircleOf(rel)
		if ok == want || !ok && points != nil {
			t.Fatalf("CircleOf(%v) is %v, %t", rel, points, ok)
		}
		if impl.WellFounded(rel) != want || impl.WellFounded(impl.RelClosed(rel)) != want {
			t.Fatalf("WellFounded(%v), or that of RelClosed, is %t", rel, !want)
		}
		found[want]++
	}
	if found[true] < 500 || found[false] < 1000 {
		t.Error(found)
	}
}

func TestFallOkOfTexts(t *testing.T) {
	for _, x := range []struct {
		rel   []int
		texts []string
		ok    bool
	}{
		{[]int{0, 1, 3, 4}, []string{"0", "3", "7", "w"}, true}, {[]int{0, 1, 3, 4}, []string{"0", "0", "7", "w"}, false}, {[]int{0, 1, 3, 4}, []string{"0", "3", "2", "w"}, false}, {[]int{0, 1, 3, 4}, []string{"0", "1", "w", "w"}, false}, {[]int{0, 1, 3, 4}, []string{"5", "w", "w^w", "w^(w+1)"}, true}, {[]int{0, 1, 3, 4}, []string{"8", "w", "7", "w^2"}, false},
		// What leads nowhere may have any ordinals.
		{[]int{0}, []string{"0"}, true}, {[]int{0}, []string{"w^w"}, true}, {[]int{0, 0}, []string{"3", "3"}, true}, {[]int{0, 0, 0}, []string{"0", "w", "1"}, true},
		// A point that leads to itself has none.
		{[]int{1}, []string{"0"}, false}, {[]int{1}, []string{"w^w"}, false}, {[]int{0, 2}, []string{"0", "9"}, false}, {[]int{0, 3}, []string{"0", "w"}, false}, {[]int{1, 0}, []string{"9", "0"}, false},
		{[]int{2, 1}, []string{"0", "1"}, false}, {[]int{2, 1}, []string{"1", "0"}, false}, {[]int{2, 0}, []string{"w", "9999"}, true}, {[]int{2, 0}, []string{"9999", "w"}, false}, {[]int{2, 0}, []string{"w^w", "w^9*9+w*8"}, true},
		// Not one for each point.
		{[]int{0}, nil, false}, {[]int{0}, []string{"0", "0"}, false}, {[]int{0, 1}, []string{"0"}, false}, {[]int{0, 1}, []string{"0", "1", "2"}, false}, {make([]int, 12), slices.Repeat([]string{"7"}, 12), true}, {make([]int, 12), slices.Repeat([]string{"7"}, 11), false}, {make([]int, 12), slices.Repeat([]string{"7"}, 13), false},
	} {
		var ords [][]int
		for _, text := range x.texts {
			ords = append(ords, read(t, text))
		}
		if ok := impl.FallOk(x.rel, ords); ok != x.ok {
			t.Errorf("FallOk(%v, %v) is %t", x.rel, x.texts, ok)
		}
	}
}

func TestFallOkOfInvalidOrdinals(t *testing.T) {
	for _, bad := range badOrds() {
		for _, rel := range [][]int{{0}, {0, 0}, {0, 1}, {2, 0}, {0, 1, 3}, make([]int, 12)} {
			for at := range rel {
				ords := make([][]int, len(rel))
				for i, rank := range impl.RanksOf(rel) {
					ords[i] = impl.OrdOf(rank + 3)
				}
				if !impl.FallOk(rel, ords) {
					t.Errorf("FallOk(%v, %v) is false", rel, ords)
				}
				ords[at] = bad
				if impl.FallOk(rel, ords) {
					t.Errorf("FallOk(%v, %v) is true", rel, ords)
				}
			}
		}
	}
}

func TestP29WhatFallsEnds(t *testing.T) {
	some := [][]int{{0}, impl.OrdOf(1), impl.OrdOf(2), read(t, "w"), read(t, "w^w+1")}
	proved := map[bool]int{}
	for _, rel := range allRels() {
		ranks := impl.RanksOf(rel)
		if ends := impl.WellFounded(rel); ends != impl.FallOk(rel, numberOrds(ranks)) {
			t.Fatalf("WellFounded(%v) is %t, but not so the ranks as ordinals, %v", rel, ends, ranks)
		}
		if len(rel) > 3 {
			continue
		}
		for _, list := range listsOf(len(rel), len(some)-1) {
			ords, want := make([][]int, len(rel)), true
			for point := range rel {
				ords[point] = some[list[point]]
				for next := range rel {
					want = want && (!leads(rel, point, next) || list[point] > list[next])
				}
			}
			if impl.FallOk(rel, ords) != want {
				t.Fatalf("FallOk(%v, %v) is %t", rel, ords, !want)
			}
			proved[want]++
			for point, rank := range ranks {
				if want && (rank < 0 || impl.OrdCompare(ords[point], impl.OrdOf(rank)) < 0) {
					t.Fatalf("FallOk(%v, %v) is true, and the ranks are %v", rel, ords, ranks)
				}
			}
		}
	}
	if proved[true] < 500 || proved[false] < 1000 {
		t.Error(proved)
	}
}

func TestP29OfManyPoints(t *testing.T) {
	for _, rel := range wideRels() {
		ranks := impl.RanksOf(rel)
		// Farther from each other they prove it, too, and one of them that is not greater is enough to prove nothing.
		for _, factor := range []int{1, 2, 9} {
			ords := make([][]int, len(rel))
			for point, rank := range ranks {
				ords[point], _ = impl.OrdAdd(power(t, impl.OrdOf(max(rank, 0)*factor)), impl.OrdOf(point))
			}
			if impl.FallOk(rel, ords) != impl.WellFounded(rel) {
				t.Fatalf("FallOk(%v, %v) is %t", rel, ords, !impl.WellFounded(rel))
			}
			for point, rank := range ranks {
				if rank < 1 {
					continue
				}
				low := slices.Clone(ords)
				for next := range rel {
					if leads(rel, point, next) {
						low[point] = low[next]
					}
				}
				if impl.FallOk(rel, low) {
					t.Fatalf("FallOk(%v, %v) is true", rel, low)
				}
			}
		}
	}
}

func TestCircleOkOfRelation(t *testing.T) {
	for _, x := range []struct {
		rel, points []int
		ok          bool
	}{
		{[]int{2, 4, 2}, []int{1, 2}, true}, {[]int{2, 4, 2}, []int{2, 1}, true}, {[]int{2, 4, 2}, []int{0}, false}, {[]int{2, 4, 2}, []int{0, 1}, false}, {[]int{2, 4, 2}, []int{0, 1, 2}, false}, {[]int{2, 4, 2}, []int{1}, false}, {[]int{2, 4, 2}, []int{1, 2, 1}, false},
		// At least one point.
		{[]int{1}, nil, false}, {[]int{1}, []int{}, false}, {[]int{0}, nil, false},
		// Points that lead to themselves.
		{[]int{1}, []int{0}, true}, {[]int{1}, []int{0, 0, 0}, true}, {[]int{0}, []int{0}, false}, {[]int{0, 2}, []int{1}, true}, {[]int{0, 2}, []int{0}, false}, {[]int{3, 3}, []int{0, 0, 1, 1}, true}, {[]int{2, 1}, []int{0, 0}, false}, {[]int{3, 1}, []int{0, 0, 1}, true}, {[]int{2, 3}, []int{0, 0, 1}, false},
		// Some may come twice, and there may be more of them than points.
		{[]int{2, 4, 2}, []int{1, 2, 1, 2}, true}, {circle(12), []int{0, 1, 2, 3, 4, 5, 6, 7, 8, 9, 10, 11}, true}, {circle(12), []int{0, 1, 2, 3, 4, 5, 6, 7, 8, 9, 10}, false}, {circle(12), []int{11, 10, 9, 8, 7, 6, 5, 4, 3, 2, 1, 0}, false}, {[]int{1}, make([]int, 100000), true}, {[]int{1}, append(make([]int, 100000), 1), false},
		// One that is no point of the relation.
		{[]int{1}, []int{1}, false}, {[]int{1}, []int{-1}, false}, {[]int{1}, []int{0, 1}, false}, {[]int{1}, []int{-1, 0}, false}, {[]int{3, 3}, []int{0, 2}, false}, {[]int{3, 3}, []int{2, 0}, false}, {[]int{3, 3}, []int{64}, false}, {[]int{3, 3}, []int{0, 64}, false}, {[]int{3, 3}, []int{math.MinInt}, false}, {[]int{3, 3}, []int{0, math.MaxInt, 1}, false},
	} {
		if ok := impl.CircleOk(x.rel, x.points); ok != x.ok {
			t.Errorf("CircleOk(%v, %v) is %t", x.rel, x.points, ok)
		}
	}
}

// isCircle tells whether each point leads to the next one, and the last one to the first one.
func isCircle(rel, points []int) bool {
	for i, point := range points {
		next := points[(i+1)%len(points)]
		if point < 0 || point >= len(rel) || next < 0 || next >= len(rel) || !leads(rel, point, next) {
			return false
		}
	}
	return len(points) > 0
}

func TestP72CirclesGoOnForEver(t *testing.T) {
	lists := listsUpTo(4, 4)
	for _, list := range lists {
		for i := range list {
			list[i]--
		}
	}
	ords := [][]int{{0}, impl.OrdOf(1), read(t, "w")}
	circles := 0
	for _, rel := range smallRels() {
		ranks := impl.RanksOf(rel)
		for _, points := range lists {
			want := isCircle(rel, points)
			if impl.CircleOk(rel, points) != want {
				t.Fatalf("CircleOk(%v, %v) is %t", rel, points, !want)
			}
			if !want {
				continue
			}
			circles++
			if second := slices.Concat(points[1:], points[:1]); !impl.CircleOk(rel, second) {
				t.Fatalf("CircleOk(%v, %v) is false", rel, second)
			}
			for _, point := range points {
				if ranks[point] != -1 {
					t.Fatalf("CircleOk(%v, %v) is true, and the ranks are %v", rel, points, ranks)
				}
			}
			for _, list := range listsOf(len(rel), len(ords)-1) {
				proof := make([][]int, len(rel))
				for i, n := range list {
					proof[i] = ords[n]
				}
				if impl.FallOk(rel, proof) {
					t.Fatalf("CircleOk(%v, %v) and FallOk(.., %v) are true", rel, points, proof)
				}
			}
		}
	}
	if circles < 1000 {
		t.Errorf("only %d circles", circles)
	}
}

func TestCircleOfRelation(t *testing.T) {
	for _, x := range []struct{ rel, points []int }{
		{[]int{0}, nil}, {[]int{0, 0, 0}, nil}, {[]int{0, 1, 3, 4}, nil}, {chain(12), nil}, {ladder(12), nil},
		{[]int{1}, []int{0}}, {[]int{0, 2}, []int{1}}, {[]int{2, 2}, []int{1}}, {[]int{3, 3}, []int{0}}, {[]int{2, 3}, []int{0, 1}}, {[]int{2, 1}, []int{0, 1}},
		{[]int{2, 4, 2}, []int{1, 2}}, {[]int{4, 1, 2}, []int{0, 2, 1}}, {[]int{6, 1, 1}, []int{0, 1}}, {[]int{4, 4, 2}, []int{2, 1}}, {[]int{2, 4, 6}, []int{1, 2}}, {[]int{2, 4, 5}, []int{0, 1, 2}},
		// Points with a rank are passed over, at the beginning and behind it.
		{[]int{0, 1, 8, 4}, []int{2, 3}}, {[]int{8, 10, 0, 4}, []int{1}}, {[]int{18, 4, 0, 3, 9}, []int{0, 4}}, {[]int{6, 0, 8, 3}, []int{0, 2, 3}},
		// There are several circles.
		{[]int{0, 4, 2, 16, 32, 8}, []int{1, 2}}, {[]int{48, 4, 2, 8, 0, 16}, []int{1, 2}}, {[]int{8, 4, 2, 48, 8, 32}, []int{3, 4}},
		{circle(12), []int{0, 1, 2, 3, 4, 5, 6, 7, 8, 9, 10, 11}}, {relBy(12, func(from, to int) bool { return to == from+1 || from == 11 && to == 7 }), []int{7, 8, 9, 10, 11}}, {relBy(12, func(from, to int) bool { return to == from-1 || from == 0 && to == 4 }), []int{0, 4, 3, 2, 1}}, {relBy(12, func(from, to int) bool { return to == 11 }), []int{11}},
	} {
		if points, ok := impl.CircleOf(x.rel); ok != (x.points != nil) || !slices.Equal(points, x.points) || !ok && points != nil {
			t.Errorf("CircleOf(%v) is %v, %t, not %v", x.rel, points, ok, x.points)
		}
	}
}

// walkedCircle returns the circle to which the walk through the least points without a rank comes; nil if there are none.
func walkedCircle(rel []int) []int {
	least := func(may func(int) bool) int {
		for point := range rel {
			if may(point) && rankOf(rel, point) < 0 {
				return point
			}
		}
		return -1
	}
	var walk []int
	point := least(func(int) bool { return true })
	for !slices.Contains(walk, point) {
		if point < 0 {
			return nil
		}
		walk = append(walk, point)
		from := point
		point = least(func(to int) bool { return leads(rel, from, to) })
	}
	return walk[slices.Index(walk, point):]
}

func TestP73FoundCirclesAreCircles(t *testing.T) {
	lengths := map[int]int{}
	for _, rel := range append(allRels(), relsOf(4)...) {
		points, ok := impl.CircleOf(rel)
		if want := walkedCircle(rel); !slices.Equal(points, want) || ok != (want != nil) {
			t.Fatalf("CircleOf(%v) is %v, %t, not %v", rel, points, ok, want)
		}
		if !ok {
			continue
		}
		lengths[len(points)]++
		if !impl.CircleOk(rel, points) || !isCircle(rel, points) {
			t.Fatalf("CircleOf(%v) is %v, which is none", rel, points)
		}
		for i, point := range points {
			if slices.Contains(points[:i], point) {
				t.Fatalf("CircleOf(%v) is %v, with %d twice", rel, points, point)
			}
		}
	}
	for length := 1; length <= impl.MaxDots; length++ {
		if lengths[length] == 0 {
			t.Errorf("no circle of %d points was found", length)
		}
	}
}

func TestRelPairsOfRelations(t *testing.T) {
	for _, x := range []struct{ a, b, pairs []int }{
		{[]int{0, 1}, []int{0, 1}, []int{0, 1, 3, 7}}, {[]int{0}, []int{0}, []int{0}}, {[]int{1}, []int{0}, []int{1}}, {[]int{0}, []int{1}, []int{1}}, {[]int{1}, []int{0, 0}, []int{3, 3}}, {[]int{0, 0}, []int{1}, []int{1, 2}}, {[]int{0, 2}, []int{0}, []int{0, 2}}, {[]int{2, 0}, []int{0, 1}, []int{12, 13, 0, 4}}, {[]int{0, 1}, []int{0, 1, 2}, []int{0, 1, 2, 7, 15, 23}}, {[]int{0, 1, 2}, []int{0, 1}, []int{0, 1, 3, 7, 12, 28}}, {[]int{0, 3}, []int{2, 0}, []int{2, 0, 15, 15}},
		// One point leaves the other relation as it is.
		{[]int{0}, circle(12), circle(12)}, {circle(12), []int{0}, circle(12)}, {ladder(12), []int{0}, ladder(12)}, {[]int{0}, make([]int, 12), make([]int, 12)}, {[]int{1}, make([]int, 12), slices.Repeat([]int{4095}, 12)},
		{make([]int, 6), make([]int, 2), make([]int, 12)}, {make([]int, 3), make([]int, 4), make([]int, 12)},
		// Too many pairs.
		{make([]int, 13), []int{0}, nil}, {make([]int, 7), make([]int, 2), nil}, {make([]int, 2), make([]int, 7), nil}, {make([]int, 4), make([]int, 4), nil}, {make([]int, 5), make([]int, 3), nil}, {make([]int, 12), make([]int, 2), nil}, {make([]int, 2), make([]int, 12), nil}, {make([]int, 12), make([]int, 12), nil},
	} {
		if pairs := impl.RelPairs(x.a, x.b); !slices.Equal(pairs, x.pairs) {
			t.Errorf("RelPairs(%v, %v) is %v, not %v", x.a, x.b, pairs, x.pairs)
		}
	}
}

// writtenPairs returns the relation of pairs, told pair by pair.
func writtenPairs(a, b []int) []int {
	return relBy(len(a)*len(b), func(from, to int) bool {
		first, nextFirst := from/len(b), to/len(b)
		second, nextSecond := from%len(b), to%len(b)
		return leads(a, first, nextFirst) || first == nextFirst && leads(b, second, nextSecond)
	})
}

// pairedRels returns relations of 1, 2, 3, 4, 6 and 12 points, of which some have together as many pairs as there may be.
func pairedRels() [][]int {
	all := append(relsOf(1), relsOf(2)...)
	for i, rel := range relsOf(3) {
		if i%5 == 0 || impl.WellFounded(rel) {
			all = append(all, rel)
		}
	}
	for _, rel := range wideRels() {
		if len(rel) == 4 || len(rel) == 6 || len(rel) == 12 {
			all = append(all, rel)
		}
	}
	return all
}

func TestP30PairsHaveRanksAsProducts(t *testing.T) {
	found := map[bool]int{}
	all := pairedRels()
	for _, a := range all {
		for _, b := range all {
			pairs := impl.RelPairs(a, b)
			if len(a)*len(b) > 12 {
				if pairs != nil {
					t.Fatalf("RelPairs(%v, %v) is %v", a, b, pairs)
				}
				continue
			}
			if !slices.Equal(pairs, writtenPairs(a, b)) || !impl.RelValid(pairs) {
				t.Fatalf("RelPairs(%v, %v) is %v", a, b, pairs)
			}
			ends := impl.WellFounded(a) && impl.WellFounded(b)
			if impl.WellFounded(pairs) != ends {
				t.Fatalf("WellFounded of the pairs of %v and %v is %t", a, b, !ends)
			}
			found[ends]++
			if !ends {
				continue
			}
			firsts, seconds, ranks := impl.RanksOf(a), impl.RanksOf(b), impl.RanksOf(pairs)
			for i, rank := range ranks {
				if rank != firsts[i/len(b)]*(slices.Max(seconds)+1)+seconds[i%len(b)] {
					t.Fatalf("the ranks of %v and %v are %v and %v, and those of the pairs %v", a, b, firsts, seconds, ranks)
				}
			}
		}
	}
	if found[true] < 500 || found[false] < 500 {
		t.Error(found)
	}
}

func TestRelClosedOfRelation(t *testing.T) {
	for _, x := range []struct{ rel, closed []int }{
		{[]int{0}, []int{0}}, {[]int{1}, []int{1}}, {[]int{0, 0, 0}, []int{0, 0, 0}}, {[]int{0, 1, 3, 4}, []int{0, 1, 3, 7}}, {[]int{2, 1}, []int{3, 3}}, {[]int{2, 4, 2}, []int{6, 6, 6}}, {[]int{2, 2}, []int{2, 2}}, {[]int{2, 0}, []int{2, 0}}, {[]int{2, 4, 1}, []int{7, 7, 7}}, {[]int{2, 4, 0}, []int{6, 4, 0}}, {[]int{1, 1, 2}, []int{1, 1, 3}},
		{chain(12), ladder(12)}, {ladder(12), ladder(12)}, {circle(12), slices.Repeat([]int{4095}, 12)}, {[]int{2, 4, 8, 16, 32, 64, 128, 256, 512, 1024, 2048, 0}, []int{4094, 4092, 4088, 4080, 4064, 4032, 3968, 3840, 3584, 3072, 2048, 0}},
	} {
		if closed := impl.RelClosed(x.rel); !slices.Equal(closed, x.closed) {
			t.Errorf("RelClosed(%v) is %v, not %v", x.rel, closed, x.closed)
		}
	}
}

func TestP74ClosedRelationsStayClosed(t *testing.T) {
	for _, rel := range append(allRels(), relsOf(4)...) {
		closed := impl.RelClosed(rel)
		if len(closed) != len(rel) || !slices.Equal(impl.RelClosed(closed), closed) {
			t.Fatalf("RelClosed(%v) is %v, and again %v", rel, closed, impl.RelClosed(closed))
		}
		if !slices.Equal(impl.RanksOf(closed), impl.RanksOf(rel)) {
			t.Fatalf("the ranks of %v are %v, and of RelClosed %v", rel, impl.RanksOf(rel), impl.RanksOf(closed))
		}
		for point := range rel {
			// No walk without a point twice is longer than there are points.
			want := 0
			for steps := 1; steps <= len(rel); steps++ {
				want |= impl.WalksTo(rel, point, steps)
			}
			if closed[point] != want {
				t.Fatalf("RelClosed(%v) is %v, with %d at %d", rel, closed, closed[point], point)
			}
		}
	}
}

func TestInvalidRelations(t *testing.T) {
	for _, rel := range badRels() {
		if ranks := impl.RanksOf(rel); ranks != nil {
			t.Errorf("RanksOf(%v) is %v", rel, ranks)
		}
		for _, point := range []int{-1, 0, 1, len(rel) - 1, len(rel), math.MinInt, math.MaxInt} {
			for _, steps := range []int{-1, 0, 1, 99, 100} {
				if set := impl.WalksTo(rel, point, steps); set != -1 {
					t.Errorf("WalksTo(%v, %d, %d) is %d", rel, point, steps, set)
				}
			}
			if impl.CircleOk(rel, []int{point}) || impl.CircleOk(rel, []int{0, point}) {
				t.Errorf("CircleOk(%v, ..) is true for %d", rel, point)
			}
		}
		if impl.WellFounded(rel) || impl.CircleOk(rel, nil) {
			t.Errorf("WellFounded(%v) or CircleOk without points is true", rel)
		}
		falling := make([][]int, len(rel))
		for i := range falling {
			falling[i] = impl.OrdOf(i % 10000)
		}
		if impl.FallOk(rel, falling) || impl.FallOk(rel, nil) || impl.FallOk(rel, [][]int{{0}}) {
			t.Errorf("FallOk(%v, ..) is true", rel)
		}
		if points, ok := impl.CircleOf(rel); ok || points != nil {
			t.Errorf("CircleOf(%v) is %v, %t", rel, points, ok)
		}
		for _, other := range append(badRels(), []int{0}, []int{1}, []int{0, 1}) {
			if x, y := impl.RelPairs(rel, other), impl.RelPairs(other, rel); x != nil || y != nil {
				t.Errorf("RelPairs of %v and %v is %v, %v", rel, other, x, y)
			}
		}
		if closed := impl.RelClosed(rel); closed != nil {
			t.Errorf("RelClosed(%v) is %v", rel, closed)
		}
	}
}

func TestRelationsShareNoMemory(t *testing.T) {
	for _, rel := range append(allRels(), badRels()...) {
		l, other, one, points := lend(rel), lend(rel), lend([]int{1}), lend([]int{0, 0})
		ord := lend([]int{1, 1, 0})
		ords := slices.Repeat([][]int{ord.row}, min(len(rel), 20))
		impl.RelValid(l.row)
		impl.WalksTo(l.row, 0, 9)
		impl.WellFounded(l.row)
		impl.FallOk(l.row, ords)
		impl.CircleOk(l.row, points.row)
		points.checkKept(t, "CircleOk")
		// A circle may be told by the same memory as the relation.
		impl.CircleOk(l.row, l.row)
		found, _ := impl.CircleOf(l.row)
		results := [][]int{impl.RanksOf(l.row), found, impl.RelPairs(l.row, other.row), impl.RelPairs(one.row, l.row), impl.RelPairs(l.row, one.row), impl.RelClosed(l.row)}
		checkApart(t, "a function of relations", results...)
		l.checkKept(t, "a function of relations", results...)
		other.checkKept(t, "RelPairs", results...)
		one.checkKept(t, "RelPairs", results...)
		ord.checkKept(t, "FallOk", results...)
	}
}
