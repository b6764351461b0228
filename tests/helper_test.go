package tests

import (
	"math"
	"slices"
	"strings"
	"testing"

	"loop.example/ordinalhydras/impl"
)

// smallOrds returns all ordinals of at most size numbers in which the number of every term is in 1..times, in ascending order.
// The order follows from the way in which they are built, and not from the program.
func smallOrds(size, times int) [][]int {
	if size < 1 {
		return nil
	}
	below := [][]int{{0}}
	for _, exponent := range smallOrds(size-2, times) {
		// All in below have only lesser exponents, so what has this one is greater than all of them.
		all := slices.Clone(below)
		for n := 1; n <= times; n++ {
			for _, rest := range below {
				o := slices.Concat([]int{rest[0] + 1, n}, exponent, rest[1:])
				if len(o) <= size {
					all = append(all, o)
				}
			}
		}
		below = all
	}
	return below
}

// longSum returns w^n+..+w^2+w: an ordinal of 4n+1 numbers, as far as it is valid.
func longSum(n int) []int {
	o := []int{n}
	for ; n > 0; n-- {
		o = append(o, 1, 1, n, 0)
	}
	return o
}

// tower returns w to the power of w, and so on, over 1: an ordinal of 2n+1 numbers, as far as it is valid.
func tower(n int) []int {
	return append(slices.Repeat([]int{1}, 2*n), 0)
}

// wideOrds returns ordinals of all kinds, with small and great numbers, narrow, deep and as long as they may be.
func wideOrds(t *testing.T) [][]int {
	t.Helper()
	all := smallOrds(9, 2)
	all = append(all, longSum(13), longSum(14), tower(28), tower(29))
	for _, text := range []string{
		"9998", "9999", "w+9998", "w+9999", "w*9999", "w*9999+9999", "w^9999*9999", "w^9999*9999+w^9998+9999",
		"w^w+w^9999", "w^(w+9999)", "w^(w*9999)*9999+w^w", "w^(w^w+w^2*3+7)*5+w^(w^2)+w*2+1", "w^(w^(w^w))*2+w^(w^(w*2))",
	} {
		o, ok := impl.ReadOrd(text)
		if !ok {
			t.Fatalf("ReadOrd(%q) reads nothing", text)
		}
		all = append(all, o)
	}
	return all
}

// badOrds returns rows that are no ordinals.
func badOrds() [][]int {
	return [][]int{
		nil,
		{},
		{1},
		{-1},
		{math.MinInt},
		{math.MaxInt},
		{math.MaxInt, 1, 0},
		{1, 1},
		{1, 0, 0},
		{1, -1, 0},
		{1, 10000, 0},
		{1, math.MaxInt, 0},
		{1, math.MinInt, 0},
		{1, 1, -1},
		{1, 1, 2},
		{1, 1, math.MaxInt},
		{0, 0},
		{0, 1, 0},
		{1, 1, 0, 0},
		{1, 1, 0, 1, 0},
		{2, 1, 0},
		{2, 1, 0, 1, 0},
		{2, 1, 0, 2, 0},
		{2, 1, 0, 1, 1, 1, 0},
		{2, 1, 1, 1, 0, 1, 1, 1, 0},
		{2, 1, 1, 1, 0, 1, 1, 2, 0},
		{3, 1, 1, 2, 0, 1, 0, 1, 1, 1, 0},
		{1, 1, 1, 0, 0},
		{1, 1, 1, 10000, 0},
		{1, 1, 2, 1, 0, 1, 1, 1, 0},
		longSum(15),
		tower(30),
		make([]int, impl.MaxSize),
		make([]int, impl.MaxSize+1),
		make([]int, 100000),
	}
}

// lent is a row with spare capacity behind it that is not the borrower's to write to.
type lent struct {
	row    []int
	before []int
}

func lend(row []int) lent {
	whole := slices.Concat(row, []int{77, 77, 77, 77, 77, 77, 77, 77})
	return lent{row: whole[:len(row)], before: slices.Clone(whole)}
}

// checkKept reports an argument that was written to, and results that share memory with it.
func (l lent) checkKept(t *testing.T, name string, results ...[]int) {
	t.Helper()
	for _, r := range results {
		r = r[:cap(r)]
		for i := range r {
			r[i] = -55
		}
	}
	if whole := l.row[:len(l.before)]; !slices.Equal(whole, l.before) {
		t.Errorf("%s: its argument %v became %v", name, l.before, whole)
	}
}

// checkApart reports results that share memory with each other.
func checkApart(t *testing.T, name string, results ...[]int) {
	t.Helper()
	for i, r := range results {
		r = r[:cap(r)]
		for k := range r {
			r[k] = i
		}
	}
	for i, r := range results {
		for _, n := range r {
			if n != i {
				t.Errorf("%s: results %d and %d share memory", name, i, n)
				break
			}
		}
	}
}

// textsOf calls visit with every text of at most most bytes of an alphabet.
func textsOf(alphabet string, most int, visit func(string)) {
	text := make([]byte, 0, most)
	var from func()
	from = func() {
		visit(string(text))
		if len(text) == most {
			return
		}
		for _, c := range []byte(alphabet) {
			text = append(text, c)
			from()
			text = text[:len(text)-1]
		}
	}
	from()
}

// textsBeside returns the texts that differ from a text by one byte that is gone, more, or another one.
func textsBeside(text, alphabet string) []string {
	var all []string
	for i := range len(text) + 1 {
		for _, c := range strings.Split(alphabet, "") {
			all = append(all, text[:i]+c+text[i:])
			if i < len(text) {
				all = append(all, text[:i]+c+text[i+1:])
			}
		}
		if i < len(text) {
			all = append(all, text[:i]+text[i+1:])
		}
	}
	return all
}
