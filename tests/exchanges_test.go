package tests

import (
	"math"
	"slices"
	"strings"
	"testing"

	"loop.example/ordinalhydras/impl"
)

// heapsOf returns three numbers, told by digits.
func heapsOf(digits string) []int {
	heaps := make([]int, 0, len(digits))
	for _, digit := range []byte(digits) {
		heaps = append(heaps, int(digit-'0'))
	}
	return heaps
}

// rules returns rules, told by what they take and give, as in 100>020.
func rules(texts string) []impl.Trade {
	var trades []impl.Trade
	for _, text := range strings.Fields(texts) {
		take, give, _ := strings.Cut(text, ">")
		trades = append(trades, impl.Trade{Take: heapsOf(take), Give: heapsOf(give)})
	}
	return trades
}

func rule(text string) impl.Trade {
	return rules(text)[0]
}

// turned returns a rule that gives what another one takes, and takes what it gives.
func turned(trade impl.Trade) impl.Trade {
	return impl.Trade{Take: trade.Give, Give: trade.Take}
}

// someRules returns sets of rules: such that end, that go round, that take nothing, that give nothing, and that do nothing at all.
func someRules() [][]impl.Trade {
	var all [][]impl.Trade
	for _, texts := range []string{
		"", "100>020 010>003 001>000", "001>000 010>003 100>020", "100>010 010>100", "100>010 010>001 001>100", "100>100", "000>000", "555>555", "555>000", "111>000 110>001",
		"000>001", "000>100 000>010", "000>555", "000>005 500>000", "000>100 200>000", "000>100 300>010", "000>551 330>000", "000>111 555>000", "000>100 100>000",
		"100>000 010>000 001>000 111>222", "100>000 100>000", "100>010 100>001 010>000 001>000", "200>010 020>001 002>100", "200>100 020>010 002>001 100>020",
		"500>005 050>500 004>040", "100>055 010>005", "100>051 030>120", "013>201 202>025", "012>050 110>003", "200>110 110>500", "221>555 311>200", "233>005 101>220", "001>000 122>020 010>005",
		"000>000 100>000", "100>000 000>000", "100>010 010>000 000>000", "040>050 004>005 400>500", "001>111 110>000",
	} {
		all = append(all, rules(texts))
	}
	return all
}

// smallRules returns all rules that take and give at most one thing of each heap.
func smallRules() []impl.Trade {
	var all []impl.Trade
	for _, take := range listsOf(3, 1) {
		for _, give := range listsOf(3, 1) {
			all = append(all, impl.Trade{Take: take, Give: give})
		}
	}
	return all
}

// someHeaps returns heaps with few things, and with as many as there may be.
func someHeaps() [][]int {
	return append(listsOf(3, 2),
		[]int{5, 5, 5}, []int{4, 5, 6}, []int{0, 0, 7}, []int{9, 1, 0}, []int{5, 10, 10}, []int{10, 40, 5}, []int{20, 10, 20}, []int{19, 19, 0}, []int{19, 20, 0}, []int{0, 10, 20},
		[]int{40, 40, 40}, []int{40, 0, 0}, []int{0, 40, 0}, []int{0, 0, 40}, []int{39, 40, 38}, []int{36, 36, 36}, []int{35, 35, 35}, []int{38, 0, 40}, []int{1, 39, 37})
}

// badOfHeaps returns lists that are not three numbers in 0..most.
func badOfHeaps(most int) [][]int {
	bad := [][]int{nil, {}, {1}, {0, 0}, {1, 1}, {0, 0, 0, 0}, {1, 1, 1, 1}, make([]int, 100000)}
	for _, n := range []int{-1, most + 1, math.MinInt, math.MaxInt} {
		for heap := range 3 {
			list := []int{0, 1, most}
			list[heap] = n
			bad = append(bad, list)
		}
	}
	return bad
}

func isOfHeaps(list []int, most int) bool {
	return len(list) == 3 && min(list[0], list[1], list[2]) >= 0 && max(list[0], list[1], list[2]) <= most
}

// badRules returns rules that are not valid.
func badRules() []impl.Trade {
	bad := []impl.Trade{{}}
	for _, list := range badOfHeaps(5) {
		bad = append(bad, impl.Trade{Take: list, Give: []int{0, 1, 5}}, impl.Trade{Take: []int{0, 1, 5}, Give: list}, impl.Trade{Take: list, Give: list})
	}
	return bad
}

// badRuleSets returns sets of rules that are not valid.
func badRuleSets() [][]impl.Trade {
	all := [][]impl.Trade{rules("000>000 000>000 000>000 000>000 000>000"), rules("100>000 010>000 001>000 111>222 222>111"), make([]impl.Trade, 5), make([]impl.Trade, 100000)}
	good := rules("100>010 010>001 001>000")
	for _, bad := range badRules() {
		all = append(all, []impl.Trade{bad})
		for at := range 4 {
			all = append(all, slices.Insert(slices.Clone(good), at, bad))
		}
	}
	return all
}

// badWorths returns ordinals that are not three valid ones.
func badWorths() [][][]int {
	one := impl.OrdOf(1)
	all := [][][]int{nil, {}, {one}, {one, one}, {one, one, one, one}, slices.Repeat([][]int{{0}}, 4)}
	for _, bad := range badOrds() {
		all = append(all, [][]int{bad, one, one}, [][]int{one, bad, one}, [][]int{one, one, bad})
	}
	return all
}

// worths returns ordinals that are told by texts.
func worths(t *testing.T, texts string) [][]int {
	t.Helper()
	var ords [][]int
	for _, text := range strings.Fields(texts) {
		ords = append(ords, read(t, text))
	}
	return ords
}

// afterRule returns heaps after a rule; nil if it cannot be done.
func afterRule(heaps []int, trade impl.Trade) []int {
	after := slices.Clone(heaps)
	for heap := range 3 {
		if trade.Take[heap] > heaps[heap] {
			return nil
		}
		after[heap] += trade.Give[heap] - trade.Take[heap]
		if after[heap] > 40 {
			return nil
		}
	}
	return after
}

// statesOf returns all heaps that are reached, in the order in which they come; nil if there are more than 400.
func statesOf(heaps []int, trades []impl.Trade) [][]int {
	states, known := [][]int{heaps}, map[[3]int]bool{[3]int(heaps): true}
	for at := 0; at < len(states) && len(states) <= 400; at++ {
		for _, trade := range trades {
			if after := afterRule(states[at], trade); after != nil && !known[[3]int(after)] {
				known[[3]int(after)] = true
				states = append(states, after)
			}
		}
	}
	if len(states) > 400 {
		return nil
	}
	return states
}

// rowsFrom finds the longest rows of exchanges by walking through all of them.
type rowsFrom struct {
	trades  []impl.Trade
	longest map[[3]int]int
}

// walk returns the length of the longest row from heaps; -1 if one comes again to heaps from which it came.
func (r rowsFrom) walk(heaps []int) int {
	key := [3]int(heaps)
	if longest, ok := r.longest[key]; ok {
		return longest
	}
	// As long as the walk is behind these heaps they are such to which it must not come again.
	r.longest[key] = -1
	longest := 0
	for _, trade := range r.trades {
		after := afterRule(heaps, trade)
		if after == nil {
			continue
		}
		behind := r.walk(after)
		if behind < 0 {
			return -1
		}
		longest = max(longest, behind+1)
	}
	r.longest[key] = longest
	return longest
}

// longestRow returns what LongestTrades must be.
func longestRow(heaps []int, trades []impl.Trade) int {
	if statesOf(heaps, trades) == nil {
		return -1
	}
	return rowsFrom{trades, map[[3]int]int{}}.walk(heaps)
}

func isSameHeaps(a, b [][]int) bool {
	return slices.EqualFunc(a, b, slices.Equal[[]int])
}

func TestExchangeConstants(t *testing.T) {
	for _, x := range [][2]int{{impl.Heaps, 3}, {impl.MaxThings, 5}, {impl.MaxRules, 4}, {impl.MaxHeap, 40}, {impl.MaxRows, 400}} {
		if x[0] != x[1] {
			t.Errorf("a constant is %d, not %d", x[0], x[1])
		}
	}
}

func TestP75RulesCanBeTurnedRound(t *testing.T) {
	var lists [][]int
	for _, list := range listsOf(3, 7) {
		for i := range list {
			list[i]--
		}
		lists = append(lists, list)
	}
	lists = append(append(lists, listsUpTo(4, 1)...), badOfHeaps(5)...)
	valid := 0
	for _, list := range lists {
		for _, other := range [][]int{{0, 0, 0}, {5, 5, 5}, {1, 2, 3}, {0, 0, 6}, {-1, 0, 0}, {0, 0}, {0, 0, 0, 0}, nil, list} {
			trade := impl.Trade{Take: list, Give: other}
			want := isOfHeaps(list, 5) && isOfHeaps(other, 5)
			if impl.TradeValid(trade) != want || impl.TradeValid(turned(trade)) != want {
				t.Fatalf("TradeValid(%v), or that of the rule turned round, is %t", trade, !want)
			}
			if want {
				valid++
			}
		}
	}
	if valid < 800 {
		t.Errorf("only %d valid rules", valid)
	}
	for _, bad := range badRules() {
		if impl.TradeValid(bad) || impl.TradeValid(turned(bad)) {
			t.Errorf("TradeValid(%v), or that of the rule turned round, is true", bad)
		}
	}
}

func TestP76RulesCanBeLeftOut(t *testing.T) {
	if !impl.TradesValid(nil) || !impl.TradesValid([]impl.Trade{}) {
		t.Error("TradesValid without rules is false")
	}
	for _, trades := range append(someRules(), rules("000>000 000>000 000>000 000>000"), rules("555>555 000>555 555>000 123>450")) {
		for ; len(trades) > 0; trades = trades[1:] {
			if !impl.TradesValid(trades) || !impl.TradesValid(trades[1:]) {
				t.Fatalf("TradesValid(%v), or that without the first one, is false", trades)
			}
		}
	}
	for _, trades := range badRuleSets() {
		if impl.TradesValid(trades) {
			t.Fatalf("TradesValid(%v) is true", trades)
		}
	}
}

func TestP77HeapsCanBeEmpty(t *testing.T) {
	for _, heaps := range append(someHeaps(), []int{0, 0, 0}, []int{40, 40, 40}, []int{0, 40, 0}, []int{7, 31, 12}) {
		if !impl.HeapsValid(heaps) {
			t.Errorf("HeapsValid(%v) is false", heaps)
		}
	}
	for _, heaps := range badOfHeaps(40) {
		if impl.HeapsValid(heaps) {
			t.Errorf("HeapsValid(%v) is true", heaps)
		}
	}
}

func TestTradeDoOfHeaps(t *testing.T) {
	for _, x := range []struct {
		heaps []int
		rule  string
		after []int
	}{
		{[]int{1, 0, 0}, "100>020", []int{0, 2, 0}}, {[]int{3, 4, 5}, "123>321", []int{5, 4, 3}}, {[]int{9, 8, 7}, "100>012", []int{8, 9, 9}},
		// Rules that take nothing, give nothing, or do neither.
		{[]int{0, 0, 0}, "000>000", []int{0, 0, 0}}, {[]int{40, 40, 40}, "000>000", []int{40, 40, 40}}, {[]int{0, 0, 0}, "000>555", []int{5, 5, 5}}, {[]int{5, 5, 5}, "555>000", []int{0, 0, 0}},
		// Fewer things than it takes, also where it gives them back.
		{[]int{4, 5, 5}, "555>000", nil}, {[]int{5, 4, 5}, "555>000", nil}, {[]int{5, 5, 4}, "555>000", nil}, {[]int{0, 0, 0}, "100>100", nil}, {[]int{0, 0, 0}, "001>005", nil}, {[]int{4, 0, 0}, "500>500", nil}, {[]int{1, 0, 0}, "100>100", []int{1, 0, 0}},
		// Heaps that grow, as far as there is place behind what is taken.
		{[]int{39, 0, 0}, "000>100", []int{40, 0, 0}}, {[]int{39, 0, 0}, "000>200", nil}, {[]int{40, 0, 0}, "000>100", nil}, {[]int{0, 40, 0}, "000>010", nil}, {[]int{0, 0, 40}, "000>001", nil}, {[]int{35, 35, 35}, "000>555", []int{40, 40, 40}}, {[]int{35, 36, 35}, "000>555", nil},
		{[]int{40, 40, 40}, "555>555", []int{40, 40, 40}}, {[]int{40, 40, 40}, "555>554", []int{40, 40, 39}}, {[]int{40, 40, 40}, "554>555", nil}, {[]int{40, 40, 40}, "455>555", nil}, {[]int{40, 0, 0}, "100>010", []int{39, 1, 0}}, {[]int{40, 40, 0}, "100>010", nil},
	} {
		if after, ok := impl.TradeDo(x.heaps, rule(x.rule)); !slices.Equal(after, x.after) || ok != (x.after != nil) || !ok && after != nil {
			t.Errorf("TradeDo(%v, %s) is %v, %t, not %v", x.heaps, x.rule, after, ok, x.after)
		}
	}
}

func TestP78ExchangesCanBeTurnedBack(t *testing.T) {
	all := slices.Concat(append(someRules(), smallRules())...)
	done := map[bool]int{}
	for _, heaps := range someHeaps() {
		for _, trade := range all {
			want := afterRule(heaps, trade)
			after, ok := impl.TradeDo(heaps, trade)
			if ok != (want != nil) || !slices.Equal(after, want) || !ok && after != nil {
				t.Fatalf("TradeDo(%v, %v) is %v, %t, not %v", heaps, trade, after, ok, want)
			}
			done[ok]++
			if !ok {
				continue
			}
			if back, ok := impl.TradeDo(after, turned(trade)); !ok || !slices.Equal(back, heaps) {
				t.Fatalf("TradeDo(%v, %v) is %v, and turned back %v, %t", heaps, trade, after, back, ok)
			}
		}
	}
	if done[true] < 1000 || done[false] < 1000 {
		t.Error(done)
	}
}

func TestTradesMayOfHeaps(t *testing.T) {
	for _, x := range []struct {
		heaps []int
		rules string
		may   []int
	}{
		{[]int{1, 0, 2}, "100>020 010>003 001>000", []int{0, 2}}, {[]int{0, 0, 0}, "100>020 010>003 001>000", nil}, {[]int{0, 1, 0}, "100>020 010>003 001>000", []int{1}}, {[]int{1, 1, 1}, "100>020 010>003 001>000", []int{0, 1, 2}}, {[]int{1, 1, 1}, "", nil},
		{[]int{0, 0, 0}, "000>000 100>000 000>001 010>000", []int{0, 2}}, {[]int{40, 40, 40}, "000>000 100>000 000>001 010>000", []int{0, 1, 3}}, {[]int{40, 40, 40}, "000>100 000>010 000>001 100>010", nil}, {[]int{5, 0, 0}, "500>000 500>000 500>000 500>000", []int{0, 1, 2, 3}}, {[]int{4, 0, 0}, "500>000 400>000 500>000 400>000", []int{1, 3}},
	} {
		if may := impl.TradesMay(x.heaps, rules(x.rules)); !slices.Equal(may, x.may) {
			t.Errorf("TradesMay(%v, %s) is %v, not %v", x.heaps, x.rules, may, x.may)
		}
	}
}

func TestP79RulesThatCanBeDoneAreTold(t *testing.T) {
	lengths := map[int]int{}
	for _, heaps := range someHeaps() {
		for _, trades := range someRules() {
			may := impl.TradesMay(heaps, trades)
			for i, trade := range trades {
				_, ok := impl.TradeDo(heaps, trade)
				if ok != slices.Contains(may, i) || ok != (afterRule(heaps, trade) != nil) {
					t.Fatalf("TradesMay(%v, %v) is %v, and %d can be done: %t", heaps, trades, may, i, ok)
				}
			}
			for i, n := range may {
				if n >= len(trades) || i > 0 && may[i-1] >= n {
					t.Fatalf("TradesMay(%v, %v) is %v", heaps, trades, may)
				}
			}
			lengths[len(may)]++
		}
	}
	for length := range 5 {
		if lengths[length] == 0 {
			t.Errorf("never can %d rules be done", length)
		}
	}
}

func TestHeapsOrdOfText(t *testing.T) {
	for _, x := range []struct {
		heaps      []int
		ords, text string
	}{
		{[]int{1, 2, 3}, "w^2 w 1", "w^2+w*2+3"}, {[]int{1, 2, 3}, "1 w w^2", "w^2*3+w*2+1"}, {[]int{2, 1, 1}, "w+1 w^2+w w^w", "w^w+w^2+w*3+2"}, {[]int{1, 0, 0}, "w^w*2+7 0 0", "w^w*2+7"}, {[]int{0, 1, 0}, "w w^w*2+7 w", "w^w*2+7"}, {[]int{1, 1, 1}, "w w w", "w*3"},
		// Without things, and with such that are worth nothing.
		{[]int{0, 0, 0}, "w^2 w 1", "0"}, {[]int{0, 0, 0}, "9999 9999 9999", "0"}, {[]int{40, 40, 40}, "0 0 0", "0"}, {[]int{40, 3, 40}, "0 w 0", "w*3"},
		// Numbers that are just not too great, and such that are.
		{[]int{40, 40, 40}, "1 1 1", "120"}, {[]int{1, 0, 0}, "9999 1 1", "9999"}, {[]int{2, 0, 0}, "9999 1 1", ""}, {[]int{1, 1, 0}, "9999 1 1", ""}, {[]int{1, 0, 1}, "9998 1 1", "9999"}, {[]int{1, 1, 1}, "9998 1 1", ""}, {[]int{0, 0, 1}, "9999 9999 9999", "9999"}, {[]int{40, 0, 0}, "249 1 1", "9960"}, {[]int{40, 0, 0}, "250 1 1", ""}, {[]int{40, 40, 40}, "83 83 83", "9960"}, {[]int{40, 40, 40}, "w*83 w*83 w*84", ""},
		{[]int{1, 1, 0}, "w*9999 w 1", ""}, {[]int{1, 1, 0}, "w*9999 1 1", "w*9999+1"}, {[]int{1, 0, 1}, "w^w*9999+w w^w 9999", "w^w*9999+w+9999"}, {[]int{1, 2, 0}, "w^2 w^9999*5000 1", ""},
		// Rows that are just not too long, and such that are.
		{[]int{1, 1, 0}, impl.OrdText(longSum(14)) + " 1 w^15", impl.OrdText(longSum(14)) + "+1"}, {[]int{1, 0, 1}, impl.OrdText(longSum(14)) + " 1 w^15", ""}, {[]int{0, 1, 1}, "w^15 " + impl.OrdText(longSum(14)) + " w^14", "w^14*2+" + impl.OrdText(longSum(13))}, {[]int{1, 1, 0}, "w^15 " + impl.OrdText(longSum(14)) + " w^14", ""},
	} {
		if o, ok := impl.HeapsOrd(x.heaps, worths(t, x.ords)); impl.OrdText(o) != x.text || ok != (x.text != "") || !ok && o != nil {
			t.Errorf("HeapsOrd(%v, %s) is %s, %t, not %s", x.heaps, x.ords, impl.OrdText(o), ok, x.text)
		}
	}
}

// rowOfHeaps returns, for lists as ordinals of the things, the list as ordinal of the heaps.
func rowOfHeaps(heaps []int, rows [][]int) []int {
	sum := make([]int, len(rows[0]))
	for heap, row := range rows {
		for i, n := range row {
			sum[i] += heaps[heap] * n
		}
	}
	return sum
}

// rowWorths returns lists in threes, and worthsOfRows their ordinals.
func rowWorths() [][][]int {
	var all [][][]int
	rows := append(listsOf(3, 1), []int{3, 0, 2}, []int{0, 9999, 0}, []int{0, 0, 250}, []int{2000, 1, 0})
	for _, a := range rows {
		for _, b := range rows {
			for _, c := range rows {
				all = append(all, [][]int{a, b, c})
			}
		}
	}
	return all
}

func worthsOfRows(rows [][]int) [][]int {
	var ords [][]int
	for _, row := range rows {
		ords = append(ords, impl.RowOrd(row))
	}
	return ords
}

func TestP80MoreThingsAreWorthAsMuchOrMore(t *testing.T) {
	told := map[bool]int{}
	for _, rows := range rowWorths() {
		ords := worthsOfRows(rows)
		if o, ok := impl.HeapsOrd([]int{0, 0, 0}, ords); !ok || !slices.Equal(o, []int{0}) {
			t.Fatalf("HeapsOrd of no things by %v is %v, %t", ords, o, ok)
		}
		for _, heaps := range [][]int{{1, 0, 0}, {0, 2, 1}, {5, 4, 3}, {40, 39, 0}, {1, 0, 40}} {
			want := impl.RowOrd(rowOfHeaps(heaps, rows))
			o, ok := impl.HeapsOrd(heaps, ords)
			if ok != (want != nil) || !slices.Equal(o, want) {
				t.Fatalf("HeapsOrd(%v, %v) is %v, %t, not %v", heaps, ords, o, ok, want)
			}
			told[ok]++
			for heap := range heaps {
				more := slices.Clone(heaps)
				more[heap]++
				if p, pOk := impl.HeapsOrd(more, ords); ok && pOk && impl.OrdCompare(o, p) > 0 || pOk && !ok {
					t.Fatalf("HeapsOrd(%v, %v) is %v, and of %v %v", heaps, ords, o, more, p)
				}
			}
		}
	}
	if told[true] < 1000 || told[false] < 1000 {
		t.Error(told)
	}
}

func TestHeapsOrdIsTheSumOfAllThings(t *testing.T) {
	all := append(smallOrds(7, 2), longSum(13), longSum(14), tower(28), tower(29), read(t, "9999"), read(t, "w*9999+9999"))
	for i, o := range all {
		ords := [][]int{o, all[i*7%len(all)], all[i*3%len(all)]}
		for _, heaps := range [][]int{{1, 1, 1}, {0, 1, 2}, {3, 0, 1}, {40, 1, 0}} {
			want, wantOk := []int{0}, true
			for heap, things := range heaps {
				for range things {
					var ok bool
					want, ok = impl.OrdNatural(want, ords[heap])
					wantOk = wantOk && ok
				}
			}
			if sum, ok := impl.HeapsOrd(heaps, ords); ok != wantOk || !slices.Equal(sum, want) {
				t.Fatalf("HeapsOrd(%v, %v) is %v, %t, not %v", heaps, ords, sum, ok, want)
			}
		}
	}
}

func TestTradesEndOfText(t *testing.T) {
	for _, x := range []struct {
		rules, ords string
		ends        bool
	}{
		{"100>020 010>003 001>000", "w^2 w 1", true}, {"100>020 010>003 001>000", "w w w", false}, {"100>020 010>003 001>000", "w^2 w 0", false}, {"100>020 010>003 001>000", "7 3 0", false}, {"100>020 010>003 001>000", "9 4 1", true}, {"100>020 010>003 001>000", "8 4 1", false}, {"100>020 010>003 001>000", "9 3 1", false},
		// Without rules there is nothing that must be less.
		{"", "0 0 0", true}, {"", "w^2 w 1", true}, {"", "9999 9999 9999", true},
		// One rule that is not proved is enough, wherever it stands.
		{"100>000 100>100", "1 1 1", false}, {"100>100 100>000", "1 1 1", false}, {"100>000 010>000 000>000 001>000", "1 1 1", false}, {"100>000 010>000 001>000 000>001", "w w 0", false},
		// Rules that take nothing are never proved, and such that give nothing are, unless what they take is worth nothing.
		{"000>000", "1 1 1", false}, {"000>001", "1 1 0", false}, {"000>555", "w w w", false}, {"100>000", "1 0 0", true}, {"100>000", "0 1 1", false}, {"555>000", "0 0 1", true}, {"555>555", "w w w", false},
		{"100>010 010>100", "w 1 0", false}, {"100>055", "w 9 9", true}, {"100>050", "w w 1", false}, {"200>100", "1 0 0", true}, {"110>101", "w 2 1", true}, {"110>101", "w 1 1", false}, {"110>101", "w 1 2", false}, {"010>100", "w w^w 1", true},
		// What is not valid proves nothing, also where it would be less.
		{"100>000", "9999 1 1", true}, {"200>000", "9999 1 1", false}, {"200>100", "9999 1 1", false}, {"100>020", "w 9999 1", false}, {"100>010", "w 9999 1", true}, {"100>022", "w^2 w*5000 0", false}, {"100>055", "w 999 1000", true}, {"100>055", "w 1000 1000", false},
	} {
		if ends := impl.TradesEnd(rules(x.rules), worths(t, x.ords)); ends != x.ends {
			t.Errorf("TradesEnd(%s, %s) is %t", x.rules, x.ords, ends)
		}
	}
}

// provedByRows tells whether lists as ordinals prove that rules end, and are told.
func provedByRows(trades []impl.Trade, rows [][]int) bool {
	for _, trade := range trades {
		given, taken := rowOfHeaps(trade.Give, rows), rowOfHeaps(trade.Take, rows)
		if !impl.RowValid(given) || !impl.RowValid(taken) || rowOrder(given, taken) >= 0 {
			return false
		}
	}
	return true
}

// checkFallsBy checks that each exchange makes the ordinal of heaps less, if both are told, and tells how often it did.
func checkFallsBy(t *testing.T, heaps []int, trades []impl.Trade, ords [][]int) int {
	t.Helper()
	falls := 0
	before, beforeOk := impl.HeapsOrd(heaps, ords)
	for _, trade := range trades {
		after, ok := impl.TradeDo(heaps, trade)
		if !ok {
			continue
		}
		if o, ok := impl.HeapsOrd(after, ords); ok && beforeOk {
			falls++
			if impl.OrdCompare(o, before) != -1 {
				t.Fatalf("%v proves %v, and of %v and %v the ordinals are %v and %v", ords, trades, heaps, after, before, o)
			}
		}
	}
	return falls
}

func TestP31WhatIsProvedToEndEnds(t *testing.T) {
	proved, falls, numbers := map[bool]int{}, 0, 0
	for _, trades := range someRules() {
		some := 0
		for _, rows := range rowWorths() {
			ords := worthsOfRows(rows)
			want := provedByRows(trades, rows)
			if impl.TradesEnd(trades, ords) != want {
				t.Fatalf("TradesEnd(%v, %v) is %t", trades, ords, !want)
			}
			proved[want]++
			// Few of the proofs of the same rules are enough for what they prove.
			if !want || some == 20 {
				continue
			}
			some++
			for _, heaps := range someHeaps() {
				falls += checkFallsBy(t, heaps, trades, ords)
			}
		}
		if some == 0 {
			continue
		}
		for _, heaps := range someHeaps() {
			if impl.HeapsReached(heaps, trades) != nil {
				numbers++
				if impl.LongestTrades(heaps, trades) < 0 {
					t.Fatalf("%v are proved to end, and LongestTrades is -1 for %v", trades, heaps)
				}
			}
		}
	}
	if proved[true] < 1000 || proved[false] < 1000 || falls < 1000 || numbers < 100 {
		t.Error(proved, falls, numbers)
	}
}

func TestTradesRunOfHeaps(t *testing.T) {
	for _, x := range []struct {
		heaps []int
		rules string
		list  []int
		after []int
	}{
		{[]int{1, 0, 0}, "100>020 010>003 001>000", []int{0, 1, 1, 2}, []int{0, 0, 5}}, {[]int{1, 0, 0}, "100>020 010>003 001>000", nil, []int{1, 0, 0}}, {[]int{1, 0, 0}, "", nil, []int{1, 0, 0}}, {[]int{1, 0, 0}, "100>020 010>003 001>000", []int{0, 1, 2, 2, 2, 1, 2, 2, 2}, []int{0, 0, 0}},
		// A rule that cannot be done, at the beginning, in between and at the end.
		{[]int{1, 0, 0}, "100>020 010>003 001>000", []int{1}, nil}, {[]int{1, 0, 0}, "100>020 010>003 001>000", []int{1, 0}, nil}, {[]int{1, 0, 0}, "100>020 010>003 001>000", []int{0, 2, 1}, nil}, {[]int{1, 0, 0}, "100>020 010>003 001>000", []int{0, 0}, nil}, {[]int{1, 0, 0}, "100>020 010>003 001>000", []int{0, 1, 1, 2, 1}, nil},
		// A rule that is not there.
		{[]int{1, 0, 0}, "100>020 010>003 001>000", []int{3}, nil}, {[]int{1, 0, 0}, "100>020 010>003 001>000", []int{-1}, nil}, {[]int{1, 0, 0}, "100>020 010>003 001>000", []int{0, 3}, nil}, {[]int{1, 0, 0}, "100>020 010>003 001>000", []int{0, 1, -1}, nil}, {[]int{1, 0, 0}, "100>020", []int{math.MinInt}, nil}, {[]int{1, 0, 0}, "100>020", []int{0, math.MaxInt}, nil}, {[]int{1, 0, 0}, "", []int{0}, nil}, {[]int{1, 1, 1}, "000>000 000>000 000>000 000>000", []int{3, 2, 1, 0}, []int{1, 1, 1}}, {[]int{1, 1, 1}, "000>000 000>000 000>000 000>000", []int{4}, nil},
		// As many rules as there may be, and one more.
		{[]int{1, 0, 0}, "100>100", make([]int, 98), []int{1, 0, 0}}, {[]int{1, 0, 0}, "100>100", make([]int, 99), []int{1, 0, 0}}, {[]int{1, 0, 0}, "100>100", make([]int, 100), nil}, {[]int{0, 0, 0}, "000>000", make([]int, 99), []int{0, 0, 0}}, {[]int{0, 0, 0}, "000>000", make([]int, 100000), nil},
		// Heaps that grow until they are full.
		{[]int{0, 0, 0}, "000>001", make([]int, 40), []int{0, 0, 40}}, {[]int{0, 0, 0}, "000>001", make([]int, 41), nil}, {[]int{0, 0, 0}, "000>005", make([]int, 8), []int{0, 0, 40}}, {[]int{0, 0, 0}, "000>005", make([]int, 9), nil}, {[]int{40, 0, 0}, "000>100 100>000", []int{1, 0, 1}, []int{39, 0, 0}}, {[]int{40, 0, 0}, "000>100 100>000", []int{0, 1}, nil},
	} {
		if after, ok := impl.TradesRun(x.heaps, rules(x.rules), x.list); !slices.Equal(after, x.after) || ok != (x.after != nil) || !ok && after != nil {
			t.Errorf("TradesRun(%v, %s, %v) is %v, %t, not %v", x.heaps, x.rules, x.list, after, ok, x.after)
		}
	}
}

// checkParts checks a row of exchanges against the rules one by one, against its two parts, and against the longest row.
func checkParts(t *testing.T, heaps []int, trades []impl.Trade, list []int) bool {
	t.Helper()
	want := heaps
	for _, i := range list {
		if want != nil && i < len(trades) {
			want = afterRule(want, trades[i])
		} else {
			want = nil
		}
	}
	after, ok := impl.TradesRun(heaps, trades, list)
	if ok != (want != nil) || !slices.Equal(after, want) || !ok && after != nil {
		t.Fatalf("TradesRun(%v, %v, %v) is %v, %t, not %v", heaps, trades, list, after, ok, want)
	}
	for _, cut := range []int{0, 1, len(list) / 2, len(list)} {
		// What the first part does not tell is nil, and no heaps.
		half, _ := impl.TradesRun(heaps, trades, list[:min(cut, len(list))])
		if parts, partsOk := impl.TradesRun(half, trades, list[min(cut, len(list)):]); partsOk != ok || !slices.Equal(parts, after) {
			t.Fatalf("TradesRun(%v, %v, %v) is %v, and in two parts %v", heaps, trades, list, after, parts)
		}
	}
	return ok
}

// lastRow returns a row of exchanges from heaps of at most 99 rules, each of those that can be done and follow a number.
func lastRow(heaps []int, trades []impl.Trade, seed int) []int {
	var list []int
	for len(list) < 99 {
		may := impl.TradesMay(heaps, trades)
		if len(may) == 0 {
			break
		}
		i := may[(len(list)*len(list)*seed+len(list)/3+seed)%len(may)]
		heaps = afterRule(heaps, trades[i])
		list = append(list, i)
	}
	return list
}

func TestP81RowsOfExchangesFollowEachOther(t *testing.T) {
	short := listsUpTo(4, 3)
	done, longestFound := 0, 0
	for _, trades := range someRules() {
		for n, heaps := range someHeaps() {
			longest := impl.LongestTrades(heaps, trades)
			lists := [][]int{lastRow(heaps, trades, 0), lastRow(heaps, trades, 1), lastRow(heaps, trades, 2), lastRow(heaps, trades, 7)}
			if n%8 == 0 {
				lists = append(lists, short...)
			}
			for _, list := range lists {
				if !checkParts(t, heaps, trades, list) {
					continue
				}
				done++
				if longest >= 0 && len(list) > longest {
					t.Fatalf("TradesRun(%v, %v, %v) is told, and LongestTrades is %d", heaps, trades, list, longest)
				}
				if len(list) == longest {
					longestFound++
				}
			}
		}
	}
	if done < 5000 || longestFound < 100 {
		t.Error(done, longestFound)
	}
}

func TestHeapsReachedOfHeaps(t *testing.T) {
	for _, x := range []struct{ heaps, rules, reached, last string }{
		{"100", "", "100", "100"}, {"000", "100>000", "000", "000"}, {"210", "000>000", "210", ""},
		// Those that are farther come later, and of the same ones those of the first rules come first.
		{"100", "100>020 010>003 001>000", "100 020 013 006 012 005 011 004 010 003 002 001 000", "000"},
		{"110", "100>000 010>000", "110 010 100 000", "000"}, {"110", "010>000 100>000", "110 100 010 000", "000"}, {"200", "200>001 100>010", "200 001 110 020", "001 020"}, {"200", "100>010 200>001", "200 110 001 020", "001 020"},
		{"100", "100>010 010>100", "100 010", ""}, {"100", "100>010 010>001 001>100", "100 010 001", ""}, {"100", "100>010 100>001 010>000 001>000", "100 010 001 000", "000"},
		// Some go round, and others come to an end.
		{"100", "100>010 010>100 010>001", "100 010 001", "001"}, {"100", "100>100 100>000", "100 000", "000"}, {"120", "000>000 010>000", "120 110 100", ""},
	} {
		trades := rules(x.rules)
		var reached, last [][]int
		for _, digits := range strings.Fields(x.reached) {
			reached = append(reached, heapsOf(digits))
		}
		for _, digits := range strings.Fields(x.last) {
			last = append(last, heapsOf(digits))
		}
		if all := impl.HeapsReached(heapsOf(x.heaps), trades); !isSameHeaps(all, reached) {
			t.Errorf("HeapsReached(%s, %s) is %v, not %v", x.heaps, x.rules, all, reached)
		}
		if all := impl.HeapsLast(heapsOf(x.heaps), trades); !isSameHeaps(all, last) {
			t.Errorf("HeapsLast(%s, %s) is %v, not %v", x.heaps, x.rules, all, last)
		}
	}
}

func TestLongestTradesOfHeaps(t *testing.T) {
	for _, x := range []struct {
		heaps              []int
		rules              string
		states, ends, most int
	}{
		{[]int{1, 0, 0}, "100>020 010>003 001>000", 13, 1, 9}, {[]int{0, 0, 0}, "100>020 010>003 001>000", 1, 1, 0}, {[]int{7, 8, 9}, "", 1, 1, 0}, {[]int{40, 0, 0}, "100>000", 41, 1, 40}, {[]int{40, 0, 0}, "500>000", 9, 1, 8}, {[]int{39, 0, 0}, "500>000", 8, 1, 7},
		// The longest row is not always the one that was found first, nor the one of the first rule or of the last one.
		{[]int{4, 0, 0}, "400>000 100>000", 5, 1, 4}, {[]int{4, 0, 0}, "100>000 400>000", 5, 1, 4}, {[]int{2, 0, 0}, "200>001 100>010", 4, 2, 2}, {[]int{1, 0, 0}, "100>001 100>040 010>000", 7, 2, 5},
		// Rules that go round, at once, later, or never, as they cannot be done.
		{[]int{1, 0, 0}, "100>010 010>100", 2, 0, -1}, {[]int{1, 0, 0}, "100>100", 1, 0, -1}, {[]int{0, 1, 0}, "100>100", 1, 1, 0}, {[]int{5, 0, 0}, "100>000 100>010 010>010", 21, 1, -1}, {[]int{1, 0, 0}, "100>010 010>000 002>002", 3, 1, 2}, {[]int{2, 0, 0}, "100>010 010>000 020>020", 6, 1, -1},
		// Rules that take nothing: they go round if they give nothing, and otherwise heaps grow until they are full.
		{[]int{0, 0, 0}, "000>000", 1, 0, -1}, {[]int{40, 40, 40}, "000>000", 1, 0, -1}, {[]int{1, 0, 0}, "100>000 000>000", 2, 0, -1}, {[]int{0, 0, 0}, "000>001", 41, 1, 40}, {[]int{0, 0, 0}, "000>005", 9, 1, 8}, {[]int{0, 0, 1}, "000>005", 8, 1, 7}, {[]int{40, 40, 40}, "000>001 000>100", 1, 1, 0}, {[]int{40, 30, 0}, "000>001 000>010", 451, 0, -1}, {[]int{40, 40, 30}, "000>001 000>010", 11, 1, 10}, {[]int{0, 0, 0}, "000>100 100>000", 41, 0, -1}, {[]int{0, 0, 0}, "000>555", 9, 1, 8}, {[]int{21, 21, 40}, "000>100 000>010 000>001", 400, 1, 38}, {[]int{0, 0, 0}, "000>100 000>010", 1681, 0, -1}, {[]int{0, 0, 0}, "000>555 111>000", 41, 0, -1}, {[]int{38, 40, 40}, "000>100 100>100", 3, 0, -1},
		// As many states as there may be, and one more.
		{[]int{19, 19, 0}, "100>000 010>000", 400, 1, 38}, {[]int{3, 9, 9}, "100>000 010>000 001>000", 400, 1, 21}, {[]int{1, 0, 0}, "100>051 030>120", 400, -1, 77}, {[]int{20, 0, 1}, "010>000 200>121", 400, -1, 57}, {[]int{6, 2, 18}, "100>000 010>000 001>000", 399, 1, 26}, {[]int{5, 10, 10}, "233>005 101>220", 399, -1, 103}, {[]int{10, 40, 5}, "221>555 311>200", 348, -1, 168}, {[]int{30, 30, 20}, "302>201 030>050 030>010", 400, -1, -1},
		{[]int{20, 10, 20}, "013>201 202>025", 401, 0, -1}, {[]int{0, 10, 20}, "001>000 122>020 010>005", 401, 0, -1}, {[]int{30, 1, 30}, "200>110 110>500", 401, 0, -1}, {[]int{19, 20, 0}, "100>000 010>000", 420, 0, -1}, {[]int{40, 40, 40}, "100>000 010>000 001>000", 68921, 0, -1},
	} {
		trades := rules(x.rules)
		all := impl.HeapsReached(x.heaps, trades)
		if x.states > 400 && all != nil || x.states <= 400 && len(all) != x.states {
			t.Errorf("HeapsReached(%v, %s) has %d, not %d", x.heaps, x.rules, len(all), x.states)
		}
		if longest := impl.LongestTrades(x.heaps, trades); longest != x.most {
			t.Errorf("LongestTrades(%v, %s) is %d, not %d", x.heaps, x.rules, longest, x.most)
		}
		// -1 is a number of ends that is not told here.
		if last := impl.HeapsLast(x.heaps, trades); x.ends >= 0 && len(last) != x.ends {
			t.Errorf("HeapsLast(%v, %s) is %v", x.heaps, x.rules, last)
		}
	}
}

// exchangesOf calls visit with many heaps and rules.
func exchangesOf(visit func(heaps []int, trades []impl.Trade)) {
	for _, trades := range someRules() {
		for _, heaps := range someHeaps() {
			visit(heaps, trades)
		}
	}
	for i, first := range smallRules() {
		for k, second := range smallRules() {
			trades := []impl.Trade{first, second}
			visit([]int{1, 1, 1}, trades)
			visit([]int{39, 38, 40}, trades)
			if (i+k)%7 == 0 {
				visit([]int{3, 0, 40}, trades)
			}
		}
	}
}

func TestP82WhatIsReachedIsClosed(t *testing.T) {
	told := map[bool]int{}
	exchangesOf(func(heaps []int, trades []impl.Trade) {
		reached, want := impl.HeapsReached(heaps, trades), statesOf(heaps, trades)
		if !isSameHeaps(reached, want) {
			t.Fatalf("HeapsReached(%v, %v) is %v, not %v", heaps, trades, reached, want)
		}
		told[reached != nil]++
		among := map[[3]int]bool{}
		for _, state := range reached {
			if among[[3]int(state)] {
				t.Fatalf("HeapsReached(%v, %v) has %v twice", heaps, trades, state)
			}
			among[[3]int(state)] = true
		}
		for _, state := range reached {
			for _, trade := range trades {
				if after, ok := impl.TradeDo(state, trade); ok && !among[[3]int(after)] {
					t.Fatalf("HeapsReached(%v, %v) has %v, but not %v", heaps, trades, state, after)
				}
			}
		}
	})
	if told[true] < 1000 || told[false] < 500 {
		t.Error(told)
	}
}

func TestP32AfterTheFirstExchangeOneIsFewer(t *testing.T) {
	numbers := map[bool]int{}
	exchangesOf(func(heaps []int, trades []impl.Trade) {
		longest := impl.LongestTrades(heaps, trades)
		if want := longestRow(heaps, trades); longest != want {
			t.Fatalf("LongestTrades(%v, %v) is %d, not %d", heaps, trades, longest, want)
		}
		numbers[longest > 0]++
		if longest < 0 {
			return
		}
		want := 0
		for _, i := range impl.TradesMay(heaps, trades) {
			after, _ := impl.TradeDo(heaps, trades[i])
			behind := impl.LongestTrades(after, trades)
			if behind < 0 {
				t.Fatalf("LongestTrades(%v, %v) is %d, and behind rule %d -1", heaps, trades, longest, i)
			}
			want = max(want, behind+1)
		}
		if longest != want {
			t.Fatalf("LongestTrades(%v, %v) is %d, and by those behind the first exchange %d", heaps, trades, longest, want)
		}
	})
	if numbers[true] < 1000 || numbers[false] < 1000 {
		t.Error(numbers)
	}
}

func TestP33WhateverEndsEndsSomewhere(t *testing.T) {
	ends := map[int]int{}
	exchangesOf(func(heaps []int, trades []impl.Trade) {
		var want [][]int
		for _, state := range statesOf(heaps, trades) {
			if !slices.ContainsFunc(trades, func(trade impl.Trade) bool { return afterRule(state, trade) != nil }) {
				want = append(want, state)
			}
		}
		last := impl.HeapsLast(heaps, trades)
		if !isSameHeaps(last, want) {
			t.Fatalf("HeapsLast(%v, %v) is %v, not %v", heaps, trades, last, want)
		}
		if impl.LongestTrades(heaps, trades) >= 0 && len(last) == 0 {
			t.Fatalf("HeapsLast(%v, %v) is empty, but each row ends", heaps, trades)
		}
		reached := impl.HeapsReached(heaps, trades)
		for _, state := range last {
			if len(impl.TradesMay(state, trades)) > 0 || !slices.ContainsFunc(reached, func(r []int) bool { return slices.Equal(r, state) }) {
				t.Fatalf("HeapsLast(%v, %v) has %v", heaps, trades, state)
			}
		}
		ends[min(len(last), 3)]++
	})
	if ends[0] < 500 || ends[1] < 500 || ends[2] < 10 || ends[3] < 10 {
		t.Error(ends)
	}
}

// checkNoExchanges checks what all functions of heaps and rules return if one of both is not valid.
func checkNoExchanges(t *testing.T, heaps []int, trades []impl.Trade) {
	t.Helper()
	if may := impl.TradesMay(heaps, trades); may != nil {
		t.Fatalf("TradesMay(%v, %v) is %v", heaps, trades, may)
	}
	for _, list := range [][]int{nil, {0}, {0, 1}, {-1}, {len(trades)}} {
		if after, ok := impl.TradesRun(heaps, trades, list); ok || after != nil {
			t.Fatalf("TradesRun(%v, %v, %v) is %v, %t", heaps, trades, list, after, ok)
		}
	}
	if reached := impl.HeapsReached(heaps, trades); reached != nil {
		t.Fatalf("HeapsReached(%v, %v) is %v", heaps, trades, reached)
	}
	if longest := impl.LongestTrades(heaps, trades); longest != -1 {
		t.Fatalf("LongestTrades(%v, %v) is %d", heaps, trades, longest)
	}
	if last := impl.HeapsLast(heaps, trades); last != nil {
		t.Fatalf("HeapsLast(%v, %v) is %v", heaps, trades, last)
	}
}

func TestInvalidHeapsAndRules(t *testing.T) {
	ords := worths(t, "w^2 w 1")
	for _, heaps := range badOfHeaps(40) {
		for _, trades := range append(someRules(), badRuleSets()[:9]...) {
			checkNoExchanges(t, heaps, trades)
		}
		for _, trade := range append(smallRules(), badRules()...) {
			if after, ok := impl.TradeDo(heaps, trade); ok || after != nil {
				t.Fatalf("TradeDo(%v, %v) is %v, %t", heaps, trade, after, ok)
			}
		}
		if o, ok := impl.HeapsOrd(heaps, ords); ok || o != nil {
			t.Errorf("HeapsOrd(%v, ..) is %v, %t", heaps, o, ok)
		}
	}
	for _, trades := range badRuleSets() {
		for _, heaps := range [][]int{{0, 0, 0}, {5, 5, 5}, {40, 40, 40}} {
			checkNoExchanges(t, heaps, trades)
		}
		if impl.TradesEnd(trades, ords) || impl.TradesEnd(trades, nil) {
			t.Fatalf("TradesEnd(%v, ..) is true", trades)
		}
	}
	for _, trade := range badRules() {
		for _, heaps := range someHeaps() {
			if after, ok := impl.TradeDo(heaps, trade); ok || after != nil {
				t.Fatalf("TradeDo(%v, %v) is %v, %t", heaps, trade, after, ok)
			}
		}
	}
}

func TestInvalidWorths(t *testing.T) {
	for _, ords := range badWorths() {
		for _, heaps := range [][]int{{0, 0, 0}, {1, 0, 0}, {0, 1, 0}, {0, 0, 1}, {40, 40, 40}, {41, 0, 0}, nil} {
			if o, ok := impl.HeapsOrd(heaps, ords); ok || o != nil {
				t.Errorf("HeapsOrd(%v, %v) is %v, %t", heaps, ords, o, ok)
			}
		}
		for _, texts := range []string{"", "100>000", "010>000", "001>000", "000>000", "600>000", "100>00"} {
			if impl.TradesEnd(rules(texts), ords) {
				t.Errorf("TradesEnd(%s, %v) is true", texts, ords)
			}
		}
	}
}

func TestExchangesShareNoMemory(t *testing.T) {
	for _, trades := range someRules() {
		for _, heaps := range append(someHeaps(), nil, []int{1, 1}, []int{41, 0, 0}) {
			h, list, ord := lend(heaps), lend([]int{0, 0}), lend([]int{1, 1, 1, 1, 0})
			var given []lent
			lentTrades := make([]impl.Trade, len(trades), len(trades)+3)
			for i, trade := range trades {
				take, give := lend(trade.Take), lend(trade.Give)
				given = append(given, take, give)
				lentTrades[i] = impl.Trade{Take: take.row, Give: give.row}
			}
			ords := [][]int{ord.row, ord.row, ord.row}
			impl.HeapsValid(h.row)
			impl.TradesValid(lentTrades)
			impl.TradesEnd(lentTrades, ords)
			impl.LongestTrades(h.row, lentTrades)
			results := append(impl.HeapsReached(h.row, lentTrades), impl.HeapsLast(h.row, lentTrades)...)
			for _, trade := range lentTrades {
				impl.TradeValid(trade)
				after, _ := impl.TradeDo(h.row, trade)
				results = append(results, after)
			}
			stayed, _ := impl.TradesRun(h.row, lentTrades, nil)
			after, _ := impl.TradesRun(h.row, lentTrades, list.row)
			sum, _ := impl.HeapsOrd(h.row, ords)
			one, _ := impl.HeapsOrd([]int{0, 1, 0}, ords)
			none, _ := impl.HeapsOrd([]int{0, 0, 0}, ords)
			results = append(results, stayed, after, sum, one, none, impl.TradesMay(h.row, lentTrades))
			checkApart(t, "a function of exchanges", results...)
			for _, l := range append(given, h, list, ord) {
				l.checkKept(t, "a function of exchanges", results...)
			}
			for _, trade := range lentTrades[:cap(lentTrades)][len(trades):] {
				if trade.Take != nil || trade.Give != nil {
					t.Fatalf("a function of exchanges wrote %v behind its rules", trade)
				}
			}
		}
	}
}
