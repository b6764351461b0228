package tests

import (
	"math"
	"slices"
	"strconv"
	"strings"
	"testing"

	"loop.example/ordinalhydras/impl"
)

// story is a battle by the texts of its hydras: the first one, and the one behind each cut.
type story struct {
	texts  []string
	copies int
	cuts   []int
}

func storyOf(text string, copies int, cuts ...int) story {
	s := story{texts: []string{text}, copies: copies}
	for _, head := range cuts {
		s, _ = s.cut(head)
	}
	return s
}

func (s story) now() string {
	return s.texts[len(s.texts)-1]
}

func (s story) battle() impl.Battle {
	return impl.Battle{First: rowOfText(s.texts[0]), Copies: s.copies, Cuts: slices.Clone(s.cuts), Now: rowOfText(s.now())}
}

func (s story) cut(head int) (story, bool) {
	if head < 0 || len(s.cuts) == impl.MaxCuts {
		return s, false
	}
	text := cutText(s.now(), head, s.copies)
	if text == "" || len(text) > 2*impl.MaxSize {
		return s, false
	}
	return story{slices.Concat(s.texts, []string{text}), s.copies, slices.Concat(s.cuts, []int{head})}, true
}

func (s story) after(a impl.Act) (story, bool) {
	switch {
	case a.Kind == 0:
		return s.cut(a.Number)
	case a.Kind == 1 && a.Number >= 1 && a.Number <= len(s.cuts):
		left := len(s.cuts) - a.Number
		return story{s.texts[:left+1], s.copies, s.cuts[:left]}, true
	case a.Kind == 2 && a.Number >= 1:
		cut, ok := s, true
		for i := 0; i < a.Number && ok; i++ {
			cut, ok = cut.cut(strings.Count(cut.now(), "()") - 1)
		}
		if ok {
			return cut, true
		}
	}
	return s, false
}

// ords returns the ordinals of all hydras, or nil if one of them is too long.
func (s story) ords() [][]int {
	var all [][]int
	for _, text := range s.texts {
		o := fits(ordOfSortedText(sortedText(text)))
		if o == nil {
			return nil
		}
		all = append(all, o)
	}
	return all
}

// answer returns what is answered to a question, as BattleLine has it.
func (s story) answer(question string) string {
	now := s.now()
	switch question {
	case "hydra":
		return now
	case "ordinal":
		if o := fits(ordOfSortedText(sortedText(now))); o != nil {
			return impl.OrdText(o)
		}
		return "none"
	case "heads":
		return strconv.Itoa(strings.Count(now[1:], "()"))
	case "cuts":
		return strconv.Itoa(len(s.cuts))
	case "left":
		if left := fight(now, s.copies); left >= 0 {
			return strconv.Itoa(left)
		}
		return "many"
	case "dead":
		return map[bool]string{true: "yes", false: "no"}[now == "()"]
	}
	return "what"
}

func isSameBattle(a, b impl.Battle) bool {
	return slices.Equal(a.First, b.First) && a.Copies == b.Copies && slices.Equal(a.Cuts, b.Cuts) && slices.Equal(a.Now, b.Now)
}

func isNothing(b impl.Battle) bool {
	return isSameBattle(b, impl.Battle{})
}

// longStory returns a battle of a fight of 400 cuts in which so many are made.
func longStory(t *testing.T, cuts int) story {
	t.Helper()
	s, ok := storyOf(impl.HydraText(longFight(t)), 9), true
	if cuts > 0 {
		s, ok = s.after(impl.Act{Kind: 2, Number: cuts})
	}
	if !ok || len(s.cuts) != cuts {
		t.Fatalf("%d cuts were made, not %d", len(s.cuts), cuts)
	}
	return s
}

// longerStory returns a battle in which the most cuts are made, and one head is left.
func longerStory(t *testing.T) story {
	t.Helper()
	text := impl.HydraText(longFight(t))
	s, ok := storyOf(text[:len(text)-1]+"())", 9).after(impl.Act{Kind: 2, Number: 400})
	if !ok || s.now() != "(())" {
		t.Fatalf("%d cuts were made, and %s is left", len(s.cuts), s.now())
	}
	return s
}

// stories returns battles of all kinds: at their beginning, fought for a while, dead, and with hydras that are as great as they may be.
func stories(t *testing.T) []story {
	t.Helper()
	all := []story{longStory(t, 0), longStory(t, 150), longStory(t, 399), longStory(t, 400), longerStory(t)}
	for _, h := range smallHydras(5) {
		all = append(all, storyOf(impl.HydraText(h), 1), storyOf(impl.HydraText(h), 2), storyOf(impl.HydraText(h), 9))
	}
	seed := 1
	for _, text := range []string{
		"()", "(())", "((()))", "(((())()))", "((()()))", "(()((()))())", "(((())((())())()))", "((((()))()))", "((()(())())())",
		"(" + nested(28) + "())", nested(30), nested(31), nested(60), "(" + pairs(59) + ")", "((" + pairs(58) + "))", "(" + nested(29) + nested(30) + ")", "((()())" + pairs(52) + ")",
	} {
		for _, copies := range []int{1, 2, 3, 5, 9} {
			s := storyOf(text, copies)
			for k := range 24 {
				if k%6 == 0 {
					all = append(all, s)
				}
				seed = seed * 48271 % math.MaxInt32
				heads := strings.Count(s.now(), "()")
				if next, ok := s.cut(seed % heads); ok {
					s = next
				}
			}
			all = append(all, s)
		}
	}
	return all
}

// someActs returns acts of all kinds, of which a battle may do some.
func someActs() []impl.Act {
	var all []impl.Act
	for _, kind := range []int{0, 1, 2, 3, -1, math.MinInt, math.MaxInt} {
		for _, number := range []int{0, 1, 2, 3, 5, 13, 24, 400, 401, -1, math.MinInt, math.MaxInt} {
			all = append(all, impl.Act{Kind: kind, Number: number})
		}
	}
	return all
}

// rowOfActs returns so many acts, some of which can be done for most hydras.
func rowOfActs(seed, length int) []impl.Act {
	acts := make([]impl.Act, length)
	for i := range acts {
		seed = (seed + 17) * 48271 % math.MaxInt32
		acts[i] = []impl.Act{
			{Kind: 0, Number: seed / 8 % 3}, {Kind: 2, Number: 1}, {Kind: 0, Number: 0}, {Kind: 1, Number: seed / 8 % 4},
			{Kind: 2, Number: seed / 8 % 5}, {Kind: 0, Number: seed / 8 % 20}, {Kind: 2, Number: 2}, {Kind: seed / 8 % 5, Number: 1},
		}[seed%8]
	}
	return acts
}

// badBattles returns battles that are not valid: each is wrong in one thing, but for the first one.
func badBattles(t *testing.T) []impl.Battle {
	t.Helper()
	all := []impl.Battle{{}}
	for _, h := range badHydras() {
		all = append(all, impl.Battle{First: h, Copies: 2, Now: h}, impl.Battle{First: h, Copies: 2, Now: []int{0}}, impl.Battle{First: []int{0}, Copies: 2, Now: h})
	}
	for _, copies := range badCopies() {
		all = append(all, impl.Battle{First: []int{0}, Copies: copies, Now: []int{0}}, impl.Battle{First: []int{2, 0, 0}, Copies: copies, Cuts: []int{1}, Now: []int{1, 0}})
	}
	x, y, wide := rowOfText("((())())"), rowOfText("(()()())"), rowOfText("((())"+pairs(57)+")")
	for _, cuts := range [][]int{{-1}, {2}, {math.MinInt}, {math.MaxInt}, {0, 3}, {0, -1}, {1, 1}, {0, 0, 0, 0, 0}, make([]int, 401), make([]int, 100000)} {
		for _, now := range [][]int{x, y, {0}, {1, 0}, nil} {
			all = append(all, impl.Battle{First: x, Copies: 2, Cuts: cuts, Now: now})
		}
	}
	for _, now := range [][]int{nil, x, y[:3], {4, 0, 0, 0, 0}, {3, 0, 0, 0, 0}, {3, 0, 0}, {2, 0, 0}, {3, 0, 0, 1}, append(slices.Clone(y), 1), {0}} {
		all = append(all, impl.Battle{First: x, Copies: 2, Cuts: []int{0}, Now: now})
	}
	// The same hydra, but for the order of its branches; the hydra behind one cut too few; and a cut that makes too great a hydra.
	all = append(all, impl.Battle{First: x, Copies: 2, Now: rowOfText("(()(()))")}, impl.Battle{First: y, Copies: 2, Cuts: []int{0, 0}, Now: []int{2, 0, 0}})
	all = append(all, impl.Battle{First: wide, Copies: 3, Cuts: []int{0}, Now: rowOfText("(" + pairs(60) + ")")}, impl.Battle{First: wide, Copies: 3, Cuts: []int{0}, Now: wide})
	long := longerStory(t).battle()
	long.Cuts, long.Now = append(long.Cuts, 0), []int{0}
	return append(all, long)
}

func TestBattleConstants(t *testing.T) {
	if impl.BtCut != 0 || impl.BtBack != 1 || impl.BtLast != 2 || impl.MaxLines != 40 {
		t.Error(impl.BtCut, impl.BtBack, impl.BtLast, impl.MaxLines)
	}
}

func TestBattleValidOfText(t *testing.T) {
	for _, x := range []struct {
		first  string
		copies int
		cuts   []int
		now    string
		valid  bool
	}{
		{"()", 1, nil, "()", true}, {"()", 9, nil, "()", true}, {"()", 0, nil, "()", false}, {"()", 10, nil, "()", false}, {"()", 2, []int{0}, "()", false},
		{"(())", 2, nil, "(())", true}, {"(())", 2, nil, "()", false}, {"(())", 2, []int{0}, "()", true}, {"(())", 2, []int{0}, "(())", false}, {"(())", 2, []int{1}, "()", false}, {"(())", 2, []int{0, 0}, "()", false},
		{"((()()))", 2, []int{1, 0}, "((())()())", false}, {"((()()))", 2, []int{1, 0}, "(()()(()))", true}, {"((()()))", 2, []int{1, 1}, "((())()())", true}, {"((()()))", 3, []int{1, 0}, "(()()(()))", false},
		{"((()()))", 2, []int{1, 1, 2}, "((())())", true}, {"((()()))", 2, []int{1, 1, 3}, "((())())", false}, {"((()()))", 2, []int{1, 1, -1}, "((())())", false},
		// As great as a hydra may be, and as it may not be, behind one cut or between two.
		{"((())" + pairs(57) + ")", 2, []int{0}, "(" + pairs(59) + ")", true}, {"((())" + pairs(57) + ")", 3, []int{0}, "(" + pairs(60) + ")", false}, {"((())" + pairs(57) + ")", 3, []int{0, 0}, "(" + pairs(59) + ")", false},
		{nested(60), 1, nil, nested(60), true}, {nested(61), 1, nil, nested(61), false}, {nested(60), 1, []int{0}, nested(59), true}, {nested(60), 2, []int{0}, nested(58), false},
	} {
		b := impl.Battle{First: rowOfText(x.first), Copies: x.copies, Cuts: x.cuts, Now: rowOfText(x.now)}
		if ok := impl.BattleValid(b); ok != x.valid {
			t.Errorf("BattleValid of %s, %d, %v and %s is %t", x.first, x.copies, x.cuts, x.now, ok)
		}
	}
}

func TestBattleValidOfAllStories(t *testing.T) {
	for _, s := range stories(t) {
		b := s.battle()
		if !impl.BattleValid(b) {
			t.Fatalf("BattleValid(%v) is false", b)
		}
		// No other hydra may stand as Now.
		for _, text := range s.texts {
			other := b
			other.Now = rowOfText(text)
			if ok := impl.BattleValid(other); ok != (text == s.now()) {
				t.Fatalf("BattleValid(%v) is %t", other, ok)
			}
		}
		for i := range b.Now {
			for _, more := range []int{-1, 1} {
				other := b
				other.Now = slices.Clone(b.Now)
				other.Now[i] += more
				if impl.BattleValid(other) {
					t.Fatalf("BattleValid(%v) is true", other)
				}
			}
		}
	}
}

func TestBattleValidOfBadBattles(t *testing.T) {
	for _, b := range badBattles(t) {
		if impl.BattleValid(b) {
			t.Errorf("BattleValid(%v) is true", b)
		}
	}
}

func TestP85BattlesFollowFromTheirCuts(t *testing.T) {
	for _, s := range stories(t) {
		b := s.battle()
		b.Cuts, b.Now = nil, b.First
		if !impl.BattleValid(b) {
			t.Fatalf("BattleValid(%v) is false", b)
		}
		b.Cuts = []int{}
		if !impl.BattleValid(b) {
			t.Fatalf("BattleValid(%v) is false", b)
		}
	}
}

func TestP86NewBattlesHaveNoCuts(t *testing.T) {
	for _, h := range append(allHydras(t, 7), grownHydras(t)...) {
		for copies := 1; copies <= impl.MaxCopies; copies++ {
			b := impl.BattleNew(h, copies)
			if !isSameBattle(b, impl.Battle{First: h, Copies: copies, Now: h}) || !impl.BattleValid(b) {
				t.Fatalf("BattleNew(%v, %d) is %v", h, copies, b)
			}
		}
	}
}

func TestBattleNewOfOthers(t *testing.T) {
	for _, h := range badHydras() {
		for _, copies := range append(badCopies(), 1, 2, 9) {
			if b := impl.BattleNew(h, copies); !isNothing(b) {
				t.Errorf("BattleNew(%v, %d) is %v", h, copies, b)
			}
		}
	}
	for _, h := range allHydras(t, 4) {
		for _, copies := range badCopies() {
			if b := impl.BattleNew(h, copies); !isNothing(b) {
				t.Errorf("BattleNew(%v, %d) is %v", h, copies, b)
			}
		}
	}
}

func TestBattleDoOfText(t *testing.T) {
	for _, x := range []struct {
		first        string
		copies       int
		cuts         []int
		kind, number int
		now          string
		cutsAfter    []int
		ok           bool
	}{
		{"((()()))", 2, nil, impl.BtCut, 0, "((())(()))", []int{0}, true}, {"((()()))", 2, nil, impl.BtCut, 1, "((())(()))", []int{1}, true}, {"((()()))", 2, nil, impl.BtCut, 2, "((()()))", nil, false}, {"((()()))", 2, nil, impl.BtCut, -1, "((()()))", nil, false},
		{"((()()))", 2, []int{1}, impl.BtCut, 0, "(()()(()))", []int{1, 0}, true}, {"((()()))", 5, []int{1}, impl.BtCut, 4, "((())(())(())(())()()()()())", []int{1, 4}, true},
		{"()", 2, nil, impl.BtCut, 0, "()", nil, false}, {"()", 2, nil, impl.BtBack, 1, "()", nil, false}, {"()", 2, nil, impl.BtBack, 0, "()", nil, false}, {"()", 2, nil, impl.BtLast, 0, "()", nil, false}, {"()", 2, nil, impl.BtLast, 1, "()", nil, false},
		// What is dead can live again.
		{"(())", 2, []int{0}, impl.BtCut, 0, "()", []int{0}, false}, {"(())", 2, []int{0}, impl.BtLast, 1, "()", []int{0}, false}, {"(())", 2, []int{0}, impl.BtBack, 1, "(())", nil, true}, {"(())", 2, []int{0}, impl.BtBack, 2, "()", []int{0}, false},
		{"((()()))", 2, []int{1, 0, 0}, impl.BtBack, 0, "(()(()))", []int{1, 0, 0}, false}, {"((()()))", 2, []int{1, 0, 0}, impl.BtBack, 1, "(()()(()))", []int{1, 0}, true}, {"((()()))", 2, []int{1, 0, 0}, impl.BtBack, 2, "((())(()))", []int{1}, true}, {"((()()))", 2, []int{1, 0, 0}, impl.BtBack, 3, "((()()))", nil, true}, {"((()()))", 2, []int{1, 0, 0}, impl.BtBack, 4, "(()(()))", []int{1, 0, 0}, false}, {"((()()))", 2, []int{1, 0, 0}, impl.BtBack, -1, "(()(()))", []int{1, 0, 0}, false},
		// The last head is told anew for each cut.
		{"((()()))", 2, nil, impl.BtLast, 1, "((())(()))", []int{1}, true}, {"((()()))", 2, nil, impl.BtLast, 2, "((())()())", []int{1, 1}, true}, {"((()()))", 2, nil, impl.BtLast, 3, "((())())", []int{1, 1, 2}, true}, {"((()()))", 2, nil, impl.BtLast, 7, "()", []int{1, 1, 2, 1, 0, 1, 0}, true}, {"((()()))", 2, nil, impl.BtLast, 8, "((()()))", nil, false}, {"((()()))", 2, nil, impl.BtLast, 0, "((()()))", nil, false}, {"((()()))", 2, nil, impl.BtLast, -1, "((()()))", nil, false},
		{"(()(()))", 3, []int{0}, impl.BtLast, 2, "(()())", []int{0, 0, 2}, true},
		// Of other kinds nothing is done.
		{"(()(()))", 3, []int{0}, 3, 1, "((()))", []int{0}, false}, {"(()(()))", 3, []int{0}, -1, 1, "((()))", []int{0}, false},
		// What would be too great is not there, also if it were only too great on the way.
		{"(" + pairs(57) + "(()))", 2, nil, impl.BtCut, 57, "(" + pairs(59) + ")", []int{57}, true}, {"(" + pairs(57) + "(()))", 3, nil, impl.BtCut, 57, "(" + pairs(57) + "(()))", nil, false}, {"(" + pairs(57) + "(()))", 3, nil, impl.BtLast, 1, "(" + pairs(57) + "(()))", nil, false},
		{"((())" + pairs(57) + ")", 3, nil, impl.BtLast, 57, "((()))", []int{57, 56, 55, 54, 53, 52, 51, 50, 49, 48, 47, 46, 45, 44, 43, 42, 41, 40, 39, 38, 37, 36, 35, 34, 33, 32, 31, 30, 29, 28, 27, 26, 25, 24, 23, 22, 21, 20, 19, 18, 17, 16, 15, 14, 13, 12, 11, 10, 9, 8, 7, 6, 5, 4, 3, 2, 1}, true},
		{"(" + pairs(55) + "((()))())", 4, nil, impl.BtLast, 1, "(" + pairs(55) + "((())))", []int{56}, true}, {"(" + pairs(55) + "((()))())", 4, nil, impl.BtLast, 2, "(" + pairs(55) + "((()))())", nil, false}, {"(" + pairs(55) + "((()))())", 4, nil, impl.BtLast, 9, "(" + pairs(55) + "((()))())", nil, false}, {"(" + pairs(55) + "((()))())", 3, nil, impl.BtLast, 2, "(" + pairs(55) + "(()()()))", []int{56, 55}, true},
	} {
		b := storyOf(x.first, x.copies, x.cuts...).battle()
		after, ok := impl.BattleDo(b, impl.Act{Kind: x.kind, Number: x.number})
		want := impl.Battle{First: b.First, Copies: x.copies, Cuts: x.cutsAfter, Now: rowOfText(x.now)}
		if len(b.Cuts) != len(x.cuts) || ok != x.ok || !isSameBattle(after, want) {
			t.Errorf("BattleDo(%v, {%d %d}) is %v, %t, not %v, %t", b, x.kind, x.number, after, ok, want, x.ok)
		}
	}
}

func TestBattleDoFollowsTheTexts(t *testing.T) {
	counts := map[impl.Act]int{}
	for _, s := range stories(t) {
		b := s.battle()
		for _, a := range append(someActs(), impl.Act{Kind: impl.BtBack, Number: len(s.cuts)}, impl.Act{Kind: impl.BtBack, Number: len(s.cuts) + 1}) {
			want, wantOk := s.after(a)
			after, ok := impl.BattleDo(b, a)
			if ok != wantOk || !isSameBattle(after, want.battle()) {
				t.Fatalf("BattleDo(%v, %v) is %v, %t, not %v, %t", b, a, after, ok, want.battle(), wantOk)
			}
			if ok {
				counts[a]++
			}
		}
	}
	for _, a := range []impl.Act{{Kind: 0, Number: 0}, {Kind: 0, Number: 13}, {Kind: 1, Number: 1}, {Kind: 1, Number: 400}, {Kind: 2, Number: 1}, {Kind: 2, Number: 24}, {Kind: 2, Number: 400}} {
		if counts[a] == 0 {
			t.Errorf("%v is never done", a)
		}
	}
}

func TestBattleDoWithTheMostCuts(t *testing.T) {
	full, last, begun := longStory(t, 400), longStory(t, 399), longStory(t, 0)
	living := longerStory(t)
	for _, x := range []struct {
		s            story
		kind, number int
		ok           bool
	}{
		{begun, impl.BtLast, 399, true}, {begun, impl.BtLast, 400, true}, {begun, impl.BtLast, 401, false}, {begun, impl.BtLast, math.MaxInt, false},
		{last, impl.BtCut, 0, true}, {last, impl.BtLast, 1, true}, {last, impl.BtLast, 2, false}, {last, impl.BtLast, math.MaxInt, false}, {last, impl.BtLast, math.MaxInt - 399, false},
		{full, impl.BtBack, 400, true}, {full, impl.BtBack, 401, false}, {full, impl.BtBack, math.MaxInt, false}, {full, impl.BtBack, math.MinInt, false}, {full, impl.BtBack, 1, true}, {full, impl.BtBack, 250, true},
		// There is still a head, but there would be too many cuts.
		{living, impl.BtCut, 0, false}, {living, impl.BtLast, 1, false}, {living, impl.BtBack, 1, true},
	} {
		a := impl.Act{Kind: x.kind, Number: x.number}
		want, wantOk := x.s.after(a)
		after, ok := impl.BattleDo(x.s.battle(), a)
		if wantOk != x.ok || ok != x.ok || !isSameBattle(after, want.battle()) || !impl.BattleValid(after) {
			t.Errorf("behind %d cuts BattleDo of %v leads to %d cuts, %t", len(x.s.cuts), a, len(after.Cuts), ok)
		}
	}
	back, _ := impl.BattleDo(living.battle(), impl.Act{Kind: impl.BtBack, Number: 400})
	if back, ok := impl.BattleDo(back, impl.Act{Kind: impl.BtLast, Number: 401}); ok || len(back.Cuts) != 0 {
		t.Error("401 cuts were made")
	}
}

func TestP36CutsMakeTheOrdinalLess(t *testing.T) {
	less := 0
	for _, s := range stories(t) {
		b := s.battle()
		o, told := impl.HydraOrd(b.Now)
		for _, a := range someActs() {
			after, ok := impl.BattleDo(b, a)
			if !impl.BattleValid(after) {
				t.Fatalf("BattleDo(%v, %v) is %v, which is not valid", b, a, after)
			}
			if !ok {
				if !isSameBattle(after, b) {
					t.Fatalf("BattleDo(%v, %v) is %v, false", b, a, after)
				}
				continue
			}
			if a.Kind == impl.BtBack {
				continue
			}
			x, toldAfter := impl.HydraOrd(after.Now)
			if told && toldAfter {
				less++
				if impl.OrdCompare(x, o) != -1 {
					t.Fatalf("behind %v of %v the ordinal is %v, and before %v", a, b, x, o)
				}
			}
			made := len(after.Cuts) - len(b.Cuts)
			if back, ok := impl.BattleDo(after, impl.Act{Kind: impl.BtBack, Number: made}); !ok || !isSameBattle(back, b) {
				t.Fatalf("%d cuts taken back of %v lead to %v, %t, not %v", made, after, back, ok, b)
			}
		}
	}
	if less < 1000 {
		t.Errorf("only %d cuts were compared", less)
	}
}

func TestBattleRunOfText(t *testing.T) {
	cut, back, last := impl.BtCut, impl.BtBack, impl.BtLast
	for _, x := range []struct {
		acts []impl.Act
		now  string
		cuts []int
		done int
	}{
		{nil, "((()()))", nil, 0},
		{[]impl.Act{{Kind: cut, Number: 1}, {Kind: cut, Number: 0}, {Kind: last, Number: 1}}, "(()()()())", []int{1, 0, 2}, 3},
		// What cannot be done is left out, and what is behind it is done.
		{[]impl.Act{{Kind: back, Number: 1}, {Kind: cut, Number: 2}, {Kind: 7, Number: 0}, {Kind: cut, Number: 1}}, "((())(()))", []int{1}, 1},
		{[]impl.Act{{Kind: last, Number: 8}, {Kind: last, Number: 7}, {Kind: cut, Number: 0}, {Kind: last, Number: 1}, {Kind: back, Number: 6}}, "((())(()))", []int{1}, 2},
		{[]impl.Act{{Kind: cut, Number: 1}, {Kind: back, Number: 1}, {Kind: back, Number: 1}, {Kind: cut, Number: 1}}, "((())(()))", []int{1}, 3},
	} {
		b := storyOf("((()()))", 2).battle()
		after, done := impl.BattleRun(b, x.acts)
		if done != x.done || !slices.Equal(after.Cuts, x.cuts) || impl.HydraText(after.Now) != x.now || !slices.Equal(after.First, b.First) || after.Copies != 2 {
			t.Errorf("BattleRun(%v, %v) is %v, %d", b, x.acts, after, done)
		}
	}
}

func TestP37WhateverIsDoneTheHydraFollows(t *testing.T) {
	done := map[bool]int{}
	for i, s := range stories(t) {
		b := s.battle()
		acts := rowOfActs(i, 12)
		want, wantDone := s, 0
		for _, a := range acts {
			next, ok := want.after(a)
			if ok {
				want = next
				wantDone++
			}
			done[ok]++
		}
		after, n := impl.BattleRun(b, acts)
		if n != wantDone || !isSameBattle(after, want.battle()) || !impl.BattleValid(after) || !slices.Equal(after.First, b.First) || after.Copies != b.Copies {
			t.Fatalf("BattleRun(%v, %v) is %v, %d, not %v, %d", b, acts, after, n, want.battle(), wantDone)
		}
		for k := 0; k <= len(acts); k++ {
			part, first := impl.BattleRun(b, acts[:k])
			whole, second := impl.BattleRun(part, acts[k:])
			if first+second != n || !isSameBattle(whole, after) {
				t.Fatalf("BattleRun(%v, %v) is %v, %d, and in two parts %v, %d and %d", b, acts, after, n, whole, first, second)
			}
		}
	}
	if done[true] < 1000 || done[false] < 1000 {
		t.Error(done)
	}
}

func TestBattleRunOfTheMostActs(t *testing.T) {
	b := storyOf("("+pairs(59)+")", 2).battle()
	acts := slices.Repeat([]impl.Act{{Kind: impl.BtCut}}, 41)
	if after, done := impl.BattleRun(b, acts[:40]); done != 40 || len(after.Now) != 20 || len(after.Cuts) != 40 {
		t.Error(after, done)
	}
	if after, done := impl.BattleRun(b, acts); done != 0 || !isNothing(after) {
		t.Error(after, done)
	}
	// They are too many also if none of them can be done.
	if after, done := impl.BattleRun(b, make([]impl.Act, 100000)); done != 0 || !isNothing(after) {
		t.Error(after, done)
	}
	if after, done := impl.BattleRun(b, slices.Repeat([]impl.Act{{Kind: 3}}, 41)); done != 0 || !isNothing(after) {
		t.Error(after, done)
	}
	if after, done := impl.BattleRun(b, slices.Repeat([]impl.Act{{Kind: 3}}, 40)); done != 0 || !isSameBattle(after, b) {
		t.Error(after, done)
	}
}

func TestBattleLeftOfText(t *testing.T) {
	for _, x := range []struct {
		text   string
		copies int
		cuts   []int
		left   int
	}{
		{"()", 1, nil, 0}, {"()", 9, nil, 0}, {"(())", 3, []int{0}, 0}, {"(())", 3, nil, 1}, {"((()()))", 2, nil, 7}, {"((()()))", 2, []int{0}, 6}, {"((()()))", 2, []int{1, 0}, 5}, {"((()()))", 2, []int{1, 0, 2}, 4}, {"((()()))", 9, nil, 91},
		{"(((())))", 4, nil, 342}, {"(((())))", 5, nil, -1}, {"(((())))", 5, []int{0}, -1}, {nested(60), 1, nil, 59}, {nested(60), 2, nil, -1},
		// Not sorted: it is the last head that is cut, and not the least one.
		{"(()((()))())", 2, nil, 10},
	} {
		s := storyOf(x.text, x.copies, x.cuts...)
		if left := impl.BattleLeft(s.battle()); left != x.left || fight(s.now(), x.copies) != x.left {
			t.Errorf("BattleLeft of %s, %d behind %v is %d, not %d", x.text, x.copies, x.cuts, left, x.left)
		}
	}
}

func TestP38SoManyCutsKillIt(t *testing.T) {
	told := map[bool]int{}
	for _, s := range stories(t) {
		b := s.battle()
		left := impl.BattleLeft(b)
		told[left >= 0]++
		if left != fight(s.now(), s.copies) || (left == 0) != (s.now() == "()") {
			t.Fatalf("BattleLeft(%v) is %d, not %d", b, left, fight(s.now(), s.copies))
		}
		if left <= 0 {
			continue
		}
		fits := len(b.Cuts)+left <= impl.MaxCuts
		if dead, ok := impl.BattleDo(b, impl.Act{Kind: impl.BtLast, Number: left}); ok != fits || ok && (!slices.Equal(dead.Now, []int{0}) || impl.BattleLeft(dead) != 0) {
			t.Fatalf("%d cuts of %v lead to %v, %t", left, b, dead, ok)
		}
		if after, ok := impl.BattleDo(b, impl.Act{Kind: impl.BtLast, Number: 1}); ok && impl.BattleLeft(after) != left-1 {
			t.Fatalf("BattleLeft(%v) is %d, and behind a cut %d", b, left, impl.BattleLeft(after))
		}
	}
	if told[true] < 100 || told[false] < 100 {
		t.Error(told)
	}
}

func TestBattleLeftAtTheBounds(t *testing.T) {
	// How many cuts there are already does not matter.
	for _, x := range []struct {
		s    story
		left int
	}{
		{longStory(t, 0), 400}, {longStory(t, 1), 399}, {longStory(t, 399), 1}, {longStory(t, 400), 0}, {longerStory(t), 1}, {storyOf(longerStory(t).texts[0], 9), -1},
	} {
		if left := impl.BattleLeft(x.s.battle()); left != x.left {
			t.Errorf("behind %d cuts BattleLeft is %d, not %d", len(x.s.cuts), left, x.left)
		}
	}
}

func TestBattleFallOfText(t *testing.T) {
	for _, x := range []struct {
		text   string
		copies int
		cuts   []int
		ords   string
	}{
		{"()", 5, nil, "0"}, {"(())", 5, nil, "1"}, {"(())", 5, []int{0}, "1 0"}, {"((()()))", 2, []int{1, 0, 2}, "w^2 w*2 w+2 4"}, {"((()()))", 2, []int{1, 0, 2, 3, 0, 0, 0}, "w^2 w*2 w+2 4 3 2 1 0"},
		{"((()()))", 4, []int{0, 3}, "w^2 w*4 w*3+4"}, {"(((())()))", 2, []int{0, 2}, "w^(w+1) w^3 w^2*2"}, {"((()())((())))", 3, []int{2}, "w^w+w^2 w^3+w^2"},
	} {
		fall, ok := impl.BattleFall(storyOf(x.text, x.copies, x.cuts...).battle())
		var texts []string
		for _, o := range fall {
			texts = append(texts, impl.OrdText(o))
		}
		if got := strings.Join(texts, " "); !ok || got != x.ords {
			t.Errorf("BattleFall of %s, %d behind %v is %s, %t, not %s", x.text, x.copies, x.cuts, got, ok, x.ords)
		}
	}
}

func TestP39BattlesFall(t *testing.T) {
	told := map[bool]int{}
	for _, s := range stories(t) {
		b := s.battle()
		want := s.ords()
		fall, ok := impl.BattleFall(b)
		if ok != (want != nil) || !slices.EqualFunc(fall, want, slices.Equal) || ok && len(fall) != len(b.Cuts)+1 {
			t.Fatalf("BattleFall(%v) is %v, %t, not %v", b, fall, ok, want)
		}
		told[ok]++
		for i := 1; i < len(fall); i++ {
			if impl.OrdCompare(fall[i], fall[i-1]) != -1 {
				t.Fatalf("BattleFall(%v) is %v", b, fall)
			}
		}
	}
	if told[true] < 100 || told[false] < 50 {
		t.Error(told)
	}
}

func TestBattleFallWhereAnOrdinalIsTooLong(t *testing.T) {
	// Only while its two long branches are different is the ordinal of this hydra too long.
	twins := "(" + nested(25) + nested(3) + nested(25) + ")"
	for _, x := range []struct {
		text string
		cuts []int
		told []bool
	}{
		{nested(30), nil, []bool{true}}, {nested(31), nil, []bool{false}}, {nested(31), []int{0}, []bool{false, true}}, {nested(32), []int{0, 0}, []bool{false, false, true}},
		{"(" + nested(29) + ")", nil, []bool{true}}, {"(" + nested(27) + "())", nil, []bool{true}}, {"(" + nested(28) + "())", nil, []bool{true}}, {"(" + nested(29) + "())", nil, []bool{false}},
		{"(" + nested(29) + "())", []int{1}, []bool{false, true}}, {"(" + nested(29) + "())", []int{1, 0}, []bool{false, true, true}},
		{twins, nil, []bool{true}}, {twins, []int{0}, []bool{true, false}}, {twins, []int{0, 2}, []bool{true, false, true}},
	} {
		s := storyOf(x.text, 1, x.cuts...)
		all := true
		for i, text := range s.texts {
			_, ok := impl.HydraOrd(rowOfText(text))
			if ok != x.told[i] {
				t.Errorf("HydraOrd of %s is told: %t", text, ok)
			}
			all = all && ok
		}
		fall, ok := impl.BattleFall(s.battle())
		if len(s.cuts) != len(x.cuts) || ok != all || !all && fall != nil || all && len(fall) != len(x.cuts)+1 {
			t.Errorf("BattleFall of %s behind %v is %v, %t", x.text, x.cuts, fall, ok)
		}
	}
}

func TestActTextOfActs(t *testing.T) {
	for _, x := range []struct {
		kind, number int
		text         string
	}{
		{impl.BtCut, 0, "cut 0"}, {impl.BtBack, 1, "back 1"}, {impl.BtLast, 3, "last 3"}, {impl.BtBack, 0, "back 0"}, {impl.BtLast, 0, "last 0"}, {impl.BtCut, 10, "cut 10"}, {impl.BtLast, 100, "last 100"},
		{impl.BtCut, 999, "cut 999"}, {impl.BtBack, 999, "back 999"}, {impl.BtLast, 999, "last 999"}, {impl.BtCut, 1000, ""}, {impl.BtBack, 1000, ""}, {impl.BtLast, 1000, ""}, {impl.BtCut, -1, ""}, {impl.BtBack, -1, ""}, {impl.BtLast, -1, ""},
		{3, 0, ""}, {3, 1, ""}, {-1, 0, ""}, {-1, 1, ""}, {math.MaxInt, 5, ""}, {math.MinInt, 5, ""}, {impl.BtCut, math.MaxInt, ""}, {impl.BtCut, math.MinInt, ""}, {7, -7, ""},
	} {
		if text := impl.ActText(impl.Act{Kind: x.kind, Number: x.number}); text != x.text {
			t.Errorf("ActText({%d %d}) is %q, not %q", x.kind, x.number, text, x.text)
		}
	}
}

func TestP87TextsOfActsAreRead(t *testing.T) {
	for kind := -2; kind <= 5; kind++ {
		for number := -20; number <= 1100; number++ {
			a := impl.Act{Kind: kind, Number: number}
			text := impl.ActText(a)
			want := ""
			if kind >= 0 && kind <= 2 && number >= 0 && number <= 999 {
				want = []string{"cut ", "back ", "last "}[kind] + strconv.Itoa(number)
			}
			if text != want {
				t.Fatalf("ActText(%v) is %q, not %q", a, text, want)
			}
			if text == "" {
				continue
			}
			if x, ok := impl.ReadAct(text); !ok || x != a {
				t.Fatalf("ReadAct(%q) is %v, %t, not %v", text, x, ok, a)
			}
		}
	}
}

func TestP88ReadTextsOfActsAreCanonical(t *testing.T) {
	for kind := range 3 {
		for _, number := range []int{0, 1, 7, 9, 10, 12, 40, 99, 100, 101, 500, 909, 990, 998, 999} {
			text := impl.ActText(impl.Act{Kind: kind, Number: number})
			for _, more := range []string{" ", "  ", "\n", "\t", "\r", "\x00", "a", ".", " 1", " cut 0"} {
				if a, ok := impl.ReadAct(text + more); ok || a != (impl.Act{}) {
					t.Fatalf("ReadAct(%q) is %v, %t", text+more, a, ok)
				}
			}
			for _, more := range []string{" ", "\n", "\x00", "a", "0", "cut ", "un"} {
				if a, ok := impl.ReadAct(more + text); ok || a != (impl.Act{}) {
					t.Fatalf("ReadAct(%q) is %v, %t", more+text, a, ok)
				}
			}
			for _, beside := range textsBeside(text, "cutbackls 0123456789+-_.xe\n") {
				a, ok := impl.ReadAct(beside)
				if ok && impl.ActText(a) != beside || !ok && a != (impl.Act{}) {
					t.Fatalf("ReadAct(%q) is %v, %t", beside, a, ok)
				}
			}
		}
	}
}

func TestReadActOfBadTexts(t *testing.T) {
	for _, text := range []string{
		"", " ", "cut", "back", "last", "cut ", "back ", "last ", "0", " 0", "cut0", "cut  0", "cut\t0", "cut\n0", "cut\x000", " cut 0", "cut 0 ", "cut 0\n", "cut 0\r", "Cut 0", "CUT 0", "cuts 0", "ut 0", "c 0", "head 0", "3 0",
		"cut 00", "cut 01", "cut 007", "cut 0999", "cut +1", "cut +0", "cut -0", "cut -1", "cut 1000", "cut 1001", "cut 9999", "back 1000", "last 1000", "last -1", "cut 1_0", "cut 0x1", "cut 1e1", "cut 1.0", "cut 1,0", "cut one", "cut ١", "cut １", "cut 1 1", "cut x", "back x", "cut \xff",
		"cut 4294967296", "cut 18446744073709551616", "cut 18446744073709551617", "cut -18446744073709551615", "cut 9223372036854775807", "cut -9223372036854775808", "cut " + repeated("9", 1000000), "cut " + repeated("0", 1000000), repeated("cut ", 1000000), repeated(" ", 1000000),
	} {
		if a, ok := impl.ReadAct(text); ok || a != (impl.Act{}) {
			t.Errorf("ReadAct(%.80q) is %v, %t", text, a, ok)
		}
	}
}

func TestReadActOfAllShortTexts(t *testing.T) {
	read := 0
	textsOf("cut 019", 6, func(text string) {
		a, ok := impl.ReadAct(text)
		if ok && impl.ActText(a) != text || !ok && a != (impl.Act{}) {
			t.Fatalf("ReadAct(%q) is %v, %t", text, a, ok)
		}
		if ok {
			read++
		}
	})
	// The numbers of one digit, and those of two.
	if read != 3+6 {
		t.Errorf("%d texts were read", read)
	}
}

// textActs returns so many acts that have texts.
func textActs(seed, length int) []impl.Act {
	acts := make([]impl.Act, length)
	for i := range acts {
		seed = (seed + 29) * 48271 % math.MaxInt32
		acts[i] = impl.Act{Kind: seed % 3, Number: seed / 3 % []int{2, 5, 12, 110, 1000}[i%5]}
	}
	return acts
}

func TestJournalTextOfActs(t *testing.T) {
	for _, x := range []struct {
		acts []impl.Act
		text string
	}{
		{nil, ""}, {[]impl.Act{}, ""}, {[]impl.Act{{}}, "cut 0\n"}, {[]impl.Act{{Kind: impl.BtLast, Number: 3}, {Kind: impl.BtBack, Number: 10}, {Kind: impl.BtCut, Number: 999}}, "last 3\nback 10\ncut 999\n"},
		// One without a text is enough, wherever it stands.
		{[]impl.Act{{Number: 1000}}, ""}, {[]impl.Act{{}, {}, {Kind: 3}}, ""}, {[]impl.Act{{Kind: -1}, {}, {}}, ""}, {[]impl.Act{{}, {Number: -1}, {}}, ""},
	} {
		if text := impl.JournalText(x.acts); text != x.text {
			t.Errorf("JournalText(%v) is %q, not %q", x.acts, text, x.text)
		}
	}
}

func TestReadJournalOfTexts(t *testing.T) {
	for _, x := range []struct {
		text string
		acts []impl.Act
		read int
	}{
		{"", nil, 0}, {"\n", nil, 0}, {"cut 0", nil, 0}, {"cut 0\n", []impl.Act{{}}, 6}, {"\ncut 0\n", nil, 0}, {"cut 0\n\ncut 1\n", []impl.Act{{}}, 6}, {"cut 0\nback 1\nlast", []impl.Act{{}, {Kind: 1, Number: 1}}, 13}, {"cut 0\nback 1\nlast 2", []impl.Act{{}, {Kind: 1, Number: 1}}, 13},
		{"cut 0\nback 1\nlast 2\n", []impl.Act{{}, {Kind: 1, Number: 1}, {Kind: 2, Number: 2}}, 20},
		// Behind a line that is none, nothing is read.
		{"cut 0\nwhat\ncut 1\n", []impl.Act{{}}, 6}, {"hydra\ncut 1\n", nil, 0}, {"cut 0\ncut 01\ncut 1\n", []impl.Act{{}}, 6}, {"cut 0\ncut 1000\n", []impl.Act{{}}, 6}, {"cut 999\ncut 1 \n", []impl.Act{{Number: 999}}, 8}, {"cut 0\r\n", nil, 0}, {"cut 0\x00\n", nil, 0}, {" cut 0\n", nil, 0}, {"cut 0\n cut 0\n", []impl.Act{{}}, 6}, {"cut 0\n\n", []impl.Act{{}}, 6}, {"\xff\n", nil, 0},
		{repeated("\n", 1000000), nil, 0}, {repeated("c", 1000000), nil, 0}, {"cut 0\n" + repeated("9", 1000000) + "\n", []impl.Act{{}}, 6}, {"cut 0\ncut " + repeated("0", 1000000) + "\n", []impl.Act{{}}, 6},
	} {
		if acts, read := impl.ReadJournal(x.text); read != x.read || !slices.Equal(acts, x.acts) {
			t.Errorf("ReadJournal(%.80q) is %v, %d, not %v, %d", x.text, acts, read, x.acts, x.read)
		}
	}
}

func TestP89JournalsAreRead(t *testing.T) {
	// A journal may be longer than what is said at once.
	for _, length := range []int{0, 1, 2, 3, 7, 39, 40, 41, 100, 1000, 100000} {
		for seed := range 5 {
			acts := textActs(seed, length)
			text := impl.JournalText(acts)
			if x, read := impl.ReadJournal(text); read != len(text) || !slices.Equal(x, acts) || strings.Count(text, "\n") != length {
				t.Fatalf("of the journal of %d acts, %d bytes, %d acts and %d bytes are read", length, len(text), len(x), read)
			}
		}
	}
}

func TestP40WhereverAJournalIsCut(t *testing.T) {
	all := stories(t)
	for seed := range 40 {
		acts := textActs(seed, 11)
		if seed%2 == 0 {
			acts = slices.DeleteFunc(rowOfActs(seed, 24), func(a impl.Act) bool { return a.Kind > 2 })
		}
		text := impl.JournalText(acts)
		begun := all[seed*len(all)/40].battle()
		for size := range len(text) + 1 {
			lines := strings.SplitAfter(text[:size], "\n")
			lines = lines[:len(lines)-1]
			found, read := impl.ReadJournal(text[:size])
			if !slices.Equal(found, acts[:len(lines)]) || read != len(strings.Join(lines, "")) || impl.JournalText(found) != text[:read] {
				t.Fatalf("ReadJournal(%q) is %v, %d", text[:size], found, read)
			}
			for i := range lines {
				lines[i] = strings.TrimSuffix(lines[i], "\n")
			}
			said, answers := impl.BattleSay(begun, lines)
			run, done := impl.BattleRun(begun, found)
			if !isSameBattle(said, run) || len(answers) != len(lines) || done != strings.Count(strings.Join(answers, " "), "ok") {
				t.Fatalf("of %v the lines %q lead to %v, %q, and BattleRun to %v, %d", begun, lines, said, answers, run, done)
			}
		}
	}
}

func TestReadJournalOfAnyText(t *testing.T) {
	textsOf("cut 0\n", 8, func(text string) {
		acts, read := impl.ReadJournal(text)
		if impl.JournalText(acts) != text[:read] {
			t.Fatalf("ReadJournal(%q) is %v, %d", text, acts, read)
		}
		if want := strings.HasPrefix(text, "cut 0\n"); (len(acts) == 1) != want || (read == 6) != want || len(acts) > 1 {
			t.Fatalf("ReadJournal(%q) is %v, %d", text, acts, read)
		}
	})
}

// questions are the lines that are answered, and those that nothing answers.
func questions() []string {
	return []string{
		"hydra", "ordinal", "heads", "cuts", "left", "dead",
		"what", "", " ", "ok", "no", "yes", "none", "many", "hydra ", " hydra", "Hydra", "hydras", "hydr", "hydra\n", "ordinal\n", "heads 0", "head", "cut", "dead?", "left 1", "last", "back x", "cut 0\n", "cut  0", "cut 00", "cut 1000", "cut -1", "\n", "\x00", "\xff", "hydra hydra", "()",
	}
}

func TestBattleLineOfText(t *testing.T) {
	for _, x := range []struct {
		text         string
		copies       int
		cuts         []int
		line, answer string
		now          string
	}{
		{"((()()))", 2, nil, "hydra", "((()()))", "((()()))"}, {"((()()))", 2, nil, "ordinal", "w^2", "((()()))"}, {"((()()))", 2, nil, "heads", "2", "((()()))"}, {"((()()))", 2, nil, "cuts", "0", "((()()))"}, {"((()()))", 2, nil, "left", "7", "((()()))"}, {"((()()))", 2, nil, "dead", "no", "((()()))"},
		{"((()()))", 2, []int{1, 0}, "hydra", "(()()(()))", "(()()(()))"}, {"((()()))", 2, []int{1, 0}, "ordinal", "w+2", "(()()(()))"}, {"((()()))", 2, []int{1, 0}, "heads", "3", "(()()(()))"}, {"((()()))", 2, []int{1, 0}, "cuts", "2", "(()()(()))"}, {"((()()))", 2, []int{1, 0}, "left", "5", "(()()(()))"},
		{"((()()))", 2, []int{1, 0}, "cut 2", "ok", "(()()()())"}, {"((()()))", 2, []int{1, 0}, "cut 3", "no", "(()()(()))"}, {"((()()))", 2, []int{1, 0}, "back 2", "ok", "((()()))"}, {"((()()))", 2, []int{1, 0}, "back 3", "no", "(()()(()))"}, {"((()()))", 2, []int{1, 0}, "back 0", "no", "(()()(()))"}, {"((()()))", 2, []int{1, 0}, "last 5", "ok", "()"}, {"((()()))", 2, []int{1, 0}, "last 6", "no", "(()()(()))"}, {"((()()))", 2, []int{1, 0}, "last 0", "no", "(()()(()))"}, {"((()()))", 2, []int{1, 0}, "last 999", "no", "(()()(()))"},
		{"(())", 2, []int{0}, "hydra", "()", "()"}, {"(())", 2, []int{0}, "ordinal", "0", "()"}, {"(())", 2, []int{0}, "heads", "0", "()"}, {"(())", 2, []int{0}, "cuts", "1", "()"}, {"(())", 2, []int{0}, "left", "0", "()"}, {"(())", 2, []int{0}, "dead", "yes", "()"}, {"(())", 2, []int{0}, "cut 0", "no", "()"}, {"(())", 2, []int{0}, "last 1", "no", "()"}, {"(())", 2, []int{0}, "back 1", "ok", "(())"}, {"()", 2, nil, "dead", "yes", "()"}, {"()", 2, nil, "back 1", "no", "()"}, {"(())", 2, nil, "dead", "no", "(())"},
		// What grows too much, or has too long an ordinal.
		{nested(60), 2, nil, "left", "many", nested(60)}, {nested(60), 1, nil, "left", "59", nested(60)}, {nested(60), 1, nil, "ordinal", "none", nested(60)}, {nested(31), 1, nil, "ordinal", "none", nested(31)}, {nested(60), 2, nil, "cut 0", "ok", repeated("(", 58) + "()()" + repeated(")", 58)}, {nested(60), 2, nil, "heads", "1", nested(60)}, {nested(60), 1, nil, "hydra", nested(60), nested(60)}, {"((())" + pairs(57) + ")", 3, nil, "cut 0", "no", "((())" + pairs(57) + ")"}, {"((())" + pairs(57) + ")", 2, nil, "cut 0", "ok", "(" + pairs(59) + ")"}, {"((())" + pairs(57) + ")", 3, nil, "left", "61", "((())" + pairs(57) + ")"},
	} {
		s := storyOf(x.text, x.copies, x.cuts...)
		after, answer := impl.BattleLine(s.battle(), x.line)
		if answer != x.answer || impl.HydraText(after.Now) != x.now || !impl.BattleValid(after) {
			t.Errorf("BattleLine of %s, %d behind %v, %q is %v, %q, not %q", x.text, x.copies, x.cuts, x.line, after, answer, x.answer)
		}
	}
}

func TestP90QuestionsChangeNothing(t *testing.T) {
	for _, s := range stories(t) {
		b := s.battle()
		for _, question := range questions() {
			after, answer := impl.BattleLine(b, question)
			if want := s.answer(question); answer != want || !isSameBattle(after, b) {
				t.Fatalf("BattleLine(%v, %q) is %v, %q, not %q", b, question, after, answer, want)
			}
		}
		_, answer := impl.BattleLine(b, "hydra")
		if h, ok := impl.ReadHydra(answer); !ok || !slices.Equal(h, b.Now) {
			t.Fatalf("BattleLine(%v, hydra) is %q", b, answer)
		}
		for _, a := range someActs() {
			line := impl.ActText(a)
			want, answered := s, "what"
			if line != "" {
				answered = "no"
				if next, ok := s.after(a); ok {
					want, answered = next, "ok"
				}
			}
			after, answer := impl.BattleLine(b, line)
			if answer != answered || !isSameBattle(after, want.battle()) || !impl.BattleValid(after) {
				t.Fatalf("BattleLine(%v, %q) is %v, %q, not %v, %q", b, line, after, answer, want.battle(), answered)
			}
		}
	}
}

func TestBattleSayAsInTheDocument(t *testing.T) {
	said := []string{"hydra", "ordinal", "heads", "left", "cut 1", "hydra", "ordinal", "left", "cut 0", "ordinal", "last 1", "ordinal", "hydra", "cuts", "back 2", "ordinal", "cut 9", "last 6", "dead"}
	want := []string{"((()()))", "w^2", "2", "7", "ok", "((())(()))", "w*2", "6", "ok", "w+2", "ok", "4", "(()()()())", "3", "ok", "w*2", "no", "ok", "yes"}
	b, answers := impl.BattleSay(impl.BattleNew(hydra(t, "((()()))"), 2), said)
	if !slices.Equal(answers, want) || !slices.Equal(b.Now, []int{0}) || !slices.Equal(b.Cuts, []int{1, 1, 2, 1, 0, 1, 0}) {
		t.Error(b, answers)
	}
}

// rowOfLines returns so many lines: acts, and questions between them.
func rowOfLines(seed, length int) []string {
	lines := make([]string, length)
	for i, a := range rowOfActs(seed, length) {
		lines[i] = impl.ActText(a)
		if (seed+i)%3 == 0 {
			lines[i] = questions()[(seed+i)/3%len(questions())]
		}
	}
	return lines
}

func TestP41WhateverIsSaidTheBattleFalls(t *testing.T) {
	told := map[bool]int{}
	for i, s := range stories(t) {
		b := s.battle()
		lines := rowOfLines(i, 16)
		after, answers := impl.BattleSay(b, lines)
		one := b
		var said []string
		for _, line := range lines {
			var answer string
			one, answer = impl.BattleLine(one, line)
			said = append(said, answer)
		}
		if !isSameBattle(after, one) || !slices.Equal(answers, said) || slices.Contains(answers, "") || !impl.BattleValid(after) {
			t.Fatalf("BattleSay(%v, %q) is %v, %q, and line by line %v, %q", b, lines, after, answers, one, said)
		}
		for k := 0; k <= len(lines); k++ {
			part, first := impl.BattleSay(b, lines[:k])
			whole, second := impl.BattleSay(part, lines[k:])
			if !isSameBattle(whole, after) || !slices.Equal(slices.Concat(first, second), answers) {
				t.Fatalf("BattleSay(%v, %q) is %v, %q, and in two parts %v, %q and %q", b, lines, after, answers, whole, first, second)
			}
		}
		fall, ok := impl.BattleFall(after)
		told[ok]++
		for k := 1; k < len(fall); k++ {
			if impl.OrdCompare(fall[k], fall[k-1]) != -1 {
				t.Fatalf("behind %q the battle %v falls as %v", lines, after, fall)
			}
		}
	}
	if told[true] < 100 || told[false] < 50 {
		t.Error(told)
	}
}

func TestBattleSayOfTheMostLines(t *testing.T) {
	b := storyOf("("+pairs(59)+")", 2).battle()
	lines := slices.Repeat([]string{"last 1"}, 41)
	if after, answers := impl.BattleSay(b, lines[:40]); len(after.Cuts) != 40 || !slices.Equal(answers, slices.Repeat([]string{"ok"}, 40)) {
		t.Error(after, answers)
	}
	for _, lines := range [][]string{lines, slices.Repeat([]string{"hydra"}, 41), slices.Repeat([]string{"what"}, 41), make([]string, 100000)} {
		if after, answers := impl.BattleSay(b, lines); !isNothing(after) || answers != nil {
			t.Error(after, answers)
		}
	}
	if after, answers := impl.BattleSay(b, nil); !isSameBattle(after, b) || len(answers) != 0 {
		t.Error(after, answers)
	}
	if after, answers := impl.BattleSay(b, make([]string, 40)); !isSameBattle(after, b) || !slices.Equal(answers, slices.Repeat([]string{"what"}, 40)) {
		t.Error(after, answers)
	}
}

func TestInvalidBattles(t *testing.T) {
	for _, b := range badBattles(t) {
		if left := impl.BattleLeft(b); left != -1 {
			t.Errorf("BattleLeft(%v) is %d", b, left)
		}
		if fall, ok := impl.BattleFall(b); ok || fall != nil {
			t.Errorf("BattleFall(%v) is %v, %t", b, fall, ok)
		}
		for _, a := range someActs() {
			if after, ok := impl.BattleDo(b, a); ok || !isNothing(after) {
				t.Errorf("BattleDo(%v, %v) is %v, %t", b, a, after, ok)
			}
			if after, done := impl.BattleRun(b, []impl.Act{a}); done != 0 || !isNothing(after) {
				t.Errorf("BattleRun(%v, [%v]) is %v, %d", b, a, after, done)
			}
		}
		if after, done := impl.BattleRun(b, nil); done != 0 || !isNothing(after) {
			t.Errorf("BattleRun(%v, []) is %v, %d", b, after, done)
		}
		for _, line := range append(questions(), "cut 0", "back 1", "last 1") {
			if after, answer := impl.BattleLine(b, line); answer != "" || !isNothing(after) {
				t.Errorf("BattleLine(%v, %q) is %v, %q", b, line, after, answer)
			}
			if after, answers := impl.BattleSay(b, []string{line}); answers != nil || !isNothing(after) {
				t.Errorf("BattleSay(%v, [%q]) is %v, %q", b, line, after, answers)
			}
		}
		if after, answers := impl.BattleSay(b, nil); answers != nil || !isNothing(after) {
			t.Errorf("BattleSay(%v, []) is %v, %q", b, after, answers)
		}
	}
}

func TestBattlesShareNoMemory(t *testing.T) {
	acts := []impl.Act{{Kind: impl.BtLast, Number: 1}, {Kind: impl.BtCut}, {Kind: impl.BtBack, Number: 1}, {Kind: impl.BtBack, Number: 2}, {Kind: impl.BtCut, Number: 99}, {Kind: 3}}
	lines := []string{"last 1", "cut 0", "back 1", "back 2", "cut 99", "hydra", "what"}
	all := stories(t)
	for i := 0; i < len(all); i += 3 {
		first, cuts, now := lend(rowOfText(all[i].texts[0])), lend(all[i].cuts), lend(rowOfText(all[i].now()))
		b := impl.Battle{First: first.row, Copies: all[i].copies, Cuts: cuts.row, Now: now.row}
		results := []impl.Battle{impl.BattleNew(b.First, b.Copies)}
		for _, a := range acts {
			after, _ := impl.BattleDo(b, a)
			run, _ := impl.BattleRun(b, []impl.Act{a})
			results = append(results, after, run)
		}
		for _, line := range lines {
			after, _ := impl.BattleLine(b, line)
			said, _ := impl.BattleSay(b, []string{line})
			results = append(results, after, said)
		}
		run, _ := impl.BattleRun(b, acts)
		said, _ := impl.BattleSay(b, lines)
		still, _ := impl.BattleRun(b, nil)
		silent, _ := impl.BattleSay(b, nil)
		impl.BattleValid(b)
		impl.BattleLeft(b)
		rows, _ := impl.BattleFall(b)
		for _, r := range append(results, run, said, still, silent) {
			rows = append(rows, r.First, r.Cuts, r.Now)
		}
		checkApart(t, "a function of battles", rows...)
		first.checkKept(t, "a function of battles", rows...)
		cuts.checkKept(t, "a function of battles", rows...)
		now.checkKept(t, "a function of battles", rows...)
	}
}

func TestJournalsAndLinesAreKept(t *testing.T) {
	acts, lines := rowOfActs(3, 30), rowOfLines(3, 30)
	actsBefore, linesBefore := slices.Clone(acts), slices.Clone(lines)
	b := storyOf("(((())()))", 2).battle()
	impl.BattleRun(b, acts)
	impl.JournalText(acts)
	_, answers := impl.BattleSay(b, lines)
	for i := range answers {
		answers[i] = "x"
	}
	if !slices.Equal(acts, actsBefore) || !slices.Equal(lines, linesBefore) {
		t.Error(acts, lines)
	}
	read, _ := impl.ReadJournal("cut 0\ncut 1\n")
	again, _ := impl.ReadJournal("cut 0\ncut 1\n")
	read[0].Number = 7
	if again[0].Number != 0 {
		t.Error("two journals share memory")
	}
}
