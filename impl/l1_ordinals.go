package impl

import (
	"cmp"
	"strconv"
	"strings"
)

// MaxSize is the maximum number of numbers of an ordinal, and MaxTimes the greatest number of a term.
const (
	MaxSize  = 60
	MaxTimes = 9999
)

// maxOrdText is the greatest length of a text that is read: a term is at least two of the numbers of an ordinal, and has at most the ten bytes of +w^()*9999 beside the text of its exponent. It also keeps the readers from nesting too deep.
const maxOrdText = 5 * MaxSize

// term is w to the power of an ordinal, times a number.
type term struct {
	times    int
	exponent []int
}

// OrdValid reports whether a row of 1..MaxSize numbers is an ordinal: how many terms it has, and then for each of them its number, in 1..MaxTimes, and its exponent, an ordinal in the same way, each exponent less than the one before (OrdCompare), and nothing behind.
func OrdValid(o []int) bool {
	return len(o) <= MaxSize && checkedEnd(o, 0) == len(o)
}

// checkedEnd returns the index behind the ordinal that begins at an index of any row, or -1 if there is none.
func checkedEnd(row []int, at int) int {
	if at >= len(row) || row[at] < 0 {
		return -1
	}
	terms := row[at]
	at++
	var before []int
	for i := 0; i < terms; i++ {
		if at >= len(row) || row[at] < 1 || row[at] > MaxTimes {
			return -1
		}
		end := checkedEnd(row, at+1)
		if end < 0 || i > 0 && compareOrds(row[at+1:end], before) >= 0 {
			return -1
		}
		before, at = row[at+1:end], end
	}
	return at
}

// lengthOfOrd returns how many numbers the valid ordinal has with which a row begins.
func lengthOfOrd(row []int) int {
	at := 1
	for open := row[0]; open > 0; open-- {
		open += row[at+1]
		at += 2
	}
	return at
}

// termsOf returns the terms of a valid ordinal; their exponents are parts of it, and so only to be read.
func termsOf(o []int) []term {
	terms := make([]term, o[0])
	at := 1
	for i := range terms {
		end := at + 1 + lengthOfOrd(o[at+1:])
		terms[i] = term{times: o[at], exponent: o[at+1 : end]}
		at = end
	}
	return terms
}

// ordOfTerms returns the row of terms, which is new memory.
func ordOfTerms(terms []term) []int {
	row := []int{len(terms)}
	for _, t := range terms {
		row = append(row, t.times)
		row = append(row, t.exponent...)
	}
	return row
}

// fittingOrd returns the row of terms, and true, if it is a valid ordinal.
func fittingOrd(terms []term) ([]int, bool) {
	o := ordOfTerms(terms)
	if !OrdValid(o) {
		return nil, false
	}
	return o, true
}

func isZero(o []int) bool {
	return o[0] == 0
}

// OrdCompare returns -1 if the first one of two valid ordinals (OrdValid) is less than the second one, 0 if they are equal, and 1 if it is greater: the first term in which they differ decides, by its exponent, and if this is the same, by its number; if there is none, the one with fewer terms is less; -2 for other ordinals.
func OrdCompare(a []int, b []int) int {
	if !OrdValid(a) || !OrdValid(b) {
		return -2
	}
	return compareOrds(a, b)
}

// compareOrds is OrdCompare for rows that are known to be ordinals, so that OrdValid can use it for exponents.
func compareOrds(a []int, b []int) int {
	s, t := termsOf(a), termsOf(b)
	for i := range min(len(s), len(t)) {
		if c := compareOrds(s[i].exponent, t[i].exponent); c != 0 {
			return c
		}
		if c := cmp.Compare(s[i].times, t[i].times); c != 0 {
			return c
		}
	}
	return cmp.Compare(len(s), len(t))
}

// OrdOf returns the ordinal of a number in 0..MaxTimes: without terms for 0, and otherwise with one term, the number with the exponent 0; nil for other numbers.
func OrdOf(n int) []int {
	if n < 0 || n > MaxTimes {
		return nil
	}
	if n == 0 {
		return []int{0}
	}
	return []int{1, n, 0}
}

// OrdNumber returns the number of a valid ordinal that is the one of a number (OrdOf); -1 for other ordinals.
func OrdNumber(o []int) int {
	if !OrdValid(o) {
		return -1
	}
	return numberOf(o)
}

// numberOf returns the number of a valid ordinal, or -1 if it has none.
func numberOf(o []int) int {
	terms := termsOf(o)
	if len(terms) == 0 {
		return 0
	}
	// Exponents descend: where the first one is 0 no other term follows.
	if isZero(terms[0].exponent) {
		return terms[0].times
	}
	return -1
}

// OrdPower returns the ordinal of one term, the number 1 with a valid ordinal as exponent, and true: w to the power of it; nil and false if it has more than MaxSize numbers, and for other ordinals.
func OrdPower(o []int) ([]int, bool) {
	if !OrdValid(o) {
		return nil, false
	}
	return fittingOrd([]term{{times: 1, exponent: o}})
}

// OrdKind returns 0 for the valid ordinal 0, 1 for one whose last term has the exponent 0, and 2 for all others; -1 for other ordinals.
func OrdKind(o []int) int {
	if !OrdValid(o) {
		return -1
	}
	return kindOf(o)
}

// kindOf returns the kind of a valid ordinal.
func kindOf(o []int) int {
	terms := termsOf(o)
	if len(terms) == 0 {
		return 0
	}
	if isZero(terms[len(terms)-1].exponent) {
		return 1
	}
	return 2
}

// OrdNext returns the least ordinal that is greater than a valid one, and true: its last term has the exponent 0, and 1 more as its number, or there is such a term more, with the number 1; nil and false if it would not be valid, and for other ordinals.
func OrdNext(o []int) ([]int, bool) {
	if !OrdValid(o) {
		return nil, false
	}
	terms := termsOf(o)
	if OrdKind(o) == 1 {
		terms[len(terms)-1].times++
	} else {
		terms = append(terms, term{times: 1, exponent: OrdOf(0)})
	}
	return fittingOrd(terms)
}

// OrdBefore returns the valid ordinal of which a valid one of the kind 1 (OrdKind) is OrdNext, and true; nil and false for others.
func OrdBefore(o []int) ([]int, bool) {
	if OrdKind(o) != 1 {
		return nil, false
	}
	return ordOfTerms(lastLessByOne(termsOf(o))), true
}

// lastLessByOne makes the number of the last one of terms less by 1, and leaves this out if it would have none.
func lastLessByOne(terms []term) []term {
	last := len(terms) - 1
	terms[last].times--
	if terms[last].times == 0 {
		return terms[:last]
	}
	return terms
}

// OrdDepth returns how deep the exponents of a valid ordinal are: 0 for the ordinal 0, and otherwise one more than the depth of its first exponent; -1 for other ordinals.
func OrdDepth(o []int) int {
	if !OrdValid(o) {
		return -1
	}
	depth := 0
	// The first exponent begins two numbers further: behind how many terms there are, and the first number.
	for at := 0; o[at] > 0; at += 2 {
		depth++
	}
	return depth
}

// OrdText returns the text of a valid ordinal: 0 for the ordinal 0, and otherwise its terms with plus signs between them: the number alone for the exponent 0; w for the exponent 1; w, ^ and the text of the exponent for an exponent that is another number, or w; w, ^ and the text of the exponent in round brackets for all others; and behind these, if the number is greater than 1, an asterisk and the number; "" for other ordinals.
func OrdText(o []int) string {
	if !OrdValid(o) {
		return ""
	}
	return textOfOrd(o)
}

func textOfOrd(o []int) string {
	if isZero(o) {
		return "0"
	}
	var texts []string
	for _, t := range termsOf(o) {
		texts = append(texts, textOfTerm(t))
	}
	return strings.Join(texts, "+")
}

func textOfTerm(t term) string {
	if isZero(t.exponent) {
		return strconv.Itoa(t.times)
	}
	text := textOfPower(t.exponent)
	if t.times > 1 {
		text += "*" + strconv.Itoa(t.times)
	}
	return text
}

func textOfPower(exponent []int) string {
	text := textOfOrd(exponent)
	if text == "1" {
		return "w"
	}
	if text == "w" || numberOf(exponent) >= 0 {
		return "w^" + text
	}
	return "w^(" + text + ")"
}

// ReadOrd returns the valid ordinal whose OrdText a text is, and true; nil and false if there is none.
func ReadOrd(s string) ([]int, bool) {
	// A panic of the readers below leaves the results zero: there is no such ordinal.
	defer func() { _ = recover() }()
	if len(s) > maxOrdText {
		return nil, false
	}
	o, _ := readTerms(s)
	// The readers let more pass than they need to: only what is written back as the same text counts.
	if OrdText(o) != s {
		return nil, false
	}
	return o, true
}

// readTerms reads terms with plus signs between them, or 0, and returns their row and the rest of the text.
func readTerms(s string) ([]int, string) {
	if rest, ok := strings.CutPrefix(s, "0"); ok {
		return OrdOf(0), rest
	}
	first, rest := readTerm(s)
	terms := []term{first}
	for strings.HasPrefix(rest, "+") {
		var next term
		next, rest = readTerm(rest[1:])
		terms = append(terms, next)
	}
	return ordOfTerms(terms), rest
}

func readTerm(s string) (term, string) {
	rest, ok := strings.CutPrefix(s, "w")
	if !ok {
		n, rest := readTimes(s)
		return term{times: n, exponent: OrdOf(0)}, rest
	}
	t := term{times: 1, exponent: OrdOf(1)}
	if power, ok := strings.CutPrefix(rest, "^"); ok {
		t.exponent, rest = readExponent(power)
	}
	if times, ok := strings.CutPrefix(rest, "*"); ok {
		t.times, rest = readTimes(times)
	}
	return t, rest
}

func readExponent(s string) ([]int, string) {
	if rest, ok := strings.CutPrefix(s, "w"); ok {
		return ordOfTerms([]term{{times: 1, exponent: OrdOf(1)}}), rest
	}
	inner, ok := strings.CutPrefix(s, "(")
	if !ok {
		n, rest := readTimes(s)
		return OrdOf(n), rest
	}
	o, rest := readTerms(inner)
	rest, ok = strings.CutPrefix(rest, ")")
	if !ok {
		panic("an exponent is not closed")
	}
	return o, rest
}

func readTimes(s string) (int, string) {
	rest := strings.TrimLeft(s, "0123456789")
	n, err := strconv.Atoi(s[:len(s)-len(rest)])
	if err != nil || n > MaxTimes {
		panic("a number of a term is missing or too great")
	}
	return n, rest
}
