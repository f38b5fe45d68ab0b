package tests

import (
	"fmt"
	"math"
	"slices"
	"testing"

	"loop.example/g02079/impl"
)

// These assignments do not compile if a signature differs from the document.
var (
	_ func([]int) bool                 = impl.IsLyndon
	_ func([]int) [][]int              = impl.LyndonFactors
	_ func([]int) []int                = impl.LeastConjugate
	_ func([]int) [][]int              = impl.ConjugatesOf
	_ func(int, int) ([][]int, bool)   = impl.LyndonWords
	_ func(int, int) int               = impl.CountLyndon
	_ func(int, int) int               = impl.CountNecklaces
	_ func([]int) ([]int, []int, bool) = impl.StandardSplit
)

// longestLyndon contains, for each number of letters from 0 on, the greatest length that LyndonWords allows.
var longestLyndon = []int{0, 8, 8, 5, 4, 0}

// lyndonCounts contains, for 1 to 4 letters, the numbers of Lyndon words of 1 to 20 letters.
var lyndonCounts = [][]int{
	{1, 0, 0, 0, 0, 0, 0, 0, 0, 0, 0, 0, 0, 0, 0, 0, 0, 0, 0, 0},
	{2, 1, 2, 3, 6, 9, 18, 30, 56, 99, 186, 335, 630, 1161, 2182, 4080, 7710, 14532, 27594, 52377},
	{3, 3, 8, 18, 48, 116, 312, 810, 2184, 5880, 16104, 44220, 122640, 341484, 956576, 2690010, 7596480, 21522228, 61171656, 174336264},
	{4, 6, 20, 60, 204, 670, 2340, 8160, 29120, 104754, 381300, 1397740, 5162220, 19172790, 71582716, 268431360, 1010580540, 3817733920, 14467258260, 54975528948},
}

// necklaceCounts contains the numbers of classes of conjugates in the same way.
var necklaceCounts = [][]int{
	{1, 1, 1, 1, 1, 1, 1, 1, 1, 1, 1, 1, 1, 1, 1, 1, 1, 1, 1, 1},
	{2, 3, 4, 6, 8, 14, 20, 36, 60, 108, 188, 352, 632, 1182, 2192, 4116, 7712, 14602, 27596, 52488},
	{3, 6, 11, 24, 51, 130, 315, 834, 2195, 5934, 16107, 44368, 122643, 341802, 956635, 2690844, 7596483, 21524542, 61171659, 174342216},
	{4, 10, 24, 70, 208, 700, 2344, 8230, 29144, 104968, 381304, 1398500, 5162224, 19175140, 71582944, 268439590, 1010580544, 3817763740, 14467258264, 54975633976},
}

// lyndonLists contains lists of any numbers: those of borderWords, all short ones, and powers of drawn words with something behind them.
func lyndonLists() [][]int {
	l := slices.Concat(borderWords(), listsOver(0, 3, 7), listsOver(-1, 1, 12))
	draw := drawing(11)
	for _, size := range []int{1, 2, 3, 5, 8, 13, 21, 32, 33} {
		var part []int
		for range size {
			part = append(part, draw(3)-1)
		}
		least := wantLeast(part)
		for n := range size {
			for letter := -1; letter < 2; letter++ {
				l = append(l, slices.Concat(least, least, least[:n], []int{letter}), slices.Concat(least, least[:n], []int{letter}, least))
			}
		}
		l = append(l, least, slices.Concat(least, least), slices.Concat(least, least, least), mirrored(least))
	}
	return append(l, counting(-30, 60), mirrored(counting(-30, 60)), letters(squareFree(200)), letters(dejean(200)))
}

// wantLyndon holds a word against each of its proper ends.
func wantLyndon(w []int) bool {
	for at := 1; at < len(w); at++ {
		if slices.Compare(w, w[at:]) >= 0 {
			return false
		}
	}
	return len(w) > 0
}

// wantLyndonFactors cuts off the least end until nothing is left.
func wantLyndonFactors(w []int) [][]int {
	var l [][]int
	for len(w) > 0 {
		last := len(w) - 1
		for at := range w {
			if slices.Compare(w[at:], w[last:]) < 0 {
				last = at
			}
		}
		l = append(l, w[last:])
		w = w[:last]
	}
	slices.Reverse(l)
	return l
}

// areFactors tells whether these are Lyndon words of which none is less than the next one.
func areFactors(parts [][]int) bool {
	for i, part := range parts {
		if !wantLyndon(part) || i > 0 && slices.Compare(parts[i-1], part) < 0 {
			return false
		}
	}
	return true
}

// turns contains the word and all words that arise by moving its first letter to the end again and again, also equal ones.
func turns(w []int) [][]int {
	var l [][]int
	for at := range w {
		l = append(l, slices.Concat(w[at:], w[:at]))
	}
	return l
}

// wantConjugates is ConjugatesOf without its limits.
func wantConjugates(w []int) [][]int {
	l := turns(w)
	slices.SortFunc(l, slices.Compare)
	return slices.CompactFunc(l, slices.Equal)
}

// wantLeast is the least turn of a word that is not empty.
func wantLeast(w []int) []int {
	return slices.MinFunc(turns(w), slices.Compare)
}

// wantSplit is the place of the longest proper end that is a Lyndon word, for a word of two letters at least.
func wantSplit(w []int) int {
	at := 1
	for !wantLyndon(w[at:]) {
		at++
	}
	return at
}

func sameWords(a [][]int, b [][]int) bool {
	return slices.EqualFunc(a, b, slices.Equal)
}

// checkFactors checks LyndonFactors and IsLyndon.
func checkFactors(t *testing.T, w []int, want [][]int) {
	t.Helper()
	got := impl.LyndonFactors(w)
	if !sameWords(got, want) {
		t.Fatalf("LyndonFactors(%v) = %v, want %v", w, got, want)
	}
	if got := impl.IsLyndon(w); got != (len(want) == 1) {
		t.Fatalf("IsLyndon(%v) = %v, but it has the factors %v", w, got, want)
	}
}

// checkConjugates checks ConjugatesOf and LeastConjugate for at most 64 letters.
func checkConjugates(t *testing.T, w []int, want [][]int) {
	t.Helper()
	if got := impl.ConjugatesOf(w); !sameWords(got, want) {
		t.Fatalf("ConjugatesOf(%v) = %v, want %v", w, got, want)
	}
	least := w
	if len(want) > 0 {
		least = want[0]
	}
	if got := impl.LeastConjugate(w); !slices.Equal(got, least) {
		t.Fatalf("LeastConjugate(%v) = %v, want %v", w, got, least)
	}
}

// checkNoConjugates checks that a word is its own least conjugate because it has none.
func checkNoConjugates(t *testing.T, w []int) {
	t.Helper()
	if got := impl.ConjugatesOf(w); len(got) != 0 {
		t.Fatalf("ConjugatesOf of %d letters has %d words, want none", len(w), len(got))
	}
	if got := impl.LeastConjugate(w); !slices.Equal(got, w) {
		t.Fatalf("LeastConjugate of %d letters is another word", len(w))
	}
}

func checkSplit(t *testing.T, w []int, at int) {
	t.Helper()
	first, second, ok := impl.StandardSplit(w)
	if !ok || !slices.Equal(first, w[:at]) || !slices.Equal(second, w[at:]) {
		t.Fatalf("StandardSplit(%v) = %v, %v, %v, want %v, %v", w, first, second, ok, w[:at], w[at:])
	}
}

func checkNoSplit(t *testing.T, w []int) {
	t.Helper()
	if first, second, ok := impl.StandardSplit(w); ok || len(first) != 0 || len(second) != 0 {
		t.Fatalf("StandardSplit(%v) = %v, %v, %v, want nothing", w, first, second, ok)
	}
}

func TestLyndonFactorExamples(t *testing.T) {
	const low, high = math.MinInt, math.MaxInt
	for _, c := range []struct {
		w       []int
		lengths []int
	}{
		{letters("001"), []int{3}},
		{letters("010"), []int{2, 1}},
		{letters("00"), []int{1, 1}},
		{letters("2"), []int{1}},
		{letters("010010"), []int{2, 3, 1}},
		{letters("0101"), []int{2, 2}},
		{letters("01011"), []int{5}},
		{letters("0100"), []int{2, 1, 1}},
		{letters("10"), []int{1, 1}},
		{letters("3210"), []int{1, 1, 1, 1}},
		{letters("0123"), []int{4}},
		{letters("0120"), []int{3, 1}},
		{letters("0010010"), []int{3, 3, 1}},
		{letters("00100101"), []int{8}},
		{letters("001001000"), []int{3, 3, 1, 1, 1}},
		{letters("001001"), []int{3, 3}},
		{letters("0010011"), []int{7}},
		{letters("01101001"), []int{3, 2, 3}},
		{letters("102013"), []int{1, 2, 3}},
		{letters("f0f"), []int{1, 2}},
		// Numbers that are no letters.
		{[]int{low, high}, []int{2}},
		{[]int{high, low}, []int{1, 1}},
		{[]int{-1, 0, -2}, []int{2, 1}},
		{[]int{-2, -1, -2, -1, 0}, []int{5}},
		{[]int{0, 1 << 32}, []int{2}},
		{[]int{1 << 32, 0}, []int{1, 1}},
		{[]int{0, low, high, low, 0}, []int{1, 2, 2}},
		{[]int{1, low, 1, low + 1}, []int{1, 3}},
	} {
		var want [][]int
		rest := c.w
		for _, n := range c.lengths {
			want = append(want, rest[:n])
			rest = rest[n:]
		}
		checkFactors(t, c.w, want)
	}
}

func TestConjugateExamples(t *testing.T) {
	for _, c := range []struct {
		word string
		want []string
	}{
		{"0", []string{"0"}},
		{"10", []string{"01", "10"}},
		{"11", []string{"11"}},
		{"100", []string{"001", "010", "100"}},
		{"0101", []string{"0101", "1010"}},
		{"1010", []string{"0101", "1010"}},
		{"0110", []string{"0011", "0110", "1001", "1100"}},
		{"201", []string{"012", "120", "201"}},
		{"210", []string{"021", "102", "210"}},
		{"2020", []string{"0202", "2020"}},
		{"010010", []string{"001001", "010010", "100100"}},
		{"a09", []string{"09a", "9a0", "a09"}},
	} {
		var want [][]int
		for _, word := range c.want {
			want = append(want, letters(word))
		}
		checkConjugates(t, letters(c.word), want)
	}
	checkConjugates(t, []int{-1, math.MaxInt, math.MinInt}, [][]int{{math.MinInt, -1, math.MaxInt}, {-1, math.MaxInt, math.MinInt}, {math.MaxInt, math.MinInt, -1}})
}

func TestStandardSplitExamples(t *testing.T) {
	for _, c := range []struct {
		word string
		at   int
	}{
		{"01", 1},
		{"001", 1},
		{"011", 2},
		{"00101", 3},
		{"00011", 1},
		{"01011", 2},
		{"0011", 1},
		{"0111", 3},
		{"001011", 1},
		{"0010101", 5},
		{"0010011", 3},
		{"012", 1},
		{"021", 2},
		{"0102", 2},
		{"0121", 3},
		{"00102", 1},
		{"0af", 1},
	} {
		checkSplit(t, letters(c.word), c.at)
	}
	for _, word := range []string{"00", "10", "010", "0101", "100", "000", "110", "0110", "001001", "0010", "1234560", "f0"} {
		checkNoSplit(t, letters(word))
	}
	checkSplit(t, []int{math.MinInt, math.MaxInt}, 1)
	checkSplit(t, []int{math.MinInt, math.MaxInt, -1}, 2)
	checkNoSplit(t, []int{math.MaxInt, math.MinInt})
}

func TestLyndonOfTheEmptyWord(t *testing.T) {
	for _, w := range [][]int{nil, {}, make([]int, 0, 7)} {
		checkFactors(t, w, nil)
		checkNoConjugates(t, w)
		checkNoSplit(t, w)
	}
}

func TestLyndonOfOneLetter(t *testing.T) {
	for _, letter := range anyNumbers {
		w := []int{letter}
		checkFactors(t, w, [][]int{w})
		checkConjugates(t, w, [][]int{w})
		// It is a Lyndon word, but has no two parts.
		checkNoSplit(t, w)
	}
}

func TestLyndonOfTwoLetters(t *testing.T) {
	for _, a := range anyNumbers {
		for _, b := range anyNumbers {
			w := []int{a, b}
			if a < b {
				checkFactors(t, w, [][]int{w})
				checkConjugates(t, w, [][]int{w, {b, a}})
				checkSplit(t, w, 1)
			} else {
				checkFactors(t, w, [][]int{{a}, {b}})
				checkNoSplit(t, w)
			}
		}
	}
}

// Equal letters are as many factors, but have only one conjugate.
func TestLyndonOfEqualLetters(t *testing.T) {
	for _, letter := range []int{math.MinInt, -1, 0, 3, 16, math.MaxInt} {
		for size := 2; size <= 130; size++ {
			w := repeated(letter, size)
			checkFactors(t, w, slices.Repeat([][]int{{letter}}, size))
			checkNoSplit(t, w)
			if size <= 64 {
				checkConjugates(t, w, [][]int{w})
			} else {
				checkNoConjugates(t, w)
			}
		}
	}
}

// A letter behind equal ones decides how many factors there are.
func TestOneLetterAmongEqualLetters(t *testing.T) {
	for _, size := range []int{2, 3, 10, 63, 64, 65, 400} {
		for at := range size {
			w := repeated(0, size)
			w[at] = 1
			// The ones before the greater letter belong to it, those behind it are alone.
			want := append([][]int{w[:at+1]}, slices.Repeat([][]int{{0}}, size-at-1)...)
			checkFactors(t, w, want)
			w[at] = -1
			// The lesser letter takes all that follow it.
			want = append(slices.Repeat([][]int{{0}}, at), w[at:])
			checkFactors(t, w, want)
		}
	}
}

// The factors are Lyndon words, none is less than the next one, and they make up the word.
func TestLyndonFactorsOfSamples(t *testing.T) {
	single := 0
	for _, w := range lyndonLists() {
		factors := impl.LyndonFactors(w)
		if !slices.Equal(slices.Concat(factors...), w) {
			t.Fatalf("LyndonFactors(%v) = %v, which is another word", w, factors)
		}
		if !areFactors(factors) {
			t.Fatalf("LyndonFactors(%v) = %v, which is no product of Lyndon words that do not increase", w, factors)
		}
		for i, factor := range factors {
			if !impl.IsLyndon(factor) || i > 0 && impl.CompareWords(factors[i-1], factor) < 0 {
				t.Fatalf("LyndonFactors(%v) = %v, which IsLyndon or CompareWords contradicts", w, factors)
			}
		}
		checkFactors(t, w, wantLyndonFactors(w))
		if wantLyndon(w) != (len(factors) == 1) {
			t.Fatalf("%v has the factors %v", w, factors)
		}
		single += oneFor(len(factors) == 1)
	}
	if single < 1000 {
		t.Errorf("only %d words have one factor", single)
	}
}

// There is no other division into Lyndon words that do not increase.
func TestOnlyOneDivisionIntoFactors(t *testing.T) {
	for _, w := range slices.Concat(listsOver(0, 2, 9), listsOver(-1, 2, 6)) {
		factors := impl.LyndonFactors(w)
		found := 0
		for cuts := range 1 << max(len(w)-1, 0) {
			parts := cutApart(w, cuts)
			if areFactors(parts) {
				found++
				if !sameWords(parts, factors) {
					t.Fatalf("LyndonFactors(%v) = %v, want %v", w, factors, parts)
				}
			}
		}
		if found != 1 {
			t.Fatalf("%v has %d divisions", w, found)
		}
	}
}

// cutApart cuts a word behind the letters whose bits are set.
func cutApart(w []int, cuts int) [][]int {
	var parts [][]int
	from := 0
	for i := range w {
		if i+1 == len(w) || cuts>>i&1 == 1 {
			parts = append(parts, w[from:i+1])
			from = i + 1
		}
	}
	return parts
}

// Lyndon words that are put together in an order that does not increase are found again.
func TestFactorsOfProducts(t *testing.T) {
	draw := drawing(111)
	for letters := 1; letters <= 4; letters++ {
		var all [][]int
		for n := 1; n <= longestLyndon[letters]; n++ {
			words, _ := impl.LyndonWords(letters, n)
			all = append(all, words...)
		}
		for range 300 {
			var product [][]int
			for range draw(12) {
				product = append(product, all[draw(len(all))])
			}
			slices.SortFunc(product, func(u []int, v []int) int { return slices.Compare(v, u) })
			checkFactors(t, slices.Concat(product...), product)
		}
	}
}

// Two Lyndon words together are one exactly if the first one is less than the second one.
func TestLyndonWordsOfTwo(t *testing.T) {
	var all [][]int
	for n := 1; n <= 5; n++ {
		words, _ := impl.LyndonWords(3, n)
		all = append(all, words...)
	}
	for _, u := range all {
		for _, v := range all {
			w := slices.Concat(u, v)
			if got := impl.IsLyndon(w); got != (slices.Compare(u, v) < 0) {
				t.Fatalf("IsLyndon(%v) = %v for the Lyndon words %v and %v", w, got, u, v)
			}
		}
	}
}

// The factors of the Fibonacci word have every second of the Fibonacci numbers as lengths.
func TestLyndonFactorsOfTheFibonacciWord(t *testing.T) {
	lengths := []int{2, 5, 13, 34, 89, 233, 610, 1597}
	total := 0
	for i, n := range lengths {
		total += n
		factors := impl.LyndonFactors(letters(fibonacci(total)))
		if len(factors) != i+1 {
			t.Fatalf("the first %d letters have %d factors, want %d", total, len(factors), i+1)
		}
		for k, factor := range factors {
			if len(factor) != lengths[k] {
				t.Fatalf("factor %d of the first %d letters has %d letters, want %d", k, total, len(factor), lengths[k])
			}
		}
	}
}

// Conjugates are different, ordered, and have one least word.
func TestConjugatesOfSamples(t *testing.T) {
	for _, w := range lessThan(lyndonLists(), 65) {
		if len(w) == 0 {
			continue
		}
		conjugates := impl.ConjugatesOf(w)
		for i := 1; i < len(conjugates); i++ {
			if impl.CompareWords(conjugates[i-1], conjugates[i]) != -1 {
				t.Fatalf("ConjugatesOf(%v) = %v, which does not ascend", w, conjugates)
			}
		}
		if !slices.ContainsFunc(conjugates, func(c []int) bool { return slices.Equal(c, w) }) {
			t.Fatalf("ConjugatesOf(%v) = %v, which lacks the word", w, conjugates)
		}
		if len(conjugates) != len(impl.RootOf(w)) {
			t.Fatalf("ConjugatesOf(%v) has %d words, but the root is %v", w, len(conjugates), impl.RootOf(w))
		}
		checkConjugates(t, w, wantConjugates(w))
	}
}

// All conjugates have the same conjugates.
func TestConjugatesOfConjugates(t *testing.T) {
	for _, w := range lessThan(lyndonLists(), 22) {
		conjugates := impl.ConjugatesOf(w)
		for _, conjugate := range conjugates {
			checkConjugates(t, conjugate, conjugates)
		}
	}
}

// A word is a Lyndon word exactly if it is primitive and its own least conjugate; the least conjugate repeats one.
func TestLeastConjugatesAndLyndonWords(t *testing.T) {
	for _, w := range lessThan(lyndonLists(), 65) {
		least := impl.LeastConjugate(w)
		if got, want := impl.IsLyndon(w), impl.IsPrimitive(w) && slices.Equal(least, w); got != want {
			t.Fatalf("IsLyndon(%v) = %v, but the least conjugate is %v", w, got, least)
		}
		if len(w) > 0 && !impl.IsLyndon(impl.RootOf(least)) {
			t.Fatalf("LeastConjugate(%v) = %v, whose root is no Lyndon word", w, least)
		}
		if factors := impl.LyndonFactors(least); len(w) > 0 && len(factors) != len(w)/len(impl.RootOf(w)) {
			t.Fatalf("LeastConjugate(%v) = %v with the factors %v", w, least, factors)
		}
	}
}

func TestConjugateLimits(t *testing.T) {
	for _, size := range []int{63, 64} {
		for _, w := range [][]int{mirrored(counting(-5, size)), append(repeated(1, size-1), 0), repeated(7, size), turning(2, size), letters(thueMorse(size)), letters(fibonacci(size))} {
			checkConjugates(t, w, wantConjugates(w))
		}
		if got := len(impl.ConjugatesOf(mirrored(counting(-5, size)))); got != size {
			t.Errorf("%d different letters have %d conjugates", size, got)
		}
	}
	for _, size := range []int{65, 66, 128, 129, 400, 401, 1 << 16, 1 << 20} {
		for _, w := range [][]int{mirrored(counting(-5, size)), append(repeated(1, size-1), 0), repeated(7, size), turning(2, size)} {
			checkNoConjugates(t, w)
		}
	}
}

// Also for the longer words, for which there are no conjugates, the other functions know no limit.
func TestLyndonOfLongerWords(t *testing.T) {
	for _, size := range []int{64, 65, 128, 129, 256, 400, 401, 1000} {
		for _, w := range [][]int{append(repeated(0, size-1), 1), append([]int{-1}, repeated(7, size-1)...), counting(-500, size), slices.Concat(repeated(0, size/2), repeated(3, size-size/2))} {
			checkFactors(t, w, [][]int{w})
			checkSplit(t, w, wantSplit(w))
		}
	}
}

// The longest proper end of a Lyndon word that is one leaves one, and is greater than it.
func TestStandardSplitsOfSamples(t *testing.T) {
	splits := 0
	for _, w := range lyndonLists() {
		if len(w) < 2 || !wantLyndon(w) {
			checkNoSplit(t, w)
			continue
		}
		splits++
		first, second, ok := impl.StandardSplit(w)
		if !ok || !slices.Equal(slices.Concat(first, second), w) {
			t.Fatalf("StandardSplit(%v) = %v, %v, %v, which is another word", w, first, second, ok)
		}
		if !wantLyndon(first) || !wantLyndon(second) || !impl.IsLyndon(first) || !impl.IsLyndon(second) {
			t.Fatalf("StandardSplit(%v) = %v, %v, which are no Lyndon words", w, first, second)
		}
		if slices.Compare(first, second) >= 0 {
			t.Fatalf("StandardSplit(%v) = %v, %v, which does not ascend", w, first, second)
		}
		for at := 1; at < len(first); at++ {
			if impl.IsLyndon(w[at:]) {
				t.Fatalf("StandardSplit(%v) = %v, %v, but the end %v is longer", w, first, second, w[at:])
			}
		}
		checkSplit(t, w, wantSplit(w))
	}
	if splits < 1000 {
		t.Errorf("only %d words are split", splits)
	}
}

// What the letters are called does not matter, if their order is the same.
func TestLyndonOfOtherLetters(t *testing.T) {
	names := []int{math.MinInt, -1 << 40, -1, 0, 1 << 40, math.MaxInt}
	for first := range len(names) - 2 {
		for _, w := range listsOver(0, 3, 6) {
			var renamed []int
			for _, letter := range w {
				renamed = append(renamed, names[first+letter])
			}
			factors, others := impl.LyndonFactors(w), impl.LyndonFactors(renamed)
			if !slices.EqualFunc(factors, others, func(a []int, b []int) bool { return len(a) == len(b) }) {
				t.Fatalf("LyndonFactors(%v) = %v, but LyndonFactors(%v) = %v", w, factors, renamed, others)
			}
			checkFactors(t, renamed, wantLyndonFactors(renamed))
			if len(w) > 0 {
				checkConjugates(t, renamed, wantConjugates(renamed))
			}
			if _, second, ok := impl.StandardSplit(w); ok {
				checkSplit(t, renamed, len(w)-len(second))
			} else {
				checkNoSplit(t, renamed)
			}
		}
	}
}

// The time must not grow with the square of the length, because there may be any number of letters.
func TestLyndonOfVeryLongWords(t *testing.T) {
	const size = 1 << 20
	thue := letters(thueMorse(size))
	for _, c := range []struct {
		name    string
		w       []int
		factors int
	}{
		{"equal letters", repeated(-9, size), size},
		{"equal letters and a greater one", append(repeated(0, size-1), 1), 1},
		{"equal letters and a lesser one", append(repeated(0, size-1), -1), size},
		{"ascending letters", counting(-5, size), 1},
		{"descending letters", mirrored(counting(-5, size)), size},
		{"letters that take turns", turning(2, size), size / 2},
		{"letters that take turns, the greater one first", append([]int{1}, turning(2, size-1)...), size/2 + 1},
		{"half of them equal, the other half, too, with another one in between", slices.Concat(repeated(0, size/2), []int{1}, repeated(0, size/2)), 1 + size/2},
		{"two halves, the second one with a greater end", slices.Concat(repeated(0, size/2-1), []int{1}, repeated(0, size/2-1), []int{2}), 1},
	} {
		got := impl.LyndonFactors(c.w)
		if len(got) != c.factors || !slices.Equal(slices.Concat(got...), c.w) {
			t.Errorf("%s: there are %d factors, want %d", c.name, len(got), c.factors)
		}
		if impl.IsLyndon(c.w) != (c.factors == 1) {
			t.Errorf("%s: IsLyndon = %v", c.name, impl.IsLyndon(c.w))
		}
		if _, _, ok := impl.StandardSplit(c.w); ok != (c.factors == 1) {
			t.Errorf("%s: StandardSplit = %v", c.name, ok)
		}
	}
	if got := impl.LyndonFactors(thue); !slices.Equal(slices.Concat(got...), thue) || !slices.IsSortedFunc(got, func(u []int, v []int) int { return slices.Compare(v, u) }) {
		t.Errorf("the Thue-Morse word has %d factors, which are wrong", len(got))
	}
	first, second, ok := impl.StandardSplit(append(repeated(0, size-1), 1))
	if !ok || !slices.Equal(first, []int{0}) || len(second) != size-1 {
		t.Errorf("StandardSplit of equal letters and a greater one has %d and %d letters", len(first), len(second))
	}
	first, second, ok = impl.StandardSplit(append([]int{0}, repeated(1, size-1)...))
	if !ok || !slices.Equal(second, []int{1}) || len(first) != size-1 {
		t.Errorf("StandardSplit of a letter and greater ones has %d and %d letters", len(first), len(second))
	}
}

// exactly contains all words of n letters below the number, in order.
func exactly(letters int, n int) [][]int {
	l := listsOver(0, letters, n)
	return slices.DeleteFunc(l, func(w []int) bool { return len(w) != n })
}

func TestLyndonWordsExamples(t *testing.T) {
	for _, c := range []struct {
		letters, n int
		want       []string
	}{
		{1, 1, []string{"0"}},
		{1, 2, nil},
		{1, 8, nil},
		{2, 1, []string{"0", "1"}},
		{2, 2, []string{"01"}},
		{2, 3, []string{"001", "011"}},
		{2, 4, []string{"0001", "0011", "0111"}},
		{2, 5, []string{"00001", "00011", "00101", "00111", "01011", "01111"}},
		{2, 6, []string{"000001", "000011", "000101", "000111", "001011", "001101", "001111", "010111", "011111"}},
		{3, 1, []string{"0", "1", "2"}},
		{3, 2, []string{"01", "02", "12"}},
		{3, 3, []string{"001", "002", "011", "012", "021", "022", "112", "122"}},
		{4, 1, []string{"0", "1", "2", "3"}},
		{4, 2, []string{"01", "02", "03", "12", "13", "23"}},
	} {
		got, ok := impl.LyndonWords(c.letters, c.n)
		if !ok {
			t.Fatalf("LyndonWords(%d, %d) fails", c.letters, c.n)
		}
		checkWords(t, got, c.want, "LyndonWords(%d, %d)", c.letters, c.n)
	}
}

// LyndonWords contains all Lyndon words, in order, and they are as many as CountLyndon says.
func TestLyndonWordsAreAll(t *testing.T) {
	for letters := 1; letters <= 4; letters++ {
		for n := 1; n <= longestLyndon[letters]; n++ {
			got, ok := impl.LyndonWords(letters, n)
			want := slices.DeleteFunc(exactly(letters, n), func(w []int) bool { return !wantLyndon(w) })
			if !ok || !sameWords(got, want) {
				t.Fatalf("LyndonWords(%d, %d) = %v, %v, want %v", letters, n, got, ok, want)
			}
			if count := impl.CountLyndon(letters, n); count != len(got) {
				t.Fatalf("CountLyndon(%d, %d) = %d, but there are %d", letters, n, count, len(got))
			}
			for i, w := range got {
				if !impl.IsLyndon(w) || len(w) != n || i > 0 && impl.CompareWords(got[i-1], w) != -1 {
					t.Fatalf("LyndonWords(%d, %d) = %v", letters, n, got)
				}
			}
		}
	}
}

// countNumbers contains the numbers around those that the functions with two numbers allow, and some that are far away.
func countNumbers() []int {
	return append(counting(-21, 60), math.MinInt, math.MinInt+1, -1<<32, 64, 300, 301, 1<<32, 1<<32+1, 1<<32+2, 1<<62, math.MaxInt-1, math.MaxInt)
}

func TestLyndonWordsLimits(t *testing.T) {
	numbers := countNumbers()
	for _, letters := range numbers {
		for _, n := range numbers {
			want := letters >= 1 && letters <= 4 && n >= 1 && n <= longestLyndon[letters]
			got, ok := impl.LyndonWords(letters, n)
			if ok != want {
				t.Errorf("LyndonWords(%d, %d) = %v, want %v", letters, n, ok, want)
			}
			if !ok && len(got) != 0 {
				t.Errorf("LyndonWords(%d, %d) fails with %v", letters, n, got)
			}
		}
	}
	// There are 243 and 256 words at the bound, but 729 and 1024 beyond it; one letter makes only one word.
	for _, c := range []struct {
		letters, n, want int
	}{{1, 8, 0}, {1, 9, -1}, {2, 8, 30}, {2, 9, -1}, {3, 5, 48}, {3, 6, -1}, {4, 4, 60}, {4, 5, -1}, {5, 1, -1}, {5, 3, -1}, {0, 1, -1}, {0, 0, -1}, {1, 0, -1}, {4, 0, -1}, {2, -1, -1}, {-2, 2, -1}, {-1, -1, -1}} {
		got, ok := impl.LyndonWords(c.letters, c.n)
		if ok != (c.want >= 0) || len(got) != max(c.want, 0) {
			t.Errorf("LyndonWords(%d, %d) has %d words and %v, want %d", c.letters, c.n, len(got), ok, c.want)
		}
	}
}

func TestLyndonCounts(t *testing.T) {
	for i, counts := range lyndonCounts {
		for k, want := range counts {
			if got := impl.CountLyndon(i+1, k+1); got != want {
				t.Errorf("CountLyndon(%d, %d) = %d, want %d", i+1, k+1, got, want)
			}
		}
	}
}

func TestNecklaceCounts(t *testing.T) {
	for i, counts := range necklaceCounts {
		for k, want := range counts {
			if got := impl.CountNecklaces(i+1, k+1); got != want {
				t.Errorf("CountNecklaces(%d, %d) = %d, want %d", i+1, k+1, got, want)
			}
		}
	}
}

func power(base int, exponent int) int {
	p := 1
	for range exponent {
		p *= base
	}
	return p
}

// Each word is a conjugate of a power of one Lyndon word, which has as many conjugates as letters.
func TestLyndonCountsMakeUpAllWords(t *testing.T) {
	for letters := 1; letters <= 4; letters++ {
		for n := 1; n <= 20; n++ {
			words, classes := 0, 0
			for d := 1; d <= n; d++ {
				if n%d == 0 {
					words += d * impl.CountLyndon(letters, d)
					classes += impl.CountLyndon(letters, d)
				}
			}
			if words != power(letters, n) {
				t.Errorf("the Lyndon words over %d letters make up %d words of %d letters", letters, words, n)
			}
			if got := impl.CountNecklaces(letters, n); got != classes {
				t.Errorf("CountNecklaces(%d, %d) = %d, but there are %d Lyndon words", letters, n, got, classes)
			}
		}
	}
}

// The number of classes is the mean number of words that a turn does not change.
func TestNecklacesAreTheMeanOfTurns(t *testing.T) {
	for letters := 1; letters <= 4; letters++ {
		for n := 1; n <= 20; n++ {
			unchanged := 0
			for turn := 1; turn <= n; turn++ {
				unchanged += power(letters, greatestDivisor(turn, n))
			}
			if got := impl.CountNecklaces(letters, n); got*n != unchanged {
				t.Errorf("CountNecklaces(%d, %d) = %d, but the turns leave %d words", letters, n, got, unchanged)
			}
		}
	}
}

// The classes of conjugates are as many as CountNecklaces says, and those of Lyndon words as many as CountLyndon says.
func TestClassesOfConjugates(t *testing.T) {
	for letters, most := range []int{0, 20, 12, 7, 6} {
		for n := 1; n <= most; n++ {
			classes, lyndon := map[string]bool{}, map[string]bool{}
			for _, w := range exactly(letters, n) {
				least := impl.LeastConjugate(w)
				classes[fmt.Sprint(least)] = true
				if impl.IsLyndon(w) {
					lyndon[fmt.Sprint(least)] = true
				}
			}
			if got := impl.CountNecklaces(letters, n); got != len(classes) {
				t.Errorf("CountNecklaces(%d, %d) = %d, but there are %d classes", letters, n, got, len(classes))
			}
			if got := impl.CountLyndon(letters, n); got != len(lyndon) {
				t.Errorf("CountLyndon(%d, %d) = %d, but there are %d", letters, n, got, len(lyndon))
			}
		}
	}
}

func TestCountsOfWrongNumbers(t *testing.T) {
	numbers := countNumbers()
	for _, letters := range numbers {
		for _, n := range numbers {
			valid := letters >= 1 && letters <= 4 && n >= 1 && n <= 20
			if got := impl.CountLyndon(letters, n); (got == -1) == valid || got < -1 {
				t.Errorf("CountLyndon(%d, %d) = %d", letters, n, got)
			}
			if got := impl.CountNecklaces(letters, n); (got == -1) == valid || got < -1 {
				t.Errorf("CountNecklaces(%d, %d) = %d", letters, n, got)
			}
		}
	}
}

// lyndonCalls contains the functions of the chapter, all with lists of lists as results.
func lyndonCalls() map[string]func(w []int) [][]int {
	return map[string]func(w []int) [][]int{
		"LyndonFactors":  impl.LyndonFactors,
		"ConjugatesOf":   impl.ConjugatesOf,
		"LeastConjugate": func(w []int) [][]int { return [][]int{impl.LeastConjugate(w)} },
		"StandardSplit": func(w []int) [][]int {
			first, second, _ := impl.StandardSplit(w)
			return [][]int{first, second}
		},
		"LyndonWords": func(w []int) [][]int {
			l, _ := impl.LyndonWords(3, len(w)%6)
			return l
		},
		"others": func(w []int) [][]int {
			return [][]int{{oneFor(impl.IsLyndon(w)), impl.CountLyndon(2, len(w)), impl.CountNecklaces(2, len(w))}}
		},
	}
}

// lyndonMemoryWords contains words with one factor and with several ones, equal ones among them, and words with more letters than ConjugatesOf allows.
func lyndonMemoryWords() [][]int {
	return append(borderMemoryWords(), letters("01"), letters("0011"), letters("00101"), letters("3210"), repeated(-3, 64), counting(-9, 65), append(repeated(0, 70), 1))
}

func TestLyndonChangesNoArgument(t *testing.T) {
	for name, call := range lyndonCalls() {
		for _, w := range lyndonMemoryWords() {
			checkChangesNothing(t, name, call, w)
		}
	}
}

func TestLyndonSharesNoMemory(t *testing.T) {
	made := 0
	for name, call := range lyndonCalls() {
		for _, w := range lyndonMemoryWords() {
			made += checkSharesNothing(t, name, call, w)
		}
	}
	if made < 400 {
		t.Errorf("only %d lists are made", made)
	}
}
