package tests

import (
	"fmt"
	"math"
	"slices"
	"strings"
	"testing"

	"loop.example/g02079/impl"
)

// These assignments do not compile if a signature differs from the document.
var (
	_ func([]int) []int      = impl.BordersOf
	_ func([]int) []int      = impl.PeriodsOf
	_ func([]int) int        = impl.LeastPeriod
	_ func([]int) bool       = impl.IsPrimitive
	_ func([]int) []int      = impl.RootOf
	_ func([]int) bool       = impl.IsPalindrome
	_ func([]int) [][]int    = impl.PalindromesOf
	_ func([]int) []int      = impl.MirrorWord
	_ func([]int) (int, int) = impl.LongestPalindrome
)

// borderWords contains lists of any numbers: all short ones, drawn ones, ones that repeat themselves, and ones with more letters than a word of the document may have.
func borderWords() [][]int {
	l := slices.Concat(listsOver(0, 2, 10), listsOver(-1, 2, 6), anyLists())
	for _, text := range factorWords() {
		l = append(l, letters(text))
	}
	draw := drawing(9)
	for _, size := range []int{13, 64, 65, 129, 401} {
		for count := 1; count <= 3; count++ {
			var w []int
			for range size {
				w = append(w, anyNumbers[draw(count)*5])
			}
			l = append(l, w, slices.Concat(w, w), slices.Concat(w, w[:size/2]), slices.Concat(w, w, w[:1]), slices.Concat(w, mirrored(w)))
		}
	}
	return append(l, letters(fibonacci(377)), letters(fibonacci(500)), letters(thueMorse(256)), letters(thueMorse(401)))
}

// mirrored is MirrorWord, letter by letter.
func mirrored(w []int) []int {
	var m []int
	for i := len(w) - 1; i >= 0; i-- {
		m = append(m, w[i])
	}
	return m
}

// readsBothWays is IsPalindrome, letter by letter.
func readsBothWays(w []int) bool {
	for i := range w {
		if w[i] != w[len(w)-1-i] {
			return false
		}
	}
	return true
}

// wantBorders is BordersOf: it holds each beginning against the end.
func wantBorders(w []int) []int {
	var l []int
	for n := range len(w) {
		if slices.Equal(w[:n], w[len(w)-n:]) {
			l = append(l, n)
		}
	}
	return l
}

// hasPeriod tells whether letters at this distance are always equal, which says nothing of borders.
func hasPeriod(w []int, period int) bool {
	for i := period; i < len(w); i++ {
		if w[i] != w[i-period] {
			return false
		}
	}
	return true
}

func wantPeriods(w []int) []int {
	var l []int
	for period := 1; period <= len(w); period++ {
		if hasPeriod(w, period) {
			l = append(l, period)
		}
	}
	return l
}

// wantRoot is RootOf: it repeats each beginning.
func wantRoot(w []int) []int {
	for n := 1; n < len(w); n++ {
		if len(w)%n == 0 && slices.Equal(slices.Repeat(w[:n], len(w)/n), w) {
			return w[:n]
		}
	}
	return w
}

// wantLongest is LongestPalindrome: it tries all lengths, the greatest first.
func wantLongest(w []int) (int, int) {
	for n := len(w); n > 0; n-- {
		for at := 0; at+n <= len(w); at++ {
			if readsBothWays(w[at : at+n]) {
				return at, n
			}
		}
	}
	return 0, 0
}

// wantPalindromes is PalindromesOf for texts.
func wantPalindromes(text string) []string {
	var l []string
	for n := 1; n <= len(text); n++ {
		for _, part := range wantFactors(text, n) {
			if readsBothWays(letters(part)) {
				l = append(l, part)
			}
		}
	}
	return l
}

// borderNumbers contains what the functions of the chapter should return for a word, but for lists of words.
type borderNumbers struct {
	w                []int
	borders, periods []int
	least            int
	primitive        bool
	root             []int
	palindrome       bool
	at, longest      int
}

func checkBorderNumbers(t *testing.T, want borderNumbers) {
	t.Helper()
	w := want.w
	if got := impl.BordersOf(w); !slices.Equal(got, want.borders) {
		t.Fatalf("BordersOf(%v) = %v, want %v", w, got, want.borders)
	}
	if got := impl.PeriodsOf(w); !slices.Equal(got, want.periods) {
		t.Fatalf("PeriodsOf(%v) = %v, want %v", w, got, want.periods)
	}
	if got := impl.LeastPeriod(w); got != want.least {
		t.Fatalf("LeastPeriod(%v) = %d, want %d", w, got, want.least)
	}
	if got := impl.IsPrimitive(w); got != want.primitive {
		t.Fatalf("IsPrimitive(%v) = %v", w, got)
	}
	if got := impl.RootOf(w); !slices.Equal(got, want.root) {
		t.Fatalf("RootOf(%v) = %v, want %v", w, got, want.root)
	}
	if got := impl.IsPalindrome(w); got != want.palindrome {
		t.Fatalf("IsPalindrome(%v) = %v", w, got)
	}
	if got := impl.MirrorWord(w); !slices.Equal(got, mirrored(w)) {
		t.Fatalf("MirrorWord(%v) = %v", w, got)
	}
	if at, n := impl.LongestPalindrome(w); at != want.at || n != want.longest {
		t.Fatalf("LongestPalindrome(%v) = %d, %d, want %d, %d", w, at, n, want.at, want.longest)
	}
}

func TestBorderExamples(t *testing.T) {
	const low, high = math.MinInt, math.MaxInt
	for _, want := range []borderNumbers{
		{letters("010010"), []int{0, 1, 3}, []int{3, 5, 6}, 3, false, letters("010"), true, 0, 6},
		{letters("010"), []int{0, 1}, []int{2, 3}, 2, true, letters("010"), true, 0, 3},
		{letters("222"), []int{0, 1, 2}, []int{1, 2, 3}, 1, false, letters("2"), true, 0, 3},
		{letters("0121"), []int{0}, []int{4}, 4, true, letters("0121"), false, 1, 3},
		// One letter has only the empty border.
		{letters("0"), []int{0}, []int{1}, 1, true, letters("0"), true, 0, 1},
		{letters("f"), []int{0}, []int{1}, 1, true, letters("f"), true, 0, 1},
		{letters("01"), []int{0}, []int{2}, 2, true, letters("01"), false, 0, 1},
		{letters("00"), []int{0, 1}, []int{1, 2}, 1, false, letters("0"), true, 0, 2},
		// The least period need not make up the word.
		{letters("01010"), []int{0, 1, 3}, []int{2, 4, 5}, 2, true, letters("01010"), true, 0, 5},
		{letters("010101"), []int{0, 2, 4}, []int{2, 4, 6}, 2, false, letters("01"), false, 0, 5},
		{letters("0010010"), []int{0, 1, 4}, []int{3, 6, 7}, 3, true, letters("0010010"), false, 1, 6},
		{letters("012012012"), []int{0, 3, 6}, []int{3, 6, 9}, 3, false, letters("012"), false, 0, 1},
		{letters("001001"), []int{0, 3}, []int{3, 6}, 3, false, letters("001"), false, 0, 5},
		// A border that is a border of a longer one, and one that is of none.
		{letters("00100"), []int{0, 1, 2}, []int{3, 4, 5}, 3, true, letters("00100"), true, 0, 5},
		{letters("0100101"), []int{0, 2}, []int{5, 7}, 5, true, letters("0100101"), false, 0, 6},
		{letters("0110110"), []int{0, 1, 4}, []int{3, 6, 7}, 3, true, letters("0110110"), true, 0, 7},
		// Palindromes of even and of odd length within other letters, and several of the greatest length.
		{letters("012210345"), []int{0}, []int{9}, 9, true, letters("012210345"), false, 0, 6},
		{letters("5012103"), []int{0}, []int{7}, 7, true, letters("5012103"), false, 1, 5},
		{letters("201103443"), []int{0}, []int{9}, 9, true, letters("201103443"), false, 1, 4},
		{letters("0110223323"), []int{0}, []int{10}, 10, true, letters("0110223323"), false, 0, 4},
		{letters("0123"), []int{0}, []int{4}, 4, true, letters("0123"), false, 0, 1},
		{letters("01233"), []int{0}, []int{5}, 5, true, letters("01233"), false, 3, 2},
		{letters("0010"), []int{0, 1}, []int{3, 4}, 3, true, letters("0010"), false, 1, 3},
		{letters("01002"), []int{0}, []int{5}, 5, true, letters("01002"), false, 0, 3},
		{letters("001102"), []int{0}, []int{6}, 6, true, letters("001102"), false, 1, 4},
		// Numbers that are no letters.
		{[]int{-1}, []int{0}, []int{1}, 1, true, []int{-1}, true, 0, 1},
		{[]int{low, high}, []int{0}, []int{2}, 2, true, []int{low, high}, false, 0, 1},
		{[]int{low, high, low, high}, []int{0, 2}, []int{2, 4}, 2, false, []int{low, high}, false, 0, 3},
		{[]int{high, 16, 16, high}, []int{0, 1}, []int{3, 4}, 3, true, []int{high, 16, 16, high}, true, 0, 4},
		{[]int{0, 1 << 32}, []int{0}, []int{2}, 2, true, []int{0, 1 << 32}, false, 0, 1},
		{[]int{1 << 32, -1 << 32, 0, -1 << 32}, []int{0}, []int{4}, 4, true, []int{1 << 32, -1 << 32, 0, -1 << 32}, false, 1, 3},
	} {
		checkBorderNumbers(t, want)
	}
}

func TestBordersOfTheEmptyWord(t *testing.T) {
	for _, w := range [][]int{nil, {}, make([]int, 0, 7)} {
		checkBorderNumbers(t, borderNumbers{w: w, palindrome: true})
		if got := impl.PalindromesOf(w); len(got) != 0 {
			t.Errorf("PalindromesOf of the empty word = %v", got)
		}
	}
}

func TestBorderSamples(t *testing.T) {
	for _, w := range borderWords() {
		periods := wantPeriods(w)
		want := borderNumbers{w: w, borders: wantBorders(w), periods: periods, root: wantRoot(w), palindrome: readsBothWays(w)}
		if len(periods) > 0 {
			want.least = periods[0]
		}
		want.primitive = len(w) > 0 && len(want.root) == len(w)
		want.at, want.longest = wantLongest(w)
		checkBorderNumbers(t, want)
	}
}

// Each border is a beginning and an end, no other proper beginning is one, and the periods are the length minus the borders.
func TestBordersAndPeriodsBelongTogether(t *testing.T) {
	found := 0
	for _, w := range borderWords() {
		borders, periods := impl.BordersOf(w), impl.PeriodsOf(w)
		if len(borders) != len(periods) || (len(borders) > 0) != (len(w) > 0) {
			t.Fatalf("%v has the borders %v and the periods %v", w, borders, periods)
		}
		for i, border := range borders {
			period := periods[len(periods)-1-i]
			if border < 0 || border >= len(w) || border+period != len(w) || i > 0 && border <= borders[i-1] {
				t.Fatalf("%v has the borders %v and the periods %v", w, borders, periods)
			}
			if !slices.Equal(w[:border], w[period:]) || !hasPeriod(w, period) {
				t.Fatalf("%d is no border of %v", border, w)
			}
			found++
		}
		for n := range len(w) {
			if !slices.Contains(borders, n) && slices.Equal(w[:n], w[len(w)-n:]) {
				t.Fatalf("the border %d of %v is missing", n, w)
			}
			if !slices.Contains(periods, len(w)-n) && hasPeriod(w, len(w)-n) {
				t.Fatalf("the period %d of %v is missing", len(w)-n, w)
			}
		}
		if len(w) > 0 && (borders[0] != 0 || impl.LeastPeriod(w) != periods[0] || periods[len(periods)-1] != len(w)) {
			t.Fatalf("%v has the borders %v, the periods %v and the least period %d", w, borders, periods, impl.LeastPeriod(w))
		}
	}
	if found < 10000 {
		t.Errorf("only %d borders are found", found)
	}
}

// What is a border of a border is one of the word, and each shorter border is one of every longer border.
func TestBordersOfBorders(t *testing.T) {
	for _, w := range borderWords() {
		borders := impl.BordersOf(w)
		for i, border := range borders {
			if got := impl.BordersOf(w[:border]); !slices.Equal(got, borders[:i]) {
				t.Fatalf("BordersOf(%v) = %v, but its border of %d letters has %v", w, borders, border, got)
			}
		}
		// The mirrored word has the same ones.
		if got := impl.BordersOf(impl.MirrorWord(w)); !slices.Equal(got, borders) {
			t.Fatalf("BordersOf(%v) = %v, but that of its mirror image = %v", w, borders, got)
		}
	}
}

// A word that is repeated at least twice, and then once more in part, has the length of its root as least period.
func TestLeastPeriodOfRepeatedWords(t *testing.T) {
	parts := slices.Concat(listsOver(0, 2, 7), listsOver(5, 8, 4), anyLists(), [][]int{letters(fibonacci(55)), letters(thueMorse(100))})
	for _, part := range parts {
		if len(part) == 0 {
			continue
		}
		root := impl.RootOf(part)
		for times := 2; times <= 4; times++ {
			for tail := range len(part) {
				w := append(slices.Repeat(part, times), part[:tail]...)
				if got := impl.LeastPeriod(w); got != len(root) {
					t.Fatalf("LeastPeriod of %v, repeated to %d letters, = %d, want %d", part, len(w), got, len(root))
				}
				periods := impl.PeriodsOf(w)
				for period := len(root); period <= len(w); period += len(root) {
					if !slices.Contains(periods, period) {
						t.Fatalf("PeriodsOf(%v) = %v without %d", w, periods, period)
					}
				}
			}
		}
		// Another letter behind it ends the period.
		w := append(slices.Repeat(part, 3), math.MaxInt-7)
		if got := impl.LeastPeriod(w); got != len(w) {
			t.Fatalf("LeastPeriod(%v) = %d, want %d", w, got, len(w))
		}
	}
}

func greatestDivisor(a int, b int) int {
	for b > 0 {
		a, b = b, a%b
	}
	return a
}

// The theorem of Fine and Wilf: with two periods, a word that is at least as long as their sum minus their greatest common divisor also has that as a period.
func TestFineAndWilfForSamples(t *testing.T) {
	pairs := 0
	for _, w := range borderWords() {
		periods := impl.PeriodsOf(w)
		for i, p := range periods {
			for _, q := range periods[i+1:] {
				divisor := greatestDivisor(p, q)
				if p+q-divisor > len(w) {
					break
				}
				if !slices.Contains(periods, divisor) {
					t.Fatalf("%v has the periods %d and %d, but PeriodsOf = %v", w, p, q, periods)
				}
				if divisor < p {
					pairs++
				}
			}
		}
	}
	if pairs < 1000 {
		t.Errorf("only %d pairs of periods have a lesser divisor", pairs)
	}
}

// twoPeriods is the word of n letters with two periods and with as many letters as these admit.
func twoPeriods(p int, q int, n int) []int {
	w := make([]int, n)
	for i := range w {
		w[i] = i
	}
	// Letters that have to be equal take on the lesser number of both, until none changes.
	for changed := true; changed; {
		changed = false
		for _, period := range []int{p, q} {
			for i := period; i < n; i++ {
				if least := min(w[i], w[i-period]); w[i] != w[i-period] {
					w[i], w[i-period], changed = least, least, true
				}
			}
		}
	}
	return w
}

// The length of the theorem of Fine and Wilf is the least one: below it, there is a word for which it is not so.
func TestFineAndWilfForTwoPeriods(t *testing.T) {
	for q := 1; q <= 16; q++ {
		for p := 1; p < q; p++ {
			divisor := greatestDivisor(p, q)
			for n := q; n <= p+2*q; n++ {
				w := twoPeriods(p, q, n)
				periods := impl.PeriodsOf(w)
				if !slices.Contains(periods, p) || !slices.Contains(periods, q) {
					t.Fatalf("PeriodsOf(%v) = %v, want %d and %d, too", w, periods, p, q)
				}
				if n >= p+q-divisor && impl.LeastPeriod(w) != divisor {
					t.Fatalf("%v has the periods %d and %d, but LeastPeriod = %d", w, p, q, impl.LeastPeriod(w))
				}
				if n == p+q-divisor-1 && divisor < p && slices.Contains(periods, divisor) {
					t.Fatalf("PeriodsOf(%v) = %v, want no %d", w, periods, divisor)
				}
			}
		}
	}
	// Without their last two letters, the Fibonacci words are the longest ones with two periods that are not always equal letters.
	for _, c := range [][3]int{{3, 2, 3}, {6, 3, 5}, {11, 5, 8}, {19, 8, 13}, {32, 13, 21}, {53, 21, 34}, {87, 34, 55}} {
		periods := impl.PeriodsOf(letters(fibonacci(c[0])))
		if !slices.Equal(periods[:2], c[1:]) {
			t.Errorf("the Fibonacci word of %d letters has the periods %v", c[0], periods)
		}
		if periods := impl.PeriodsOf(letters(fibonacci(c[0] + 2))); periods[0] != c[2] {
			t.Errorf("the Fibonacci word of %d letters has the periods %v", c[0]+2, periods)
		}
	}
}

func TestRootsMakeUpTheirWords(t *testing.T) {
	for _, w := range borderWords() {
		if len(w) == 0 {
			continue
		}
		root := impl.RootOf(w)
		if len(root) == 0 || len(w)%len(root) != 0 || !slices.Equal(slices.Repeat(root, len(w)/len(root)), w) {
			t.Fatalf("RootOf(%v) = %v", w, root)
		}
		if !impl.IsPrimitive(root) || !slices.Equal(impl.RootOf(root), root) {
			t.Fatalf("the root %v of %v is not primitive", root, w)
		}
		if got := impl.IsPrimitive(w); got != (len(root) == len(w)) {
			t.Fatalf("IsPrimitive(%v) = %v, but the root is %v", w, got, root)
		}
		// The least period makes up the word, or nothing does that is shorter than the word.
		want := impl.LeastPeriod(w)
		if len(w)%want != 0 {
			want = len(w)
		}
		if len(root) != want {
			t.Fatalf("RootOf(%v) = %v, but the least period is %d", w, root, impl.LeastPeriod(w))
		}
		for times := 2; times <= 5; times++ {
			power := slices.Repeat(w, times)
			if impl.IsPrimitive(power) || !slices.Equal(impl.RootOf(power), root) {
				t.Fatalf("%v, %d times, has the root %v", w, times, impl.RootOf(power))
			}
		}
	}
}

// Two words have one root exactly if it does not matter which one comes first.
func TestWordsWithOneRoot(t *testing.T) {
	one := 0
	for _, u := range listsOver(0, 2, 6)[1:] {
		for _, v := range listsOver(0, 2, 6)[1:] {
			same := slices.Equal(slices.Concat(u, v), slices.Concat(v, u))
			if got := slices.Equal(impl.RootOf(u), impl.RootOf(v)); got != same {
				t.Fatalf("RootOf(%v) = %v, RootOf(%v) = %v", u, impl.RootOf(u), v, impl.RootOf(v))
			}
			one += oneFor(same)
		}
	}
	if one < 150 {
		t.Errorf("only %d pairs have one root", one)
	}
}

func TestCountOfPrimitiveWords(t *testing.T) {
	for _, c := range []struct {
		numbers int
		want    []int
	}{
		{1, []int{0, 1, 0, 0, 0, 0}},
		{2, []int{0, 2, 2, 6, 12, 30, 54, 126, 240, 504, 990, 2046, 4020}},
		{3, []int{0, 3, 6, 24, 72, 240, 696, 2184}},
	} {
		got := make([]int, len(c.want))
		for _, w := range listsOver(-1, c.numbers-1, len(c.want)-1) {
			got[len(w)] += oneFor(impl.IsPrimitive(w))
		}
		if !slices.Equal(got, c.want) {
			t.Errorf("over %d numbers, %v words are primitive, want %v", c.numbers, got, c.want)
		}
	}
}

func TestCountOfPalindromes(t *testing.T) {
	for numbers := 1; numbers <= 3; numbers++ {
		got := make([]int, 9)
		for _, w := range listsOver(-1, numbers-1, 8) {
			got[len(w)] += oneFor(impl.IsPalindrome(w))
		}
		want := 1
		for n := range got {
			// Only the letters of the first half and the one in the middle are free.
			if n%2 == 1 {
				want *= numbers
			}
			if got[n] != want {
				t.Errorf("over %d numbers, %d words of %d letters are palindromes, want %d", numbers, got[n], n, want)
			}
		}
	}
}

func TestMirrorImages(t *testing.T) {
	for _, w := range borderWords() {
		m := impl.MirrorWord(w)
		if !slices.Equal(m, mirrored(w)) || !slices.Equal(impl.MirrorWord(m), w) {
			t.Fatalf("MirrorWord(%v) = %v", w, m)
		}
		if got := impl.IsPalindrome(w); got != slices.Equal(m, w) {
			t.Fatalf("IsPalindrome(%v) = %v", w, got)
		}
		odd := slices.Concat(w, []int{7}, m)
		if !impl.IsPalindrome(slices.Concat(w, m)) || !impl.IsPalindrome(odd) {
			t.Fatalf("%v and its mirror image make no palindrome", w)
		}
		// One letter that differs is enough, wherever it is.
		for _, at := range []int{0, len(w) / 2, len(w) - 1} {
			if len(w) > 0 {
				changed := slices.Clone(odd)
				changed[at]++
				if impl.IsPalindrome(changed) {
					t.Fatalf("%v is no palindrome", changed)
				}
			}
		}
	}
}

// The borders of a palindrome are its beginnings that are palindromes.
func TestBordersOfPalindromes(t *testing.T) {
	for _, half := range borderWords() {
		for _, middle := range [][]int{nil, {0}, {16}} {
			w := slices.Concat(half, middle, mirrored(half))
			var want []int
			for n := range len(w) {
				if impl.IsPalindrome(w[:n]) {
					want = append(want, n)
				}
			}
			if got := impl.BordersOf(w); !slices.Equal(got, want) {
				t.Fatalf("BordersOf(%v) = %v, want %v", w, got, want)
			}
			if at, n := impl.LongestPalindrome(w); at != 0 || n != len(w) {
				t.Fatalf("LongestPalindrome(%v) = %d, %d", w, at, n)
			}
		}
	}
}

func TestPalindromesOfExamples(t *testing.T) {
	for _, c := range []struct {
		w    string
		want []string
	}{
		{"010010", []string{"0", "1", "00", "010", "1001", "010010"}},
		{"0", []string{"0"}},
		{"f", []string{"f"}},
		{"01", []string{"0", "1"}},
		{"0000", []string{"0", "00", "000", "0000"}},
		{"0120", []string{"0", "1", "2"}},
		{"0121", []string{"0", "1", "2", "121"}},
		// The order is that of the lengths first, and not that of the places.
		{"2112011", []string{"0", "1", "2", "11", "2112"}},
		{"fafaf9", []string{"9", "a", "f", "afa", "faf", "fafaf"}},
		{"110010011", []string{"0", "1", "00", "11", "010", "1001", "00100", "1001001", "110010011"}},
	} {
		checkWords(t, impl.PalindromesOf(letters(c.w)), c.want, "PalindromesOf(%q)", c.w)
	}
}

// palindromeTexts contains words of up to 64 letters.
func palindromeTexts() []string {
	l := slices.DeleteFunc(factorWords(), func(text string) bool { return len(text) > 64 })
	for _, size := range []int{10, 31, 32, 63, 64} {
		half := thueMorse(size / 2)
		l = append(l, half+digitsOf(mirrored(letters(half))), half+half, thueMorse(size), fibonacci(size), strings.Repeat("0", size/2)+strings.Repeat("1", size/2))
	}
	return append(l, textsOver("01", 10)...)
}

func TestPalindromesOfSamples(t *testing.T) {
	longest := 0
	for _, text := range palindromeTexts() {
		w := letters(text)
		got := impl.PalindromesOf(w)
		checkWords(t, got, wantPalindromes(text), "PalindromesOf(%q)", text)
		if len(got) > len(w) {
			t.Fatalf("%q has more palindromes than letters: %v", text, got)
		}
		for i, part := range got {
			if len(part) == 0 || !impl.IsPalindrome(part) || !impl.IsFactor(w, part) {
				t.Fatalf("PalindromesOf(%q) contains %v", text, part)
			}
			if i > 0 && len(part) == len(got[i-1]) && impl.CompareWords(got[i-1], part) != -1 || i > 0 && len(part) < len(got[i-1]) {
				t.Fatalf("PalindromesOf(%q) = %v is not in order", text, got)
			}
			longest = max(longest, len(part))
		}
		// The last one is the longest one, or one of several.
		at, n := impl.LongestPalindrome(w)
		if len(got) > 0 && (n != len(got[len(got)-1]) || !slices.ContainsFunc(got, func(part []int) bool { return slices.Equal(part, w[at:at+n]) })) {
			t.Fatalf("LongestPalindrome(%q) = %d, %d, but PalindromesOf = %v", text, at, n, got)
		}
		// The mirrored word has the same ones.
		checkWords(t, impl.PalindromesOf(impl.MirrorWord(w)), wantPalindromes(text), "PalindromesOf of the mirror image of %q", text)
	}
	if longest != 64 {
		t.Errorf("the longest palindrome has %d letters", longest)
	}
}

func TestCountOfPalindromesInKnownWords(t *testing.T) {
	for size := range 65 {
		for _, c := range []struct {
			text string
			want int
		}{
			{strings.Repeat("f", size), size},
			{strings.Repeat("01", size)[:size], size},
			// Each beginning of the Fibonacci word ends with a palindrome that it has only once.
			{fibonacci(max(1, size))[:size], size},
			{strings.Repeat("012", size)[:size], min(size, 3)},
			// No palindromes but 0, 1, 00, 11, 010, 101, 0110 and, from 9 letters on, 1001.
			{strings.Repeat("001011", 11)[:size], min(size, 7) + oneFor(size > 8)},
		} {
			if got := len(impl.PalindromesOf(letters(c.text))); got != c.want {
				t.Errorf("%q has %d palindromes, want %d", c.text, got, c.want)
			}
		}
	}
}

func TestPalindromeLimits(t *testing.T) {
	for _, text := range []string{strings.Repeat("0", 400), fibonacci(400), thueMorse(400), strings.Repeat("0123456789abcdef", 25)} {
		for _, size := range []int{41, 63, 64} {
			checkWords(t, impl.PalindromesOf(letters(text[:size])), wantPalindromes(text[:size]), "PalindromesOf(%q)", text[:size])
		}
		for _, size := range []int{65, 66, 128, 129, 256, 400} {
			if got := impl.PalindromesOf(letters(text[:size])); len(got) != 0 {
				t.Errorf("PalindromesOf of %d letters = %v, want nothing", size, got)
			}
		}
	}
	for _, size := range []int{401, 1 << 16, 1 << 20} {
		if got := impl.PalindromesOf(repeated(0, size)); len(got) != 0 {
			t.Errorf("PalindromesOf of %d letters has %d words, want nothing", size, len(got))
		}
	}
}

func TestPalindromesOfWrongLetters(t *testing.T) {
	for _, wrong := range wrongLetters(16) {
		for _, size := range []int{0, 1, 2, 20, 63, 64} {
			for _, at := range []int{0, size / 2, size} {
				w := slices.Insert(repeated(0, size), at, wrong)
				if got := impl.PalindromesOf(w); len(got) != 0 {
					t.Errorf("PalindromesOf(%v) = %v, want nothing", w, got)
				}
				// The other functions accept any lists.
				if first, n := impl.LongestPalindrome(w); n != max(2*min(at, size-at)+1, max(at, size-at)) || !readsBothWays(w[first:first+n]) {
					t.Errorf("LongestPalindrome(%v) = %d, %d", w, first, n)
				}
				if got := impl.LeastPeriod(w); got != max(at, size-at)+1 {
					t.Errorf("LeastPeriod(%v) = %d", w, got)
				}
				if !impl.IsPrimitive(w) || !slices.Equal(impl.RootOf(w), w) {
					t.Errorf("RootOf(%v) = %v", w, impl.RootOf(w))
				}
			}
		}
	}
	for letter := range 16 {
		w := []int{letter, 15, letter}
		checkWords(t, impl.PalindromesOf(w), wantPalindromes(digitsOf(w)), "PalindromesOf(%v)", w)
	}
}

// Of several palindromes of the greatest length, the first one counts, whether their length is even or odd.
func TestLongestPalindromeIsTheFirstOne(t *testing.T) {
	for size := 2; size <= 12; size++ {
		var half []int
		for i := range size / 2 {
			half = append(half, i)
		}
		part := slices.Concat(half, repeated(-1, size%2), mirrored(half))
		for times := 1; times <= 4; times++ {
			for before := range 4 {
				var w []int
				for i := range before {
					w = append(w, 100+i)
				}
				for i := range times {
					// Letters that come only once keep the parts from growing and from growing together.
					w = append(append(w, part...), 200+2*i, 201+2*i)
				}
				if at, n := impl.LongestPalindrome(w); at != before || n != size {
					t.Errorf("LongestPalindrome(%v) = %d, %d, want %d, %d", w, at, n, before, size)
				}
				// A longer one behind them counts more, and a shorter one before them less.
				w = append(w, slices.Concat([]int{300}, part, []int{300})...)
				if at, n := impl.LongestPalindrome(w); at != len(w)-size-2 || n != size+2 {
					t.Errorf("LongestPalindrome(%v) = %d, %d, want %d, %d", w, at, n, len(w)-size-2, size+2)
				}
			}
		}
	}
}

// Only PalindromesOf has a greatest length.
func TestBordersOfLongLists(t *testing.T) {
	const size = 1 << 20
	same := repeated(math.MinInt, size)
	borders, periods := impl.BordersOf(same), impl.PeriodsOf(same)
	if len(borders) != size || borders[0] != 0 || borders[size-1] != size-1 || len(periods) != size || periods[0] != 1 || periods[size-1] != size {
		t.Errorf("equal letters have %d borders and %d periods", len(borders), len(periods))
	}
	tail := slices.Concat(same[:size-1], []int{5})
	between := slices.Concat(same[:size/4], []int{5}, same[size/4+1:])
	doubled := slices.Concat(tail, tail)
	thue := letters(thueMorse(size))
	for _, c := range []struct {
		name       string
		w          []int
		least      int
		root       int
		at, n      int
		palindrome bool
	}{
		{"equal letters", same, 1, 1, 0, size, true},
		{"equal letters and another one", tail, size, size, 0, size - 1, false},
		{"another letter between equal ones", between, size * 3 / 4, size, size/4 + 1, size*3/4 - 1, false},
		{"a part that is repeated", doubled, size, size, 0, 2*size - 1, false},
		{"the Thue-Morse word", thue, size * 3 / 4, size, 0, size, true},
		{"letters that take turns", slices.Repeat([]int{-1, 1 << 40}, size/2), 2, 2, 0, size - 1, false},
	} {
		if got := impl.LeastPeriod(c.w); got != c.least || !hasPeriod(c.w, got) {
			t.Errorf("%s: the least period is %d, want %d", c.name, got, c.least)
		}
		if got := impl.RootOf(c.w); !slices.Equal(got, c.w[:c.root]) || impl.IsPrimitive(c.w) != (c.root == len(c.w)) {
			t.Errorf("%s: the root has %d letters, want %d", c.name, len(got), c.root)
		}
		if at, n := impl.LongestPalindrome(c.w); at != c.at || n != c.n {
			t.Errorf("%s: the longest palindrome has %d letters at %d, want %d at %d", c.name, n, at, c.n, c.at)
		}
		if got := impl.IsPalindrome(c.w); got != c.palindrome {
			t.Errorf("%s: IsPalindrome = %v", c.name, got)
		}
		if got := impl.MirrorWord(c.w); !slices.Equal(got, mirrored(c.w)) {
			t.Errorf("%s: MirrorWord has %d letters", c.name, len(got))
		}
	}
}

// borderCalls contains the functions of the chapter, all with lists of lists as results.
func borderCalls() map[string]func(w []int) [][]int {
	return map[string]func(w []int) [][]int{
		"BordersOf":     func(w []int) [][]int { return [][]int{impl.BordersOf(w)} },
		"PeriodsOf":     func(w []int) [][]int { return [][]int{impl.PeriodsOf(w)} },
		"RootOf":        func(w []int) [][]int { return [][]int{impl.RootOf(w)} },
		"PalindromesOf": impl.PalindromesOf,
		"MirrorWord":    func(w []int) [][]int { return [][]int{impl.MirrorWord(w)} },
		"others": func(w []int) [][]int {
			at, n := impl.LongestPalindrome(w)
			return [][]int{{impl.LeastPeriod(w), oneFor(impl.IsPrimitive(w)), oneFor(impl.IsPalindrome(w)), at, n}}
		},
	}
}

// checkChangesNothing checks that a call does not change the memory of its argument, nor depend on what is behind it.
func checkChangesNothing(t *testing.T, name string, call func(w []int) [][]int, w []int) {
	t.Helper()
	word, changed := guardedWord(w)
	first := fmt.Sprint(call(word))
	if changed() {
		t.Errorf("%s changes the memory of %v", name, w)
	}
	if again := fmt.Sprint(call(slices.Clip(slices.Clone(w)))); first != again {
		t.Errorf("%s(%v) = %s and %s", name, w, first, again)
	}
}

// checkSharesNothing checks that the lists of a result share memory neither with each other nor with the argument or another result, and returns how many lists there are.
func checkSharesNothing(t *testing.T, name string, call func(w []int) [][]int, w []int) int {
	t.Helper()
	word, changed := guardedWord(w)
	got, again := call(word), call(word)
	before := copiedWords(got)
	for _, list := range again {
		spoil(list)
	}
	if changed() || !slices.EqualFunc(got, before, slices.Equal) {
		t.Errorf("the result of %s for %v shares memory", name, w)
	}
	for i, list := range got {
		spoil(list)
		if !slices.EqualFunc(got[i+1:], before[i+1:], slices.Equal) {
			t.Errorf("the lists of the result of %s for %v share memory", name, w)
		}
	}
	if changed() {
		t.Errorf("the result of %s for %v shares memory with the word", name, w)
	}
	return len(got)
}

// borderMemoryWords contains, beside those of memoryWords, words that repeat themselves and a long one.
func borderMemoryWords() [][]int {
	return append(memoryWords(), letters("010010"), letters("012012"), letters(thueMorse(64)), repeated(-3, 70))
}

func TestBordersChangeNoArgument(t *testing.T) {
	for name, call := range borderCalls() {
		for _, w := range borderMemoryWords() {
			checkChangesNothing(t, name, call, w)
		}
	}
}

func TestBordersShareNoMemory(t *testing.T) {
	made := 0
	for name, call := range borderCalls() {
		for _, w := range borderMemoryWords() {
			made += checkSharesNothing(t, name, call, w)
		}
	}
	if made < 100 {
		t.Errorf("only %d lists are made", made)
	}
}
