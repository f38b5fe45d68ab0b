package tests

import (
	"fmt"
	"math"
	"slices"
	"strings"
	"testing"

	"loop.example/g02079/impl"
)

// These assignments do not compile if a signature differs from the document.
var (
	_ func([]int) []impl.Power         = impl.SquaresOf
	_ func([]int) bool                 = impl.HasSquare
	_ func([]int) bool                 = impl.HasOverlap
	_ func([]int, int, int) bool       = impl.HasPower
	_ func([]int) (int, int)           = impl.GreatestExponent
	_ func([]int) (int, int)           = impl.ExponentOf
	_ func([]int) (impl.Power, bool)   = impl.ShortestSquare
	_ func([]int) int                  = impl.DistinctSquares
	_ struct{ At, Period, Length int } = impl.Power{}
)

// quotients contains all pairs num and den that HasPower allows.
func quotients() [][2]int {
	var l [][2]int
	for num := 2; num <= 20; num++ {
		for den := 1; den < num; den++ {
			l = append(l, [2]int{num, den})
		}
	}
	return l
}

// counting contains the numbers from first on, which are all different.
func counting(first int, size int) []int {
	var w []int
	for i := range size {
		w = append(w, first+i)
	}
	return w
}

// turning repeats the numbers from 0 to period - 1, which makes its least period so, and gives no part of it a greater exponent.
func turning(period int, size int) []int {
	var w []int
	for i := range size {
		w = append(w, i%period)
	}
	return w
}

// lessThan drops the words of so many letters and more.
func lessThan(l [][]int, size int) [][]int {
	return slices.DeleteFunc(l, func(w []int) bool { return len(w) >= size })
}

// powerWords contains lists of any numbers that have at most 128 letters, among them words with squares at the beginning, in the middle and at the end, and words with none.
func powerWords() [][]int {
	l := lessThan(borderWords(), 129)
	draw := drawing(10)
	for _, size := range []int{1, 2, 3, 5, 8, 13, 21, 31, 32} {
		var part []int
		for range size {
			part = append(part, draw(3))
		}
		for before := range 3 {
			l = append(l, slices.Concat(counting(100, before), part, part), slices.Concat(part, part, counting(200, before)))
			l = append(l, slices.Concat(counting(100, before), part, counting(200, before+1), part), slices.Concat(counting(100, before), part, part, part[:1], counting(200, before)))
		}
	}
	// Words without squares and without overlaps.
	for size := 8; size <= 128; size += 4 {
		l = append(l, letters(squareFree(size)), letters(dejean(size)), letters(thueMorse(size)), counting(-size, size))
	}
	return slices.Concat(l, listsOver(0, 3, 7), listsOver(0, 2, 12))
}

// squareFree is the beginning of a word over 0, 1 and 2 without squares: it tells where the Thue-Morse word goes up, stays or goes down.
func squareFree(size int) string {
	word := thueMorse(size + 1)
	var b strings.Builder
	for i := range size {
		b.WriteByte(word[i+1] - word[i] + '1')
	}
	return b.String()
}

// dejean is the beginning of a word over 0, 1 and 2 in which no exponent is greater than 7/4, which is the least bound for three letters.
func dejean(size int) string {
	images := strings.NewReplacer("0", "0120212012102120210", "1", "1201020120210201021", "2", "2012101201021012102")
	word := "0"
	for len(word) < size {
		word = images.Replace(word)
	}
	return word[:size]
}

// wantSquares is SquaresOf: it compares letter by letter.
func wantSquares(w []int) []impl.Power {
	var l []impl.Power
	for at := range w {
		for end := at + 2; end <= len(w); end += 2 {
			if period := (end - at) / 2; hasPeriod(w[at:end], period) {
				l = append(l, impl.Power{At: at, Period: period, Length: end - at})
			}
		}
	}
	return l
}

// wantDistinct is DistinctSquares: it counts texts.
func wantDistinct(w []int) int {
	seen := map[string]bool{}
	for _, p := range wantSquares(w) {
		seen[fmt.Sprint(w[p.At:p.At+p.Length])] = true
	}
	return len(seen)
}

// leastPeriod says nothing of borders.
func leastPeriod(w []int) int {
	period := 1
	for !hasPeriod(w, period) {
		period++
	}
	return period
}

// exponentsOf contains the lengths and the least periods of all parts, each pair once.
func exponentsOf(w []int) [][2]int {
	seen := map[[2]int]bool{}
	for at := range w {
		period := 1
		for end := at + 1; end <= len(w); end++ {
			// The least period of a longer part with the same beginning is not less.
			for !hasPeriod(w[at:end], period) {
				period++
			}
			seen[[2]int{end - at, period}] = true
		}
	}
	var l [][2]int
	for e := range seen {
		l = append(l, e)
	}
	return l
}

// isReached is HasPower for numbers that it allows, where exponents are those of all parts.
func isReached(exponents [][2]int, num int, den int) bool {
	return slices.ContainsFunc(exponents, func(e [2]int) bool { return e[0]*den >= num*e[1] })
}

func wantOverlap(exponents [][2]int) bool {
	return slices.ContainsFunc(exponents, func(e [2]int) bool { return e[0] > 2*e[1] })
}

// wantGreatest is GreatestExponent, where exponents are those of all parts.
func wantGreatest(exponents [][2]int) [2]int {
	greatest := [2]int{0, 1}
	for _, e := range exponents {
		if e[0]*greatest[1] > greatest[0]*e[1] {
			greatest = e
		}
	}
	return lowestTerms(greatest[0], greatest[1])
}

func lowestTerms(num int, den int) [2]int {
	divisor := greatestDivisor(num, den)
	return [2]int{num / divisor, den / divisor}
}

// powerNumbers contains what the functions of the chapter should return for a word, but for HasPower with other numbers.
type powerNumbers struct {
	w                  []int
	squares            []impl.Power
	square, overlap    bool
	greatest, exponent [2]int
	shortest           impl.Power
	distinct           int
}

func checkPowerNumbers(t *testing.T, want powerNumbers) {
	t.Helper()
	w := want.w
	if got := impl.SquaresOf(w); !slices.Equal(got, want.squares) {
		t.Fatalf("SquaresOf(%v) = %v, want %v", w, got, want.squares)
	}
	if got := impl.HasSquare(w); got != want.square {
		t.Fatalf("HasSquare(%v) = %v", w, got)
	}
	if got := impl.HasPower(w, 2, 1); got != want.square {
		t.Fatalf("HasPower(%v, 2, 1) = %v", w, got)
	}
	if got := impl.HasOverlap(w); got != want.overlap {
		t.Fatalf("HasOverlap(%v) = %v", w, got)
	}
	if num, den := impl.GreatestExponent(w); num != want.greatest[0] || den != want.greatest[1] {
		t.Fatalf("GreatestExponent(%v) = %d, %d, want %v", w, num, den, want.greatest)
	}
	if num, den := impl.ExponentOf(w); num != want.exponent[0] || den != want.exponent[1] {
		t.Fatalf("ExponentOf(%v) = %d, %d, want %v", w, num, den, want.exponent)
	}
	if got, ok := impl.ShortestSquare(w); got != want.shortest || ok != (want.shortest.Length > 0) {
		t.Fatalf("ShortestSquare(%v) = %v, %v, want %v", w, got, ok, want.shortest)
	}
	if got := impl.DistinctSquares(w); got != want.distinct {
		t.Fatalf("DistinctSquares(%v) = %d, want %d", w, got, want.distinct)
	}
}

func TestPowerExamples(t *testing.T) {
	const low, high = math.MinInt, math.MaxInt
	for _, want := range []powerNumbers{
		{letters("01010"), []impl.Power{{At: 0, Period: 2, Length: 4}, {At: 1, Period: 2, Length: 4}}, true, true, [2]int{5, 2}, [2]int{5, 2}, impl.Power{At: 0, Period: 2, Length: 4}, 2},
		{letters("0101"), []impl.Power{{At: 0, Period: 2, Length: 4}}, true, false, [2]int{2, 1}, [2]int{2, 1}, impl.Power{At: 0, Period: 2, Length: 4}, 1},
		{letters("010"), nil, false, false, [2]int{3, 2}, [2]int{3, 2}, impl.Power{}, 0},
		{letters("0120"), nil, false, false, [2]int{4, 3}, [2]int{4, 3}, impl.Power{}, 0},
		{letters("0123"), nil, false, false, [2]int{1, 1}, [2]int{1, 1}, impl.Power{}, 0},
		{letters("00"), []impl.Power{{At: 0, Period: 1, Length: 2}}, true, false, [2]int{2, 1}, [2]int{2, 1}, impl.Power{At: 0, Period: 1, Length: 2}, 1},
		{letters("000"), []impl.Power{{At: 0, Period: 1, Length: 2}, {At: 1, Period: 1, Length: 2}}, true, true, [2]int{3, 1}, [2]int{3, 1}, impl.Power{At: 0, Period: 1, Length: 2}, 1},
		// The shortest square need not be the first one.
		{letters("01011"), []impl.Power{{At: 0, Period: 2, Length: 4}, {At: 3, Period: 1, Length: 2}}, true, false, [2]int{2, 1}, [2]int{1, 1}, impl.Power{At: 3, Period: 1, Length: 2}, 2},
		{letters("010022"), []impl.Power{{At: 2, Period: 1, Length: 2}, {At: 4, Period: 1, Length: 2}}, true, false, [2]int{2, 1}, [2]int{1, 1}, impl.Power{At: 2, Period: 1, Length: 2}, 2},
		// Two squares at one place, and squares of squares.
		{letters("0000"), []impl.Power{{At: 0, Period: 1, Length: 2}, {At: 0, Period: 2, Length: 4}, {At: 1, Period: 1, Length: 2}, {At: 2, Period: 1, Length: 2}}, true, true, [2]int{4, 1}, [2]int{4, 1}, impl.Power{At: 0, Period: 1, Length: 2}, 2},
		{letters("001001"), []impl.Power{{At: 0, Period: 1, Length: 2}, {At: 0, Period: 3, Length: 6}, {At: 3, Period: 1, Length: 2}}, true, false, [2]int{2, 1}, [2]int{2, 1}, impl.Power{At: 0, Period: 1, Length: 2}, 2},
		// The whole word has a lesser exponent than a part of it.
		{letters("0110110"), []impl.Power{{At: 0, Period: 3, Length: 6}, {At: 1, Period: 1, Length: 2}, {At: 1, Period: 3, Length: 6}, {At: 4, Period: 1, Length: 2}}, true, true, [2]int{7, 3}, [2]int{7, 3}, impl.Power{At: 1, Period: 1, Length: 2}, 3},
		{letters("1200013"), []impl.Power{{At: 2, Period: 1, Length: 2}, {At: 3, Period: 1, Length: 2}}, true, true, [2]int{3, 1}, [2]int{1, 1}, impl.Power{At: 2, Period: 1, Length: 2}, 1},
		{letters("012312"), nil, false, false, [2]int{5, 3}, [2]int{1, 1}, impl.Power{}, 0},
		{letters("012012012"), []impl.Power{{At: 0, Period: 3, Length: 6}, {At: 1, Period: 3, Length: 6}, {At: 2, Period: 3, Length: 6}, {At: 3, Period: 3, Length: 6}}, true, true, [2]int{3, 1}, [2]int{3, 1}, impl.Power{At: 0, Period: 3, Length: 6}, 3},
		// Quotients in lowest terms.
		{letters("012301"), nil, false, false, [2]int{3, 2}, [2]int{3, 2}, impl.Power{}, 0},
		{letters("01234501"), nil, false, false, [2]int{4, 3}, [2]int{4, 3}, impl.Power{}, 0},
		// Numbers that are no letters.
		{[]int{low, low}, []impl.Power{{At: 0, Period: 1, Length: 2}}, true, false, [2]int{2, 1}, [2]int{2, 1}, impl.Power{At: 0, Period: 1, Length: 2}, 1},
		{[]int{low, high, low, high, -1}, []impl.Power{{At: 0, Period: 2, Length: 4}}, true, false, [2]int{2, 1}, [2]int{1, 1}, impl.Power{At: 0, Period: 2, Length: 4}, 1},
		{[]int{0, 1 << 32, 0}, nil, false, false, [2]int{3, 2}, [2]int{3, 2}, impl.Power{}, 0},
		{[]int{1 << 32, -1 << 32, 0}, nil, false, false, [2]int{1, 1}, [2]int{1, 1}, impl.Power{}, 0},
	} {
		checkPowerNumbers(t, want)
	}
}

func TestPowersOfTheEmptyWord(t *testing.T) {
	for _, w := range [][]int{nil, {}, make([]int, 0, 7)} {
		// Its zero values are also those of all other results. The empty part is no square.
		checkPowerNumbers(t, powerNumbers{w: w})
		for _, q := range quotients() {
			if impl.HasPower(w, q[0], q[1]) {
				t.Errorf("HasPower of the empty word for %v is true", q)
			}
		}
	}
}

func TestPowersOfOneLetter(t *testing.T) {
	for _, letter := range anyNumbers {
		w := []int{letter}
		checkPowerNumbers(t, powerNumbers{w: w, greatest: [2]int{1, 1}, exponent: [2]int{1, 1}})
		for _, q := range quotients() {
			if impl.HasPower(w, q[0], q[1]) {
				t.Errorf("HasPower(%v) for %v is true", w, q)
			}
		}
	}
}

func TestPowersOfEqualLetters(t *testing.T) {
	for _, letter := range []int{math.MinInt, -1, 0, 16} {
		for size := 2; size <= 64; size++ {
			w := repeated(letter, size)
			want := powerNumbers{w: w, square: true, overlap: size > 2, greatest: [2]int{size, 1}, exponent: [2]int{size, 1}, shortest: impl.Power{Period: 1, Length: 2}, distinct: size / 2}
			for at := range size {
				for period := 1; at+2*period <= size; period++ {
					want.squares = append(want.squares, impl.Power{At: at, Period: period, Length: 2 * period})
				}
			}
			checkPowerNumbers(t, want)
		}
		for size := 1; size <= 128; size++ {
			w := repeated(letter, size)
			for _, q := range quotients() {
				if got := impl.HasPower(w, q[0], q[1]); got != (size*q[1] >= q[0]) {
					t.Errorf("HasPower of %d equal letters for %v = %v", size, q, got)
				}
			}
			if num, den := impl.GreatestExponent(w); num != size || den != 1 {
				t.Errorf("GreatestExponent of %d equal letters = %d, %d", size, num, den)
			}
		}
	}
	if got := len(impl.SquaresOf(repeated(3, 64))); got != 1024 {
		t.Errorf("64 equal letters have %d squares", got)
	}
}

// Three equal letters are an overlap, wherever they are; two are none.
func TestOverlapOfOneLetter(t *testing.T) {
	for _, size := range []int{3, 4, 5, 20, 64, 127, 128} {
		w := counting(-3, size)
		if impl.HasOverlap(w) || impl.HasSquare(w) {
			t.Fatalf("%v has no squares", w)
		}
		for at := range size - 2 {
			one := slices.Clone(w)
			one[at+1] = one[at]
			if !impl.HasSquare(one) || impl.HasOverlap(one) {
				t.Fatalf("two equal letters at %d in %v are a square, but no overlap", at, one)
			}
			one[at+2] = one[at]
			if !impl.HasSquare(one) || !impl.HasOverlap(one) || !impl.HasPower(one, 3, 1) {
				t.Fatalf("three equal letters at %d in %v are an overlap", at, one)
			}
			if num, den := impl.GreatestExponent(one); num != 3 || den != 1 {
				t.Fatalf("GreatestExponent(%v) = %d, %d", one, num, den)
			}
			// Three equal letters that are not together are none.
			if at > 0 {
				one[at-1], one[at] = one[at], one[at-1]
				if impl.HasOverlap(one) {
					t.Fatalf("%v has no overlap", one)
				}
			}
		}
	}
}

// An overlap is longer than a square by one letter or more, whatever its period is.
func TestOverlapsByOneLetter(t *testing.T) {
	for period := 1; 2*period+1 <= 128; period++ {
		square := turning(period, 2*period)
		for _, before := range []int{0, 1, 128 - 2*period - 1} {
			// Letters that come only once change nothing.
			other := counting(1000, before)
			w := slices.Concat(other, square)
			if !impl.HasSquare(w) || impl.HasOverlap(w) {
				t.Fatalf("HasOverlap(%v) = %v", w, impl.HasOverlap(w))
			}
			if w = append(w, 0); !impl.HasOverlap(w) {
				t.Fatalf("HasOverlap(%v) is false", w)
			}
			w = slices.Concat(square, []int{0}, other)
			if !impl.HasOverlap(w) {
				t.Fatalf("HasOverlap(%v) is false", w)
			}
			if impl.HasOverlap(w[1:]) {
				t.Fatalf("HasOverlap(%v) is true", w[1:])
			}
		}
	}
}

func TestPowerSamples(t *testing.T) {
	squares := 0
	for _, w := range powerWords() {
		if len(w) == 0 {
			continue
		}
		exponents := exponentsOf(w)
		want := powerNumbers{w: w, square: isReached(exponents, 2, 1), overlap: wantOverlap(exponents), greatest: wantGreatest(exponents), exponent: lowestTerms(len(w), leastPeriod(w))}
		if len(w) <= 64 {
			want.squares = wantSquares(w)
			want.distinct = wantDistinct(w)
		}
		for _, p := range want.squares {
			if want.shortest.Length == 0 || p.Period < want.shortest.Period {
				want.shortest = p
			}
		}
		squares += len(want.squares)
		checkPowerNumbers(t, want)
	}
	if squares < 100000 {
		t.Errorf("only %d squares are found", squares)
	}
}

func TestPowersForAllQuotients(t *testing.T) {
	var found, missing [21]int
	for i, w := range powerWords() {
		// All quotients of all words would take too long.
		if len(w) < 8 && i%7 != 0 {
			continue
		}
		exponents := exponentsOf(w)
		for _, q := range quotients() {
			want := isReached(exponents, q[0], q[1])
			if got := impl.HasPower(w, q[0], q[1]); got != want {
				t.Fatalf("HasPower(%v, %d, %d) = %v", w, q[0], q[1], got)
			}
			if want {
				found[q[0]]++
			} else {
				missing[q[0]]++
			}
		}
	}
	for num := 2; num <= 20; num++ {
		if found[num] < 100 || missing[num] < 100 {
			t.Errorf("with num = %d, only %d powers are found and %d are not", num, found[num], missing[num])
		}
	}
}

// A part may have other periods than the least one, but they give no other powers.
func TestPowersForAllPeriods(t *testing.T) {
	for _, w := range lessThan(powerWords(), 11) {
		var all [][2]int
		for at := range w {
			for end := at + 1; end <= len(w); end++ {
				for _, period := range wantPeriods(w[at:end]) {
					all = append(all, [2]int{end - at, period})
				}
			}
		}
		for _, q := range [][2]int{{2, 1}, {3, 1}, {3, 2}, {4, 3}, {5, 2}, {5, 4}, {6, 4}, {7, 3}, {8, 4}, {10, 9}, {20, 19}, {20, 2}} {
			if got := impl.HasPower(w, q[0], q[1]); got != isReached(all, q[0], q[1]) {
				t.Fatalf("HasPower(%v, %d, %d) = %v", w, q[0], q[1], got)
			}
		}
		if got := impl.HasOverlap(w); got != wantOverlap(all) {
			t.Fatalf("HasOverlap(%v) = %v", w, got)
		}
	}
}

// Words with exactly one exponent show where the bound of HasPower is.
func TestBoundsOfPowers(t *testing.T) {
	for _, q := range quotients() {
		num, den := q[0], q[1]
		for times := 1; times*num <= 128; times++ {
			w := turning(times*den, times*num)
			if !impl.HasPower(w, num, den) {
				t.Errorf("HasPower(%v, %d, %d) is false", w, num, den)
			}
			if impl.HasPower(w[1:], num, den) || impl.HasPower(w[:len(w)-1], num, den) {
				t.Errorf("HasPower(%v, %d, %d) is true", w[1:], num, den)
			}
			want := lowestTerms(num, den)
			if a, b := impl.GreatestExponent(w); a != want[0] || b != want[1] {
				t.Errorf("GreatestExponent(%v) = %d, %d, want %v", w, a, b, want)
			}
			if a, b := impl.ExponentOf(w); a != want[0] || b != want[1] {
				t.Errorf("ExponentOf(%v) = %d, %d, want %v", w, a, b, want)
			}
			// The part with the exponent may be anywhere.
			for _, before := range []int{1, 128 - len(w)} {
				if before+len(w) > 128 {
					continue
				}
				other := counting(1000, before)
				for _, longer := range [][]int{slices.Concat(other, w), slices.Concat(w, other)} {
					if !impl.HasPower(longer, num, den) {
						t.Errorf("HasPower(%v, %d, %d) is false", longer, num, den)
					}
					if a, b := impl.GreatestExponent(longer); a != want[0] || b != want[1] {
						t.Errorf("GreatestExponent(%v) = %d, %d, want %v", longer, a, b, want)
					}
				}
			}
		}
	}
}

// Each square is a part that is followed by itself, and no other one is missing.
func TestSquaresAreComplete(t *testing.T) {
	for _, w := range lessThan(powerWords(), 65) {
		squares := impl.SquaresOf(w)
		listed := map[impl.Power]bool{}
		for i, p := range squares {
			middle := p.At + p.Period
			if p.At < 0 || p.Period < 1 || p.Length != 2*p.Period || p.At+p.Length > len(w) || !slices.Equal(w[p.At:middle], w[middle:p.At+p.Length]) {
				t.Fatalf("%v is no square of %v", p, w)
			}
			if i > 0 && (p.At < squares[i-1].At || p.At == squares[i-1].At && p.Period <= squares[i-1].Period) {
				t.Fatalf("SquaresOf(%v) = %v is not in order", w, squares)
			}
			listed[p] = true
		}
		for at := range w {
			for period := 1; period <= len(w)-at-period; period++ {
				p := impl.Power{At: at, Period: period, Length: 2 * period}
				if !listed[p] && slices.Equal(w[at:at+period], w[at+period:at+2*period]) {
					t.Fatalf("the square %v of %v is missing", p, w)
				}
			}
		}
	}
}

func TestSquaresOverlapsAndExponentsAgree(t *testing.T) {
	overlaps := 0
	for _, w := range lessThan(powerWords(), 65) {
		squares := impl.SquaresOf(w)
		shortest, ok := impl.ShortestSquare(w)
		num, den := impl.GreatestExponent(w)
		some := len(squares) > 0
		if impl.HasSquare(w) != some || ok != some || (impl.DistinctSquares(w) > 0) != some || some != (len(w) > 0 && num >= 2*den) {
			t.Fatalf("%v has the squares %v, but HasSquare = %v, ShortestSquare = %v, DistinctSquares = %d and GreatestExponent = %d, %d", w, squares, impl.HasSquare(w), shortest, impl.DistinctSquares(w), num, den)
		}
		// An overlap consists of two squares with one period, the second of which begins one letter later.
		overlap := slices.ContainsFunc(squares, func(p impl.Power) bool {
			return slices.Contains(squares, impl.Power{At: p.At + 1, Period: p.Period, Length: p.Length})
		})
		if got := impl.HasOverlap(w); got != overlap || overlap != (num > 2*den) {
			t.Fatalf("%v has the squares %v and the greatest exponent %d, %d, but HasOverlap = %v", w, squares, num, den, got)
		}
		if overlap && !impl.HasSquare(w) {
			t.Fatalf("%v has an overlap, but no square", w)
		}
		overlaps += oneFor(overlap)
		at := slices.Index(squares, shortest)
		for i, p := range squares {
			if p.Period < shortest.Period || p.Period == shortest.Period && i < at {
				t.Fatalf("ShortestSquare(%v) = %v, but %v comes first", w, shortest, p)
			}
		}
		if some && at < 0 {
			t.Fatalf("ShortestSquare(%v) = %v is none of %v", w, shortest, squares)
		}
	}
	if overlaps < 10000 {
		t.Errorf("only %d words have an overlap", overlaps)
	}
}

// The greatest exponent is that of some part, and no part has a greater one. HasPower is true exactly up to it.
func TestGreatestExponentOfParts(t *testing.T) {
	for i, w := range lessThan(powerWords(), 65) {
		if len(w) == 0 || len(w) < 10 && i%5 != 0 {
			continue
		}
		num, den := impl.GreatestExponent(w)
		reached := false
		for at := range w {
			for end := at + 1; end <= len(w); end++ {
				part := w[at:end]
				a, b := impl.ExponentOf(part)
				if a*impl.LeastPeriod(part) != b*len(part) || greatestDivisor(a, b) != 1 {
					t.Fatalf("ExponentOf(%v) = %d, %d, but LeastPeriod = %d", part, a, b, impl.LeastPeriod(part))
				}
				if a*den > num*b {
					t.Fatalf("GreatestExponent(%v) = %d, %d, but the part %v has %d, %d", w, num, den, part, a, b)
				}
				reached = reached || a == num && b == den
			}
		}
		if !reached || greatestDivisor(num, den) != 1 {
			t.Fatalf("GreatestExponent(%v) = %d, %d is that of no part", w, num, den)
		}
		for _, q := range quotients() {
			if got := impl.HasPower(w, q[0], q[1]); got != (num*q[1] >= q[0]*den) {
				t.Fatalf("HasPower(%v, %d, %d) = %v, but GreatestExponent = %d, %d", w, q[0], q[1], got, num, den)
			}
		}
	}
}

// A word has fewer different squares than letters.
func TestNumberOfDistinctSquares(t *testing.T) {
	most := make([]int, 15)
	samples := lessThan(powerWords(), 65)
	for _, w := range slices.Concat(samples, listsOver(0, 2, 14)) {
		got := impl.DistinctSquares(w)
		if got > len(w) || len(w) > 0 && got == len(w) {
			t.Fatalf("%v has %d different squares", w, got)
		}
		if squares := len(impl.SquaresOf(w)); got > squares {
			t.Fatalf("%v has %d different squares, but %d squares", w, got, squares)
		}
		if len(w) < len(most) {
			most[len(w)] = max(most[len(w)], got)
		}
	}
	// Words of two letters with more different squares do not exist.
	if want := []int{0, 0, 1, 1, 2, 2, 3, 3, 4, 5, 6, 7, 7, 8, 9}; !slices.Equal(most, want) {
		t.Errorf("words of up to 14 letters have at most %v different squares, want %v", most, want)
	}
}

func TestDistinctSquaresOfExamples(t *testing.T) {
	for _, c := range []struct {
		text              string
		squares, distinct int
	}{
		{"00100", 2, 1},
		{"0010011", 4, 3},
		{"010010100", 5, 4},
		{"0000000", 12, 3},
		{"01010101", 6, 3},
		{"0110100110010110", 8, 5},
		{"012012012012", 8, 4},
		{"00102030405", 1, 1},
		{"001122334455", 6, 6},
		{"0012003400", 3, 1},
	} {
		w := letters(c.text)
		if got := len(impl.SquaresOf(w)); got != c.squares {
			t.Errorf("SquaresOf(%s) has %d, want %d", c.text, got, c.squares)
		}
		if got := impl.DistinctSquares(w); got != c.distinct {
			t.Errorf("DistinctSquares(%s) = %d, want %d", c.text, got, c.distinct)
		}
	}
	// A Fibonacci word of a + b letters, where a and b are the lengths of the two before it, has twice a - 1 different squares.
	a, b := 3, 5
	for b < 55 {
		if got := impl.DistinctSquares(letters(fibonacci(a + b))); got != 2*(a-1) {
			t.Errorf("the Fibonacci word of %d letters has %d different squares, want %d", a+b, got, 2*(a-1))
		}
		a, b = b, a+b
	}
}

// countWords counts the words of 0, 1, 2 and more letters that have the property, which all their parts have, too. It goes on as long as their numbers are the wanted ones.
func countWords(alphabet int, want []int, has func(w []int) bool) []int {
	counts := []int{1}
	words := [][]int{nil}
	for len(counts) < len(want) && slices.Equal(counts, want[:len(counts)]) {
		var longer [][]int
		for _, w := range words {
			for letter := range alphabet {
				if next := append(slices.Clone(w), letter-1); has(next) {
					longer = append(longer, next)
				}
			}
		}
		words = longer
		counts = append(counts, len(words))
	}
	return counts
}

func TestNumberOfWordsWithoutPowers(t *testing.T) {
	without := func(num int, den int) func(w []int) bool {
		return func(w []int) bool { return !impl.HasPower(w, num, den) }
	}
	for _, c := range []struct {
		name     string
		alphabet int
		has      func(w []int) bool
		want     []int
	}{
		{"square-free", 2, func(w []int) bool { return !impl.HasSquare(w) }, []int{1, 2, 2, 2, 0, 0}},
		{"square-free", 3, func(w []int) bool { return !impl.HasSquare(w) }, []int{1, 3, 6, 12, 18, 30, 42, 60, 78, 108, 144, 204, 264, 342, 456}},
		{"square-free", 3, func(w []int) bool { return impl.DistinctSquares(w) == 0 }, []int{1, 3, 6, 12, 18, 30, 42, 60, 78, 108, 144, 204, 264, 342, 456}},
		{"overlap-free", 2, func(w []int) bool { return !impl.HasOverlap(w) }, []int{1, 2, 4, 6, 10, 14, 20, 24, 30, 36, 44, 48, 60, 60, 62, 72, 82, 88, 96, 112, 120}},
		{"cube-free", 2, without(3, 1), []int{1, 2, 4, 6, 10, 16, 24, 36, 56, 80, 118, 174, 254, 378, 554, 802}},
		// Three letters are not enough for long words without the exponent 7/4, although they are for words without any greater one.
		{"5/3-free", 3, without(5, 3), []int{1, 3, 6, 12, 18, 24, 30, 30, 30, 30, 18, 0}},
		{"7/4-free", 3, without(7, 4), []int{1, 3, 6, 12, 18, 30, 42, 48, 66, 78, 96, 102, 102, 114, 114, 108, 102, 96, 96, 102, 108, 114, 108, 102, 96, 96, 102, 108, 114, 108, 102, 96, 96, 102, 108, 114, 108, 60, 18, 0}},
	} {
		got := countWords(c.alphabet, c.want, c.has)
		if !slices.Equal(got, c.want) {
			t.Errorf("over %d letters, the numbers of %s words are %v, want %v", c.alphabet, c.name, got, c.want)
		}
	}
}

func TestPowersOfKnownWords(t *testing.T) {
	for _, size := range []int{40, 63, 64, 100, 127, 128} {
		for _, c := range []struct {
			name     string
			w        []int
			greatest [2]int
		}{
			{"Thue-Morse", letters(thueMorse(size)), [2]int{2, 1}},
			{"Dejean", letters(dejean(size)), [2]int{7, 4}},
			{"different letters", counting(-9, size), [2]int{1, 1}},
			{"a letter that comes twice", append(counting(0, size-1), 0), lowestTerms(size, size-1)},
			{"one more turn", append(turning(size-2, size-2), 0, 1), lowestTerms(size, size-2)},
		} {
			if num, den := impl.GreatestExponent(c.w); num != c.greatest[0] || den != c.greatest[1] {
				t.Errorf("%s, %d letters: GreatestExponent = %d, %d, want %v", c.name, size, num, den, c.greatest)
			}
			square := c.greatest[0] >= 2*c.greatest[1]
			if impl.HasSquare(c.w) != square || impl.HasOverlap(c.w) {
				t.Errorf("%s, %d letters: HasSquare = %v, HasOverlap = %v", c.name, size, impl.HasSquare(c.w), impl.HasOverlap(c.w))
			}
		}
		if w := letters(squareFree(size)); impl.HasSquare(w) || !impl.HasPower(w, 15, 8) || impl.HasOverlap(w) {
			t.Errorf("the word %v has no squares", w)
		}
		// The Fibonacci word has cubes and some more, but no fourth powers.
		if w := letters(fibonacci(size)); !impl.HasPower(w, 3, 1) || !impl.HasPower(w, 16, 5) || impl.HasPower(w, 18, 5) || impl.HasPower(w, 4, 1) {
			t.Errorf("the powers of the Fibonacci word of %d letters are wrong", size)
		}
	}
}

// withOtherLetters puts another number in place of each letter, which keeps different letters different.
func withOtherLetters(w []int) []int {
	names := map[int]int{}
	var renamed []int
	for _, letter := range w {
		if _, ok := names[letter]; !ok {
			names[letter] = math.MaxInt - len(names)<<32
		}
		renamed = append(renamed, names[letter])
	}
	return renamed
}

// What the letters are called does not matter, nor in which direction the word is read.
func TestPowersOfOtherLetters(t *testing.T) {
	for _, w := range lessThan(powerWords(), 65) {
		squares := impl.SquaresOf(w)
		renamed := withOtherLetters(w)
		if got := impl.SquaresOf(renamed); !slices.Equal(got, squares) {
			t.Fatalf("SquaresOf(%v) = %v, but SquaresOf(%v) = %v", w, squares, renamed, got)
		}
		back := impl.SquaresOf(mirrored(w))
		if len(back) != len(squares) {
			t.Fatalf("SquaresOf(%v) = %v, but %v for the mirrored word", w, squares, back)
		}
		for _, p := range squares {
			if p.At = len(w) - p.At - p.Length; !slices.Contains(back, p) {
				t.Fatalf("the mirrored word of %v has the squares %v, but not %v", w, back, p)
			}
		}
		num, den := impl.GreatestExponent(w)
		for _, other := range [][]int{renamed, mirrored(w)} {
			if a, b := impl.GreatestExponent(other); a != num || b != den {
				t.Fatalf("GreatestExponent(%v) = %d, %d, but %d, %d for %v", w, num, den, a, b, other)
			}
			if impl.HasOverlap(other) != impl.HasOverlap(w) || impl.HasSquare(other) != impl.HasSquare(w) || impl.DistinctSquares(other) != impl.DistinctSquares(w) {
				t.Fatalf("%v and %v have different powers", w, other)
			}
		}
	}
}

func TestSquareLimits(t *testing.T) {
	for _, size := range []int{63, 64} {
		// The only square is as long as possible, and at the end.
		period := size / 2
		w := append(counting(1000, size%2), turning(period, 2*period)...)
		p := impl.Power{At: size % 2, Period: period, Length: 2 * period}
		checkPowerNumbers(t, powerNumbers{w, []impl.Power{p}, true, false, [2]int{2, 1}, lowestTerms(size, leastPeriod(w)), p, 1})
	}
	for _, size := range []int{65, 66, 127, 128, 129, 400, 401, 1 << 16, 1 << 20} {
		for _, w := range [][]int{repeated(0, size), turning(2, size), append(repeated(-1, 2), counting(0, size-2)...), letters(thueMorse(size))} {
			if got := impl.SquaresOf(w); len(got) != 0 {
				t.Fatalf("SquaresOf of %d letters has %d squares, want none", size, len(got))
			}
			if got, ok := impl.ShortestSquare(w); ok || got != (impl.Power{}) {
				t.Fatalf("ShortestSquare of %d letters = %v, %v", size, got, ok)
			}
			if got := impl.DistinctSquares(w); got != 0 {
				t.Fatalf("DistinctSquares of %d letters = %d", size, got)
			}
			// These allow up to 128 letters.
			if got := impl.HasSquare(w); got != (size <= 128) {
				t.Fatalf("HasSquare of %d letters = %v", size, got)
			}
		}
	}
}

func TestPowerLimits(t *testing.T) {
	for _, size := range []int{127, 128} {
		w := turning(size/2, size)
		if !impl.HasSquare(w) || impl.HasOverlap(w) != (size%2 == 1) {
			t.Errorf("%d letters: HasSquare = %v, HasOverlap = %v", size, impl.HasSquare(w), impl.HasOverlap(w))
		}
		for _, q := range quotients() {
			if !impl.HasPower(repeated(5, size), q[0], q[1]) {
				t.Errorf("HasPower of %d equal letters for %v is false", size, q)
			}
		}
		// The only power is at the end.
		last := append(counting(0, size-3), -1, -1, -1)
		if !impl.HasSquare(last) || !impl.HasOverlap(last) || !impl.HasPower(last, 3, 1) || impl.HasPower(last, 4, 1) {
			t.Errorf("the powers of %v are wrong", last)
		}
	}
	for _, size := range []int{129, 130, 256, 400, 401, 1 << 16, 1 << 20} {
		for _, w := range [][]int{repeated(0, size), turning(2, size), turning(64, size), counting(0, size)} {
			// Without the limit, the longer words would take too long.
			if impl.HasSquare(w) || impl.HasOverlap(w) {
				t.Fatalf("%d letters: HasSquare = %v, HasOverlap = %v", size, impl.HasSquare(w), impl.HasOverlap(w))
			}
			for _, q := range quotients() {
				if impl.HasPower(w, q[0], q[1]) {
					t.Fatalf("HasPower of %d letters for %v is true", size, q)
				}
			}
			if num, den := impl.GreatestExponent(w); num != 0 || den != 0 {
				t.Fatalf("GreatestExponent of %d letters = %d, %d", size, num, den)
			}
			// ExponentOf allows any length.
			want := lowestTerms(size, min(size, slices.Max(w)+1))
			if num, den := impl.ExponentOf(w); num != want[0] || den != want[1] {
				t.Errorf("ExponentOf of %d letters = %d, %d, want %v", size, num, den, want)
			}
		}
	}
	const size = 1 << 20
	if num, den := impl.ExponentOf(letters(thueMorse(size))); num != 4 || den != 3 {
		t.Errorf("ExponentOf of the Thue-Morse word of %d letters = %d, %d", size, num, den)
	}
}

func TestPowersOfWrongQuotients(t *testing.T) {
	wrong := [][2]int{
		{0, 0}, {1, 0}, {1, 1}, {0, 1}, {1, 2}, {2, 0}, {2, 2}, {2, 3}, {20, 0}, {20, 20}, {20, 21}, {21, 1}, {21, 20}, {21, 21}, {22, 11}, {40, 20},
		{-2, -1}, {-2, 1}, {2, -1}, {-20, -19}, {-20, -21}, {-1, -2}, {0, -1}, {1, -1}, {20, -20}, {20, -1},
		{1<<32 + 2, 1}, {2, 1<<32 + 1}, {1<<32 + 2, 1<<32 + 1}, {math.MaxInt, 1}, {math.MaxInt, math.MaxInt - 1}, {2, math.MaxInt}, {2, math.MinInt}, {math.MinInt, 1}, {math.MinInt, math.MinInt}, {20, math.MinInt}, {math.MaxInt, math.MinInt},
	}
	for num := 2; num <= 20; num++ {
		wrong = append(wrong, [2]int{num, 0}, [2]int{num, -1}, [2]int{num, -num}, [2]int{num, num}, [2]int{num, num + 1}, [2]int{num, math.MaxInt}, [2]int{num, math.MinInt}, [2]int{-num, 1}, [2]int{-num, -1})
	}
	for _, q := range wrong {
		for _, w := range [][]int{nil, {0}, {0, 0}, {0, 1}, repeated(0, 64), repeated(7, 128), repeated(7, 129), turning(2, 128)} {
			if impl.HasPower(w, q[0], q[1]) {
				t.Errorf("HasPower(%v, %d, %d) is true", w, q[0], q[1])
			}
		}
	}
	// These are the limits on the other side.
	for _, q := range [][2]int{{2, 1}, {3, 1}, {3, 2}, {20, 1}, {20, 19}, {19, 18}} {
		if !impl.HasPower(repeated(math.MinInt, 20), q[0], q[1]) {
			t.Errorf("HasPower of 20 equal letters for %v is false", q)
		}
	}
	if impl.HasPower(repeated(0, 19), 20, 1) || impl.HasPower(repeated(0, 1), 2, 1) || !impl.HasPower(repeated(0, 2), 20, 19) {
		t.Error("the powers of equal letters are wrong")
	}
}

func TestPowersOfAnyNumbers(t *testing.T) {
	for _, a := range anyNumbers {
		for _, b := range anyNumbers {
			if a == b {
				continue
			}
			// The squares are 00, 11 and 0101 for the letters a and b.
			w := []int{a, a, b, a, b, b}
			squares := []impl.Power{{At: 0, Period: 1, Length: 2}, {At: 1, Period: 2, Length: 4}, {At: 4, Period: 1, Length: 2}}
			checkPowerNumbers(t, powerNumbers{w, squares, true, false, [2]int{2, 1}, [2]int{1, 1}, squares[0], 3})
			w = []int{b, a, b, a, b}
			squares = []impl.Power{{At: 0, Period: 2, Length: 4}, {At: 1, Period: 2, Length: 4}}
			checkPowerNumbers(t, powerNumbers{w, squares, true, true, [2]int{5, 2}, [2]int{5, 2}, squares[0], 2})
		}
	}
}

// powerCalls contains the functions of the chapter, all with texts as results.
func powerCalls() map[string]func(w []int) string {
	return map[string]func(w []int) string{
		"SquaresOf":        func(w []int) string { return fmt.Sprint(impl.SquaresOf(w)) },
		"HasSquare":        func(w []int) string { return fmt.Sprint(impl.HasSquare(w)) },
		"HasOverlap":       func(w []int) string { return fmt.Sprint(impl.HasOverlap(w)) },
		"HasPower":         func(w []int) string { return fmt.Sprint(impl.HasPower(w, 3, 2), impl.HasPower(w, 1, 1)) },
		"GreatestExponent": func(w []int) string { return fmt.Sprint(impl.GreatestExponent(w)) },
		"ExponentOf":       func(w []int) string { return fmt.Sprint(impl.ExponentOf(w)) },
		"ShortestSquare":   func(w []int) string { return fmt.Sprint(impl.ShortestSquare(w)) },
		"DistinctSquares":  func(w []int) string { return fmt.Sprint(impl.DistinctSquares(w)) },
	}
}

func TestPowersChangeNoArgument(t *testing.T) {
	words := append(memoryWords(), letters("010010"), letters("012012"), letters(thueMorse(64)), repeated(-3, 70), repeated(-3, 63))
	for name, call := range powerCalls() {
		for _, w := range words {
			word, changed := guardedWord(w)
			first := call(word)
			if changed() {
				t.Errorf("%s changes the memory of %v", name, w)
			}
			// What is behind the word does not matter, either.
			if again := call(slices.Clip(slices.Clone(w))); first != again {
				t.Errorf("%s(%v) = %s and %s", name, w, first, again)
			}
		}
	}
}

func TestSquaresShareNoMemory(t *testing.T) {
	for _, w := range append(memoryWords(), letters("010010"), repeated(-3, 64)) {
		got, again := impl.SquaresOf(w), impl.SquaresOf(w)
		before := slices.Clone(got)
		for i := range again {
			again[i] = impl.Power{At: -1, Period: -2, Length: -3}
		}
		if !slices.Equal(got, before) || !slices.Equal(impl.SquaresOf(w), before) {
			t.Errorf("the squares of %v share memory", w)
		}
	}
}
