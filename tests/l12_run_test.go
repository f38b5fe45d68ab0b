package tests

import (
	"cmp"
	"math"
	"slices"
	"testing"

	"loop.example/g02079/impl"
)

// These assignments do not compile if a signature differs from the document.
var (
	_ func([]int) []impl.Run              = impl.RunsOf
	_ func([]int) int                     = impl.CountRuns
	_ func([]int) int                     = impl.RunExponents
	_ func([]int, impl.Run) ([]int, bool) = impl.RootOfRun
	_ func(impl.Run) int                  = impl.SquaresInRun
	_ func([]int, impl.Run) bool          = impl.IsRun
	_ struct{ From, To, Period int }      = impl.Run{}
)

// runWords contains lists of any numbers that have at most 64 letters: those of powerWords, and drawn words in which runs of several periods meet.
func runWords() [][]int {
	l := lessThan(powerWords(), 65)
	draw := drawing(12)
	for range 200 {
		var w []int
		for len(w) < 64 {
			part := turning(1+draw(5), 1+draw(16))
			w = append(w, part[:min(len(part), 64-len(w))]...)
		}
		l = append(l, w, w[draw(64):])
	}
	return l
}

// canGrow tells whether the part could be made longer at an end with the period.
func canGrow(w []int, from int, to int, period int) bool {
	return from > 0 && hasPeriod(w[from-1:to], period) || to < len(w) && hasPeriod(w[from:to+1], period)
}

// wantRuns is RunsOf: it tries all parts.
func wantRuns(w []int) []impl.Run {
	var l []impl.Run
	for from := range w {
		for to := from + 2; to <= len(w); to++ {
			period := leastPeriod(w[from:to])
			if to-from >= 2*period && !canGrow(w, from, to, period) {
				l = append(l, impl.Run{From: from, To: to, Period: period})
			}
		}
	}
	return l
}

// wantExponents is RunExponents for these runs: it cuts periods off.
func wantExponents(runs []impl.Run) int {
	sum := 0
	for _, r := range runs {
		for rest := r.To - r.From; rest >= r.Period; rest -= r.Period {
			sum++
		}
	}
	return sum
}

// checkRuns checks all functions of the chapter that take a word, for a word with these runs.
func checkRuns(t *testing.T, w []int, want []impl.Run) {
	t.Helper()
	if got := impl.RunsOf(w); !slices.Equal(got, want) {
		t.Fatalf("RunsOf(%v) = %v, want %v", w, got, want)
	}
	if got := impl.CountRuns(w); got != len(want) {
		t.Fatalf("CountRuns(%v) = %d, want %d", w, got, len(want))
	}
	if got := impl.RunExponents(w); got != wantExponents(want) {
		t.Fatalf("RunExponents(%v) = %d, want %d", w, got, wantExponents(want))
	}
	for _, r := range want {
		if !impl.IsRun(w, r) {
			t.Fatalf("IsRun(%v, %v) is false", w, r)
		}
		root := wantLeast(w[r.From : r.From+r.Period])
		if got, ok := impl.RootOfRun(w, r); !ok || !slices.Equal(got, root) {
			t.Fatalf("RootOfRun(%v, %v) = %v, %v, want %v", w, r, got, ok, root)
		}
	}
}

// checkNoRun checks that a word has not this run.
func checkNoRun(t *testing.T, w []int, r impl.Run) {
	t.Helper()
	if impl.IsRun(w, r) {
		t.Fatalf("IsRun(%v, %v) is true", w, r)
	}
	if got, ok := impl.RootOfRun(w, r); ok || len(got) != 0 {
		t.Fatalf("RootOfRun(%v, %v) = %v, %v, want nothing", w, r, got, ok)
	}
}

func TestRunExamples(t *testing.T) {
	const low, high = math.MinInt, math.MaxInt
	for _, c := range []struct {
		w    []int
		want []impl.Run
		sum  int
	}{
		{letters("0010100"), []impl.Run{{From: 0, To: 2, Period: 1}, {From: 1, To: 6, Period: 2}, {From: 5, To: 7, Period: 1}}, 6},
		{letters("00"), []impl.Run{{From: 0, To: 2, Period: 1}}, 2},
		{letters("01"), nil, 0},
		{letters("010"), nil, 0},
		{letters("0123"), nil, 0},
		{letters("0101"), []impl.Run{{From: 0, To: 4, Period: 2}}, 2},
		{letters("01010"), []impl.Run{{From: 0, To: 5, Period: 2}}, 2},
		{letters("010101"), []impl.Run{{From: 0, To: 6, Period: 2}}, 3},
		// Several runs from one place on, up to one place, and within another one.
		{letters("001001"), []impl.Run{{From: 0, To: 2, Period: 1}, {From: 0, To: 6, Period: 3}, {From: 3, To: 5, Period: 1}}, 6},
		{letters("100100"), []impl.Run{{From: 0, To: 6, Period: 3}, {From: 1, To: 3, Period: 1}, {From: 4, To: 6, Period: 1}}, 6},
		{letters("0110110"), []impl.Run{{From: 0, To: 7, Period: 3}, {From: 1, To: 3, Period: 1}, {From: 4, To: 6, Period: 1}}, 6},
		{letters("01010010100"), []impl.Run{{From: 0, To: 5, Period: 2}, {From: 0, To: 11, Period: 5}, {From: 2, To: 8, Period: 3}, {From: 4, To: 6, Period: 1}, {From: 5, To: 10, Period: 2}, {From: 9, To: 11, Period: 1}}, 12},
		// Runs with one period that overlap, touch and keep apart.
		{letters("0011"), []impl.Run{{From: 0, To: 2, Period: 1}, {From: 2, To: 4, Period: 1}}, 4},
		{letters("01011212"), []impl.Run{{From: 0, To: 4, Period: 2}, {From: 3, To: 5, Period: 1}, {From: 4, To: 8, Period: 2}}, 6},
		{letters("010121"), []impl.Run{{From: 0, To: 4, Period: 2}}, 2},
		{letters("0101212"), []impl.Run{{From: 0, To: 4, Period: 2}, {From: 3, To: 7, Period: 2}}, 4},
		{letters("01201201301301"), []impl.Run{{From: 0, To: 8, Period: 3}, {From: 6, To: 14, Period: 3}}, 4},
		{letters("00100"), []impl.Run{{From: 0, To: 2, Period: 1}, {From: 3, To: 5, Period: 1}}, 4},
		// A multiple of the least period is no other run.
		{letters("0000"), []impl.Run{{From: 0, To: 4, Period: 1}}, 4},
		{letters("01010101"), []impl.Run{{From: 0, To: 8, Period: 2}}, 4},
		{letters("2000012"), []impl.Run{{From: 1, To: 5, Period: 1}}, 4},
		// At the end, at the beginning and in the middle.
		{letters("123011"), []impl.Run{{From: 4, To: 6, Period: 1}}, 2},
		{letters("1230101"), []impl.Run{{From: 3, To: 7, Period: 2}}, 2},
		{letters("1233012012"), []impl.Run{{From: 2, To: 4, Period: 1}, {From: 4, To: 10, Period: 3}}, 4},
		{letters("1100230"), []impl.Run{{From: 0, To: 2, Period: 1}, {From: 2, To: 4, Period: 1}}, 4},
		{letters("f0120123"), []impl.Run{{From: 1, To: 7, Period: 3}}, 2},
		// Numbers that are no letters.
		{[]int{low, low}, []impl.Run{{From: 0, To: 2, Period: 1}}, 2},
		{[]int{low, high, low, high, low, -1}, []impl.Run{{From: 0, To: 5, Period: 2}}, 2},
		{[]int{0, 1 << 32, 0, 1 << 32, -1 << 32, -1 << 32}, []impl.Run{{From: 0, To: 4, Period: 2}, {From: 4, To: 6, Period: 1}}, 4},
		{[]int{1 << 32, -1 << 32, 0}, nil, 0},
	} {
		checkRuns(t, c.w, c.want)
		if got := impl.RunExponents(c.w); got != c.sum {
			t.Errorf("RunExponents(%v) = %d, want %d", c.w, got, c.sum)
		}
	}
}

func TestRootExamples(t *testing.T) {
	for _, c := range []struct {
		word string
		run  impl.Run
		root string
	}{
		{"0010100", impl.Run{From: 1, To: 6, Period: 2}, "01"},
		{"0010100", impl.Run{From: 5, To: 7, Period: 1}, "0"},
		{"1010", impl.Run{From: 0, To: 4, Period: 2}, "01"},
		{"ff", impl.Run{From: 0, To: 2, Period: 1}, "f"},
		{"3210321032", impl.Run{From: 0, To: 10, Period: 4}, "0321"},
		{"9201201201", impl.Run{From: 1, To: 10, Period: 3}, "012"},
		{"110110", impl.Run{From: 0, To: 6, Period: 3}, "011"},
		{"0100101001", impl.Run{From: 0, To: 10, Period: 5}, "00101"},
	} {
		if got, ok := impl.RootOfRun(letters(c.word), c.run); !ok || !slices.Equal(got, letters(c.root)) {
			t.Errorf("RootOfRun(%s, %v) = %v, %v, want %s", c.word, c.run, got, ok, c.root)
		}
	}
	// Letters may be any numbers.
	root, ok := impl.RootOfRun([]int{math.MaxInt, -1, math.MinInt, math.MaxInt, -1, math.MinInt}, impl.Run{From: 0, To: 6, Period: 3})
	if !ok || !slices.Equal(root, []int{math.MinInt, math.MaxInt, -1}) {
		t.Errorf("the root is %v, %v", root, ok)
	}
}

// someRuns contains runs with all numbers from -2 to most, and with some that are far away.
func someRuns(most int) []impl.Run {
	numbers := append(counting(-2, most+3), math.MinInt, math.MinInt+1, -1<<32, 64, 65, 1<<32, math.MaxInt-1, math.MaxInt)
	var l []impl.Run
	for _, from := range numbers {
		for _, to := range numbers {
			for _, period := range numbers {
				l = append(l, impl.Run{From: from, To: to, Period: period})
			}
		}
	}
	return l
}

// checkOnlyRuns checks IsRun and RootOfRun for all the runs, of which only the wanted ones are runs of the word.
func checkOnlyRuns(t *testing.T, w []int, all []impl.Run, want []impl.Run) {
	t.Helper()
	for _, r := range all {
		if !slices.Contains(want, r) {
			checkNoRun(t, w, r)
		}
	}
	checkRuns(t, w, want)
}

func TestRunsOfTheEmptyWord(t *testing.T) {
	for _, w := range [][]int{nil, {}, make([]int, 0, 7)} {
		checkOnlyRuns(t, w, someRuns(3), nil)
	}
}

func TestRunsOfOneLetter(t *testing.T) {
	for _, letter := range anyNumbers {
		checkOnlyRuns(t, []int{letter}, someRuns(3), nil)
	}
}

func TestRunsOfTwoLetters(t *testing.T) {
	for _, a := range anyNumbers {
		for _, b := range anyNumbers {
			var want []impl.Run
			if a == b {
				want = []impl.Run{{From: 0, To: 2, Period: 1}}
			}
			checkRuns(t, []int{a, b}, want)
		}
	}
}

// Equal letters are one run, whatever multiples of its period there are.
func TestRunsOfEqualLetters(t *testing.T) {
	for _, letter := range []int{math.MinInt, -1, 0, 16, math.MaxInt} {
		for size := 2; size <= 64; size++ {
			w := repeated(letter, size)
			checkRuns(t, w, []impl.Run{{From: 0, To: size, Period: 1}})
			if got := impl.RunExponents(w); got != size {
				t.Errorf("RunExponents of %d equal letters = %d", size, got)
			}
			for period := 2; period <= size; period++ {
				checkNoRun(t, w, impl.Run{From: 0, To: size, Period: period})
			}
		}
	}
}

// All numbers are tried for words of a few letters.
func TestPartsThatAreNoRuns(t *testing.T) {
	found := 0
	for _, w := range append(listsOver(0, 2, 6), letters("0010100"), letters("0000000"), letters("1231231")) {
		want := wantRuns(w)
		checkOnlyRuns(t, w, someRuns(len(w)+2), want)
		found += len(want)
	}
	if found < 150 {
		t.Errorf("only %d runs are found", found)
	}
}

// A part that lacks a letter of the run, or has one more, is no run with the period, nor is the run with another period.
func TestRunsThatAreNearlyRight(t *testing.T) {
	for _, w := range runWords() {
		runs := impl.RunsOf(w)
		for _, r := range runs {
			for _, near := range []impl.Run{
				{From: r.From + 1, To: r.To, Period: r.Period},
				{From: r.From - 1, To: r.To, Period: r.Period},
				{From: r.From, To: r.To + 1, Period: r.Period},
				{From: r.From, To: r.To - 1, Period: r.Period},
				{From: r.From + r.Period, To: r.To, Period: r.Period},
				{From: r.From, To: r.To - r.Period, Period: r.Period},
				{From: r.From, To: r.To, Period: 2 * r.Period},
				{From: r.From, To: r.To, Period: 3 * r.Period},
				{From: r.From, To: r.To, Period: r.To - r.From},
				{From: r.From, To: r.To, Period: r.Period + 1},
				{From: r.From, To: r.To, Period: r.Period - 1},
				{From: r.From, To: r.To, Period: 0},
				{From: r.From, To: r.To, Period: -r.Period},
				{From: r.To, To: r.From, Period: r.Period},
				{From: r.To, To: r.From, Period: -r.Period},
				{From: -r.From - 1, To: r.To, Period: r.Period},
				{From: r.From, To: -r.To, Period: r.Period},
				{From: r.From - len(w), To: r.To - len(w), Period: r.Period},
				{From: r.From + len(w), To: r.To + len(w), Period: r.Period},
				{From: r.From, To: math.MaxInt, Period: r.Period},
				{From: math.MinInt, To: r.To, Period: r.Period},
				{From: r.From, To: r.To, Period: math.MaxInt},
				{From: r.From + 1<<32, To: r.To + 1<<32, Period: r.Period},
			} {
				checkNoRun(t, w, near)
			}
		}
	}
}

func TestRunSamples(t *testing.T) {
	found := 0
	for _, w := range runWords() {
		want := wantRuns(w)
		checkRuns(t, w, want)
		found += len(want)
	}
	if found < 40000 {
		t.Errorf("only %d runs are found", found)
	}
}

// Each run is a part of the word with its least period, long enough, and as long as possible, and there are no two equal ones.
func TestRunsAreRuns(t *testing.T) {
	for _, w := range runWords() {
		runs := impl.RunsOf(w)
		for i, r := range runs {
			if r.From < 0 || r.To > len(w) || r.Period < 1 || r.To-r.From < 2*r.Period {
				t.Fatalf("%v is no run of %v", r, w)
			}
			if part := w[r.From:r.To]; impl.LeastPeriod(part) != r.Period {
				t.Fatalf("RunsOf(%v) has %v, but the least period is %d", w, r, impl.LeastPeriod(part))
			}
			if r.From > 0 && w[r.From-1] == w[r.From-1+r.Period] || r.To < len(w) && w[r.To] == w[r.To-r.Period] {
				t.Fatalf("RunsOf(%v) has %v, which can be made longer", w, r)
			}
			if i > 0 && cmp.Or(cmp.Compare(runs[i-1].From, r.From), cmp.Compare(runs[i-1].To, r.To)) >= 0 {
				t.Fatalf("RunsOf(%v) = %v is not in order", w, runs)
			}
		}
	}
}

// A word that is not empty has fewer runs than letters, and the sum of their exponents is less than three times as many.
func TestFewerRunsThanLetters(t *testing.T) {
	most := make([]int, 15)
	sums := make([]int, 15)
	for _, w := range slices.Concat(runWords(), listsOver(0, 2, 14)) {
		count, sum := impl.CountRuns(w), impl.RunExponents(w)
		if count > 0 && count >= len(w) || len(w) == 0 && count != 0 {
			t.Fatalf("%v has %d runs", w, count)
		}
		if sum < 2*count || sum > 0 && sum >= 3*len(w) {
			t.Fatalf("%v has %d runs with the exponents %d", w, count, sum)
		}
		if len(w) < len(most) {
			most[len(w)] = max(most[len(w)], count)
			sums[len(w)] = max(sums[len(w)], sum)
		}
	}
	// Words of two letters with more runs, or with a greater sum, do not exist.
	if want := []int{0, 0, 1, 1, 2, 2, 3, 4, 5, 5, 6, 7, 8, 8, 10}; !slices.Equal(most, want) {
		t.Errorf("words of up to 14 letters have at most %v runs, want %v", most, want)
	}
	if want := []int{0, 0, 2, 3, 4, 5, 6, 8, 10, 11, 12, 14, 16, 17, 20}; !slices.Equal(sums, want) {
		t.Errorf("the exponents of words of up to 14 letters are at most %v, want %v", sums, want)
	}
}

// A Fibonacci word of a + b letters, where a and b are the lengths of the two before it, has 2a - 3 runs.
func TestRunsOfTheFibonacciWord(t *testing.T) {
	a, b := 3, 5
	for a+b <= 55 {
		w := letters(fibonacci(a + b))
		checkRuns(t, w, wantRuns(w))
		if got := impl.CountRuns(w); got != 2*a-3 {
			t.Errorf("the Fibonacci word of %d letters has %d runs, want %d", a+b, got, 2*a-3)
		}
		a, b = b, a+b
	}
}

func TestRunsOfKnownWords(t *testing.T) {
	for size := range 65 {
		// Words without squares have no runs.
		for _, w := range [][]int{letters(squareFree(size)), letters(dejean(size)), counting(-9, size)} {
			checkRuns(t, w, nil)
		}
		// All runs of the Thue-Morse word are squares.
		w := letters(thueMorse(size))
		if count, sum := impl.CountRuns(w), impl.RunExponents(w); count != len(impl.SquaresOf(w)) || sum != 2*count {
			t.Errorf("the Thue-Morse word of %d letters has %d runs with the exponents %d", size, count, sum)
		}
	}
}

// A run of any length and period may be at the end, at the beginning, and between other letters.
func TestRunsAtTheEnd(t *testing.T) {
	for period := 1; period <= 32; period++ {
		for size := 2 * period; size <= 64; size++ {
			run := turning(period, size)
			for _, before := range []int{0, 1, 2, 64 - size} {
				if before+size > 64 {
					continue
				}
				// Letters that come only once belong to no run.
				other := counting(1000, before)
				checkRuns(t, slices.Concat(other, run), []impl.Run{{From: before, To: before + size, Period: period}})
				checkRuns(t, slices.Concat(run, other), []impl.Run{{From: 0, To: size, Period: period}})
				checkRuns(t, slices.Concat(other[:before/2], run, other[before/2:]), []impl.Run{{From: before / 2, To: before/2 + size, Period: period}})
			}
			// One letter less is no run.
			if size == 2*period {
				checkRuns(t, slices.Concat(counting(1000, 64-size), run[1:]), nil)
			}
		}
	}
}

// The end of the word ends the run. With another letter, the run ends there, too, or is longer.
func TestRunsBeforeTheEnd(t *testing.T) {
	for _, w := range lessThan(runWords(), 40) {
		if len(w) == 0 {
			continue
		}
		shorter := w[:len(w)-1]
		for _, r := range impl.RunsOf(shorter) {
			longer := r
			if r.To == len(shorter) && w[r.To] == w[r.To-r.Period] {
				longer.To++
			}
			if !impl.IsRun(w, longer) {
				t.Fatalf("%v has the run %v, but %v has not %v", shorter, r, w, longer)
			}
		}
		// A run that is new is at the end, and a square.
		for _, r := range impl.RunsOf(w) {
			if r.To < len(w) && !impl.IsRun(shorter, r) || r.To == len(w) && r.To-r.From > 2*r.Period && !impl.IsRun(shorter, impl.Run{From: r.From, To: r.To - 1, Period: r.Period}) {
				t.Fatalf("%v has the run %v, but %v has not", w, r, shorter)
			}
		}
	}
}

// RunExponents rounds each quotient down, and not the sum.
func TestExponentsAreRoundedDown(t *testing.T) {
	for period := 1; period <= 16; period++ {
		for size := 2 * period; size <= 32; size++ {
			one := turning(period, size)
			if got := impl.RunExponents(one); got != size/period {
				t.Errorf("RunExponents(%v) = %d, want %d", one, got, size/period)
			}
			two := slices.Concat(one, turning(period, size))
			for i := range size {
				two[i] += 100
			}
			if got := impl.RunExponents(two); got != 2*(size/period) {
				t.Errorf("RunExponents(%v) = %d, want %d", two, got, 2*(size/period))
			}
		}
	}
}

// Each root is a Lyndon word of Period letters, the same one wherever in the run it is looked for, and the run is made of it.
func TestRootsOfRuns(t *testing.T) {
	for _, w := range runWords() {
		for _, r := range impl.RunsOf(w) {
			root, ok := impl.RootOfRun(w, r)
			if !ok || len(root) != r.Period || !impl.IsLyndon(root) || !wantLyndon(root) {
				t.Fatalf("RootOfRun(%v, %v) = %v, %v", w, r, root, ok)
			}
			for at := r.From; at+r.Period <= r.To; at++ {
				if least := impl.LeastConjugate(w[at : at+r.Period]); !slices.Equal(least, root) {
					t.Fatalf("RootOfRun(%v, %v) = %v, but %v is at %d", w, r, root, least, at)
				}
			}
			// In a run, which is twice as long as the root, it stands somewhere as it is.
			if !impl.IsFactor(w[r.From:r.To], root) {
				t.Fatalf("RootOfRun(%v, %v) = %v is not in the run", w, r, root)
			}
		}
	}
}

// Every square lies in exactly one run whose period divides the square's.
func TestSquaresLieInRuns(t *testing.T) {
	for _, w := range runWords() {
		runs := impl.RunsOf(w)
		for _, p := range impl.SquaresOf(w) {
			around := 0
			for _, r := range runs {
				around += oneFor(r.From <= p.At && p.At+p.Length <= r.To && p.Period%r.Period == 0)
			}
			if around != 1 {
				t.Fatalf("the square %v of %v lies in %d of the runs %v", p, w, around, runs)
			}
		}
	}
}

// Each run holds SquaresInRun places of squares of its period, and likewise for the multiples of it; there are no other squares.
func TestSquaresInRunsAreAll(t *testing.T) {
	for _, w := range runWords() {
		squares := impl.SquaresOf(w)
		sum := 0
		for _, r := range impl.RunsOf(w) {
			for period := r.Period; period <= 64; period += r.Period {
				places := 0
				for _, p := range squares {
					places += oneFor(p.Period == period && p.At >= r.From && p.At+p.Length <= r.To)
				}
				if got := impl.SquaresInRun(impl.Run{From: r.From, To: r.To, Period: period}); got != places {
					t.Fatalf("the run %v of %v holds %d squares of the period %d, but SquaresInRun = %d", r, w, places, period, got)
				}
				sum += places
			}
		}
		if sum != len(squares) {
			t.Fatalf("%v has %d squares, but the runs have %d", w, len(squares), sum)
		}
	}
}

// Runs, squares, overlaps and exponents agree.
func TestRunsAndPowersAgree(t *testing.T) {
	for _, w := range runWords() {
		runs := impl.RunsOf(w)
		if impl.HasSquare(w) != (len(runs) > 0) {
			t.Fatalf("HasSquare(%v) = %v, but it has the runs %v", w, impl.HasSquare(w), runs)
		}
		overlap := slices.ContainsFunc(runs, func(r impl.Run) bool { return r.To-r.From > 2*r.Period })
		if impl.HasOverlap(w) != overlap {
			t.Fatalf("HasOverlap(%v) = %v, but it has the runs %v", w, impl.HasOverlap(w), runs)
		}
		if len(runs) == 0 {
			continue
		}
		num, den := impl.GreatestExponent(w)
		shortest, _ := impl.ShortestSquare(w)
		greatest, least := [2]int{0, 1}, math.MaxInt
		for _, r := range runs {
			if (r.To-r.From)*greatest[1] > greatest[0]*r.Period {
				greatest = lowestTerms(r.To-r.From, r.Period)
			}
			least = min(least, r.Period)
			if a, b := impl.ExponentOf(w[r.From:r.To]); [2]int{a, b} != lowestTerms(r.To-r.From, r.Period) {
				t.Fatalf("the run %v of %v has the exponent %d, %d", r, w, a, b)
			}
		}
		if greatest != [2]int{num, den} || least != shortest.Period {
			t.Fatalf("%v has the runs %v, but GreatestExponent = %d, %d and ShortestSquare = %v", w, runs, num, den, shortest)
		}
	}
}

// Two runs with one period have fewer than so many letters in common.
func TestRunsWithOnePeriodHardlyOverlap(t *testing.T) {
	for _, w := range runWords() {
		runs := impl.RunsOf(w)
		for i, r := range runs {
			for _, s := range runs[i+1:] {
				if r.Period == s.Period && r.To-s.From >= r.Period {
					t.Fatalf("%v has the runs %v and %v", w, r, s)
				}
			}
		}
	}
}

// What the letters are called does not matter, nor in which direction the word is read, nor what is around it.
func TestRunsOfOtherLetters(t *testing.T) {
	for _, w := range runWords() {
		runs := impl.RunsOf(w)
		checkRuns(t, withOtherLetters(w), runs)
		var back, later []impl.Run
		for _, r := range runs {
			back = append(back, impl.Run{From: len(w) - r.To, To: len(w) - r.From, Period: r.Period})
			later = append(later, impl.Run{From: r.From + 1, To: r.To + 1, Period: r.Period})
		}
		slices.SortFunc(back, func(a impl.Run, b impl.Run) int {
			return cmp.Or(cmp.Compare(a.From, b.From), cmp.Compare(a.To, b.To))
		})
		checkRuns(t, mirrored(w), back)
		if len(w) <= 62 {
			checkRuns(t, slices.Concat([]int{12345}, w, []int{54321}), later)
		}
	}
}

func TestRunLimits(t *testing.T) {
	for _, size := range []int{63, 64} {
		for _, w := range [][]int{repeated(0, size), turning(2, size), turning(31, size), turning(32, size), append(counting(0, size-2), -1, -1), letters(thueMorse(size)), letters(fibonacci(size))} {
			checkRuns(t, w, wantRuns(w))
		}
		if got := impl.CountRuns(letters(fibonacci(size))); got < 30 {
			t.Errorf("%d letters of the Fibonacci word have %d runs", size, got)
		}
	}
	for _, size := range []int{65, 66, 127, 128, 129, 400, 401, 1 << 16, 1 << 20} {
		for _, w := range [][]int{repeated(0, size), turning(2, size), turning(32, size), append(repeated(-1, 2), counting(0, size-2)...), append(counting(0, size-2), -1, -1), letters(thueMorse(size))} {
			if got := impl.RunsOf(w); len(got) != 0 {
				t.Fatalf("RunsOf of %d letters has %d runs, want none", len(w), len(got))
			}
			if count, sum := impl.CountRuns(w), impl.RunExponents(w); count != 0 || sum != 0 {
				t.Fatalf("%d letters have %d runs with the exponents %d, want none", len(w), count, sum)
			}
			for _, r := range []impl.Run{{From: 0, To: 2, Period: 1}, {From: 0, To: len(w), Period: 1}, {From: 0, To: len(w), Period: 2}, {From: 0, To: len(w), Period: 32}, {From: len(w) - 2, To: len(w), Period: 1}, {From: 0, To: 64, Period: 1}, {From: 1, To: 3, Period: 1}} {
				if got, ok := impl.RootOfRun(w, r); ok || len(got) != 0 || impl.IsRun(w, r) {
					t.Fatalf("%d letters have the run %v with the root %v", len(w), r, got)
				}
			}
		}
	}
}

func TestSquaresInRunExamples(t *testing.T) {
	for _, c := range []struct {
		run  impl.Run
		want int
	}{
		{impl.Run{From: 1, To: 6, Period: 2}, 2},
		{impl.Run{From: 0, To: 2, Period: 1}, 1},
		{impl.Run{From: 0, To: 4, Period: 1}, 3},
		{impl.Run{From: 0, To: 4, Period: 2}, 1},
		{impl.Run{From: 0, To: 64, Period: 1}, 63},
		{impl.Run{From: 0, To: 64, Period: 32}, 1},
		{impl.Run{From: 0, To: 64, Period: 31}, 3},
		{impl.Run{From: 62, To: 64, Period: 1}, 1},
		{impl.Run{From: 1, To: 64, Period: 1}, 62},
		// Parts shorter than two periods.
		{impl.Run{From: 0, To: 64, Period: 33}, 0},
		{impl.Run{From: 0, To: 64, Period: 64}, 0},
		{impl.Run{From: 0, To: 63, Period: 32}, 0},
		{impl.Run{From: 0, To: 3, Period: 2}, 0},
		{impl.Run{From: 0, To: 1, Period: 1}, 0},
		{impl.Run{From: 5, To: 5, Period: 1}, 0},
		{impl.Run{From: 6, To: 5, Period: 1}, 0},
		{impl.Run{From: 64, To: 64, Period: 1}, 0},
		{impl.Run{From: 100, To: 64, Period: 1}, 0},
		// Numbers beyond the limits.
		{impl.Run{}, 0},
		{impl.Run{From: -1, To: 4, Period: 1}, 0},
		{impl.Run{From: -1, To: 64, Period: 1}, 0},
		{impl.Run{From: 0, To: 65, Period: 1}, 0},
		{impl.Run{From: 1, To: 65, Period: 1}, 0},
		{impl.Run{From: 60, To: 65, Period: 1}, 0},
		{impl.Run{From: 0, To: 4, Period: 0}, 0},
		{impl.Run{From: 0, To: 4, Period: -1}, 0},
		{impl.Run{From: 0, To: 64, Period: 65}, 0},
		{impl.Run{From: 0, To: 64, Period: -64}, 0},
	} {
		if got := impl.SquaresInRun(c.run); got != c.want {
			t.Errorf("SquaresInRun(%v) = %d, want %d", c.run, got, c.want)
		}
	}
}

// wantInRun is SquaresInRun: it counts the places of a square with such a period, one by one.
func wantInRun(r impl.Run) int {
	if r.From < 0 || r.To > 64 || r.Period < 1 || r.Period > 64 {
		return 0
	}
	places := 0
	for at := r.From; at <= 64 && at+2*r.Period <= r.To; at++ {
		places++
	}
	return places
}

func TestSquaresInRunForAllNumbers(t *testing.T) {
	for from := -3; from <= 70; from++ {
		for to := -3; to <= 70; to++ {
			for period := -3; period <= 70; period++ {
				r := impl.Run{From: from, To: to, Period: period}
				if got := impl.SquaresInRun(r); got != wantInRun(r) {
					t.Fatalf("SquaresInRun(%v) = %d, want %d", r, got, wantInRun(r))
				}
			}
		}
	}
}

// The difference of numbers that are far away is out of range of an int, but no run has so many squares.
func TestSquaresInRunForExtremeNumbers(t *testing.T) {
	extreme := []int{math.MinInt, math.MinInt + 1, math.MinInt + 64, -1 << 62, -1 << 32, -65, -64, -2, -1, 0, 1, 2, 63, 64, 65, 66, 128, 1 << 32, 1<<32 + 1, 1 << 62, math.MaxInt - 64, math.MaxInt - 1, math.MaxInt}
	for _, from := range extreme {
		for _, to := range extreme {
			for _, period := range extreme {
				want := 0
				if from >= 0 && from <= 64 && to >= 0 && to <= 64 && period >= 1 && period <= 64 {
					want = max(0, to-from-2*period+1)
				}
				r := impl.Run{From: from, To: to, Period: period}
				if got := impl.SquaresInRun(r); got != want {
					t.Errorf("SquaresInRun(%v) = %d, want %d", r, got, want)
				}
			}
		}
	}
}

// runCalls contains the functions of the chapter, all with lists of lists as results.
func runCalls() map[string]func(w []int) [][]int {
	return map[string]func(w []int) [][]int{
		"RunsOf": func(w []int) [][]int {
			var l [][]int
			for _, r := range impl.RunsOf(w) {
				l = append(l, []int{r.From, r.To, r.Period})
			}
			return l
		},
		"RootOfRun": func(w []int) [][]int {
			var l [][]int
			for _, r := range append(impl.RunsOf(w), impl.Run{}, impl.Run{From: 0, To: len(w), Period: 1}) {
				root, _ := impl.RootOfRun(w, r)
				l = append(l, root)
			}
			return l
		},
		"others": func(w []int) [][]int {
			return [][]int{{impl.CountRuns(w), impl.RunExponents(w), oneFor(impl.IsRun(w, impl.Run{From: 0, To: len(w), Period: 1}))}}
		},
	}
}

// runMemoryWords contains, beside those of borderMemoryWords, words with roots that are where they are looked for, and words with as many letters as allowed.
func runMemoryWords() [][]int {
	return append(borderMemoryWords(), letters("01010"), letters("00110011"), letters("0010100"), repeated(-3, 64), letters(fibonacci(64)), repeated(-3, 65))
}

func TestRunsChangeNoArgument(t *testing.T) {
	for name, call := range runCalls() {
		for _, w := range runMemoryWords() {
			checkChangesNothing(t, name, call, w)
		}
	}
}

func TestRunsShareNoMemory(t *testing.T) {
	made := 0
	for name, call := range runCalls() {
		for _, w := range runMemoryWords() {
			made += checkSharesNothing(t, name, call, w)
		}
	}
	if made < 200 {
		t.Errorf("only %d lists are made", made)
	}
	for _, w := range runMemoryWords() {
		got, again := impl.RunsOf(w), impl.RunsOf(w)
		before := slices.Clone(got)
		for i := range again {
			again[i] = impl.Run{From: -1, To: -2, Period: -3}
		}
		if !slices.Equal(got, before) || !slices.Equal(impl.RunsOf(w), before) {
			t.Errorf("the runs of %v share memory", w)
		}
	}
}
