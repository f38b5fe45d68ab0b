package tests

import (
	"fmt"
	"math"
	"slices"
	"sort"
	"strings"
	"sync"
	"testing"

	"loop.example/g02079/impl"
)

// These assignments do not compile if a signature differs from the document.
var (
	_ func([]int, int) ([][]int, bool) = impl.FactorsOf
	_ func([]int, int) int             = impl.CountFactors
	_ func([]int, int) []int           = impl.ComplexityOf
	_ func([]int, int) [][]int         = impl.RightSpecial
	_ func([]int, []int) []int         = impl.OccurrencesOf
	_ func([]int, []int) bool          = impl.IsFactor
	_ func([]int, []int) [][]int       = impl.ReturnWords
	_ func([]int, []int) int           = impl.CompareWords
)

// wrongSizes contains numbers of letters on both sides of 0 and of 40 for which there are no factors.
var wrongSizes = []int{math.MinInt, -1 << 32, -41, -40, -2, -1, 41, 42, 64, 128, 400, 1<<32 + 1, math.MaxInt}

// anyNumbers contains numbers of which most are no letters.
var anyNumbers = []int{math.MinInt, math.MinInt + 1, -1 << 32, -256, -1, 0, 1, 15, 16, 255, 256, 1 << 32, math.MaxInt - 1, math.MaxInt}

// anyLists contains short lists of any numbers.
func anyLists() [][]int {
	l := [][]int{nil, {}}
	for _, first := range anyNumbers {
		l = append(l, []int{first}, []int{first, first, first})
		for _, second := range anyNumbers {
			l = append(l, []int{first, second})
		}
	}
	return l
}

// digitsOf writes a word with the digits of the base 16, whose order is that of the letters. The empty word has none.
func digitsOf(w []int) string {
	var b strings.Builder
	for _, letter := range w {
		b.WriteByte("0123456789abcdef"[letter])
	}
	return b.String()
}

func digitsOfAll(words [][]int) []string {
	var l []string
	for _, w := range words {
		l = append(l, digitsOf(w))
	}
	return l
}

// fibonacci contains the first n letters of the Fibonacci word.
func fibonacci(n int) string {
	a, b := "0", "01"
	for len(a) < n {
		a, b = b, b+a
	}
	return a[:n]
}

// thueMorse contains the first n letters of the Thue-Morse word.
func thueMorse(n int) string {
	w := "0"
	for len(w) < n {
		w += strings.NewReplacer("0", "1", "1", "0").Replace(w)
	}
	return w[:n]
}

// factorWords contains words of up to 128 letters: all short ones, drawn ones, and ones that repeat themselves.
func factorWords() []string {
	var l []string
	for _, w := range slices.Concat(listsOver(0, 2, 7), listsOver(0, 3, 4), listsOver(0, 16, 1)) {
		l = append(l, digitsOf(w))
	}
	draw := drawing(8)
	for _, size := range []int{9, 12, 17, 33, 39, 40, 41, 42, 64, 80, 81, 127, 128} {
		for count := 1; count <= 16; count++ {
			var w []int
			for range size {
				w = append(w, draw(count))
			}
			l = append(l, digitsOf(w))
		}
		l = append(l, fibonacci(size), thueMorse(size), strings.Repeat("01", size)[:size], strings.Repeat("f", size), strings.Repeat("00a01", size)[:size])
		l = append(l, strings.Repeat("0", size-1)+"1", "1"+strings.Repeat("0", size-1), strings.Repeat("0123456789abcdef", size)[:size])
	}
	return l
}

// distinct contains each text once, in ascending order.
func distinct(l []string) []string {
	seen := map[string]bool{}
	var d []string
	for _, s := range l {
		if !seen[s] {
			seen[s] = true
			d = append(d, s)
		}
	}
	sort.Strings(d)
	return d
}

// wantFactors is FactorsOf for texts.
func wantFactors(w string, n int) []string {
	var l []string
	for i := 0; i+n <= len(w); i++ {
		l = append(l, w[i:i+n])
	}
	return distinct(l)
}

// wantSpecial is RightSpecial for texts.
func wantSpecial(w string, n int) []string {
	var l []string
	for _, f := range wantFactors(w, n) {
		followers := 0
		for _, letter := range "0123456789abcdef" {
			if strings.Contains(w, f+string(letter)) {
				followers++
			}
		}
		if followers > 1 {
			l = append(l, f)
		}
	}
	return l
}

// wantOccurrences is OccurrencesOf for any lists, letter by letter.
func wantOccurrences(w []int, u []int) []int {
	var l []int
	for i := 0; i+len(u) <= len(w); i++ {
		same := true
		for j := range u {
			same = same && w[i+j] == u[j]
		}
		if same {
			l = append(l, i)
		}
	}
	return l
}

// wantReturns is ReturnWords for texts, with an own way from one place to the next one.
func wantReturns(w string, u string) []string {
	var l []string
	at := strings.Index(w, u)
	for at >= 0 {
		step := strings.Index(w[at+1:], u)
		if step < 0 {
			break
		}
		l = append(l, w[at:at+1+step])
		at += 1 + step
	}
	return distinct(l)
}

// checkWords checks a list of words.
func checkWords(t *testing.T, got [][]int, want []string, call string, arguments ...any) {
	t.Helper()
	if !slices.Equal(digitsOfAll(got), want) {
		t.Fatalf("%s = %v, want %v", fmt.Sprintf(call, arguments...), digitsOfAll(got), want)
	}
}

// checkNoFactors checks that the functions with a number of letters refuse their arguments.
func checkNoFactors(t *testing.T, w []int, n int) {
	t.Helper()
	if got, ok := impl.FactorsOf(w, n); ok || len(got) != 0 {
		t.Errorf("FactorsOf(%v, %d) = %v, %v, want nothing", w, n, got, ok)
	}
	if got := impl.CountFactors(w, n); got != -1 {
		t.Errorf("CountFactors(%v, %d) = %d, want -1", w, n, got)
	}
	if got := impl.ComplexityOf(w, n); len(got) != 0 {
		t.Errorf("ComplexityOf(%v, %d) = %v, want nothing", w, n, got)
	}
	if got := impl.RightSpecial(w, n); len(got) != 0 {
		t.Errorf("RightSpecial(%v, %d) = %v, want nothing", w, n, got)
	}
}

func TestFactorsOfExamples(t *testing.T) {
	for _, c := range []struct {
		w    string
		n    int
		want []string
	}{
		{"01001010", 0, []string{""}},
		{"01001010", 1, []string{"0", "1"}},
		{"01001010", 2, []string{"00", "01", "10"}},
		{"01001010", 3, []string{"001", "010", "100", "101"}},
		{"01001010", 7, []string{"0100101", "1001010"}},
		{"01001010", 8, []string{"01001010"}},
		{"01001010", 9, nil},
		{"01001010", 40, nil},
		{"", 0, []string{""}},
		{"", 1, nil},
		{"", 40, nil},
		{"0", 0, []string{""}},
		{"0", 1, []string{"0"}},
		{"0", 2, nil},
		{"f", 1, []string{"f"}},
		{"0000", 1, []string{"0"}},
		{"0000", 2, []string{"00"}},
		{"0000", 4, []string{"0000"}},
		{"0000", 5, nil},
		{"210", 1, []string{"0", "1", "2"}},
		{"210", 2, []string{"10", "21"}},
		// The letters 10 and more are behind 9 and before others.
		{"fa92a", 1, []string{"2", "9", "a", "f"}},
		{"fa92a", 2, []string{"2a", "92", "a9", "fa"}},
		{"1f10", 2, []string{"10", "1f", "f1"}},
		// Parts that overlap themselves are there once.
		{"0101010", 3, []string{"010", "101"}},
		{"0101010", 6, []string{"010101", "101010"}},
	} {
		got, ok := impl.FactorsOf(letters(c.w), c.n)
		checkWords(t, got, c.want, "FactorsOf(%q, %d)", c.w, c.n)
		if !ok {
			t.Errorf("FactorsOf(%q, %d) fails", c.w, c.n)
		}
		if count := impl.CountFactors(letters(c.w), c.n); count != len(c.want) {
			t.Errorf("CountFactors(%q, %d) = %d, want %d", c.w, c.n, count, len(c.want))
		}
	}
}

func TestFactorsOfSamples(t *testing.T) {
	for _, text := range factorWords() {
		w := letters(text)
		var counts []int
		for n := 0; n <= 40; n++ {
			got, ok := impl.FactorsOf(w, n)
			want := wantFactors(text, n)
			checkWords(t, got, want, "FactorsOf(%q, %d)", text, n)
			if !ok {
				t.Fatalf("FactorsOf(%q, %d) fails", text, n)
			}
			if count := impl.CountFactors(w, n); count != len(want) {
				t.Fatalf("CountFactors(%q, %d) = %d, want %d", text, n, count, len(want))
			}
			if counts = append(counts, len(want)); n%13 == 1 || n == 40 {
				if got := impl.ComplexityOf(w, n); !slices.Equal(got, counts) {
					t.Fatalf("ComplexityOf(%q, %d) = %v, want %v", text, n, got, counts)
				}
			}
		}
	}
}

// Words are read back from their texts, also where they are parts of other words, and the texts are parts of the text.
func TestFactorsAreReadBackFromTheirTexts(t *testing.T) {
	parts := 0
	for _, text := range factorWords() {
		w, ok := impl.ParseWord(impl.FormatWord(letters(text)))
		checkLetters(t, w, ok, letters(text), "ParseWord of the text of %q", text)
		for n := 0; n <= 40; n++ {
			factors, _ := impl.FactorsOf(w, n)
			for _, f := range factors {
				part := impl.FormatWord(f)
				if n == 0 && part != "empty" || n > 0 && (len(part) != n || !strings.Contains(impl.FormatWord(w), part)) {
					t.Fatalf("the factor %v of %q has the text %q", f, text, part)
				}
				back, ok := impl.ParseWord(part)
				checkLetters(t, back, ok, f, "ParseWord(%q)", part)
				if !impl.IsFactor(w, back) || impl.CompareWords(back, f) != 0 {
					t.Fatalf("%q is no factor of %q", part, text)
				}
				parts++
			}
		}
	}
	if parts < 100000 {
		t.Errorf("only %d factors are read back", parts)
	}
}

func TestFactorsAgreeWithTheirNumber(t *testing.T) {
	for _, text := range factorWords() {
		w := letters(text)
		complexity := impl.ComplexityOf(w, 40)
		if len(complexity) != 41 {
			t.Fatalf("ComplexityOf(%q, 40) = %v", text, complexity)
		}
		for n, count := range complexity {
			factors, ok := impl.FactorsOf(w, n)
			if !ok || len(factors) != count || impl.CountFactors(w, n) != count {
				t.Fatalf("%q has %d factors of %d letters, but %d are counted", text, len(factors), n, count)
			}
			for i := range factors {
				if len(factors[i]) != n || i > 0 && impl.CompareWords(factors[i-1], factors[i]) != -1 {
					t.Fatalf("FactorsOf(%q, %d) = %v is not in order", text, n, factors)
				}
			}
		}
		for n := range 41 {
			if got := impl.ComplexityOf(w, n); !slices.Equal(got, complexity[:n+1]) {
				t.Fatalf("ComplexityOf(%q, %d) = %v, want %v", text, n, got, complexity[:n+1])
			}
		}
	}
}

// Every place of a word with so many letters behind it is a place of exactly one factor.
func TestFactorsOccurWhereOccurrencesOfSays(t *testing.T) {
	for _, text := range factorWords() {
		w := letters(text)
		for _, n := range []int{0, 1, 2, 3, 5, 8, 20, 39, 40} {
			factors, _ := impl.FactorsOf(w, n)
			at := map[int]int{}
			for _, f := range factors {
				places := impl.OccurrencesOf(w, f)
				if len(places) == 0 || !impl.IsFactor(w, f) {
					t.Fatalf("the factor %v does not occur in %q", f, text)
				}
				for _, p := range places {
					if p < 0 || p+n > len(w) || !slices.Equal(w[p:p+n], f) {
						t.Fatalf("OccurrencesOf(%q, %v) = %v", text, f, places)
					}
					at[p]++
				}
			}
			if len(at) != max(0, len(w)-n+1) {
				t.Fatalf("the factors of %d letters occur at %d places of %q", n, len(at), text)
			}
			for p, times := range at {
				if times != 1 {
					t.Fatalf("%d factors of %d letters occur at the place %d of %q", times, n, p, text)
				}
			}
		}
	}
}

func TestComplexityOfKnownWords(t *testing.T) {
	for _, c := range []struct {
		w    string
		want []int
	}{
		{"", []int{1, 0, 0, 0}},
		{"0", []int{1, 1, 0, 0}},
		{"01", []int{1, 2, 1, 0}},
		{"01001010", []int{1, 2, 3, 4, 5, 4, 3, 2, 1, 0}},
		{strings.Repeat("0", 128), repeated(1, 41)},
		{strings.Repeat("01", 64), append([]int{1}, repeated(2, 40)...)},
		{strings.Repeat("012", 42), append([]int{1}, repeated(3, 40)...)},
		{fibonacci(128), []int{1, 2, 3, 4, 5, 6, 7, 8, 9, 10, 11, 12, 13, 14, 15, 16, 17, 18, 19, 20, 21}},
		{thueMorse(128), []int{1, 2, 4, 6, 10, 12, 16, 20, 22, 24, 28}},
		// A word in which each word of three letters comes once.
		{"0001011100", []int{1, 2, 4, 8, 7, 6, 5, 4, 3, 2, 1, 0}},
		{"0123456789abcdef", []int{1, 16, 15, 14, 13, 12, 11, 10, 9, 8, 7, 6, 5, 4, 3, 2, 1, 0, 0}},
	} {
		for n := range c.want {
			if got := impl.ComplexityOf(letters(c.w), n); !slices.Equal(got, c.want[:n+1]) {
				t.Errorf("ComplexityOf(%q, %d) = %v, want %v", c.w, n, got, c.want[:n+1])
			}
		}
	}
}

// A part that is longer than the word.
func TestPartsLongerThanTheWord(t *testing.T) {
	for size := range 41 {
		for _, w := range [][]int{repeated(0, size), letters(fibonacci(max(1, size))[:size]), letters(strings.Repeat("0123456789abcdef", 3)[:size])} {
			for n := size + 1; n <= 40; n++ {
				if got, ok := impl.FactorsOf(w, n); !ok || len(got) != 0 {
					t.Errorf("FactorsOf(%v, %d) = %v, %v, want no factors and true", w, n, got, ok)
				}
				if got := impl.CountFactors(w, n); got != 0 {
					t.Errorf("CountFactors(%v, %d) = %d, want 0", w, n, got)
				}
				if got := impl.RightSpecial(w, n); len(got) != 0 {
					t.Errorf("RightSpecial(%v, %d) = %v", w, n, got)
				}
				if got := impl.ComplexityOf(w, n); len(got) != n+1 || got[n] != 0 || size > 0 && got[size] != 1 {
					t.Errorf("ComplexityOf(%v, %d) = %v", w, n, got)
				}
			}
			for _, u := range [][]int{append(slices.Clone(w), 0), append([]int{0}, w...), slices.Concat(w, w, []int{0}), repeated(0, size+1), repeated(0, size+1000)} {
				if got := impl.OccurrencesOf(w, u); len(got) != 0 || impl.IsFactor(w, u) {
					t.Errorf("OccurrencesOf(%v, %v) = %v", w, u, got)
				}
				if got := impl.ReturnWords(w, u); len(got) != 0 {
					t.Errorf("ReturnWords(%v, %v) = %v", w, u, got)
				}
			}
		}
	}
}

func TestFactorLimits(t *testing.T) {
	for _, text := range []string{strings.Repeat("0", 400), fibonacci(400), strings.Repeat("0123456789abcdef", 25)} {
		for _, size := range []int{127, 128} {
			w := letters(text[:size])
			for _, n := range []int{0, 1, 39, 40} {
				got, ok := impl.FactorsOf(w, n)
				checkWords(t, got, wantFactors(text[:size], n), "FactorsOf(%q, %d)", text[:size], n)
				if complexity := impl.ComplexityOf(w, n); !ok || len(complexity) != n+1 || complexity[n] != len(got) {
					t.Errorf("ComplexityOf of %d letters and %d = %v", size, n, complexity)
				}
				checkWords(t, impl.RightSpecial(w, n), wantSpecial(text[:size], n), "RightSpecial(%q, %d)", text[:size], n)
			}
			checkWords(t, impl.ReturnWords(w, letters("01")), wantReturns(text[:size], "01"), "ReturnWords(%q, 01)", text[:size])
			for _, n := range wrongSizes {
				checkNoFactors(t, w, n)
			}
		}
		for _, size := range []int{129, 130, 256, 400} {
			w := letters(text[:size])
			for _, n := range append([]int{0, 1, 2, 39, 40}, wrongSizes...) {
				checkNoFactors(t, w, n)
			}
			for _, u := range [][]int{nil, {0}, {0, 1}, {0, 0}, w} {
				if got := impl.ReturnWords(w, u); len(got) != 0 {
					t.Errorf("ReturnWords of %d letters and %v = %v, want nothing", size, u, got)
				}
			}
		}
	}
	for _, w := range [][]int{nil, {0}, {0, 1, 0, 0}, repeated(0, 401), repeated(0, 100000)} {
		for _, n := range wrongSizes {
			checkNoFactors(t, w, n)
		}
	}
}

func TestFactorsOfWrongLetters(t *testing.T) {
	for _, wrong := range wrongLetters(16) {
		for _, size := range []int{0, 1, 2, 20, 127} {
			for _, at := range []int{0, size / 2, size} {
				w := slices.Insert(repeated(0, size), at, wrong)
				for _, n := range append([]int{0, 1, 2, 40}, wrongSizes...) {
					checkNoFactors(t, w, n)
				}
				for _, u := range [][]int{nil, {0}, {wrong}, {0, 0}, w} {
					if got := impl.ReturnWords(w, u); len(got) != 0 {
						t.Errorf("ReturnWords(%v, %v) = %v, want nothing", w, u, got)
					}
				}
				// The other functions accept any lists.
				if got := impl.OccurrencesOf(w, []int{wrong}); !slices.Equal(got, []int{at}) || !impl.IsFactor(w, w) {
					t.Errorf("OccurrencesOf(%v, [%d]) = %v", w, wrong, got)
				}
			}
		}
	}
	for letter := range 16 {
		w := []int{0, letter, letter, 15}
		got, ok := impl.FactorsOf(w, 2)
		checkWords(t, got, wantFactors(digitsOf(w), 2), "FactorsOf(%v, 2)", w)
		if r := impl.ReturnWords(w, []int{letter}); !ok || len(r) == 0 {
			t.Errorf("ReturnWords(%v, [%d]) = %v", w, letter, r)
		}
	}
}

func TestRightSpecialExamples(t *testing.T) {
	for _, c := range []struct {
		w    string
		n    int
		want []string
	}{
		{"01001010", 0, []string{""}},
		{"01001010", 1, []string{"0"}},
		{"01001010", 2, []string{"10"}},
		{"01001010", 3, []string{"010"}},
		{"01001010", 4, nil},
		{"01001010", 8, nil},
		{"01001010", 9, nil},
		{"", 0, nil},
		{"", 1, nil},
		{"0", 0, nil},
		{"0000", 0, nil},
		{"0000", 1, nil},
		{"01", 0, []string{""}},
		{"01", 1, nil},
		{"0001011100", 1, []string{"0", "1"}},
		{"0001011100", 2, []string{"00", "01", "10", "11"}},
		{"0001011100", 3, nil},
		// Three followers are enough, too, and equal ones are not.
		{"a0a1a2", 1, []string{"a"}},
		{"a0a0a0", 1, nil},
		{"f1e1f2", 1, []string{"1", "f"}},
		// An occurrence at the end has no follower.
		{"010", 1, nil},
		{"0100", 1, []string{"0"}},
		{"00100", 2, nil},
		{"001000", 2, []string{"00"}},
	} {
		checkWords(t, impl.RightSpecial(letters(c.w), c.n), c.want, "RightSpecial(%q, %d)", c.w, c.n)
	}
}

func TestRightSpecialOfSamples(t *testing.T) {
	special := 0
	for _, text := range factorWords() {
		for n := 0; n <= 40; n++ {
			want := wantSpecial(text, n)
			checkWords(t, impl.RightSpecial(letters(text), n), want, "RightSpecial(%q, %d)", text, n)
			special += len(want)
		}
	}
	if special < 3000 {
		t.Errorf("only %d factors are right special", special)
	}
}

// For 40 letters the followers are looked up behind parts that are themselves as long as they may be.
func TestRightSpecialOf40Letters(t *testing.T) {
	part := thueMorse(40)
	for _, c := range []struct {
		w    string
		want []string
	}{
		{part + "2" + part + "3", []string{part}},
		{part + "2" + part + "2", nil},
		{part + "2" + part, nil},
		{"3" + part + "2" + part + "3", []string{part}},
		{strings.Repeat("0", 41) + "1", []string{strings.Repeat("0", 40)}},
		{strings.Repeat("0", 40) + "1", nil},
	} {
		checkWords(t, impl.RightSpecial(letters(c.w), 40), c.want, "RightSpecial(%q, 40)", c.w)
	}
	// The Fibonacci word has one of each length, a beginning in the opposite order.
	w := letters(fibonacci(128))
	for n := range 20 {
		mirrored := letters(fibonacci(max(1, n))[:n])
		slices.Reverse(mirrored)
		checkWords(t, impl.RightSpecial(w, n), []string{digitsOf(mirrored)}, "RightSpecial of the Fibonacci word, %d", n)
	}
}

func TestOccurrencesOfExamples(t *testing.T) {
	for _, c := range []struct {
		w, u string
		want []int
	}{
		{"01001010", "010", []int{0, 3, 5}},
		{"01001010", "0", []int{0, 2, 3, 5, 7}},
		{"01001010", "1", []int{1, 4, 6}},
		{"01001010", "101", []int{4}},
		{"01001010", "01001010", []int{0}},
		{"01001010", "11", nil},
		{"01001010", "2", nil},
		{"01001010", "010010100", nil},
		// The empty part is everywhere, also behind the last letter.
		{"01001010", "", []int{0, 1, 2, 3, 4, 5, 6, 7, 8}},
		{"0", "", []int{0, 1}},
		{"", "", []int{0}},
		{"", "0", nil},
		// Parts that overlap themselves.
		{"00000", "00", []int{0, 1, 2, 3}},
		{"00000", "000", []int{0, 1, 2}},
		{"0101010", "010", []int{0, 2, 4}},
		{"0101010", "01010", []int{0, 2}},
		{"00100100100", "00100", []int{0, 3, 6}},
		{"001001001", "001001", []int{0, 3}},
		// Parts that begin again within what did not fit.
		{"0001", "001", []int{1}},
		{"0000100001", "00001", []int{0, 5}},
		{"01010100", "0100", []int{4}},
		{"0010010001", "0010001", []int{3}},
		{"01201201", "0120120", []int{0}},
		{"00100200100", "001001", nil},
	} {
		w, u := letters(c.w), letters(c.u)
		if got := impl.OccurrencesOf(w, u); !slices.Equal(got, c.want) {
			t.Errorf("OccurrencesOf(%q, %q) = %v, want %v", c.w, c.u, got, c.want)
		}
		if got := impl.IsFactor(w, u); got != (len(c.want) > 0) {
			t.Errorf("IsFactor(%q, %q) = %v", c.w, c.u, got)
		}
	}
}

// checkOccurrences checks the occurrences against a search letter by letter, and returns how many there are.
func checkOccurrences(t *testing.T, w []int, u []int) int {
	t.Helper()
	want := wantOccurrences(w, u)
	if got := impl.OccurrencesOf(w, u); !slices.Equal(got, want) {
		t.Fatalf("OccurrencesOf(%v, %v) = %v, want %v", w, u, got, want)
	}
	if got := impl.IsFactor(w, u); got != (len(want) > 0) {
		t.Fatalf("IsFactor(%v, %v) = %v", w, u, got)
	}
	return len(want)
}

func TestOccurrencesOfAllShortWords(t *testing.T) {
	found := 0
	for _, u := range listsOver(0, 2, 5) {
		for _, w := range listsOver(0, 2, 9) {
			found += checkOccurrences(t, w, u)
		}
	}
	for _, u := range listsOver(-1, 2, 3) {
		for _, w := range listsOver(-1, 2, 6) {
			found += checkOccurrences(t, w, u)
		}
	}
	if found < 50000 {
		t.Errorf("only %d places are found", found)
	}
}

func TestOccurrencesOfAnyLists(t *testing.T) {
	for _, u := range anyLists() {
		for _, w := range anyLists() {
			checkOccurrences(t, w, u)
			checkOccurrences(t, slices.Concat(w, u, u, w, u), u)
		}
	}
	// Lists that no word of the document is as long as.
	draw := drawing(80)
	for _, size := range []int{129, 401, 5000} {
		for count := 1; count <= 3; count++ {
			var w []int
			for range size {
				w = append(w, draw(count)*1000-1000)
			}
			for _, part := range []int{0, 1, 2, 7, 128, 129} {
				checkOccurrences(t, w, w[size-part:])
				checkOccurrences(t, w, append(slices.Clone(w[size-part:]), 5))
			}
			checkOccurrences(t, w, w)
		}
	}
}

// Neither the word nor the part has a greatest length.
func TestOccurrencesOfLongLists(t *testing.T) {
	w := repeated(-7, 1000000)
	got := impl.OccurrencesOf(w, w[:500000])
	if len(got) != 500001 || !slices.IsSorted(got) || got[0] != 0 || got[500000] != 500000 {
		t.Errorf("OccurrencesOf finds a part %d times", len(got))
	}
	u := append(slices.Clone(w[:500000]), 8)
	if got := impl.OccurrencesOf(w, u); len(got) != 0 || impl.IsFactor(w, u) {
		t.Errorf("OccurrencesOf finds %d places", len(got))
	}
	w[999999] = 8
	if got := impl.OccurrencesOf(w, u); !slices.Equal(got, []int{499999}) || !impl.IsFactor(w, u) {
		t.Errorf("OccurrencesOf finds %d places", len(got))
	}
	if got := impl.OccurrencesOf(w, nil); len(got) != 1000001 || got[1000000] != 1000000 {
		t.Errorf("OccurrencesOf finds the empty part %d times", len(got))
	}
}

func TestReturnWordsExamples(t *testing.T) {
	for _, c := range []struct {
		w, u string
		want []string
	}{
		{"01001010", "01", []string{"01", "010"}},
		{"01001010", "0", []string{"0", "01"}},
		{"01001010", "1", []string{"10", "100"}},
		{"01001010", "010", []string{"01", "010"}},
		// No occurrence, or only one.
		{"01001010", "11", nil},
		{"01001010", "2", nil},
		{"01001010", "101", nil},
		// The whole word, and longer parts.
		{"01001010", "01001010", nil},
		{"0", "0", nil},
		{"01001010", "010010101", nil},
		// Nothing comes back to the empty part, and nothing occurs in the empty word.
		{"01001010", "", nil},
		{"", "", nil},
		{"", "0", nil},
		// Parts that overlap themselves.
		{"0000", "00", []string{"0"}},
		{"0101010", "01010", []string{"01"}},
		{"0010010001", "00", []string{"0", "001"}},
		// The order is not that of the places, and equal parts are there once.
		{"0201010", "0", []string{"01", "02"}},
		{"012001202", "0", []string{"0", "012"}},
		{"afa5a", "a", []string{"a5", "af"}},
		// What is before the first place and behind the last one does not belong to any of them.
		{"11012011", "0", []string{"012"}},
	} {
		checkWords(t, impl.ReturnWords(letters(c.w), letters(c.u)), c.want, "ReturnWords(%q, %q)", c.w, c.u)
	}
}

// checkReturns checks that the return words follow one another from the first occurrence to the last one, and that each of them comes back to the part and not earlier. It returns how many there are.
func checkReturns(t *testing.T, text string, part string) int {
	t.Helper()
	w, u := letters(text), letters(part)
	got := impl.ReturnWords(w, u)
	checkWords(t, got, wantReturns(text, part), "ReturnWords(%q, %q)", text, part)
	places := impl.OccurrencesOf(w, u)
	if len(places) == 0 {
		return 0
	}
	words := digitsOfAll(got)
	used := map[string]bool{}
	var joined strings.Builder
	for at := 1; at < len(places); at++ {
		word := text[places[at-1]:places[at]]
		if !slices.Contains(words, word) {
			t.Fatalf("%q is no word of ReturnWords(%q, %q)", word, text, part)
		}
		used[word] = true
		joined.WriteString(word)
	}
	if joined.String() != text[places[0]:places[len(places)-1]] || len(used) != len(words) {
		t.Fatalf("ReturnWords(%q, %q) = %v do not follow one another", text, part, words)
	}
	for _, r := range got {
		complete := slices.Concat(r, u)
		if again := impl.OccurrencesOf(complete, u); !slices.Equal(again, []int{0, len(r)}) || !impl.IsFactor(w, complete) {
			t.Fatalf("the return word %v of %q in %q comes back at %v", r, part, text, again)
		}
	}
	return len(got)
}

func TestReturnWordsFollowOneAnother(t *testing.T) {
	short := textsOver("012", 3)[1:]
	found := 0
	for _, text := range factorWords() {
		for _, part := range short {
			found += checkReturns(t, text, part)
		}
		for _, size := range []int{4, 5, 8, 13} {
			for at := 0; at+size <= len(text); at += size {
				found += checkReturns(t, text, text[at:at+size])
			}
		}
		if text != "" {
			found += checkReturns(t, text, text)
		}
	}
	if found < 10000 {
		t.Errorf("only %d return words are found", found)
	}
	// Each factor of the Fibonacci word has two of them.
	for size := 1; size < 10; size++ {
		for _, part := range wantFactors(fibonacci(128), size) {
			if got := checkReturns(t, fibonacci(128), part); got != 2 {
				t.Errorf("%q has %d return words", part, got)
			}
		}
	}
}

// The part may be any list but the empty one.
func TestReturnWordsOfAnyParts(t *testing.T) {
	for _, u := range anyLists() {
		for _, w := range []string{"", "0", "01001010", "f1f1f", fibonacci(128)} {
			var want []string
			if len(u) > 0 && impl.IsWord(u, 16) {
				want = wantReturns(w, digitsOf(u))
			}
			checkWords(t, impl.ReturnWords(letters(w), u), want, "ReturnWords(%q, %v)", w, u)
		}
	}
	for _, size := range []int{128, 129, 400, 401, 100000} {
		if got := impl.ReturnWords(letters("0000"), repeated(0, size)); len(got) != 0 {
			t.Errorf("ReturnWords for a part of %d letters = %v", size, got)
		}
	}
}

// wantOrder is CompareWords, by the first letters and what follows them.
func wantOrder(u []int, v []int) int {
	switch {
	case len(u) == 0 && len(v) == 0:
		return 0
	case len(u) == 0:
		return -1
	case len(v) == 0:
		return 1
	case u[0] < v[0]:
		return -1
	case u[0] > v[0]:
		return 1
	}
	return wantOrder(u[1:], v[1:])
}

func TestCompareWordsExamples(t *testing.T) {
	for _, c := range []struct {
		u, v []int
		want int
	}{
		{nil, nil, 0},
		{nil, []int{}, 0},
		{nil, []int{0}, -1},
		{nil, []int{-1}, -1},
		{[]int{0}, []int{0}, 0},
		{[]int{0}, []int{1}, -1},
		{[]int{2}, []int{10}, -1},
		{[]int{0}, []int{0, 0}, -1},
		{[]int{0}, []int{0, -1}, -1},
		{[]int{0, 1}, []int{1}, -1},
		{[]int{0, 9, 9, 9}, []int{1}, -1},
		{[]int{0, 1, 0}, []int{0, 1, 1}, -1},
		{[]int{0, 0, 5}, []int{0, 1, 0}, -1},
		{[]int{-1}, []int{0}, -1},
		{[]int{-2}, []int{-1}, -1},
		{[]int{-1}, nil, 1},
		// Differences that do not fit into a number.
		{[]int{math.MinInt}, []int{math.MaxInt}, -1},
		{[]int{math.MinInt}, []int{1}, -1},
		{[]int{-2}, []int{math.MaxInt}, -1},
		{[]int{0, math.MinInt}, []int{0, math.MaxInt}, -1},
		{[]int{math.MaxInt - 1}, []int{math.MaxInt}, -1},
		{[]int{0}, []int{1 << 32}, -1},
		{repeated(3, 1000), repeated(3, 1000), 0},
		{repeated(3, 1000), repeated(3, 1001), -1},
		{append(repeated(3, 1000), 2), repeated(3, 1001), -1},
	} {
		if got := impl.CompareWords(c.u, c.v); got != c.want {
			t.Errorf("CompareWords(%v, %v) = %d, want %d", c.u, c.v, got, c.want)
		}
		if got := impl.CompareWords(c.v, c.u); got != -c.want {
			t.Errorf("CompareWords(%v, %v) = %d, want %d", c.v, c.u, got, -c.want)
		}
	}
}

func TestCompareWordsOfAnyLists(t *testing.T) {
	for _, l := range [][][]int{anyLists(), listsOver(-1, 2, 4), listsOver(0, 4, 3)} {
		for _, u := range l {
			for _, v := range l {
				if got, want := impl.CompareWords(u, v), wantOrder(u, v); got != want {
					t.Fatalf("CompareWords(%v, %v) = %d, want %d", u, v, got, want)
				}
			}
		}
	}
}

// The order is that of the texts.
func TestCompareWordsIsTheOrderOfTexts(t *testing.T) {
	for _, u := range listsOver(0, 16, 2) {
		for _, v := range listsOver(0, 16, 2) {
			if got, want := impl.CompareWords(u, v), strings.Compare(digitsOf(u), digitsOf(v)); got != want {
				t.Fatalf("CompareWords(%v, %v) = %d, want %d", u, v, got, want)
			}
		}
	}
}

// factorCalls contains the functions whose results are lists, all as lists of lists.
func factorCalls() map[string]func(w []int, u []int, n int) [][]int {
	return map[string]func(w []int, u []int, n int) [][]int{
		"FactorsOf": func(w []int, u []int, n int) [][]int {
			l, _ := impl.FactorsOf(w, n)
			return l
		},
		"ComplexityOf":  func(w []int, u []int, n int) [][]int { return [][]int{impl.ComplexityOf(w, n)} },
		"RightSpecial":  func(w []int, u []int, n int) [][]int { return impl.RightSpecial(w, n) },
		"OccurrencesOf": func(w []int, u []int, n int) [][]int { return [][]int{impl.OccurrencesOf(w, u)} },
		"ReturnWords":   func(w []int, u []int, n int) [][]int { return impl.ReturnWords(w, u) },
		"others": func(w []int, u []int, n int) [][]int {
			return [][]int{{impl.CountFactors(w, n), oneFor(impl.IsFactor(w, u)), impl.CompareWords(w, u)}}
		},
	}
}

// memoryWords contains words that are valid and ones that are not.
func memoryWords() [][]int {
	return [][]int{nil, {0}, letters("01001010"), letters("0000"), letters(thueMorse(128)), letters(fibonacci(129)), {3, 1, 2, 1, 3, 1}, {16, 0, 16, 0}, {-5, 7, -5}}
}

func TestFactorsChangeNoArgument(t *testing.T) {
	for name, call := range factorCalls() {
		for _, w := range memoryWords() {
			for _, u := range [][]int{nil, {0}, {0, 1}, {1, 0, 0}, w} {
				for _, n := range []int{-1, 0, 1, 2, 3, 40, 41} {
					word, wordChanged := guardedWord(w)
					part, partChanged := guardedWord(u)
					call(word, part, n)
					if wordChanged() || partChanged() {
						t.Errorf("%s changes the memory of %v or %v", name, w, u)
					}
				}
			}
		}
	}
}

func copiedWords(l [][]int) [][]int {
	var c [][]int
	for _, w := range l {
		c = append(c, slices.Clone(w))
	}
	return c
}

func TestFactorsShareNoMemory(t *testing.T) {
	made := 0
	for name, call := range factorCalls() {
		for _, w := range memoryWords() {
			for n := range 5 {
				word, wordChanged := guardedWord(w)
				// The part is itself a part of the word.
				part := word[:min(n, len(word))]
				got := call(word, part, n)
				again := call(word, part, n)
				before := copiedWords(got)
				for _, row := range again {
					spoil(row)
				}
				if wordChanged() || !slices.EqualFunc(got, before, slices.Equal) {
					t.Errorf("the result of %s for %v shares memory", name, w)
				}
				for i, row := range got {
					spoil(row)
					if !slices.EqualFunc(got[i+1:], before[i+1:], slices.Equal) {
						t.Errorf("the lists of the result of %s for %v share memory", name, w)
					}
					made++
				}
			}
		}
	}
	if made < 200 {
		t.Errorf("only %d lists are made", made)
	}
}

// A result does not depend on what else is done at the same time.
func TestFactorsAreAlwaysTheSame(t *testing.T) {
	words := []string{fibonacci(128), thueMorse(128), thueMorse(60), fibonacci(9)}
	var group sync.WaitGroup
	for range 8 {
		for _, text := range words {
			group.Go(func() {
				w := letters(text)
				for n := range 41 {
					counts := impl.ComplexityOf(w, n)
					for k, count := range counts {
						if count != len(wantFactors(text, k)) {
							t.Errorf("ComplexityOf(%q, %d) = %v", text, n, counts)
						}
					}
					if len(counts) != n+1 {
						t.Errorf("ComplexityOf(%q, %d) = %v", text, n, counts)
					}
				}
			})
		}
	}
	group.Wait()
}
