package tests

import (
	"fmt"
	"math"
	"slices"
	"testing"

	"loop.example/g02079/impl"
)

// These assignments do not compile if a signature differs from the document.
var (
	_ func(impl.Sequence) ([]impl.Sequence, bool)    = impl.KernelOf
	_ func(impl.Sequence, int) (impl.Sequence, bool) = impl.SubTerms
	_ func(impl.Sequence) (impl.Sequence, bool)      = impl.FromLeast
	_ func(impl.Sequence, int) int                   = impl.TermFromLeast
	_ func(impl.Sequence) int                        = impl.KernelSize
)

// wantedKernel contains for each sequence of a kernel the digits that the terms of s have behind those of n, the terms in all states that are reached, and the places that the digits lead to.
type wantedKernel struct {
	suffixes [][]int
	terms    [][]int
	next     [][]int
}

// wantKernel finds the kernel of a steady sequence without minimal forms; false if it has more than 40 sequences.
func wantKernel(s impl.Sequence) (wantedKernel, bool) {
	reached := wantReached(s)
	k := wantedKernel{}
	placeOf := func(suffix []int) int {
		all := termsBefore(s, suffix)
		var terms []int
		for _, state := range reached {
			terms = append(terms, all[state])
		}
		for i, other := range k.terms {
			if slices.Equal(other, terms) {
				return i
			}
		}
		k.suffixes = append(k.suffixes, suffix)
		k.terms = append(k.terms, terms)
		return len(k.terms) - 1
	}
	placeOf(nil)
	for i := 0; i < len(k.suffixes) && len(k.suffixes) <= 40; i++ {
		var row []int
		for digit := range s.Base {
			row = append(row, placeOf(append([]int{digit}, k.suffixes[i]...)))
		}
		k.next = append(k.next, row)
	}
	return k, len(k.suffixes) <= 40
}

// termsBefore contains for each state the term after some more digits.
func termsBefore(s impl.Sequence, suffix []int) []int {
	var terms []int
	for state := range s.Next {
		for _, digit := range suffix {
			state = s.Next[state][digit]
		}
		terms = append(terms, s.Out[state])
	}
	return terms
}

// withTerms is the sequence with other terms.
func withTerms(s impl.Sequence, terms []int) impl.Sequence {
	c := copyOf(s)
	c.Out = terms
	return c
}

// checkKernel checks all functions of the chapter that speak of the kernel, for a valid sequence, and returns the size of the kernel.
func checkKernel(t *testing.T, s impl.Sequence) int {
	t.Helper()
	steady, ok := wantSteady(s)
	want := wantedKernel{}
	if ok {
		want, ok = wantKernel(steady)
	}
	if !ok {
		checkNoKernel(t, fmt.Sprint(s), s)
		return -1
	}
	got, gotOk := impl.KernelOf(s)
	if !gotOk || len(got) != len(want.suffixes) {
		t.Fatalf("KernelOf(%v) = %v, %v, want %d sequences", s, got, gotOk, len(want.suffixes))
	}
	for i, suffix := range want.suffixes {
		checkMinimal(t, got[i])
		if !haveSameTerms(got[i], withTerms(steady, termsBefore(steady, suffix))) {
			t.Fatalf("KernelOf(%v)[%d] = %v has not the terms with the last digits %v", s, i, got[i], suffix)
		}
	}
	if size := impl.KernelSize(s); size != len(got) {
		t.Fatalf("KernelSize(%v) = %d, want %d", s, size, len(got))
	}
	least := impl.Sequence{Base: s.Base, Next: want.next}
	for _, terms := range want.terms {
		least.Out = append(least.Out, terms[0])
	}
	gotLeast, gotOk := impl.FromLeast(s)
	if len(got) > 16 {
		least = impl.Sequence{}
	}
	checkSequence(t, fmt.Sprintf("FromLeast(%v)", s), gotLeast, gotOk, least, len(got) <= 16)
	return len(got)
}

// checkNoKernel checks that a sequence has no kernel.
func checkNoKernel(t *testing.T, why string, s impl.Sequence) {
	t.Helper()
	if got, ok := impl.KernelOf(s); ok || len(got) != 0 {
		t.Errorf("%s: KernelOf(%v) = %v, %v", why, s, got, ok)
	}
	if got := impl.KernelSize(s); got != -1 {
		t.Errorf("%s: KernelSize(%v) = %d", why, s, got)
	}
	got, ok := impl.FromLeast(s)
	checkNothing(t, why+": FromLeast", got, ok)
}

// checkNoSubTerms checks that a sequence has no SubTerms by any number.
func checkNoSubTerms(t *testing.T, why string, s impl.Sequence) {
	t.Helper()
	for r := -2; r <= 5; r++ {
		got, ok := impl.SubTerms(s, r)
		checkNothing(t, fmt.Sprintf("%s: SubTerms(%v, %d)", why, s, r), got, ok)
	}
}

// texts contains FormatSequence of all sequences of a list.
func texts(l []impl.Sequence) []string {
	var all []string
	for _, s := range l {
		all = append(all, impl.FormatSequence(s))
	}
	return all
}

func TestKernelExamples(t *testing.T) {
	cases := []struct {
		s    string
		want []string
	}{
		{"2: 00/2", []string{"2: 00/2"}},
		// The Thue-Morse word and its opposite.
		{"2: 01/0 10/1", []string{"2: 01/0 10/1", "2: 01/1 10/0"}},
		// The powers of 2, the number 0, and nothing.
		{"2: 01/0 12/1 22/0", []string{"2: 01/0 12/1 22/0", "2: 01/1 11/0", "2: 00/0"}},
		{"2: 01/0 02/0 31/1 32/1", []string{"2: 01/0 02/0 31/1 32/1", "2: 01/0 02/1 31/0 32/1", "2: 01/1 02/0 31/1 32/0", "2: 01/1 02/1 31/0 32/0"}},
		{"2: 01/0 23/0 01/1 23/1", []string{"2: 01/0 23/0 01/1 23/1", "2: 01/0 01/1", "2: 00/0", "2: 00/1"}},
		// The remainders by 3 of n, 2n, 2n + 1, n + 2, n + 1 and 2n + 2: a search by depth would find n + 2 before 2n + 1.
		{"2: 01/0 20/1 12/2", []string{"2: 01/0 20/1 12/2", "2: 01/0 20/2 12/1", "2: 01/1 20/0 12/2", "2: 01/2 20/0 12/1", "2: 01/1 20/2 12/0", "2: 01/2 20/1 12/0"}},
		{"3: 010/1 111/0", []string{"3: 010/1 111/0", "3: 000/0"}},
		{"4: 0123/0 0123/1 0123/2 0123/3", []string{"4: 0123/0 0123/1 0123/2 0123/3", "4: 0000/0", "4: 0000/1", "4: 0000/2", "4: 0000/3"}},
		// The first one is a minimal form, too.
		{"2: 02/0 11/1 12/2", []string{"2: 01/0 21/2 22/1", "2: 01/0 11/1", "2: 01/2 21/2 22/1", "2: 00/1", "2: 01/2 11/1"}},
		{"2: 01/0 23/1 10/1 01/0 44/2", []string{"2: 01/0 10/1", "2: 01/1 10/0"}},
		// Not steady: the digit 0 of the state 0, which leads to a state with another term, is read by no number.
		{"2: 11/0 11/1", []string{"2: 01/0 11/1", "2: 00/1"}},
		{"2: 12/3 11/0 22/1", []string{"2: 01/3 11/1", "2: 00/1"}},
		// The numbers whose digits are all 1, the number 0, and nothing.
		{"2: 10/2 11/0", []string{"2: 01/2 21/2 22/0", "2: 01/2 11/0", "2: 00/0"}},
	}
	for _, c := range cases {
		got, ok := impl.KernelOf(parsed(t, c.s))
		if !ok || !slices.Equal(texts(got), c.want) {
			t.Errorf("KernelOf of %q = %q, %v, want %q", c.s, texts(got), ok, c.want)
		}
		if size := impl.KernelSize(parsed(t, c.s)); size != len(c.want) {
			t.Errorf("KernelSize of %q = %d, want %d", c.s, size, len(c.want))
		}
	}
}

func TestKernelsOfNamedSequences(t *testing.T) {
	// The sequences of the kernel contain the terms factor * n + rest.
	parts := map[string][][2]int{
		"thue":   {{1, 0}, {2, 1}},
		"rudin":  {{1, 0}, {2, 1}, {4, 3}, {8, 3}},
		"period": {{1, 0}, {2, 0}, {4, 0}, {4, 2}},
		"powers": {{1, 0}, {2, 1}, {4, 3}},
		"cantor": {{1, 0}, {3, 1}},
		"mod":    {{1, 0}, {2, 0}, {2, 1}, {4, 2}, {4, 1}, {8, 2}},
	}
	for _, c := range namedTerms {
		s, _ := impl.NamedSequence(c.name)
		got, ok := impl.KernelOf(s)
		if !ok || len(got) != len(parts[c.name]) || impl.KernelSize(s) != len(got) {
			t.Fatalf("KernelOf of %s = %v, %v", c.name, got, ok)
		}
		for i, part := range parts[c.name] {
			for n := range 300 {
				want := c.term(part[0]*n + part[1])
				if term := impl.TermAt(got[i], n); term != want {
					t.Fatalf("the term %d of KernelOf of %s [%d] = %d, want %d", n, c.name, i, term, want)
				}
			}
		}
		checkKernel(t, s)
	}
}

func TestKernelsOfSamples(t *testing.T) {
	sizes := map[int]int{}
	for i, s := range manySequences() {
		if i%3 == 0 || i < 900 {
			sizes[checkKernel(t, s)]++
		}
	}
	if sizes[-1] < 100 || sizes[1] < 100 || len(sizes) < 20 {
		t.Errorf("the samples have kernels of the sizes %v", sizes)
	}
}

func TestKernelsBelongToTerms(t *testing.T) {
	for _, f := range families() {
		want, wantOk := impl.KernelOf(f[0])
		least, leastOk := impl.FromLeast(f[0])
		for _, s := range f[1:] {
			// A sequence of 16 states that is not steady has no kernel, whatever its terms are.
			if _, ok := wantSteady(s); !ok || !haveSameTerms(s, f[0]) {
				continue
			}
			if got, ok := impl.KernelOf(s); ok != wantOk || !slices.Equal(texts(got), texts(want)) {
				t.Fatalf("KernelOf(%v) = %v, %v, but KernelOf(%v) = %v, %v", s, got, ok, f[0], want, wantOk)
			}
			got, ok := impl.FromLeast(s)
			checkSequence(t, fmt.Sprintf("FromLeast(%v)", s), got, ok, least, leastOk)
		}
	}
}

func TestKernelOfOneSequence(t *testing.T) {
	for base := 2; base <= 4; base++ {
		for v := range 4 {
			one := seq(base, repeated(0, base), v)
			constants := []impl.Sequence{one, chain(base, 15), cycle(base, 15, 3), wide(base, 16, 0), wide(base, 15, 14), unary(base, 3, 4)}
			for _, s := range constants {
				s = withTerms(s, repeated(v, len(s.Next)))
				got, ok := impl.KernelOf(s)
				if !ok || len(got) != 1 || !sameSequence(got[0], one) || impl.KernelSize(s) != 1 {
					t.Errorf("KernelOf(%v) = %v, %v", s, got, ok)
				}
				least, ok := impl.FromLeast(s)
				checkSequence(t, fmt.Sprintf("FromLeast(%v)", s), least, ok, one, true)
				for r := range base {
					sub, ok := impl.SubTerms(s, r)
					checkSequence(t, fmt.Sprintf("SubTerms(%v, %d)", s, r), sub, ok, one, true)
				}
				for _, n := range termNumbers(base) {
					if got := impl.TermFromLeast(least, n); got != v {
						t.Fatalf("TermFromLeast(%v, %d) = %d", least, n, got)
					}
				}
			}
			// A state that is never reached makes no difference, one that is reached does.
			for _, other := range []int{(v + 1) % 4, 3 - v} {
				s := impl.Sequence{Base: base, Next: [][]int{repeated(0, base), repeated(1, base)}, Out: []int{v, other}}
				if size := checkKernel(t, s); size != 1 {
					t.Errorf("KernelSize(%v) = %d", s, size)
				}
				s.Next[0][base-1] = 1
				if size := checkKernel(t, s); size == 1 {
					t.Errorf("KernelSize(%v) = %d", s, size)
				}
			}
		}
	}
	for _, s := range sampleSequences() {
		constant := haveSameTerms(s, seq(s.Base, repeated(0, s.Base), s.Out[0]))
		if _, ok := wantSteady(s); ok && constant != (impl.KernelSize(s) == 1) {
			t.Fatalf("KernelSize(%v) = %d", s, impl.KernelSize(s))
		}
	}
}

// kernelSizes contains the sizes of kernels around the limits, of two sequences each; the second one of two is not steady.
var kernelSizes = []struct {
	text string
	size int
}{
	{"2: 02/0 13/2 01/3 43/0 41/0", 15}, {"2: 32/2 12/1 01/1 30/1", 15},
	{"2: 04/0 30/0 10/2 04/1 11/3", 16}, {"2: 33/2 21/3 32/2 12/3", 16},
	{"2: 03/1 01/0 13/3 21/1 42/1", 17}, {"2: 20/1 20/3 03/2 01/1", 17},
	{"2: 02/0 14/0 23/0 12/3 34/0", 18}, {"2: 20/0 33/2 30/3 22/1", 18},
	{"2: 01/3 24/2 34/3 31/3 43/1", 39}, {"2: 02/3 45/3 35/1 04/3 03/2 51/1", 39},
	{"2: 03/3 34/2 12/3 22/2 24/0", 40}, {"2: 12/1 01/1 13/2 23/3", 40},
	{"2: 04/3 32/2 30/1 31/0 31/3", 41}, {"2: 23/3 03/1 11/0 20/2", 41},
	{"2: 04/0 42/0 30/3 32/1 42/2", 42}, {"2: 32/0 11/1 33/3 20/1", 42},
	{"3: 002/2 321/0 321/3 102/1", 15}, {"3: 122/1 021/0 220/2", 15},
	{"3: 010/0 021/3 320/3 233/3", 16}, {"3: 120/0 100/2 101/3", 16},
	{"3: 013/3 032/1 032/0 213/2", 17}, {"3: 021/2 211/0 202/1", 17},
	{"3: 011/2 023/0 212/1 023/3", 18}, {"3: 220/0 122/2 111/3", 18},
	{"3: 030/0 132/2 111/1 011/3", 39}, {"3: 122/2 200/3 201/0", 39},
	{"3: 020/0 100/1 312/3 101/0", 40}, {"3: 301/0 143/1 420/0 044/0 002/1", 40},
	{"3: 022/3 130/1 323/2 130/0", 41}, {"3: 320/3 104/3 343/1 323/0 013/0", 41},
	{"3: 002/1 110/2 303/0 013/2", 42}, {"3: 212/1 000/0 102/3", 42},
	{"4: 0212/1 2202/0 1201/2", 15}, {"4: 3322/0 0111/2 1113/2 0031/0", 15},
	{"4: 0222/1 1011/3 0221/0", 16}, {"4: 3212/2 0120/0 2312/0 3120/0", 16},
	{"4: 0020/3 2102/0 2221/1", 17}, {"4: 1122/0 0022/2 0201/1 2133/3", 17},
	{"4: 0011/1 3011/1 1434/0 0412/1 3343/1", 18}, {"4: 0132/1 0101/2 0202/0 1202/0", 18},
	{"4: 0121/2 3032/0 0231/0 2321/3 4320/3", 39}, {"4: 2320/0 2415/0 5034/0 4144/2 2110/2 1320/2", 39},
	{"4: 0230/1 0230/3 2401/3 4001/1 0222/2", 40}, {"4: 1301/3 2321/3 0013/2 2111/1", 40},
	{"4: 0202/1 0200/3 3010/2 2321/2 2404/0", 41}, {"4: 2032/3 3112/1 0321/0 2031/0", 41},
	{"4: 0400/1 1401/3 3411/1 4432/2 1413/0", 42}, {"4: 2021/1 1023/0 3001/3 2101/0", 42},
}

func TestKernelLimits(t *testing.T) {
	for _, c := range kernelSizes {
		s := parsed(t, c.text)
		kernel, ok := impl.KernelOf(s)
		if ok != (c.size <= 40) || ok && len(kernel) != c.size || !ok && len(kernel) != 0 {
			t.Errorf("KernelOf of %q = %v, %v, want %d sequences", c.text, kernel, ok, c.size)
		}
		size := impl.KernelSize(s)
		if c.size <= 40 && size != c.size || c.size > 40 && size != -1 {
			t.Errorf("KernelSize of %q = %d, want %d", c.text, size, c.size)
		}
		least, ok := impl.FromLeast(s)
		if ok != (c.size <= 16) || ok && len(least.Next) != c.size || !ok && !isNothing(least) {
			t.Errorf("FromLeast of %q = %v, %v, want %d states", c.text, least, ok, c.size)
		}
		checkKernel(t, s)
		// SubTerms knows no limit for the kernel.
		for r := range s.Base {
			checkSubTerms(t, s, r)
		}
	}
}

func TestKernelSizesOfFamilies(t *testing.T) {
	for base := 2; base <= 4; base++ {
		for digits := range 15 {
			// The number itself, those without its last digits, and nothing.
			for _, n := range []int{wantPower(base, digits) - 1, wantPower(base, digits) / base} {
				s := onlyAt(base, n, 2)
				if size, want := checkKernel(t, s), len(wantDigits(n, base))+2; size != want {
					t.Errorf("KernelSize(%v) = %d, want %d", s, size, want)
				}
			}
		}
		for period := 1; period <= 15; period++ {
			// The term of 0, which is 0 or 1, and the number of digits that are gone.
			want := 2 * period
			if size := checkKernel(t, cycle(base, period, period)); size != want {
				t.Errorf("KernelSize(%v) = %d, want %d", cycle(base, period, period), size, want)
			}
			checkKernel(t, steadyUnary(base, 0, period))
			checkKernel(t, steadyUnary(base, 15-period, period))
			checkKernel(t, unary(base, 15-period, period))
		}
	}
}

func TestKernelsWithoutSteadyForm(t *testing.T) {
	for base := 2; base <= 4; base++ {
		for _, s := range []impl.Sequence{wide(base, 16, 1), wide(base, 16, 15), chain(base, 16), unary(base, 0, 16)} {
			// With all terms equal, only the missing steady form is a reason to fail.
			for _, s := range []impl.Sequence{s, withTerms(s, repeated(2, 16))} {
				checkNoKernel(t, "16 states, not steady", s)
				checkNoSubTerms(t, "16 states, not steady", s)
				if got := impl.TermFromLeast(s, 0); got != s.Out[0] {
					t.Errorf("TermFromLeast(%v, 0) = %d", s, got)
				}
			}
		}
		// With one state less, or state 0 leading to itself, there is a steady form.
		for _, s := range []impl.Sequence{wide(base, 15, 1), wide(base, 15, 14), chain(base, 15), wide(base, 16, 0)} {
			for r := range base {
				checkSubTerms(t, s, r)
			}
			s = withTerms(s, repeated(2, len(s.Next)))
			if size := checkKernel(t, s); size != 1 {
				t.Errorf("KernelSize(%v) = %d", s, size)
			}
		}
		checkKernel(t, chain(base, 15))
	}
}

// checkSubTerms checks SubTerms of a valid sequence that has a steady form, for a digit.
func checkSubTerms(t *testing.T, s impl.Sequence, r int) {
	t.Helper()
	steady, ok := wantSteady(s)
	got, gotOk := impl.SubTerms(s, r)
	if !ok || !gotOk {
		t.Fatalf("SubTerms(%v, %d) fails, or there is no steady form", s, r)
	}
	checkMinimal(t, got)
	if !haveSameTerms(got, withTerms(steady, termsBefore(steady, []int{r}))) {
		t.Fatalf("SubTerms(%v, %d) = %v has other terms", s, r, got)
	}
	for n := range 70 {
		if term := impl.TermAt(got, n); term != termOf(s, s.Base*n+r) {
			t.Fatalf("the term %d of SubTerms(%v, %d) = %d, want %d", n, s, r, term, termOf(s, s.Base*n+r))
		}
	}
}

func TestSubTermsExamples(t *testing.T) {
	cases := []struct {
		s    string
		r    int
		want string
	}{
		{"2: 00/3", 0, "2: 00/3"},
		{"2: 00/3", 1, "2: 00/3"},
		{"2: 01/0 10/1", 0, "2: 01/0 10/1"},
		{"2: 01/0 10/1", 1, "2: 01/1 10/0"},
		{"2: 01/0 12/1 22/0", 0, "2: 01/0 12/1 22/0"},
		{"2: 01/0 12/1 22/0", 1, "2: 01/1 11/0"},
		{"3: 010/1 111/0", 0, "3: 010/1 111/0"},
		{"3: 010/1 111/0", 1, "3: 000/0"},
		{"3: 010/1 111/0", 2, "3: 010/1 111/0"},
		{"4: 0123/0 0123/1 0123/2 0123/3", 2, "4: 0000/2"},
		{"4: 0123/0 0123/1 0123/2 0123/3", 3, "4: 0000/3"},
		// The states are numbered anew, and equal ones are one.
		{"2: 02/0 11/1 12/2", 0, "2: 01/0 11/1"},
		{"2: 02/0 11/1 12/2", 1, "2: 01/2 21/2 22/1"},
		{"2: 01/0 23/1 10/1 01/0 44/2", 1, "2: 01/1 10/0"},
		// Not steady: the term 0 of the sequence by the digit 0 is that of state 0.
		{"2: 10/2 11/0", 0, "2: 01/2 11/0"},
		{"2: 10/2 11/0", 1, "2: 01/2 21/2 22/0"},
		{"2: 12/3 11/0 22/1", 0, "2: 01/3 11/1"},
		{"2: 12/3 11/0 22/1", 1, "2: 00/1"},
	}
	for _, c := range cases {
		got, ok := impl.SubTerms(parsed(t, c.s), c.r)
		if !ok || impl.FormatSequence(got) != c.want {
			t.Errorf("SubTerms of %q and %d = %q, %v, want %q", c.s, c.r, impl.FormatSequence(got), ok, c.want)
		}
	}
}

func TestSubTermsOfSamples(t *testing.T) {
	checked := 0
	for _, s := range sampleSequences() {
		if _, ok := wantSteady(s); !ok {
			checkNoSubTerms(t, "sample", s)
			continue
		}
		checked++
		for r := range s.Base {
			checkSubTerms(t, s, r)
		}
	}
	if checked < 500 {
		t.Errorf("only %d samples have a steady form", checked)
	}
}

func TestSubTermsFarAway(t *testing.T) {
	for _, c := range namedTerms {
		s, _ := impl.NamedSequence(c.name)
		for r := range c.base {
			sub, ok := impl.SubTerms(s, r)
			if !ok {
				t.Fatalf("SubTerms of %s and %d fails", c.name, r)
			}
			for _, n := range termNumbers(c.base) {
				if got, want := impl.TermAt(sub, n), c.term(c.base*n+r); got != want {
					t.Fatalf("the term %d of SubTerms of %s and %d = %d, want %d", n, c.name, r, got, want)
				}
			}
		}
	}
}

func TestSubTermsWrongDigits(t *testing.T) {
	for base := 2; base <= 4; base++ {
		for _, s := range []impl.Sequence{seq(base, repeated(0, base), 1), wide(base, 3, 0), wide(base, 3, 1), wide(base, 16, 0)} {
			for _, r := range []int{math.MinInt, -1 << 32, -base, -2, -1, base, base + 1, 2 * base, 16, '0', '1', 1 << 32, math.MaxInt} {
				got, ok := impl.SubTerms(s, r)
				checkNothing(t, fmt.Sprintf("SubTerms(%v, %d)", s, r), got, ok)
			}
			for _, r := range []int{0, base - 1} {
				if _, ok := impl.SubTerms(s, r); !ok {
					t.Errorf("SubTerms(%v, %d) fails", s, r)
				}
			}
		}
	}
}

func TestFromLeastExamples(t *testing.T) {
	cases := []struct{ s, want string }{
		{"2: 00/2", "2: 00/2"},
		{"4: 0000/3", "4: 0000/3"},
		{"2: 01/0 10/1", "2: 01/0 10/1"},
		{"2: 01/0 12/1 22/0", "2: 01/0 12/1 22/0"},
		{"2: 01/0 02/0 31/1 32/1", "2: 01/0 02/0 31/1 32/1"},
		// The second lowest digit is the term.
		{"2: 01/0 23/0 01/1 23/1", "2: 11/0 23/0 22/0 33/1"},
		{"2: 01/0 20/1 12/2", "2: 12/0 03/0 40/1 51/2 25/1 34/2"},
		{"3: 010/1 111/0", "3: 010/1 111/0"},
		{"4: 0123/0 0123/1 0123/2 0123/3", "4: 1234/0 1111/0 2222/1 3333/2 4444/3"},
		{"2: 02/0 11/1 12/2", "2: 12/0 13/0 42/2 33/1 43/2"},
		{"2: 11/0 11/1", "2: 01/0 11/1"},
		{"2: 10/2 11/0", "2: 10/2 12/2 22/0"},
	}
	for _, c := range cases {
		got, ok := impl.FromLeast(parsed(t, c.s))
		if !ok || impl.FormatSequence(got) != c.want {
			t.Errorf("FromLeast of %q = %q, %v, want %q", c.s, impl.FormatSequence(got), ok, c.want)
		}
	}
}

func TestLowestDigitsFirstGiveTheSameTerms(t *testing.T) {
	made := 0
	for i, s := range manySequences() {
		if i%4 != 0 && i >= 900 {
			continue
		}
		least, ok := impl.FromLeast(s)
		if !ok {
			continue
		}
		made++
		if !impl.IsSequence(least) || least.Base != s.Base {
			t.Fatalf("FromLeast(%v) = %v", s, least)
		}
		for _, n := range termNumbers(s.Base) {
			if got, want := impl.TermFromLeast(least, n), termOf(s, n); got != want || impl.TermAt(s, n) != want {
				t.Fatalf("the term %d from the lowest digit of %v = %d, want %d", n, s, got, want)
			}
		}
	}
	if made < 500 {
		t.Errorf("only %d samples are read from the lowest digit", made)
	}
}

func TestLowestDigitsFirstGiveTheTermsOfNamedSequences(t *testing.T) {
	for _, c := range namedTerms {
		s, _ := impl.NamedSequence(c.name)
		least, ok := impl.FromLeast(s)
		if !ok {
			t.Fatalf("FromLeast of %s fails", c.name)
		}
		limit := wantPower(c.base, 16)
		for n := 0; n < limit; n += 1 + n/1000 {
			if got := impl.TermFromLeast(least, n); got != c.term(n) {
				t.Fatalf("the term %d of %s from the lowest digit = %d, want %d", n, c.name, got, c.term(n))
			}
		}
		for _, n := range []int{limit / c.base, limit - 2, limit - 1} {
			if got := impl.TermFromLeast(least, n); got != c.term(n) {
				t.Errorf("the term %d of %s from the lowest digit = %d, want %d", n, c.name, got, c.term(n))
			}
		}
	}
}

func TestFromLeastIsMinimal(t *testing.T) {
	for _, s := range sampleSequences() {
		least, ok := impl.FromLeast(s)
		if !ok {
			continue
		}
		ascending := make([]int, len(least.Next))
		for i := range ascending {
			ascending[i] = i
		}
		if got := wantReached(least); !slices.Equal(got, ascending) {
			t.Fatalf("the states of FromLeast(%v) = %v are reached in the order %v", s, least, got)
		}
		if got := wantClasses(least); !slices.Equal(got, ascending) {
			t.Fatalf("the states of FromLeast(%v) = %v have the classes %v", s, least, got)
		}
		// Zeros behind the highest digit do not matter.
		for state, next := range least.Next {
			if least.Out[next[0]] != least.Out[state] {
				t.Fatalf("in FromLeast(%v) = %v the digit 0 changes the term of the state %d", s, least, state)
			}
		}
	}
}

func TestTermFromLeastExamples(t *testing.T) {
	// The term is the state, and the state 0 is left and found again.
	s := parsed(t, "2: 12/0 03/1 30/2 33/3")
	for n, want := range []int{0, 2, 3, 0, 2, 3, 3, 2, 3, 3, 3, 3, 0, 3} {
		if got := impl.TermFromLeast(s, n); got != want {
			t.Errorf("TermFromLeast(%v, %d) = %d, want %d", s, n, got, want)
		}
	}
	// Without zeros behind the highest digit: each digit leads to the next state.
	for base := 2; base <= 4; base++ {
		s := unary(base, 0, 16)
		for k := range 17 {
			for _, n := range []int{wantPower(base, k) - 1, wantPower(base, k) / base} {
				if got, want := impl.TermFromLeast(s, n), len(wantDigits(n, base))%4; got != want {
					t.Errorf("TermFromLeast(%v, %d) = %d, want %d", s, n, got, want)
				}
			}
		}
	}
}

func TestTermFromLeastOfSamples(t *testing.T) {
	for _, s := range sampleSequences() {
		for _, n := range termNumbers(s.Base) {
			state := 0
			for rest := n; rest > 0; rest /= s.Base {
				state = s.Next[state][rest%s.Base]
			}
			if got := impl.TermFromLeast(s, n); got != s.Out[state] {
				t.Fatalf("TermFromLeast(%v, %d) = %d, want %d", s, n, got, s.Out[state])
			}
		}
	}
}

func TestTermFromLeastLimits(t *testing.T) {
	for base := 2; base <= 4; base++ {
		limit := wantPower(base, 16)
		for _, s := range []impl.Sequence{seq(base, repeated(0, base), 3), wide(base, 3, 0), wide(base, 3, 2), wide(base, 16, 0), unary(base, 0, 16)} {
			for _, n := range []int{math.MinInt, -limit, -base, -2, -1, limit, limit + 1, limit + base, 2 * limit, limit * base, 1 << 40, math.MaxInt} {
				if got := impl.TermFromLeast(s, n); got != -1 {
					t.Errorf("TermFromLeast(%v, %d) = %d", s, n, got)
				}
			}
			for _, n := range []int{0, 1, limit / base, limit - base, limit - 2, limit - 1} {
				d := wantDigits(n, base)
				slices.Reverse(d)
				if got, want := impl.TermFromLeast(s, n), s.Out[wantState(s, d)]; got != want {
					t.Errorf("TermFromLeast(%v, %d) = %d, want %d", s, n, got, want)
				}
			}
		}
	}
}

func TestInvalidSequencesHaveNoKernel(t *testing.T) {
	for _, c := range invalidSequences() {
		checkNoKernel(t, c.why, c.s)
		checkNoSubTerms(t, c.why, c.s)
		for _, n := range []int{math.MinInt, -1, 0, 1, 2, 65535, 65536, math.MaxInt} {
			if got := impl.TermFromLeast(c.s, n); got != -1 {
				t.Errorf("%s: TermFromLeast(%v, %d) = %d", c.why, c.s, n, got)
			}
		}
	}
}

// kernelSamples contains sequences of which some have kernels and others have not, also ones whose lists are all one list.
func kernelSamples(t *testing.T) []impl.Sequence {
	l := append(combinationSamples(), seq(3, repeated(0, 3), 2), onlyAt(2, 9999, 3), onlyAt(4, 9999, 3), steadyUnary(3, 0, 3))
	for _, c := range kernelSizes {
		l = append(l, parsed(t, c.text))
	}
	return l
}

func TestKernelsChangeNoArgument(t *testing.T) {
	for _, s := range kernelSamples(t) {
		calls := map[string]func(impl.Sequence){
			"KernelOf":      func(s impl.Sequence) { impl.KernelOf(s) },
			"SubTerms":      func(s impl.Sequence) { impl.SubTerms(s, 1) },
			"FromLeast":     func(s impl.Sequence) { impl.FromLeast(s) },
			"TermFromLeast": func(s impl.Sequence) { impl.TermFromLeast(s, 11) },
			"KernelSize":    func(s impl.Sequence) { impl.KernelSize(s) },
		}
		for name, call := range calls {
			argument, changed := guarded(s)
			call(argument)
			if changed() {
				t.Errorf("%s changes the memory of %v", name, s)
			}
		}
	}
}

func TestKernelsShareNoMemory(t *testing.T) {
	for _, s := range kernelSamples(t) {
		argument, changed := guarded(s)
		kernel, _ := impl.KernelOf(argument)
		again, _ := impl.KernelOf(argument)
		sub, _ := impl.SubTerms(argument, 1)
		least, _ := impl.FromLeast(argument)
		before, subBefore, leastBefore := texts(kernel), impl.FormatSequence(sub), impl.FormatSequence(least)
		// Each sequence of a kernel is overwritten before the next one is looked at.
		for i := range again {
			if impl.FormatSequence(again[i]) != before[i] {
				t.Errorf("two sequences of KernelOf(%v) share memory", s)
			}
			checkOwnMemory(t, again[i], "KernelOf")
		}
		for _, result := range []func() impl.Sequence{
			func() impl.Sequence { r, _ := impl.SubTerms(argument, 1); return r },
			func() impl.Sequence { r, _ := impl.FromLeast(argument); return r },
		} {
			checkOwnMemory(t, result(), "SubTerms or FromLeast")
		}
		if !slices.Equal(texts(kernel), before) || impl.FormatSequence(sub) != subBefore || impl.FormatSequence(least) != leastBefore {
			t.Errorf("two results for %v share memory", s)
		}
		clear(again[:cap(again)])
		for _, f := range kernel {
			checkOwnMemory(t, f, "KernelOf")
		}
		if changed() {
			t.Errorf("a result shares memory with %v", s)
		}
	}
}
