package tests

import (
	"fmt"
	"math"
	"slices"
	"testing"

	"loop.example/g02079/impl"
)

// These assignments do not compile if a signature differs from the document.
var (
	_ func(impl.Sequence, impl.Sequence, int) (impl.Sequence, bool) = impl.CombineTerms
	_ func(impl.Sequence, []int) (impl.Sequence, bool)              = impl.MapOutputs
	_ func(int, int) (impl.Sequence, bool)                          = impl.ConstantSequence
	_ func(impl.Sequence) (impl.Sequence, bool)                     = impl.ShiftedSequence
	_ func(int, int) (impl.Sequence, bool)                          = impl.DigitSequence
	_ func(int, int, int) int                                       = impl.CombineValues
)

// combined contains CombineValues for the four ways: of x and y at the place 4 * x + y.
var combined = map[int][]int{
	impl.CombineSum:   {0, 1, 2, 3, 1, 2, 3, 0, 2, 3, 0, 1, 3, 0, 1, 2},
	impl.CombineEqual: {1, 0, 0, 0, 0, 1, 0, 0, 0, 0, 1, 0, 0, 0, 0, 1},
	impl.CombineLess:  {0, 1, 1, 1, 0, 0, 1, 1, 0, 0, 0, 1, 0, 0, 0, 0},
	impl.CombineMost:  {0, 1, 2, 3, 1, 1, 2, 3, 2, 2, 2, 3, 3, 3, 3, 3},
}

// wrongWays contains the numbers next to the ways, and some that are far away.
var wrongWays = []int{math.MinInt, -1<<32 + 1, -4, -1, 0, 5, 6, 16, 257, 1<<32 + 1, math.MaxInt}

// wrongTerms contains the numbers next to the terms, and some that are far away.
var wrongTerms = []int{math.MinInt, -1 << 32, -2, -1, 4, 5, 8, '0', 1 << 32, math.MaxInt}

// unary is a sequence whose term depends on the number of digits read: its states follow each other, and the last one leads back behind the tail.
func unary(base int, tail int, period int) impl.Sequence {
	states := tail + period
	s := impl.Sequence{Base: base}
	for state := range states {
		next := state + 1
		if next == states {
			next = tail
		}
		s.Next = append(s.Next, repeated(next, base))
		s.Out = append(s.Out, state%4)
	}
	return s
}

// steadyUnary is unary with one more state in front, which is left at the first digit that is not 0.
func steadyUnary(base int, tail int, period int) impl.Sequence {
	s := unary(base, tail+1, period)
	s.Next[0][0] = 0
	return s
}

// termOf is the term n of a valid sequence, also for an n that has too many digits for TermAt.
func termOf(s impl.Sequence, n int) int {
	state, power := 0, 1
	for power <= n/s.Base {
		power *= s.Base
	}
	for ; power > 0 && n > 0; power /= s.Base {
		state = s.Next[state][n/power%s.Base]
	}
	return s.Out[state]
}

// pairSearch is the sequence of pairs that wantReached finds in the table of all pairs, which has one row for each pair and the start pair first; false if they are too many.
func pairSearch(all impl.Sequence) (impl.Sequence, bool) {
	reached := wantReached(all)
	if len(reached) > 16 {
		return impl.Sequence{}, false
	}
	want := impl.Sequence{Base: all.Base}
	for _, pair := range reached {
		var row []int
		for _, next := range all.Next[pair] {
			row = append(row, slices.Index(reached, next))
		}
		want.Next = append(want.Next, row)
		want.Out = append(want.Out, all.Out[pair])
	}
	return want, true
}

// wantCombined is CombineTerms of two valid sequences of one base, for a valid way.
func wantCombined(a impl.Sequence, b impl.Sequence, how int) (impl.Sequence, bool) {
	all := impl.Sequence{Base: a.Base}
	for p := range a.Next {
		for q := range b.Next {
			var row []int
			for digit := range a.Base {
				row = append(row, a.Next[p][digit]*len(b.Next)+b.Next[q][digit])
			}
			all.Next = append(all.Next, row)
			all.Out = append(all.Out, combined[how][4*a.Out[p]+b.Out[q]])
		}
	}
	return pairSearch(all)
}

// wantShifted is ShiftedSequence of a valid sequence; the pair of p and q is numbered from the start pair on.
func wantShifted(s impl.Sequence) (impl.Sequence, bool) {
	steady, ok := wantSteady(s)
	if !ok {
		return impl.Sequence{}, false
	}
	states := len(steady.Next)
	start := steady.Next[0][1]
	number := func(p int, q int) int { return p*states + (q+states-start)%states }
	all := impl.Sequence{Base: s.Base, Next: make([][]int, states*states), Out: make([]int, states*states)}
	for p := range states {
		for q := range states {
			following := append(slices.Clone(steady.Next[p]), steady.Next[q][0])
			var row []int
			for digit, next := range following[:s.Base] {
				row = append(row, number(next, following[digit+1]))
			}
			all.Next[number(p, q)], all.Out[number(p, q)] = row, steady.Out[q]
		}
	}
	return pairSearch(all)
}

// checkSequence compares a result with the sequence that is wanted, or with failure.
func checkSequence(t *testing.T, name string, got impl.Sequence, ok bool, want impl.Sequence, wantOk bool) {
	t.Helper()
	if ok != wantOk || ok && !sameSequence(got, want) || !ok && !isNothing(got) {
		t.Fatalf("%s = %v, %v, want %v, %v", name, got, ok, want, wantOk)
	}
	if ok && !impl.IsSequence(got) {
		t.Fatalf("%s = %v is not valid", name, got)
	}
}

// checkNothing checks that a function fails with the zero value.
func checkNothing(t *testing.T, name string, got impl.Sequence, ok bool) {
	t.Helper()
	if ok || !isNothing(got) {
		t.Errorf("%s = %v, %v, want nothing", name, got, ok)
	}
}

// termNumbers contains small numbers, those next to the powers of the base, and the last one with a term.
func termNumbers(base int) []int {
	var l []int
	for n := range 100 {
		l = append(l, n)
	}
	for k := range 16 {
		p := wantPower(base, k)
		l = append(l, p-1, p, p+1, 2*p-1, p*base-2)
	}
	return append(l, wantPower(base, 16)-1)
}

func TestCombineConstants(t *testing.T) {
	if impl.CombineSum != 1 || impl.CombineEqual != 2 || impl.CombineLess != 3 || impl.CombineMost != 4 {
		t.Error("the constants of the four ways differ from the document")
	}
}

func TestCombineValues(t *testing.T) {
	for how, values := range combined {
		for i, want := range values {
			if got := impl.CombineValues(i/4, i%4, how); got != want {
				t.Errorf("CombineValues(%d, %d, %d) = %d, want %d", i/4, i%4, how, got, want)
			}
		}
	}
}

func TestCombineValuesRefused(t *testing.T) {
	for x := range 4 {
		for y := range 4 {
			for _, how := range wrongWays {
				if got := impl.CombineValues(x, y, how); got != -1 {
					t.Errorf("CombineValues(%d, %d, %d) = %d", x, y, how, got)
				}
			}
		}
	}
	for how := range combined {
		for _, wrong := range wrongTerms {
			for _, other := range append([]int{0, 1, 2, 3, wrong, -wrong}, wrongTerms...) {
				if got := impl.CombineValues(wrong, other, how); got != -1 {
					t.Errorf("CombineValues(%d, %d, %d) = %d", wrong, other, how, got)
				}
				if got := impl.CombineValues(other, wrong, how); got != -1 {
					t.Errorf("CombineValues(%d, %d, %d) = %d", other, wrong, how, got)
				}
			}
		}
	}
}

func TestCombineTermsExamples(t *testing.T) {
	cases := []struct {
		a, b string
		how  int
		want string
	}{
		{"2: 00/3", "2: 00/2", impl.CombineSum, "2: 00/1"},
		{"2: 00/3", "2: 00/2", impl.CombineLess, "2: 00/0"},
		{"2: 00/2", "2: 00/3", impl.CombineLess, "2: 00/1"},
		{"2: 01/0 10/1", "2: 01/0 10/1", impl.CombineSum, "2: 01/0 10/2"},
		{"2: 01/0 10/1", "2: 01/0 10/1", impl.CombineEqual, "2: 01/1 10/1"},
		// The pairs 00, 11, 12, 03, 10, 01, 02 and 13 in the order of the search.
		{"2: 01/0 10/1", "2: 01/0 23/0 01/1 23/1", impl.CombineSum, "2: 01/0 23/1 45/2 67/1 45/1 67/0 01/1 23/2"},
		// Pairs with equal terms stay apart.
		{"2: 02/0 11/1 12/2", "2: 00/0", impl.CombineMost, "2: 01/0 21/2 22/1"},
		{"2: 01/0 10/0", "2: 00/0", impl.CombineSum, "2: 01/0 10/0"},
		{"3: 021/1 122/0 212/3", "3: 000/1", impl.CombineLess, "3: 012/0 121/0 211/1"},
		{"3: 000/1", "3: 021/1 122/0 212/3", impl.CombineLess, "3: 012/0 121/1 211/0"},
		{"4: 0123/0 1111/1 2222/2 3333/3", "4: 0001/2 1111/0", impl.CombineSum, "4: 0123/2 1114/3 2225/0 3333/3 4444/1 5555/2"},
		// Not steady: the pair of the states 0 goes on by the digit 0 like every other one.
		{"2: 10/2 11/0", "2: 00/1", impl.CombineSum, "2: 10/3 11/1"},
		{"2: 10/2 11/0", "2: 01/1 10/3", impl.CombineMost, "2: 12/2 13/1 30/3 31/3"},
		{"2: 11/1 00/2", "2: 11/1 22/2 00/3", impl.CombineEqual, "2: 11/1 22/1 33/0 44/0 55/0 00/0"},
	}
	for _, c := range cases {
		got, ok := impl.CombineTerms(parsed(t, c.a), parsed(t, c.b), c.how)
		if !ok || impl.FormatSequence(got) != c.want {
			t.Errorf("CombineTerms of %q and %q by %d = %q, %v, want %q", c.a, c.b, c.how, impl.FormatSequence(got), ok, c.want)
		}
	}
}

func TestCombineTermsOfNamedSequences(t *testing.T) {
	for _, a := range namedTerms {
		for _, b := range namedTerms {
			first, _ := impl.NamedSequence(a.name)
			second, _ := impl.NamedSequence(b.name)
			for how := range combined {
				got, ok := impl.CombineTerms(first, second, how)
				if a.base != b.base {
					checkNothing(t, a.name+" with "+b.name, got, ok)
					continue
				}
				if !ok {
					t.Fatalf("CombineTerms of %s and %s by %d fails", a.name, b.name, how)
				}
				for _, n := range termNumbers(a.base) {
					want := combined[how][4*a.term(n)+b.term(n)]
					if term := impl.TermAt(got, n); term != want {
						t.Fatalf("the term %d of %s and %s by %d = %d, want %d", n, a.name, b.name, how, term, want)
					}
				}
			}
		}
	}
}

// samplePairs contains pairs of samples of one base, most of them small enough to be combined.
func samplePairs() [][2]impl.Sequence {
	samples := sampleSequences()
	var l [][2]impl.Sequence
	for i, a := range samples {
		for j := i % 41; j < len(samples); j += 41 {
			b := samples[j]
			size := len(a.Next) * len(b.Next)
			if a.Base == b.Base && (size <= 24 || i%23 == 0 && size <= 80) {
				l = append(l, [2]impl.Sequence{a, b})
			}
		}
	}
	return l
}

func TestCombineTermsOfSamples(t *testing.T) {
	made, refused := 0, 0
	for i, p := range samplePairs() {
		how := 1 + i%4
		a, b := p[0], p[1]
		got, ok := impl.CombineTerms(a, b, how)
		want, wantOk := wantCombined(a, b, how)
		checkSequence(t, fmt.Sprintf("CombineTerms(%v, %v, %d)", a, b, how), got, ok, want, wantOk)
		if !ok {
			refused++
			continue
		}
		made++
		for n := i % 3; n < 60; n += 3 {
			if term := impl.TermAt(got, n); term != impl.CombineValues(impl.TermAt(a, n), impl.TermAt(b, n), how) {
				t.Fatalf("the term %d of CombineTerms(%v, %v, %d) = %d", n, a, b, how, term)
			}
		}
	}
	if made < 1000 || refused < 100 {
		t.Errorf("%d samples are combined and %d are refused", made, refused)
	}
}

func TestCombineTermsOfFamilies(t *testing.T) {
	for _, f := range families() {
		for _, a := range f {
			b := f[0]
			one := seq(a.Base, repeated(0, a.Base), 1)
			equal, ok := impl.CombineTerms(a, b, impl.CombineEqual)
			if !ok {
				continue
			}
			// The terms are equal exactly if all terms of this combination are 1.
			if got := haveSameTerms(equal, one); got != haveSameTerms(a, b) {
				t.Fatalf("CombineTerms(%v, %v) for equality = %v", a, b, equal)
			}
			for _, how := range []int{impl.CombineSum, impl.CombineEqual, impl.CombineMost} {
				left, leftOk := impl.CombineTerms(a, b, how)
				right, rightOk := impl.CombineTerms(b, a, how)
				if !leftOk || !rightOk || !impl.AreSameTerms(left, right) && impl.IsSteady(left) {
					t.Fatalf("CombineTerms(%v, %v, %d) depends on the order: %v, %v", a, b, how, left, right)
				}
			}
		}
	}
}

func TestCombineTermsLimits(t *testing.T) {
	cases := []struct {
		tail, period, otherTail, otherPeriod int
		pairs                                int
	}{
		{0, 16, 0, 16, 16},
		{0, 16, 0, 1, 16},
		{0, 16, 0, 2, 16},
		{15, 1, 0, 1, 16},
		{15, 1, 15, 1, 16},
		{0, 3, 0, 5, 15},
		{1, 3, 0, 5, 16},
		{0, 3, 1, 5, 16},
		{1, 3, 1, 5, 16},
		{2, 3, 0, 5, 17},
		{0, 3, 2, 5, 17},
		{12, 4, 0, 5, 32},
		{13, 3, 11, 5, 28},
		{14, 2, 1, 3, 20},
		{12, 2, 0, 2, 14},
		{0, 13, 0, 16, 208},
		{0, 15, 0, 16, 240},
	}
	for base := 2; base <= 4; base++ {
		for _, c := range cases {
			a, b := unary(base, c.tail, c.period), unary(base, c.otherTail, c.otherPeriod)
			for how := range combined {
				got, ok := impl.CombineTerms(a, b, how)
				want, wantOk := wantCombined(a, b, how)
				checkSequence(t, fmt.Sprintf("CombineTerms(%v, %v, %d)", a, b, how), got, ok, want, wantOk)
				if ok != (c.pairs <= 16) || ok && len(got.Next) != c.pairs {
					t.Errorf("CombineTerms(%v, %v, %d) = %v, %v, want %d pairs", a, b, how, got, ok, c.pairs)
				}
			}
		}
		// Steady ones have the pair of the states 0 before those.
		for _, c := range cases {
			if c.tail+c.period > 15 || c.otherTail+c.otherPeriod > 15 {
				continue
			}
			a, b := steadyUnary(base, c.tail, c.period), steadyUnary(base, c.otherTail, c.otherPeriod)
			got, ok := impl.CombineTerms(a, b, impl.CombineSum)
			if ok != (c.pairs+1 <= 16) || ok && (len(got.Next) != c.pairs+1 || !impl.IsSteady(got)) || !ok && !isNothing(got) {
				t.Errorf("CombineTerms(%v, %v) = %v, %v, want %d pairs", a, b, got, ok, c.pairs+1)
			}
		}
	}
}

func TestCombineTermsWithoutSteadyForm(t *testing.T) {
	for base := 2; base <= 4; base++ {
		// 16 states that are not steady have no steady form, but the pairs of them are few enough.
		s := unary(base, 3, 13)
		got, ok := impl.CombineTerms(s, s, impl.CombineMost)
		if !ok || !sameSequence(got, s) {
			t.Errorf("CombineTerms(%v) with itself = %v, %v", s, got, ok)
		}
		got, ok = impl.CombineTerms(s, s, impl.CombineLess)
		zero := copyOf(s)
		zero.Out = repeated(0, 16)
		if !ok || !sameSequence(got, zero) {
			t.Errorf("CombineTerms(%v) with itself = %v, %v", s, got, ok)
		}
	}
}

func TestCombineTermsDifferentBases(t *testing.T) {
	for base := 2; base <= 4; base++ {
		for other := 2; other <= 4; other++ {
			if base == other {
				continue
			}
			for how := range combined {
				for _, states := range []int{1, 2, 5} {
					for _, first := range []int{0, states - 1} {
						got, ok := impl.CombineTerms(wide(base, states, first), wide(other, states, first), how)
						checkNothing(t, fmt.Sprintf("CombineTerms of the bases %d and %d", base, other), got, ok)
						got, ok = impl.CombineTerms(wide(base, states, first), seq(other, repeated(0, other), 0), how)
						checkNothing(t, fmt.Sprintf("CombineTerms of the bases %d and %d", base, other), got, ok)
					}
				}
			}
		}
	}
}

func TestCombineTermsUnknownWay(t *testing.T) {
	for base := 2; base <= 4; base++ {
		for _, how := range wrongWays {
			for _, s := range []impl.Sequence{seq(base, repeated(0, base), 0), wide(base, 3, 0), wide(base, 3, 1)} {
				got, ok := impl.CombineTerms(s, s, how)
				checkNothing(t, fmt.Sprintf("CombineTerms(%v, %v, %d)", s, s, how), got, ok)
			}
		}
	}
}

func TestMapOutputsExamples(t *testing.T) {
	cases := []struct {
		s     string
		table []int
		want  string
	}{
		{"2: 01/0 10/1", []int{3, 2}, "2: 01/3 10/2"},
		{"2: 01/0 10/1", []int{1, 0}, "2: 01/1 10/0"},
		{"2: 01/0 10/1", []int{2, 2, 2, 2}, "2: 01/2 10/2"},
		{"3: 012/3 120/2 201/1", []int{0, 1, 2, 3}, "3: 012/3 120/2 201/1"},
		{"3: 012/3 120/2 201/1", []int{0, 3, 0, 1}, "3: 012/1 120/0 201/3"},
		{"4: 0000/0", []int{3}, "4: 0000/3"},
		// Only the terms are looked up, so that other numbers of the table may be any ones.
		{"4: 0000/2", []int{-1, 4, 0, math.MaxInt, math.MinInt}, "4: 0000/0"},
		{"2: 01/0 10/3", []int{3, 9, -9, 0}, "2: 01/3 10/0"},
		{"2: 01/1 10/1", []int{4, 3}, "2: 01/3 10/3"},
		// Neither steady nor minimal: the states are those of the sequence.
		{"2: 10/2 11/0", []int{1, 2, 3}, "2: 10/3 11/1"},
		{"2: 01/0 23/1 10/1 01/0 44/2", []int{3, 3, 3}, "2: 01/3 23/3 10/3 01/3 44/3"},
	}
	for _, c := range cases {
		got, ok := impl.MapOutputs(parsed(t, c.s), c.table)
		if !ok || impl.FormatSequence(got) != c.want {
			t.Errorf("MapOutputs of %q and %v = %q, %v, want %q", c.s, c.table, impl.FormatSequence(got), ok, c.want)
		}
	}
}

// wantMapped is MapOutputs of a valid sequence.
func wantMapped(s impl.Sequence, table []int) (impl.Sequence, bool) {
	values := map[int]int{}
	for term, v := range table {
		if v == 0 || v == 1 || v == 2 || v == 3 {
			values[term] = v
		}
	}
	want := copyOf(s)
	for state := range want.Out {
		v, ok := values[s.Out[state]]
		if !ok {
			return impl.Sequence{}, false
		}
		want.Out[state] = v
	}
	return want, true
}

func TestMapOutputsOfSamples(t *testing.T) {
	tables := listsOver(-1, 5, 4)
	draw := drawing(5)
	for _, s := range manySequences() {
		for range 20 {
			table := tables[draw(len(tables))]
			got, ok := impl.MapOutputs(s, table)
			want, wantOk := wantMapped(s, table)
			checkSequence(t, fmt.Sprintf("MapOutputs(%v, %v)", s, table), got, ok, want, wantOk)
			long := append(slices.Clone(table), 2, 0, 1, 3, 7)
			got, ok = impl.MapOutputs(s, long)
			want, wantOk = wantMapped(s, long)
			checkSequence(t, fmt.Sprintf("MapOutputs(%v, %v)", s, long), got, ok, want, wantOk)
		}
	}
}

func TestMapOutputsRefused(t *testing.T) {
	for base := 2; base <= 4; base++ {
		for term := range 4 {
			for _, states := range []int{1, 2, 16} {
				s := wide(base, states, 0)
				s.Out = repeated(0, states)
				s.Out[states-1] = term
				for size := range 6 {
					got, ok := impl.MapOutputs(s, repeated(1, size))
					if ok != (size > term) || !ok && !isNothing(got) {
						t.Errorf("MapOutputs(%v) with a table of %d numbers = %v, %v", s, size, got, ok)
					}
				}
				for _, wrong := range wrongTerms {
					table := repeated(2, 4)
					table[term] = wrong
					got, ok := impl.MapOutputs(s, table)
					checkNothing(t, fmt.Sprintf("MapOutputs(%v, %v)", s, table), got, ok)
				}
			}
		}
	}
	// The term of a state that is never reached must have an index, too, and its number must be a term.
	s := parsed(t, "2: 01/0 10/1 22/3")
	for _, table := range [][]int{nil, {}, {0}, {0, 1}, {0, 1, 2}, {0, 1, 2, 4}, {0, 1, 2, -1}} {
		got, ok := impl.MapOutputs(s, table)
		checkNothing(t, fmt.Sprintf("MapOutputs(%v, %v)", s, table), got, ok)
	}
	if got, ok := impl.MapOutputs(s, []int{0, 1, 9, 2}); !ok || impl.FormatSequence(got) != "2: 01/0 10/1 22/2" {
		t.Errorf("MapOutputs(%v) = %v, %v", s, got, ok)
	}
	// A table does not make a sequence valid.
	for _, wrong := range []int{-1, 4} {
		bad := impl.Sequence{Base: 2, Next: [][]int{{0, 0}}, Out: []int{wrong}}
		got, ok := impl.MapOutputs(bad, repeated(0, 8))
		checkNothing(t, fmt.Sprintf("MapOutputs(%v)", bad), got, ok)
	}
}

func TestConstantSequence(t *testing.T) {
	texts := []string{"2: 00/0", "2: 00/1", "2: 00/2", "2: 00/3", "3: 000/0", "3: 000/1", "3: 000/2", "3: 000/3", "4: 0000/0", "4: 0000/1", "4: 0000/2", "4: 0000/3"}
	for i, text := range texts {
		base, v := 2+i/4, i%4
		got, ok := impl.ConstantSequence(base, v)
		if !ok || impl.FormatSequence(got) != text {
			t.Errorf("ConstantSequence(%d, %d) = %v, %v, want %q", base, v, got, ok, text)
		}
		if !impl.IsSteady(got) || !impl.IsMinimal(got) || !slices.Equal(impl.PrefixOf(got, 256), repeated(v, 256)) {
			t.Errorf("ConstantSequence(%d, %d) = %v has other terms", base, v, got)
		}
		for _, n := range termNumbers(base) {
			if term := impl.TermAt(got, n); term != v {
				t.Fatalf("the term %d of ConstantSequence(%d, %d) = %d", n, base, v, term)
			}
		}
	}
}

func TestConstantSequenceRefused(t *testing.T) {
	for _, base := range wrongBases {
		for _, v := range append([]int{0, 1, 2, 3}, wrongTerms...) {
			got, ok := impl.ConstantSequence(base, v)
			checkNothing(t, fmt.Sprintf("ConstantSequence(%d, %d)", base, v), got, ok)
		}
	}
	for base := 2; base <= 4; base++ {
		for _, v := range wrongTerms {
			got, ok := impl.ConstantSequence(base, v)
			checkNothing(t, fmt.Sprintf("ConstantSequence(%d, %d)", base, v), got, ok)
		}
	}
}

func TestShiftedSequenceExamples(t *testing.T) {
	cases := []struct{ s, want string }{
		{"2: 00/2", "2: 00/2"},
		{"4: 0000/1", "4: 0000/1"},
		// The pairs 01, 11, 10, 00 in the order of the search.
		{"2: 01/0 10/1", "2: 01/1 20/1 23/0 02/0"},
		{"2: 01/0 12/1 22/0", "2: 01/1 23/1 24/0 43/1 44/0"},
		{"2: 01/0 20/1 12/2", "2: 01/1 20/2 12/0"},
		{"3: 010/1 111/0", "3: 010/0 221/1 222/0"},
		// The term of the number 0 is no term of the result.
		{"2: 01/3 12/2 22/0", "2: 01/2 23/2 24/0 43/2 44/0"},
		{"3: 012/0 122/1 222/2", "3: 012/1 133/2 332/1 333/2"},
		// Not steady: the pairs are those of the steady form.
		{"2: 10/2 11/0", "2: 01/2 21/0 33/2 33/0"},
		{"2: 11/2 11/0", "2: 01/0 11/0"},
		{"2: 11/0 00/1", "2: 01/1 23/0 44/0 41/1 22/1"},
	}
	for _, c := range cases {
		got, ok := impl.ShiftedSequence(parsed(t, c.s))
		if !ok || impl.FormatSequence(got) != c.want {
			t.Errorf("ShiftedSequence of %q = %q, %v, want %q", c.s, impl.FormatSequence(got), ok, c.want)
		}
	}
}

func TestShiftedSequenceOfNamedSequences(t *testing.T) {
	for _, c := range namedTerms {
		s, _ := impl.NamedSequence(c.name)
		for by := 1; by <= 3; by++ {
			shifted, ok := impl.ShiftedSequence(s)
			want, wantOk := wantShifted(s)
			checkSequence(t, "ShiftedSequence of "+c.name, shifted, ok, want, wantOk)
			if !ok {
				if by == 1 {
					t.Errorf("ShiftedSequence of %s fails", c.name)
				}
				break
			}
			for _, n := range termNumbers(c.base) {
				if got := impl.TermAt(shifted, n); got != c.term(n+by) {
					t.Fatalf("the term %d of %s shifted %d times = %d, want %d", n, c.name, by, got, c.term(n+by))
				}
			}
			s = shifted
		}
	}
}

func TestShiftedSequenceOfSamples(t *testing.T) {
	made, refused := 0, 0
	for i, s := range manySequences() {
		if len(s.Next) > 7 && i%9 != 0 {
			continue
		}
		got, ok := impl.ShiftedSequence(s)
		want, wantOk := wantShifted(s)
		checkSequence(t, fmt.Sprintf("ShiftedSequence(%v)", s), got, ok, want, wantOk)
		if !ok {
			refused++
			continue
		}
		made++
		if !impl.IsSteady(got) {
			t.Fatalf("ShiftedSequence(%v) = %v is not steady", s, got)
		}
		for _, n := range termNumbers(s.Base) {
			if term := impl.TermAt(got, n); term != termOf(s, n+1) {
				t.Fatalf("the term %d of ShiftedSequence(%v) = %d", n, s, term)
			}
		}
	}
	if made < 200 || refused < 100 {
		t.Errorf("%d samples are shifted and %d are refused", made, refused)
	}
}

func TestShiftedSequenceLimits(t *testing.T) {
	cases := []struct {
		base, tail, period int
		pairs              int
	}{
		{2, 1, 7, 16},
		{2, 3, 5, 16},
		{2, 7, 1, 15},
		{2, 0, 8, 17},
		{2, 8, 1, 17},
		{2, 0, 15, 31},
		{3, 7, 1, 16},
		{3, 0, 7, 15},
		{3, 0, 8, 17},
		{3, 1, 7, 17},
		{4, 7, 1, 16},
		{4, 0, 7, 15},
		{4, 0, 8, 17},
		{4, 14, 1, 30},
	}
	for _, c := range cases {
		s := steadyUnary(c.base, c.tail, c.period)
		if !impl.IsSteady(s) || len(s.Next) != c.tail+c.period+1 {
			t.Fatalf("steadyUnary(%d, %d, %d) = %v", c.base, c.tail, c.period, s)
		}
		got, ok := impl.ShiftedSequence(s)
		want, wantOk := wantShifted(s)
		checkSequence(t, fmt.Sprintf("ShiftedSequence(%v)", s), got, ok, want, wantOk)
		if ok != (c.pairs <= 16) || ok && len(got.Next) != c.pairs {
			t.Errorf("ShiftedSequence(%v) = %v, %v, want %d pairs", s, got, ok, c.pairs)
		}
	}
}

func TestShiftedSequenceWithoutSteadyForm(t *testing.T) {
	for base := 2; base <= 4; base++ {
		// The pairs of the state 1 with itself would be enough, but there is no steady form of 16 states.
		s := impl.Sequence{Base: base, Out: repeated(1, 16)}
		for range 16 {
			s.Next = append(s.Next, repeated(1, base))
		}
		got, ok := impl.ShiftedSequence(s)
		checkNothing(t, fmt.Sprintf("ShiftedSequence(%v)", s), got, ok)
		less := copyOf(s)
		less.Next, less.Out = less.Next[:15], less.Out[:15]
		if got, ok := impl.ShiftedSequence(less); !ok || !sameSequence(got, steadyPair(base)) {
			t.Errorf("ShiftedSequence(%v) = %v, %v", less, got, ok)
		}
		steady := copyOf(s)
		steady.Next[0][0] = 0
		if got, ok := impl.ShiftedSequence(steady); !ok || !sameSequence(got, steadyPair(base)) {
			t.Errorf("ShiftedSequence(%v) = %v, %v", steady, got, ok)
		}
		for _, s := range []impl.Sequence{wide(base, 16, 1), wide(base, 16, 15), chain(base, 16), unary(base, 0, 16)} {
			got, ok := impl.ShiftedSequence(s)
			checkNothing(t, fmt.Sprintf("ShiftedSequence(%v)", s), got, ok)
		}
	}
}

// steadyPair is a steady sequence of two states with the term 1, where only leading zeros stay in state 0.
func steadyPair(base int) impl.Sequence {
	s := seq(base, repeated(1, 2*base), 1, 1)
	s.Next[0][0] = 0
	return s
}

func TestDigitSequence(t *testing.T) {
	texts := []string{
		"2: 00/0", "2: 01/0 10/1", "2: 01/0 12/1 20/2", "2: 01/0 12/1 23/2 30/3",
		"3: 000/0", "3: 010/0 101/1", "3: 012/0 120/1 201/2", "3: 012/0 123/1 230/2 301/3",
		"4: 0000/0", "4: 0101/0 1010/1", "4: 0120/0 1201/1 2012/2", "4: 0123/0 1230/1 2301/2 3012/3",
	}
	for i, text := range texts {
		base, m := 2+i/4, 1+i%4
		got, ok := impl.DigitSequence(base, m)
		if !ok || impl.FormatSequence(got) != text {
			t.Errorf("DigitSequence(%d, %d) = %q, %v, want %q", base, m, impl.FormatSequence(got), ok, text)
		}
		if !impl.IsSteady(got) {
			t.Errorf("DigitSequence(%d, %d) is not steady", base, m)
		}
		for _, n := range termNumbers(base) {
			sum := 0
			for _, digit := range wantDigits(n, base) {
				sum += digit
			}
			if impl.TermAt(got, n) != sum%m {
				t.Fatalf("the term %d of DigitSequence(%d, %d) = %d, want %d", n, base, m, impl.TermAt(got, n), sum%m)
			}
		}
	}
}

func TestDigitSequenceRefused(t *testing.T) {
	wrongRemainders := []int{math.MinInt, -4, -1, 0, 5, 6, 16, 1<<32 + 2, math.MaxInt}
	for _, base := range wrongBases {
		for _, m := range append([]int{1, 2, 3, 4}, wrongRemainders...) {
			got, ok := impl.DigitSequence(base, m)
			checkNothing(t, fmt.Sprintf("DigitSequence(%d, %d)", base, m), got, ok)
		}
	}
	for base := 2; base <= 4; base++ {
		for _, m := range wrongRemainders {
			got, ok := impl.DigitSequence(base, m)
			checkNothing(t, fmt.Sprintf("DigitSequence(%d, %d)", base, m), got, ok)
		}
	}
}

func TestCombinationsAgree(t *testing.T) {
	for base := 2; base <= 4; base++ {
		sum, _ := impl.DigitSequence(base, 4)
		parity, _ := impl.DigitSequence(base, 2)
		mapped, ok := impl.MapOutputs(sum, []int{0, 1, 0, 1})
		if !ok || !impl.AreSameTerms(mapped, parity) || impl.AreSameTerms(sum, parity) {
			t.Errorf("base %d: the remainders by 4 and by 2 do not agree", base)
		}
		one, _ := impl.ConstantSequence(base, 1)
		next, ok := impl.CombineTerms(sum, one, impl.CombineSum)
		want, wantOk := impl.MapOutputs(sum, []int{1, 2, 3, 0})
		if !ok || !wantOk || !impl.AreSameTerms(next, want) {
			t.Errorf("base %d: a number more and a table do not agree", base)
		}
		for how := range combined {
			whole, wholeOk := impl.CombineTerms(sum, parity, how)
			first, firstOk := impl.ShiftedSequence(sum)
			second, secondOk := impl.ShiftedSequence(parity)
			left, leftOk := impl.ShiftedSequence(whole)
			right, rightOk := impl.CombineTerms(first, second, how)
			if !wholeOk || !firstOk || !secondOk || !leftOk || !rightOk || !impl.AreSameTerms(left, right) {
				t.Errorf("base %d: shifting and combining by %d do not agree: %v, %v", base, how, left, right)
			}
		}
	}
}

func TestInvalidSequencesAreNotCombined(t *testing.T) {
	for _, c := range invalidSequences() {
		got, ok := impl.MapOutputs(c.s, []int{0, 1, 2, 3, 0, 1, 2, 3})
		checkNothing(t, c.why+": MapOutputs", got, ok)
		got, ok = impl.ShiftedSequence(c.s)
		checkNothing(t, c.why+": ShiftedSequence", got, ok)
		for base := 2; base <= 4; base++ {
			for _, b := range []impl.Sequence{c.s, seq(base, repeated(0, base), 0), wide(base, 3, 0)} {
				for how := range 6 {
					got, ok = impl.CombineTerms(c.s, b, how)
					checkNothing(t, c.why+": CombineTerms", got, ok)
					got, ok = impl.CombineTerms(b, c.s, how)
					checkNothing(t, c.why+": CombineTerms", got, ok)
				}
			}
		}
	}
}

// combinationSamples contains sequences of which some have combinations and others have not, also ones whose lists are all one list.
func combinationSamples() []impl.Sequence {
	row, other := []int{0, 1}, []int{1, 0}
	return []impl.Sequence{
		wide(2, 3, 0), wide(2, 16, 0), wide(2, 16, 1), wide(3, 4, 3), chain(4, 15), cycle(2, 6, 3), unary(2, 1, 3), {},
		{Base: 2, Next: [][]int{row, row}, Out: row},
		{Base: 2, Next: [][]int{other, other}, Out: other},
		{Base: 2, Next: [][]int{{0}}, Out: []int{9}},
	}
}

func TestCombiningChangesNoArgument(t *testing.T) {
	for _, s := range combinationSamples() {
		calls := map[string]func(impl.Sequence){
			"CombineTerms":    func(s impl.Sequence) { impl.CombineTerms(s, s, impl.CombineSum) },
			"MapOutputs":      func(s impl.Sequence) { impl.MapOutputs(s, []int{3, 2, 1, 0}) },
			"ShiftedSequence": func(s impl.Sequence) { impl.ShiftedSequence(s) },
		}
		for name, call := range calls {
			argument, changed := guarded(s)
			call(argument)
			if changed() {
				t.Errorf("%s changes the memory of %v", name, s)
			}
		}
		table, memory := withTail([]int{3, 2, 1, 0})
		before := slices.Clone(memory)
		impl.MapOutputs(s, table)
		if !slices.Equal(memory, before) {
			t.Errorf("MapOutputs changes its table %v to %v", before, memory)
		}
	}
}

func TestCombiningSharesNoMemory(t *testing.T) {
	made := 0
	check := func(name string, s impl.Sequence, call func(impl.Sequence) (impl.Sequence, bool)) {
		argument, changed := guarded(s)
		got, ok := call(argument)
		again, _ := call(argument)
		if !ok {
			return
		}
		made++
		before := copyOf(got)
		checkOwnMemory(t, again, name)
		if changed() {
			t.Errorf("the result of %s shares memory with %v", name, s)
		}
		if !sameSequence(got, before) {
			t.Errorf("two results of %s for %v share memory", name, s)
		}
	}
	for _, s := range combinationSamples() {
		check("CombineTerms", s, func(s impl.Sequence) (impl.Sequence, bool) { return impl.CombineTerms(s, s, impl.CombineMost) })
		check("MapOutputs", s, func(s impl.Sequence) (impl.Sequence, bool) { return impl.MapOutputs(s, []int{0, 1, 2, 3}) })
		check("ShiftedSequence", s, impl.ShiftedSequence)
		check("ConstantSequence", s, func(s impl.Sequence) (impl.Sequence, bool) { return impl.ConstantSequence(4, 3) })
		check("DigitSequence", s, func(s impl.Sequence) (impl.Sequence, bool) { return impl.DigitSequence(4, 4) })
	}
	if made < 40 {
		t.Errorf("only %d results are made", made)
	}
}
