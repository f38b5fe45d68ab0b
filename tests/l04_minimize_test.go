package tests

import (
	"cmp"
	"math"
	"slices"
	"testing"

	"loop.example/g02079/impl"
)

// These assignments do not compile if a signature differs from the document.
var (
	_ func(impl.Sequence) []int                      = impl.ReachedStates
	_ func(impl.Sequence) []int                      = impl.StateClasses
	_ func(impl.Sequence) (impl.Sequence, bool)      = impl.MinimalForm
	_ func(impl.Sequence, impl.Sequence) bool        = impl.AreSameTerms
	_ func(impl.Sequence, impl.Sequence) (int, bool) = impl.FirstDifference
	_ func(impl.Sequence) bool                       = impl.IsMinimal
)

// parsed is the sequence with a text.
func parsed(t *testing.T, text string) impl.Sequence {
	t.Helper()
	s, ok := impl.ParseSequence(text)
	if !ok {
		t.Fatalf("ParseSequence(%q) fails", text)
	}
	return s
}

// drawing is a function that draws numbers below its argument, always the same ones.
func drawing(start uint32) func(n int) int {
	state := start
	return func(n int) int {
		state = state*1664525 + 1013904223
		return int(state>>8) % n
	}
}

// blownUp is a sequence with the terms of s and so many states, most of which are copies of states of s, in an order that is drawn.
func blownUp(s impl.Sequence, states int, draw func(n int) int) impl.Sequence {
	old := len(s.Next)
	copies := make([][]int, old)
	origin := make([]int, states)
	for state := range states {
		if state < old {
			origin[state] = state
		} else {
			origin[state] = draw(old)
		}
	}
	for i := states - 1; i > 1; i-- {
		j := 1 + draw(i)
		origin[i], origin[j] = origin[j], origin[i]
	}
	for state, o := range origin {
		copies[o] = append(copies[o], state)
	}
	big := impl.Sequence{Base: s.Base}
	for _, o := range origin {
		var next []int
		for _, n := range s.Next[o] {
			next = append(next, copies[n][draw(len(copies[n]))])
		}
		big.Next = append(big.Next, next)
		big.Out = append(big.Out, s.Out[o])
	}
	return big
}

// family contains sequences with the terms of s, and with the terms of s after a change of one term or one next state.
func family(s impl.Sequence, draw func(n int) int) []impl.Sequence {
	l := []impl.Sequence{s}
	for states := len(s.Next); states <= 16; states++ {
		l = append(l, blownUp(s, states, draw))
	}
	for range 6 {
		c := copyOf(s)
		state := draw(len(c.Next))
		if draw(2) == 0 {
			c.Out[state] = draw(4)
		} else {
			c.Next[state][draw(c.Base)] = draw(len(c.Next))
		}
		l = append(l, c, blownUp(c, 16, draw))
	}
	return l
}

// families contains such families of small sequences.
func families() [][]impl.Sequence {
	draw := drawing(7)
	var l [][]impl.Sequence
	for i, s := range sampleSequences() {
		if len(s.Next) < 8 && i%5 == 0 {
			l = append(l, family(s, draw))
		}
	}
	for _, c := range namedTerms {
		s, _ := impl.NamedSequence(c.name)
		l = append(l, family(s, draw))
	}
	return l
}

// manySequences contains sampleSequences and all families.
func manySequences() []impl.Sequence {
	l := sampleSequences()
	for _, f := range families() {
		l = append(l, f...)
	}
	return l
}

// onlyAt is a steady sequence with the term v at n and 0 at all other numbers.
func onlyAt(base int, n int, v int) impl.Sequence {
	d := wantDigits(n, base)
	sink := len(d) + 1
	s := impl.Sequence{Base: base, Out: make([]int, sink+1)}
	for state := range sink + 1 {
		next := repeated(sink, base)
		if state < len(d) {
			next[d[state]] = state + 1
		}
		s.Next = append(s.Next, next)
	}
	s.Next[0][0] = 0
	s.Out[len(d)] = v
	return s
}

// cycle is a steady sequence whose term depends on the number of digits: 1 for last, last + period and so on, where last is not greater than period.
func cycle(base int, period int, last int) impl.Sequence {
	s := impl.Sequence{Base: base, Out: make([]int, period+1)}
	for state := range period + 1 {
		s.Next = append(s.Next, repeated(state%period+1, base))
	}
	s.Next[0][0] = 0
	s.Out[last] = 1
	return s
}

// chain is a sequence in which the digit 0 leads from each state to the next one and at last to itself; only the last state has the term 1.
func chain(base int, states int) impl.Sequence {
	s := impl.Sequence{Base: base, Out: make([]int, states)}
	for state := range states {
		s.Next = append(s.Next, repeated(min(state+1, states-1), base))
	}
	s.Out[states-1] = 1
	return s
}

// alwaysEqual reports whether the same digits lead from p in a and from q in b to equal terms, by a search over pairs; a and b are valid.
func alwaysEqual(a impl.Sequence, p int, b impl.Sequence, q int, seen map[[2]int]bool) bool {
	if a.Out[p] != b.Out[q] {
		return false
	}
	if seen[[2]int{p, q}] {
		return true
	}
	seen[[2]int{p, q}] = true
	for digit := range a.Base {
		if !alwaysEqual(a, a.Next[p][digit], b, b.Next[q][digit], seen) {
			return false
		}
	}
	return true
}

// haveSameTerms reports whether all terms of two valid sequences are equal; unlike the document it needs no steady form, as no number but 0 begins with the digit 0.
func haveSameTerms(a impl.Sequence, b impl.Sequence) bool {
	if a.Base != b.Base || a.Out[0] != b.Out[0] {
		return false
	}
	seen := map[[2]int]bool{}
	for digit := 1; digit < a.Base; digit++ {
		if !alwaysEqual(a, a.Next[0][digit], b, b.Next[0][digit], seen) {
			return false
		}
	}
	return true
}

// wantReached sorts the states by the shortest of the words that lead to them, and the first one of these, which it improves step by step.
func wantReached(s impl.Sequence) []int {
	words := make([]string, len(s.Next))
	known := make([]bool, len(s.Next))
	known[0] = true
	better := func(v string, w string) bool {
		return cmp.Or(cmp.Compare(len(v), len(w)), cmp.Compare(v, w)) < 0
	}
	for changed := true; changed; {
		changed = false
		for state, next := range s.Next {
			for digit, n := range next {
				word := words[state] + string(rune('0'+digit))
				if known[state] && (!known[n] || better(word, words[n])) {
					words[n], known[n], changed = word, true, true
				}
			}
		}
	}
	var reached []int
	for state := range s.Next {
		if known[state] {
			reached = append(reached, state)
		}
	}
	slices.SortFunc(reached, func(p int, q int) int {
		if better(words[p], words[q]) {
			return -1
		}
		return 1
	})
	return reached
}

// wantClasses compares each state with the first states of the classes so far.
func wantClasses(s impl.Sequence) []int {
	var classes, first []int
	for state := range s.Next {
		class := slices.IndexFunc(first, func(f int) bool {
			return alwaysEqual(s, f, s, state, map[[2]int]bool{})
		})
		if class < 0 {
			class = len(first)
			first = append(first, state)
		}
		classes = append(classes, class)
	}
	return classes
}

// checkMinimal checks that m is a minimal form: steady, with different states, in the order of the search.
func checkMinimal(t *testing.T, m impl.Sequence) {
	t.Helper()
	if !impl.IsSteady(m) {
		t.Fatalf("the minimal form %v is not steady", m)
	}
	ascending := make([]int, len(m.Next))
	for i := range ascending {
		ascending[i] = i
	}
	if got := wantReached(m); !slices.Equal(got, ascending) {
		t.Fatalf("the states of the minimal form %v are reached in the order %v", m, got)
	}
	if got := wantClasses(m); !slices.Equal(got, ascending) {
		t.Fatalf("the states of the minimal form %v have the classes %v", m, got)
	}
}

func TestReachedStatesExamples(t *testing.T) {
	cases := []struct {
		s    string
		want []int
	}{
		{"2: 00/0", []int{0}},
		{"4: 0000/3", []int{0}},
		{"2: 01/0 10/1", []int{0, 1}},
		{"2: 01/0 23/1 10/1 01/0 44/2", []int{0, 1, 2, 3}},
		// The order is that of the search, not that of the numbers.
		{"2: 02/0 11/1 12/2", []int{0, 2, 1}},
		{"2: 31/0 00/1 00/2 02/3", []int{0, 3, 1, 2}},
		{"4: 3210/0 0000/0 0000/0 0000/0", []int{0, 3, 2, 1}},
		// A search by depth would find 3 before 2.
		{"2: 12/0 33/1 22/2 44/3 00/0", []int{0, 1, 2, 3, 4}},
		{"3: 021/1 333/0 444/0 000/1 012/2", []int{0, 2, 1, 4, 3}},
		// State 0 leads to state 1 by the digit 0 only.
		{"2: 10/0 10/1", []int{0, 1}},
		// States that are never reached lead to each other and to the others.
		{"2: 00/0 22/1 11/1", []int{0}},
		{"2: 03/0 01/1 23/2 30/3 44/1", []int{0, 3}},
	}
	for _, c := range cases {
		if got := impl.ReachedStates(parsed(t, c.s)); !slices.Equal(got, c.want) {
			t.Errorf("ReachedStates of %q = %v, want %v", c.s, got, c.want)
		}
	}
}

func TestReachedStatesOfSamples(t *testing.T) {
	for _, s := range manySequences() {
		if got, want := impl.ReachedStates(s), wantReached(s); !slices.Equal(got, want) {
			t.Fatalf("ReachedStates(%v) = %v, want %v", s, got, want)
		}
	}
}

func TestStateClassesExamples(t *testing.T) {
	cases := []struct {
		s    string
		want []int
	}{
		{"2: 00/0", []int{0}},
		{"2: 01/0 10/1", []int{0, 1}},
		{"2: 01/0 23/1 10/1 01/0 44/2", []int{0, 1, 1, 0, 2}},
		// Classes are numbered by their first states, not by their terms.
		{"2: 01/3 10/0", []int{0, 1}},
		{"3: 012/2 111/1 222/2 333/0 012/2 000/2", []int{0, 1, 2, 3, 0, 4}},
		// States that are never reached have classes, too.
		{"2: 00/0 11/0 22/1 33/1", []int{0, 0, 1, 1}},
		{"2: 00/0 20/0 11/1", []int{0, 1, 2}},
		// Equal terms with different ones behind them, by one digit only.
		{"2: 01/0 12/1 22/0", []int{0, 1, 2}},
		{"4: 0001/0 1111/1 2222/0 2221/0 2212/0 2122/0 1222/0", []int{0, 1, 2, 3, 4, 5, 6}},
		// Cycles of different lengths, with the same terms and with one other term.
		{"2: 11/0 00/1 33/0 44/1 55/0 22/1", []int{0, 1, 0, 1, 0, 1}},
		{"2: 11/0 22/0 00/1 44/0 55/0 66/1 77/0 88/0 33/1", []int{0, 1, 2, 0, 1, 2, 0, 1, 2}},
		{"2: 11/0 22/0 00/1 44/0 55/0 66/1 77/0 88/0 33/0", []int{0, 1, 2, 3, 4, 5, 6, 7, 8}},
	}
	for _, c := range cases {
		if got := impl.StateClasses(parsed(t, c.s)); !slices.Equal(got, c.want) {
			t.Errorf("StateClasses of %q = %v, want %v", c.s, got, c.want)
		}
	}
}

func TestStateClassesOfSamples(t *testing.T) {
	for _, s := range manySequences() {
		if got, want := impl.StateClasses(s), wantClasses(s); !slices.Equal(got, want) {
			t.Fatalf("StateClasses(%v) = %v, want %v", s, got, want)
		}
	}
}

func TestStateClassesManyRounds(t *testing.T) {
	for base := 2; base <= 4; base++ {
		for states := 1; states <= 16; states++ {
			// The first states differ only after all the others have been told apart.
			s := chain(base, states)
			want := make([]int, states)
			for i := range want {
				want[i] = i
			}
			if got := impl.StateClasses(s); !slices.Equal(got, want) {
				t.Errorf("StateClasses(%v) = %v, want %v", s, got, want)
			}
			if got := impl.ReachedStates(s); !slices.Equal(got, want) {
				t.Errorf("ReachedStates(%v) = %v, want %v", s, got, want)
			}
			// Without the last term there is nothing to tell apart.
			s.Out[states-1] = 0
			if got := impl.StateClasses(s); !slices.Equal(got, repeated(0, states)) {
				t.Errorf("StateClasses(%v) = %v, want zeros", s, got)
			}
		}
	}
}

func TestMinimalFormExamples(t *testing.T) {
	cases := []struct{ s, want string }{
		{"2: 00/0", "2: 00/0"},
		{"2: 01/0 23/1 10/1 01/0 44/2", "2: 01/0 10/1"},
		// Numbered in the order of the search, not in that of the states or of the classes.
		{"2: 02/0 11/1 12/2", "2: 01/0 21/2 22/1"},
		{"3: 021/1 122/0 212/3", "3: 012/1 121/3 211/0"},
		{"4: 0321/0 1111/1 2222/2 3333/3", "4: 0123/0 1111/3 2222/2 3333/1"},
		// States that are never reached are left out, also if they have a class of their own.
		{"2: 01/0 10/1 22/3", "2: 01/0 10/1"},
		{"2: 00/1 11/0 12/2", "2: 00/1"},
		// A class of which only the last state is reached is kept.
		{"2: 02/0 11/1 22/1", "2: 01/0 11/1"},
		// The first class by its states is not reached first.
		{"2: 03/0 11/1 22/2 12/3", "2: 01/0 23/3 22/1 33/2"},
		// Not steady: the new state 0 may have the class of an old one, or replace it.
		{"2: 10/2 11/0", "2: 01/2 21/2 22/0"},
		{"2: 10/0 01/1", "2: 01/0 21/0 12/1"},
		{"2: 11/2 11/0", "2: 01/2 11/0"},
		{"2: 12/0 02/0 21/1", "2: 01/0 10/1"},
		{"2: 10/3 10/3", "2: 00/3"},
		{"3: 101/1 010/2", "3: 012/1 212/1 121/2"},
		{"4: 1000/1 0111/1", "4: 0000/1"},
	}
	for _, c := range cases {
		s := parsed(t, c.s)
		got, ok := impl.MinimalForm(s)
		if !ok || impl.FormatSequence(got) != c.want {
			t.Errorf("MinimalForm of %q = %q, %v, want %q", c.s, impl.FormatSequence(got), ok, c.want)
		}
		if !impl.AreSameTerms(s, parsed(t, c.want)) {
			t.Errorf("AreSameTerms of %q and %q is false", c.s, c.want)
		}
		if impl.IsMinimal(s) != (len(got.Next) == len(s.Next)) {
			t.Errorf("IsMinimal of %q is %v", c.s, impl.IsMinimal(s))
		}
	}
}

func TestMinimalFormOfSamples(t *testing.T) {
	for _, s := range manySequences() {
		got, ok := impl.MinimalForm(s)
		if _, steady := wantSteady(s); ok != steady {
			t.Fatalf("MinimalForm(%v) = %v, %v", s, got, ok)
		}
		if !ok {
			if !isNothing(got) {
				t.Fatalf("MinimalForm(%v) fails with %v", s, got)
			}
			continue
		}
		checkMinimal(t, got)
		if !haveSameTerms(s, got) {
			t.Fatalf("MinimalForm(%v) = %v has other terms", s, got)
		}
		again, ok := impl.MinimalForm(got)
		if !ok || !sameSequence(again, got) {
			t.Fatalf("MinimalForm(%v) = %v, %v", got, again, ok)
		}
		if !impl.IsMinimal(got) || impl.IsMinimal(s) != (len(s.Next) == len(got.Next)) {
			t.Fatalf("IsMinimal(%v) = %v, IsMinimal(%v) = %v", s, impl.IsMinimal(s), got, impl.IsMinimal(got))
		}
	}
}

func TestMinimalFormIsAlwaysTheSame(t *testing.T) {
	for _, s := range []impl.Sequence{cycle(2, 15, 14), cycle(4, 15, 1), wide(3, 13, 0), onlyAt(2, 9999, 2), chain(4, 15)} {
		want, _ := impl.MinimalForm(s)
		classes := impl.StateClasses(s)
		for range 300 {
			if got, ok := impl.MinimalForm(s); !ok || !sameSequence(got, want) {
				t.Fatalf("MinimalForm(%v) = %v and then %v", s, want, got)
			}
			if got := impl.StateClasses(s); !slices.Equal(got, classes) {
				t.Fatalf("StateClasses(%v) = %v and then %v", s, classes, got)
			}
		}
	}
}

func TestSequencesAreEqualIfTheirMinimalFormsAre(t *testing.T) {
	for _, f := range families() {
		for _, a := range f {
			for _, b := range f {
				_, okA := wantSteady(a)
				_, okB := wantSteady(b)
				want := okA && okB && haveSameTerms(a, b)
				if got := impl.AreSameTerms(a, b); got != want {
					t.Fatalf("AreSameTerms(%v, %v) = %v", a, b, got)
				}
				first, _ := impl.MinimalForm(a)
				second, _ := impl.MinimalForm(b)
				if okA && okB && sameSequence(first, second) != want {
					t.Fatalf("the minimal forms of %v and %v are %v and %v", a, b, first, second)
				}
			}
		}
	}
}

func TestAreSameTermsOfSmallSequences(t *testing.T) {
	var l []impl.Sequence
	for _, s := range sampleSequences() {
		if len(s.Next) <= 2 && s.Base == 2 {
			l = append(l, s)
		}
	}
	for _, a := range l {
		for _, b := range l {
			if got := impl.AreSameTerms(a, b); got != haveSameTerms(a, b) {
				t.Fatalf("AreSameTerms(%v, %v) = %v", a, b, got)
			}
		}
	}
}

func TestAreSameTermsFarAway(t *testing.T) {
	for base := 2; base <= 4; base++ {
		// Both have the term 1 for 14 digits, then one for 28 digits and the other for 29: beyond the numbers of TermAt.
		a, b := cycle(base, 15, 14), cycle(base, 14, 14)
		if !impl.IsMinimal(a) || !impl.IsMinimal(b) {
			t.Errorf("IsMinimal of cycles in base %d is false", base)
		}
		for _, n := range digitNumbers(base) {
			if n < wantPower(base, 13) && impl.TermAt(a, n) != impl.TermAt(b, n) {
				t.Fatalf("the terms %d of %v and %v differ", n, a, b)
			}
		}
		if impl.AreSameTerms(a, b) || impl.AreSameTerms(b, a) || haveSameTerms(a, b) {
			t.Errorf("AreSameTerms(%v, %v) is true", a, b)
		}
		if n, ok := impl.FirstDifference(a, b); ok || n != 0 {
			t.Errorf("FirstDifference(%v, %v) = %d, %v", a, b, n, ok)
		}
	}
}

func TestConstantSequences(t *testing.T) {
	for base := 2; base <= 4; base++ {
		for v := range 4 {
			one := seq(base, repeated(0, base), v)
			for states := 1; states <= 16; states++ {
				s := chain(base, states)
				for first := range min(states, 3) {
					s.Out = repeated(v, states)
					s.Next[0][0] = first
					checkConstant(t, s, one)
				}
			}
			for other := range 4 {
				s := seq(base, repeated(0, base), other)
				if got := impl.AreSameTerms(one, s); got != (other == v) {
					t.Errorf("AreSameTerms(%v, %v) = %v", one, s, got)
				}
				if n, ok := impl.FirstDifference(one, s); n != 0 || ok != (other != v) {
					t.Errorf("FirstDifference(%v, %v) = %d, %v", one, s, n, ok)
				}
			}
		}
	}
}

// checkConstant checks a sequence all of whose terms are those of the sequence one, which has one state.
func checkConstant(t *testing.T, s impl.Sequence, one impl.Sequence) {
	t.Helper()
	if got := impl.StateClasses(s); !slices.Equal(got, repeated(0, len(s.Next))) {
		t.Errorf("StateClasses(%v) = %v", s, got)
	}
	if n, ok := impl.FirstDifference(s, one); ok || n != 0 {
		t.Errorf("FirstDifference(%v, %v) = %d, %v", s, one, n, ok)
	}
	// Of 16 states that are not steady there is no minimal form, however few would be enough.
	_, wantOk := wantSteady(s)
	got, ok := impl.MinimalForm(s)
	if ok != wantOk || ok && !sameSequence(got, one) || !ok && !isNothing(got) {
		t.Errorf("MinimalForm(%v) = %v, %v", s, got, ok)
	}
	if impl.AreSameTerms(s, one) != wantOk || impl.AreSameTerms(one, s) != wantOk {
		t.Errorf("AreSameTerms(%v, %v) = %v", s, one, !wantOk)
	}
	if impl.IsMinimal(s) != (len(s.Next) == 1) {
		t.Errorf("IsMinimal(%v) = %v", s, impl.IsMinimal(s))
	}
}

func TestConstantExceptForUnreachedStates(t *testing.T) {
	s := parsed(t, "2: 11/0 00/0 12/1 33/2")
	if got := impl.ReachedStates(s); !slices.Equal(got, []int{0, 1}) {
		t.Errorf("ReachedStates = %v", got)
	}
	if got := impl.StateClasses(s); !slices.Equal(got, []int{0, 0, 1, 2}) {
		t.Errorf("StateClasses = %v", got)
	}
	if got, ok := impl.MinimalForm(s); !ok || impl.FormatSequence(got) != "2: 00/0" {
		t.Errorf("MinimalForm = %v, %v", got, ok)
	}
	if impl.IsMinimal(s) || !impl.AreSameTerms(s, parsed(t, "2: 00/0")) || !impl.IsMinimal(parsed(t, "2: 00/0")) {
		t.Error("states that are never reached make a difference")
	}
}

func TestNoSteadyForm(t *testing.T) {
	for base := 2; base <= 4; base++ {
		for _, s := range []impl.Sequence{wide(base, 16, 1), wide(base, 16, 15), chain(base, 16)} {
			steady := copyOf(s)
			steady.Next[0][0] = 0
			if got, ok := impl.MinimalForm(s); ok || !isNothing(got) {
				t.Errorf("MinimalForm(%v) = %v, %v", s, got, ok)
			}
			if impl.AreSameTerms(s, s) || impl.AreSameTerms(s, steady) || impl.AreSameTerms(steady, s) || impl.IsMinimal(s) {
				t.Errorf("AreSameTerms or IsMinimal of %v is true", s)
			}
			if got := impl.ReachedStates(s); !slices.Equal(got, wantReached(s)) {
				t.Errorf("ReachedStates(%v) = %v", s, got)
			}
			if got := impl.StateClasses(s); !slices.Equal(got, wantClasses(s)) {
				t.Errorf("StateClasses(%v) = %v", s, got)
			}
			if n, ok := impl.FirstDifference(s, s); ok || n != 0 {
				t.Errorf("FirstDifference(%v) with itself = %d, %v", s, n, ok)
			}
			other := copyOf(s)
			other.Out[0]++
			if n, ok := impl.FirstDifference(s, other); !ok || n != 0 {
				t.Errorf("FirstDifference(%v, %v) = %d, %v", s, other, n, ok)
			}
			want, wantOk := wantDifference(s, steady)
			if n, ok := impl.FirstDifference(s, steady); n != want || ok != wantOk {
				t.Errorf("FirstDifference(%v, %v) = %d, %v, want %d, %v", s, steady, n, ok, want, wantOk)
			}
		}
	}
}

func TestMinimalFormsOfAllStates(t *testing.T) {
	for base := 2; base <= 4; base++ {
		// The digits lead round about, so that the new state 0 comes beside the 15 old ones.
		s := chain(base, 15)
		s.Next[14] = repeated(0, base)
		want, ok := wantSteady(s)
		got, gotOk := impl.MinimalForm(s)
		if !ok || !gotOk || len(want.Next) != 16 || len(got.Next) != 16 {
			t.Errorf("MinimalForm(%v) = %v, %v", s, got, gotOk)
		}
		checkMinimal(t, got)
		if impl.IsMinimal(s) || !impl.IsMinimal(got) || !impl.AreSameTerms(s, got) {
			t.Errorf("IsMinimal(%v) is true, or AreSameTerms(%v) is false", s, got)
		}
		s = cycle(base, 15, 15)
		if got, ok := impl.MinimalForm(s); !ok || !sameSequence(got, s) || !impl.IsMinimal(s) {
			t.Errorf("MinimalForm(%v) = %v, %v", s, got, ok)
		}
		s.Next = append(s.Next, repeated(0, base))
		s.Out = append(s.Out, 0)
		checkNoPair(t, "17 states", s, s)
		if got, ok := impl.MinimalForm(s); ok || !isNothing(got) || impl.IsMinimal(s) {
			t.Errorf("MinimalForm of 17 states = %v, %v", got, ok)
		}
	}
}

func TestIsMinimalExamples(t *testing.T) {
	for _, c := range namedTerms {
		s, _ := impl.NamedSequence(c.name)
		if got, ok := impl.MinimalForm(s); !ok || !sameSequence(got, s) || !impl.IsMinimal(s) {
			t.Errorf("MinimalForm of %s = %v, %v", c.name, got, ok)
		}
	}
	cases := []struct {
		s    string
		want bool
	}{
		{"2: 00/0", true},
		{"2: 11/0 00/0", false},
		{"2: 01/0 10/1 22/2", false},
		{"2: 01/0 23/1 10/1 01/0", false},
		// As many states in another order.
		{"2: 02/0 11/1 12/2", true},
		// The steady form has a state more, which stays ...
		{"2: 10/2 11/0", false},
		// ... or replaces the old state 0, so that there are as many states.
		{"2: 11/2 11/0", true},
	}
	for _, c := range cases {
		if got := impl.IsMinimal(parsed(t, c.s)); got != c.want {
			t.Errorf("IsMinimal of %q = %v", c.s, got)
		}
	}
}

func TestFirstDifferenceLimits(t *testing.T) {
	for base := 2; base <= 4; base++ {
		zero := seq(base, repeated(0, base), 0)
		for _, n := range []int{0, 1, 2, base, 255, 256, 257, 1023, 1024, 1998, 1999, 2000, 2001, 2047, 2048, 4000, 8191} {
			s := onlyAt(base, n, 3)
			got, ok := impl.FirstDifference(s, zero)
			back, backOk := impl.FirstDifference(zero, s)
			if ok != (n < 2000) || ok && got != n || !ok && got != 0 || back != got || backOk != ok {
				t.Errorf("base %d: FirstDifference at %d = %d, %v", base, n, got, ok)
			}
			if impl.AreSameTerms(s, zero) || impl.AreSameTerms(zero, s) {
				t.Errorf("base %d: AreSameTerms is true with a difference at %d", base, n)
			}
			// A second difference at 2000 is not the first one.
			got, ok = impl.FirstDifference(s, onlyAt(base, 2000, 3))
			if ok != (n < 2000) || ok && got != n || !ok && got != 0 {
				t.Errorf("base %d: FirstDifference at %d and 2000 = %d, %v", base, n, got, ok)
			}
			if got := impl.AreSameTerms(s, onlyAt(base, 2000, 3)); got != (n == 2000) {
				t.Errorf("base %d: AreSameTerms with terms at %d and 2000 = %v", base, n, got)
			}
		}
	}
}

// wantDifference is FirstDifference of two valid sequences of one base; it finds the state of n behind that of n without its last digit.
func wantDifference(a impl.Sequence, b impl.Sequence) (int, bool) {
	p, q := make([]int, 2000), make([]int, 2000)
	for n := range 2000 {
		if n > 0 {
			p[n] = a.Next[p[n/a.Base]][n%a.Base]
			q[n] = b.Next[q[n/b.Base]][n%b.Base]
		}
		if a.Out[p[n]] != b.Out[q[n]] {
			return n, true
		}
	}
	return 0, false
}

func TestFirstDifferenceOfSamples(t *testing.T) {
	samples := sampleSequences()
	for i, a := range samples {
		for j := i % 97; j < len(samples); j += 97 {
			b := samples[j]
			if a.Base != b.Base {
				continue
			}
			want, wantOk := wantDifference(a, b)
			if got, ok := impl.FirstDifference(a, b); got != want || ok != wantOk {
				t.Fatalf("FirstDifference(%v, %v) = %d, %v, want %d, %v", a, b, got, ok, want, wantOk)
			}
		}
	}
}

func TestFirstDifferenceOfFamilies(t *testing.T) {
	for i, f := range families() {
		for j := i % 7; j < len(f); j += 7 {
			want, wantOk := wantDifference(f[0], f[j])
			if got, ok := impl.FirstDifference(f[0], f[j]); got != want || ok != wantOk {
				t.Fatalf("FirstDifference(%v, %v) = %d, %v, want %d, %v", f[0], f[j], got, ok, want, wantOk)
			}
		}
	}
}

func TestDifferentBases(t *testing.T) {
	for base := 2; base <= 4; base++ {
		for other := 2; other <= 4; other++ {
			if other == base {
				continue
			}
			// The first pair has equal terms, the other ones have not.
			for _, v := range []int{0, 1, 3} {
				a, b := seq(base, repeated(0, base), 0), seq(other, repeated(0, other), v)
				if impl.AreSameTerms(a, b) {
					t.Errorf("AreSameTerms(%v, %v) is true", a, b)
				}
				if n, ok := impl.FirstDifference(a, b); ok || n != 0 {
					t.Errorf("FirstDifference(%v, %v) = %d, %v", a, b, n, ok)
				}
			}
			a, b := onlyAt(base, 7, 1), onlyAt(other, 9, 1)
			if n, ok := impl.FirstDifference(a, b); ok || n != 0 || impl.AreSameTerms(a, b) {
				t.Errorf("FirstDifference(%v, %v) = %d, %v", a, b, n, ok)
			}
		}
	}
}

// invalidSequence is a sequence that is not valid, and why.
type invalidSequence struct {
	why string
	s   impl.Sequence
}

// invalidSequences contains sequences that miss one condition of IsSequence each, most of them by one.
func invalidSequences() []invalidSequence {
	l := []invalidSequence{{"zero value", impl.Sequence{}}}
	add := func(why string, s impl.Sequence, change func(c *impl.Sequence)) {
		c := copyOf(s)
		change(&c)
		l = append(l, invalidSequence{why, c})
	}
	for base := 2; base <= 4; base++ {
		for _, wrong := range append(wrongBases, base-1, base+1) {
			add("base", wide(base, 3, 0), func(c *impl.Sequence) { c.Base = wrong })
		}
		add("base 1", wide(base, 1, 0), func(c *impl.Sequence) { c.Base, c.Next = 1, [][]int{{0}} })
		add("base 5", wide(base, 1, 0), func(c *impl.Sequence) { c.Base, c.Next = 5, [][]int{repeated(0, 5)} })
		add("no states", wide(base, 1, 0), func(c *impl.Sequence) { c.Next, c.Out = nil, nil })
		add("17 states", wide(base, 17, 0), func(c *impl.Sequence) {})
		add("17 states, not steady", wide(base, 17, 1), func(c *impl.Sequence) {})
		add("1000 states", wide(base, 1000, 0), func(c *impl.Sequence) {})
		for _, states := range []int{1, 2, 16} {
			s := wide(base, states, 0)
			add("a term too many", s, func(c *impl.Sequence) { c.Out = append(c.Out, 0) })
			add("a term too few", s, func(c *impl.Sequence) { c.Out = c.Out[1:] })
			add("a row too many", s, func(c *impl.Sequence) { c.Next = append(c.Next, repeated(0, base)) })
			for _, state := range []int{0, states - 1} {
				add("row too short", s, func(c *impl.Sequence) { c.Next[state] = c.Next[state][1:] })
				add("row too long", s, func(c *impl.Sequence) { c.Next[state] = append(c.Next[state], 0) })
				add("empty row", s, func(c *impl.Sequence) { c.Next[state] = nil })
				for _, wrong := range []int{-1, states, 17, math.MinInt, math.MaxInt} {
					add("no next state", s, func(c *impl.Sequence) { c.Next[state][0] = wrong })
					add("no next state", s, func(c *impl.Sequence) { c.Next[state][base-1] = wrong })
				}
				for _, wrong := range []int{-1, 4, math.MinInt, math.MaxInt} {
					add("term", s, func(c *impl.Sequence) { c.Out[state] = wrong })
				}
			}
		}
		unreached := chain(base, 5)
		unreached.Next[1] = repeated(0, base)
		add("next state of a state that is never reached", unreached, func(c *impl.Sequence) { c.Next[3][1] = 5 })
		add("term of a state that is never reached", unreached, func(c *impl.Sequence) { c.Out[4] = 4 })
	}
	return l
}

func TestInvalidSequencesAreRefused(t *testing.T) {
	for _, c := range invalidSequences() {
		if impl.IsSequence(c.s) {
			t.Fatalf("%s: IsSequence(%v) is true", c.why, c.s)
		}
		if got := impl.ReachedStates(c.s); len(got) != 0 {
			t.Errorf("%s: ReachedStates(%v) = %v", c.why, c.s, got)
		}
		if got := impl.StateClasses(c.s); len(got) != 0 {
			t.Errorf("%s: StateClasses(%v) = %v", c.why, c.s, got)
		}
		if got, ok := impl.MinimalForm(c.s); ok || !isNothing(got) {
			t.Errorf("%s: MinimalForm(%v) = %v, %v", c.why, c.s, got, ok)
		}
		if impl.IsMinimal(c.s) {
			t.Errorf("%s: IsMinimal(%v) is true", c.why, c.s)
		}
		for base := 2; base <= 4; base++ {
			for _, b := range []impl.Sequence{c.s, seq(base, repeated(0, base), 0), wide(base, 3, 0)} {
				checkNoPair(t, c.why, c.s, b)
				checkNoPair(t, c.why, b, c.s)
			}
		}
	}
}

// checkNoPair checks that two sequences are not compared.
func checkNoPair(t *testing.T, why string, a impl.Sequence, b impl.Sequence) {
	t.Helper()
	if impl.AreSameTerms(a, b) {
		t.Errorf("%s: AreSameTerms(%v, %v) is true", why, a, b)
	}
	if n, ok := impl.FirstDifference(a, b); ok || n != 0 {
		t.Errorf("%s: FirstDifference(%v, %v) = %d, %v", why, a, b, n, ok)
	}
}

func TestMinimizingChangesNoSequence(t *testing.T) {
	samples := []impl.Sequence{wide(2, 16, 0), wide(2, 16, 1), wide(3, 5, 4), chain(4, 15), cycle(2, 6, 3), {}, {Base: 2, Next: [][]int{{0}}, Out: []int{9}}}
	for _, s := range samples {
		calls := map[string]func(impl.Sequence){
			"ReachedStates":   func(s impl.Sequence) { impl.ReachedStates(s) },
			"StateClasses":    func(s impl.Sequence) { impl.StateClasses(s) },
			"MinimalForm":     func(s impl.Sequence) { impl.MinimalForm(s) },
			"AreSameTerms":    func(s impl.Sequence) { impl.AreSameTerms(s, s) },
			"FirstDifference": func(s impl.Sequence) { impl.FirstDifference(s, s) },
			"IsMinimal":       func(s impl.Sequence) { impl.IsMinimal(s) },
		}
		for name, call := range calls {
			argument, changed := guarded(s)
			call(argument)
			if changed() {
				t.Errorf("%s changes the memory of %v", name, s)
			}
		}
	}
}

func TestMinimizingSharesNoMemory(t *testing.T) {
	row := []int{0, 1}
	samples := []impl.Sequence{wide(2, 16, 0), wide(3, 5, 4), chain(4, 15), cycle(2, 6, 3), {Base: 2, Next: [][]int{row, row}, Out: row}}
	for _, s := range samples {
		argument, changed := guarded(s)
		minimal, ok := impl.MinimalForm(argument)
		if !ok {
			t.Fatalf("MinimalForm(%v) fails", s)
		}
		checkOwnMemory(t, minimal, "MinimalForm")
		for _, l := range [][]int{impl.ReachedStates(argument), impl.StateClasses(argument)} {
			clear(l[:cap(l)])
		}
		if changed() {
			t.Errorf("a result shares memory with %v", s)
		}
		first := impl.ReachedStates(s)
		classes := impl.StateClasses(s)
		copied := [2][]int{slices.Clone(first), slices.Clone(classes)}
		clear(impl.ReachedStates(s))
		clear(impl.StateClasses(s))
		if !slices.Equal(first, copied[0]) || !slices.Equal(classes, copied[1]) {
			t.Errorf("two results for %v share memory", s)
		}
	}
}
