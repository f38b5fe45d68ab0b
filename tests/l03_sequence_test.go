package tests

import (
	"math"
	"math/bits"
	"regexp"
	"slices"
	"strconv"
	"strings"
	"testing"

	"loop.example/g02079/impl"
)

// These assignments do not compile if a signature differs from the document.
var (
	_ func(impl.Sequence) bool                  = impl.IsSequence
	_ func(impl.Sequence, []int) int            = impl.StateAfter
	_ func(impl.Sequence, int) int              = impl.TermAt
	_ func(impl.Sequence, int) []int            = impl.PrefixOf
	_ func(impl.Sequence) bool                  = impl.IsSteady
	_ func(impl.Sequence) (impl.Sequence, bool) = impl.SteadyForm
	_ func(string) (impl.Sequence, bool)        = impl.NamedSequence
	_ func(impl.Sequence) string                = impl.FormatSequence
	_ func(string) (impl.Sequence, bool)        = impl.ParseSequence
	_ func(impl.Sequence, impl.Sequence) bool   = impl.EqualSequences
)

// seq makes a sequence; its rows are written one after the other.
func seq(base int, rows []int, out ...int) impl.Sequence {
	s := impl.Sequence{Base: base, Out: out}
	for len(rows) >= base && base > 0 {
		s.Next = append(s.Next, slices.Clone(rows[:base]))
		rows = rows[base:]
	}
	return s
}

// wide is a valid sequence with so many states, all of which are reached, where state 0 leads to state first by the digit 0.
func wide(base int, states int, first int) impl.Sequence {
	s := impl.Sequence{Base: base}
	for state := range states {
		next := repeated(state, base)
		next[base-1] = (state + 1) % states
		s.Next = append(s.Next, next)
		s.Out = append(s.Out, state%4)
	}
	s.Next[0][0] = first
	return s
}

// sampleSequences contains all small sequences of base 2, and many larger ones of each base and number of states.
func sampleSequences() []impl.Sequence {
	var l []impl.Sequence
	for _, rows := range listsOver(0, 2, 4) {
		if len(rows) == 4 {
			l = append(l, seq(2, rows, 0, 1), seq(2, rows, 3, 2), seq(2, rows, 1, 1))
		}
	}
	for base := 2; base <= 4; base++ {
		for v := range 4 {
			l = append(l, seq(base, repeated(0, base), v))
		}
	}
	state := uint32(1)
	draw := func(n int) int {
		state = state*1664525 + 1013904223
		return int(state>>8) % n
	}
	for i := range 900 {
		s := impl.Sequence{Base: 2 + i%3}
		states := 1 + i/3%16
		for range states {
			var next []int
			for range s.Base {
				next = append(next, draw(states))
			}
			s.Next = append(s.Next, next)
			s.Out = append(s.Out, draw(4))
		}
		if i%2 == 0 {
			s.Next[0][0] = 0
		}
		l = append(l, s)
	}
	for base := 2; base <= 4; base++ {
		for states := 1; states <= 16; states++ {
			l = append(l, wide(base, states, 0), wide(base, states, states-1))
		}
	}
	return l
}

// sameSequence compares two sequences field by field.
func sameSequence(a impl.Sequence, b impl.Sequence) bool {
	if a.Base != b.Base || len(a.Next) != len(b.Next) || !slices.Equal(a.Out, b.Out) {
		return false
	}
	for i := range a.Next {
		if !slices.Equal(a.Next[i], b.Next[i]) {
			return false
		}
	}
	return true
}

// isNothing reports whether a sequence is the zero value.
func isNothing(s impl.Sequence) bool {
	return s.Base == 0 && len(s.Next) == 0 && len(s.Out) == 0
}

// copyOf is a sequence with memory of its own.
func copyOf(s impl.Sequence) impl.Sequence {
	c := impl.Sequence{Base: s.Base, Out: slices.Clone(s.Out)}
	for _, next := range s.Next {
		c.Next = append(c.Next, slices.Clone(next))
	}
	return c
}

// wantState is the state after some digits of a valid sequence.
func wantState(s impl.Sequence, d []int) int {
	if len(d) == 0 {
		return 0
	}
	return s.Next[wantState(s, d[:len(d)-1])][d[len(d)-1]]
}

// checkInvalid checks that every function refuses a sequence.
func checkInvalid(t *testing.T, s impl.Sequence, why string) {
	t.Helper()
	if impl.IsSequence(s) {
		t.Errorf("%s: IsSequence(%v) is true", why, s)
	}
	if got := impl.StateAfter(s, nil); got != -1 {
		t.Errorf("%s: StateAfter(%v) = %d", why, s, got)
	}
	if got := impl.StateAfter(s, []int{0, 1}); got != -1 {
		t.Errorf("%s: StateAfter(%v) = %d", why, s, got)
	}
	for _, n := range []int{-1, 0, 1, 65536} {
		if got := impl.TermAt(s, n); got != -1 {
			t.Errorf("%s: TermAt(%v, %d) = %d", why, s, n, got)
		}
		if got := impl.PrefixOf(s, n); len(got) != 0 {
			t.Errorf("%s: PrefixOf(%v, %d) = %v", why, s, n, got)
		}
	}
	if impl.IsSteady(s) {
		t.Errorf("%s: IsSteady(%v) is true", why, s)
	}
	if got, ok := impl.SteadyForm(s); ok || !isNothing(got) {
		t.Errorf("%s: SteadyForm(%v) = %v, %v", why, s, got, ok)
	}
	if got := impl.FormatSequence(s); got != "" {
		t.Errorf("%s: FormatSequence(%v) = %q", why, s, got)
	}
	if !impl.EqualSequences(s, copyOf(s)) {
		t.Errorf("%s: EqualSequences(%v) is false for a copy", why, s)
	}
}

// checkValid checks that the functions accept a sequence.
func checkValid(t *testing.T, s impl.Sequence, why string) {
	t.Helper()
	if !impl.IsSequence(s) {
		t.Errorf("%s: IsSequence(%v) is false", why, s)
	}
	if got := impl.StateAfter(s, nil); got != 0 {
		t.Errorf("%s: StateAfter(%v) of no digits = %d", why, s, got)
	}
	if got := impl.TermAt(s, 0); got != s.Out[0] {
		t.Errorf("%s: TermAt(%v, 0) = %d", why, s, got)
	}
	if got := impl.PrefixOf(s, 1); !slices.Equal(got, s.Out[:1]) {
		t.Errorf("%s: PrefixOf(%v, 1) = %v", why, s, got)
	}
	if got, ok := impl.ParseSequence(impl.FormatSequence(s)); !ok || !sameSequence(got, s) {
		t.Errorf("%s: ParseSequence(FormatSequence(%v)) = %v, %v", why, s, got, ok)
	}
}

func TestSequenceConstants(t *testing.T) {
	if impl.MaxStates != 16 || impl.MaxOutput != 3 {
		t.Errorf("MaxStates = %d, MaxOutput = %d", impl.MaxStates, impl.MaxOutput)
	}
}

func TestIsSequenceOfSamples(t *testing.T) {
	for _, s := range sampleSequences() {
		checkValid(t, s, "sample")
	}
}

func TestIsSequenceBases(t *testing.T) {
	for _, base := range wrongBases {
		checkInvalid(t, impl.Sequence{Base: base, Next: [][]int{{0, 0}}, Out: []int{0}}, "base with rows of 2")
		checkInvalid(t, impl.Sequence{Base: base, Next: [][]int{nil}, Out: []int{0}}, "base with empty rows")
		if base >= 0 && base <= 16 {
			checkInvalid(t, impl.Sequence{Base: base, Next: [][]int{repeated(0, base)}, Out: []int{0}}, "base with rows of its size")
		}
	}
	for base := 2; base <= 4; base++ {
		checkValid(t, seq(base, repeated(0, base), 0), "base")
	}
}

func TestIsSequenceNumberOfStates(t *testing.T) {
	checkInvalid(t, impl.Sequence{}, "zero value")
	for base := 2; base <= 4; base++ {
		checkInvalid(t, impl.Sequence{Base: base}, "no states")
		checkInvalid(t, impl.Sequence{Base: base, Next: [][]int{}, Out: []int{}}, "no states")
		checkInvalid(t, impl.Sequence{Base: base, Out: []int{0}}, "a term without a state")
		for states := 1; states <= 16; states++ {
			s := wide(base, states, 0)
			checkValid(t, s, "number of states")
			s.Out = append(s.Out, 0)
			checkInvalid(t, s, "a term too many")
			s.Out = s.Out[:states-1]
			checkInvalid(t, s, "a term too few")
			s.Out = nil
			checkInvalid(t, s, "no terms")
		}
		for _, states := range []int{17, 18, 32, 300} {
			checkInvalid(t, wide(base, states, 0), "too many states")
			s := wide(base, states, 0)
			for _, next := range s.Next {
				clear(next)
			}
			checkInvalid(t, s, "too many states, of which one is reached")
		}
	}
}

func TestIsSequenceRows(t *testing.T) {
	for base := 2; base <= 4; base++ {
		for _, states := range []int{1, 2, 3, 15, 16} {
			for state := range states {
				for _, size := range []int{0, 1, base - 1, base + 1, base + 2, 16, 17} {
					if size == base {
						continue
					}
					s := wide(base, states, 0)
					s.Next[state] = repeated(0, size)
					checkInvalid(t, s, "row of a wrong size")
				}
				for digit := range base {
					for _, next := range []int{-1, -2, states, states + 1, 16, 17, math.MinInt, math.MaxInt, 1 << 32, -1 << 32} {
						s := wide(base, states, 0)
						s.Next[state][digit] = next
						checkInvalid(t, s, "next state that is none")
					}
					s := wide(base, states, 0)
					s.Next[state][digit] = states - 1
					checkValid(t, s, "next state is the last one")
				}
			}
		}
	}
}

func TestIsSequenceTerms(t *testing.T) {
	for base := 2; base <= 4; base++ {
		for _, states := range []int{1, 2, 16} {
			for state := range states {
				for _, v := range []int{-1, -2, 4, 5, '0', 256, 1 << 32, math.MinInt, math.MaxInt} {
					s := wide(base, states, 0)
					s.Out[state] = v
					checkInvalid(t, s, "term out of range")
				}
				for v := range 4 {
					s := wide(base, states, 0)
					s.Out[state] = v
					checkValid(t, s, "term")
				}
			}
		}
	}
}

func TestStateNeverReached(t *testing.T) {
	// State 2 leads to itself and to the others, which never lead to it.
	s := seq(2, []int{0, 1, 1, 0, 2, 1}, 0, 1, 3)
	checkValid(t, s, "state never reached")
	if got := impl.FormatSequence(s); got != "2: 01/0 10/1 21/3" {
		t.Errorf("FormatSequence = %q", got)
	}
	thue, _ := impl.NamedSequence("thue")
	if impl.EqualSequences(s, thue) || impl.EqualSequences(thue, s) {
		t.Error("EqualSequences ignores a state that is never reached")
	}
	if got, want := impl.PrefixOf(s, 256), impl.PrefixOf(thue, 256); len(got) != 256 || !slices.Equal(got, want) {
		t.Errorf("PrefixOf = %v, want %v", got, want)
	}
	if got, ok := impl.SteadyForm(s); !ok || !sameSequence(got, s) {
		t.Errorf("SteadyForm = %v, %v", got, ok)
	}
	for _, next := range [][]int{{3, 0}, {0, 3}, {-1, 0}, {0, -1}, {0}, {0, 0, 0}, nil} {
		bad := copyOf(s)
		bad.Next[2] = next
		checkInvalid(t, bad, "wrong row of a state that is never reached")
	}
	for _, v := range []int{-1, 4} {
		bad := copyOf(s)
		bad.Out[2] = v
		checkInvalid(t, bad, "wrong term of a state that is never reached")
	}
}

func TestSteadyFormKeepsStatesNeverReached(t *testing.T) {
	cases := []struct{ s, want string }{
		// The old state 0 is never reached behind the new one.
		{"2: 11/2 11/0", "2: 02/2 22/2 22/0"},
		{"2: 11/2 11/0 02/3", "2: 02/2 22/2 22/0 13/3"},
		{"3: 110/1 012/3 222/0", "3: 021/1 221/1 123/3 333/0"},
	}
	for _, c := range cases {
		s, ok := impl.ParseSequence(c.s)
		if !ok {
			t.Fatalf("ParseSequence(%q) fails", c.s)
		}
		got, ok := impl.SteadyForm(s)
		if !ok || impl.FormatSequence(got) != c.want {
			t.Errorf("SteadyForm of %q = %q, %v, want %q", c.s, impl.FormatSequence(got), ok, c.want)
		}
	}
}

func TestStateAfterExamples(t *testing.T) {
	thue := seq(2, []int{0, 1, 1, 0}, 0, 1)
	mod := seq(2, []int{0, 1, 2, 0, 1, 2}, 0, 1, 2)
	other := seq(2, []int{1, 0, 1, 1}, 2, 0)
	cases := []struct {
		s    impl.Sequence
		d    []int
		want int
	}{
		{thue, nil, 0},
		{thue, []int{0}, 0},
		{thue, []int{1}, 1},
		{thue, []int{0, 1, 1}, 0},
		{thue, []int{1, 1, 1}, 1},
		{thue, repeated(1, 15), 1},
		{thue, repeated(1, 16), 0},
		{thue, append([]int{1}, repeated(0, 15)...), 1},
		{mod, []int{1, 0}, 2},
		{mod, []int{0, 1}, 1},
		{mod, []int{1, 0, 1}, 2},
		{other, nil, 0},
		{other, []int{0}, 1},
		{other, []int{1}, 0},
		{other, []int{1, 0}, 1},
		{other, []int{0, 1}, 1},
	}
	for _, c := range cases {
		if got := impl.StateAfter(c.s, c.d); got != c.want {
			t.Errorf("StateAfter(%v, %v) = %d, want %d", c.s, c.d, got, c.want)
		}
	}
}

func TestStateAfterOfSamples(t *testing.T) {
	for i, s := range sampleSequences() {
		for _, d := range listsOver(0, s.Base, 4) {
			if got := impl.StateAfter(s, d); got != wantState(s, d) {
				t.Fatalf("StateAfter(%v, %v) = %d, want %d", s, d, got, wantState(s, d))
			}
		}
		long := impl.PadDigits(impl.DigitsOf(i*97+1, s.Base), 16)
		slices.Reverse(long)
		if got := impl.StateAfter(s, long); got != wantState(s, long) {
			t.Fatalf("StateAfter(%v, %v) = %d, want %d", s, long, got, wantState(s, long))
		}
	}
}

func TestStateAfterWrongDigits(t *testing.T) {
	for base := 2; base <= 4; base++ {
		s := wide(base, 16, 0)
		for _, v := range []int{-1, base, base + 1, '0', 256, 1 << 32, math.MaxInt, math.MinInt} {
			for i := range 16 {
				d := repeated(1, 16)
				d[i] = v
				for _, wrong := range [][]int{d, d[i:], d[:i+1]} {
					if got := impl.StateAfter(s, wrong); got != -1 {
						t.Errorf("StateAfter(%v, %v) = %d", s, wrong, got)
					}
				}
			}
		}
		for length := range 40 {
			got := impl.StateAfter(s, repeated(base-1, length))
			if length <= 16 && got != length%16 || length > 16 && got != -1 {
				t.Errorf("StateAfter of %d digits = %d", length, got)
			}
		}
		if got := impl.StateAfter(s, repeated(0, 70000)); got != -1 {
			t.Errorf("StateAfter of 70000 digits = %d", got)
		}
	}
}

// namedTerms contains, for each name, the base and the term n in words of arithmetic.
var namedTerms = []struct {
	name string
	base int
	term func(n int) int
}{
	{"thue", 2, func(n int) int { return bits.OnesCount(uint(n)) % 2 }},
	{"rudin", 2, func(n int) int { return bits.OnesCount(uint(n&(n>>1))) % 2 }},
	{"period", 2, func(n int) int { return n / 2 % 2 }},
	{"powers", 2, func(n int) int {
		if bits.OnesCount(uint(n)) == 1 {
			return 1
		}
		return 0
	}},
	{"cantor", 3, func(n int) int {
		if strings.Contains(strconv.FormatInt(int64(n), 3), "1") {
			return 0
		}
		return 1
	}},
	{"mod", 2, func(n int) int { return n % 3 }},
}

func TestNamedTerms(t *testing.T) {
	for _, c := range namedTerms {
		s, ok := impl.NamedSequence(c.name)
		if !ok || s.Base != c.base {
			t.Fatalf("NamedSequence(%q) = %v, %v", c.name, s, ok)
		}
		step := 1
		for n := 0; n < wantPower(c.base, 16); n += step {
			if n == 60000 && c.base > 2 {
				step = 997
			}
			if got := impl.TermAt(s, n); got != c.term(n) {
				t.Fatalf("%s: TermAt(%d) = %d, want %d", c.name, n, got, c.term(n))
			}
		}
		for n, got := range impl.PrefixOf(s, 256) {
			if got != c.term(n) {
				t.Fatalf("%s: term %d of PrefixOf = %d, want %d", c.name, n, got, c.term(n))
			}
		}
	}
}

func TestNamedSequences(t *testing.T) {
	cases := []struct {
		name, text string
		s          impl.Sequence
	}{
		{"thue", "2: 01/0 10/1", seq(2, []int{0, 1, 1, 0}, 0, 1)},
		{"rudin", "2: 01/0 02/0 31/1 32/1", seq(2, []int{0, 1, 0, 2, 3, 1, 3, 2}, 0, 0, 1, 1)},
		{"period", "2: 01/0 23/0 01/1 23/1", seq(2, []int{0, 1, 2, 3, 0, 1, 2, 3}, 0, 0, 1, 1)},
		{"powers", "2: 01/0 12/1 22/0", seq(2, []int{0, 1, 1, 2, 2, 2}, 0, 1, 0)},
		{"cantor", "3: 010/1 111/0", seq(3, []int{0, 1, 0, 1, 1, 1}, 1, 0)},
		{"mod", "2: 01/0 20/1 12/2", seq(2, []int{0, 1, 2, 0, 1, 2}, 0, 1, 2)},
	}
	for _, c := range cases {
		s, ok := impl.NamedSequence(c.name)
		if !ok || !sameSequence(s, c.s) {
			t.Errorf("NamedSequence(%q) = %v, %v", c.name, s, ok)
		}
		if got := impl.FormatSequence(s); got != c.text {
			t.Errorf("FormatSequence of %s = %q", c.name, got)
		}
		if !impl.IsSteady(s) {
			t.Errorf("IsSteady of %s is false", c.name)
		}
		for _, wrong := range []string{c.text, c.name + " ", " " + c.name, c.name + "\n", c.name + "\x00", c.name + ":", c.name[1:], c.name[:len(c.name)-1], strings.ToUpper(c.name), strings.ToUpper(c.name[:1]) + c.name[1:], c.name + c.name, c.name + ": " + c.text} {
			if s, ok := impl.NamedSequence(wrong); ok || !isNothing(s) {
				t.Errorf("NamedSequence(%q) = %v, %v", wrong, s, ok)
			}
		}
	}
	for _, wrong := range []string{"", " ", "\x00", "\xff", "morse", "shapiro", "fibonacci", "2", "0", "thue,mod", "thu\u00e9"} {
		if s, ok := impl.NamedSequence(wrong); ok || !isNothing(s) {
			t.Errorf("NamedSequence(%q) = %v, %v", wrong, s, ok)
		}
	}
}

func TestTermAtLimits(t *testing.T) {
	for base := 2; base <= 4; base++ {
		limit := wantPower(base, 16)
		for _, states := range []int{1, 3, 16} {
			s := wide(base, states, 0)
			for _, n := range []int{-1, -2, -limit, math.MinInt, limit, limit + 1, 2 * limit, math.MaxInt} {
				if got := impl.TermAt(s, n); got != -1 {
					t.Errorf("TermAt(%v, %d) = %d", s, n, got)
				}
			}
			for _, n := range []int{0, 1, base - 1, base, limit / base, limit - 2, limit - 1} {
				want := s.Out[wantState(s, wantDigits(n, base))]
				if got := impl.TermAt(s, n); got != want {
					t.Errorf("TermAt(%v, %d) = %d, want %d", s, n, got, want)
				}
			}
		}
	}
}

func TestTermAtReadsNoLeadingZeros(t *testing.T) {
	// By the digit 0, state 0 leads to a state with another term.
	s := seq(2, []int{1, 0, 1, 1}, 2, 0)
	for n, want := range []int{2, 2, 0, 2, 0, 0, 0, 2, 0} {
		if got := impl.TermAt(s, n); got != want {
			t.Errorf("TermAt(%v, %d) = %d, want %d", s, n, got, want)
		}
	}
}

func TestTermsOfSamples(t *testing.T) {
	for _, s := range sampleSequences() {
		prefix := impl.PrefixOf(s, 256)
		if len(prefix) != 256 {
			t.Fatalf("PrefixOf(%v, 256) has %d terms", s, len(prefix))
		}
		for n := range 256 {
			want := s.Out[wantState(s, wantDigits(n, s.Base))]
			if got := impl.TermAt(s, n); got != want {
				t.Fatalf("TermAt(%v, %d) = %d, want %d", s, n, got, want)
			}
			if prefix[n] != want {
				t.Fatalf("term %d of PrefixOf(%v, 256) = %d, want %d", n, s, prefix[n], want)
			}
		}
	}
}

func TestPrefixOfLengths(t *testing.T) {
	for _, s := range []impl.Sequence{wide(2, 16, 0), wide(3, 5, 4), wide(4, 1, 0)} {
		all := impl.PrefixOf(s, 256)
		for n := 1; n <= 256; n++ {
			if got := impl.PrefixOf(s, n); len(got) != n || !slices.Equal(got, all[:n]) {
				t.Errorf("PrefixOf(%v, %d) = %v", s, n, got)
			}
		}
		for _, n := range []int{0, -1, -256, math.MinInt, 257, 258, 400, 65536, math.MaxInt} {
			if got := impl.PrefixOf(s, n); len(got) != 0 {
				t.Errorf("PrefixOf(%v, %d) has %d terms", s, n, len(got))
			}
		}
	}
}

// wantSteady is SteadyForm of a valid sequence.
func wantSteady(s impl.Sequence) (impl.Sequence, bool) {
	if s.Next[0][0] == 0 {
		return s, true
	}
	if len(s.Next) == 16 {
		return impl.Sequence{}, false
	}
	rows := append([][]int{s.Next[0]}, s.Next...)
	steady := impl.Sequence{Base: s.Base, Out: append([]int{s.Out[0]}, s.Out...)}
	for state, row := range rows {
		var next []int
		for digit, n := range row {
			if state == 0 && digit == 0 {
				next = append(next, 0)
			} else {
				next = append(next, n+1)
			}
		}
		steady.Next = append(steady.Next, next)
	}
	return steady, true
}

func TestSteadyFormExamples(t *testing.T) {
	cases := []struct{ s, want string }{
		{"2: 00/0", "2: 00/0"},
		{"2: 01/0 10/1", "2: 01/0 10/1"},
		{"2: 01/0 02/0 31/1 32/1", "2: 01/0 02/0 31/1 32/1"},
		{"2: 10/2 11/0", "2: 01/2 21/2 22/0"},
		{"2: 11/1 00/3", "2: 02/1 22/1 11/3"},
		{"3: 101/1 010/2", "3: 012/1 212/1 121/2"},
		{"4: 2013/3 0000/0 1111/1 2222/2", "4: 0124/3 3124/3 1111/0 2222/1 3333/2"},
	}
	for _, c := range cases {
		s, ok := impl.ParseSequence(c.s)
		if !ok {
			t.Fatalf("ParseSequence(%q) fails", c.s)
		}
		got, ok := impl.SteadyForm(s)
		if !ok || impl.FormatSequence(got) != c.want {
			t.Errorf("SteadyForm of %q = %q, %v, want %q", c.s, impl.FormatSequence(got), ok, c.want)
		}
		if impl.IsSteady(s) != (c.s == c.want) {
			t.Errorf("IsSteady of %q is %v", c.s, impl.IsSteady(s))
		}
	}
}

func TestSteadyFormLimits(t *testing.T) {
	for base := 2; base <= 4; base++ {
		for states := 2; states <= 16; states++ {
			steady, other := wide(base, states, 0), wide(base, states, 1)
			if got, ok := impl.SteadyForm(steady); !ok || !sameSequence(got, steady) {
				t.Errorf("SteadyForm(%v) = %v, %v", steady, got, ok)
			}
			got, ok := impl.SteadyForm(other)
			if states == 16 && (ok || !isNothing(got)) || states < 16 && (!ok || len(got.Next) != states+1) {
				t.Errorf("SteadyForm(%v) = %v, %v", other, got, ok)
			}
		}
	}
}

func TestSteadyFormOfSamples(t *testing.T) {
	for _, s := range sampleSequences() {
		want, wantOk := wantSteady(s)
		got, ok := impl.SteadyForm(s)
		if ok != wantOk || !sameSequence(got, want) {
			t.Fatalf("SteadyForm(%v) = %v, %v, want %v, %v", s, got, ok, want, wantOk)
		}
		if impl.IsSteady(s) != (s.Next[0][0] == 0) {
			t.Fatalf("IsSteady(%v) is %v", s, impl.IsSteady(s))
		}
		if !ok {
			continue
		}
		again, ok := impl.SteadyForm(got)
		if !impl.IsSteady(got) || !ok || !sameSequence(again, got) {
			t.Fatalf("the steady form %v of %v is not steady", got, s)
		}
	}
}

func TestLeadingZerosInSteadyForms(t *testing.T) {
	for _, s := range sampleSequences() {
		steady, ok := impl.SteadyForm(s)
		if !ok {
			continue
		}
		limit := wantPower(s.Base, 16)
		numbers := []int{limit - 1, limit - 2, limit / 2, limit / s.Base, limit/s.Base - 1}
		for n := range 70 {
			numbers = append(numbers, n)
		}
		for _, n := range numbers {
			if got, want := impl.TermAt(steady, n), impl.TermAt(s, n); got != want {
				t.Fatalf("term %d of %v is %d, but of its steady form %d", n, s, want, got)
			}
			d := impl.DigitsOf(n, s.Base)
			want := impl.StateAfter(steady, d)
			for width := len(d); width <= 16; width++ {
				padded := impl.PadDigits(d, width)
				got := impl.StateAfter(steady, padded)
				if got != want || steady.Out[got] != impl.TermAt(s, n) {
					t.Fatalf("StateAfter(%v, %v) = %d, want %d", steady, padded, got, want)
				}
			}
		}
	}
}

func TestLeadingZerosMatterOtherwise(t *testing.T) {
	s := seq(2, []int{1, 0, 1, 1}, 2, 0)
	if impl.IsSteady(s) || impl.StateAfter(s, []int{0, 1}) != 1 || impl.StateAfter(s, []int{1}) != 0 {
		t.Error("the leading zeros of a sequence that is not steady are skipped")
	}
}

func TestFormatSequenceExamples(t *testing.T) {
	letters := impl.Sequence{Base: 2}
	for state := range 16 {
		letters.Next = append(letters.Next, []int{state, 15 - state})
		letters.Out = append(letters.Out, state%4)
	}
	cases := []struct {
		s    impl.Sequence
		want string
	}{
		{seq(2, []int{0, 0}, 3), "2: 00/3"},
		{seq(3, []int{0, 0, 0}, 0), "3: 000/0"},
		{seq(4, []int{0, 0, 0, 0}, 1), "4: 0000/1"},
		{seq(4, []int{0, 1, 2, 2, 1, 1, 1, 1, 2, 1, 0, 0}, 0, 1, 2), "4: 0122/0 1111/1 2100/2"},
		{letters, "2: 0f/0 1e/1 2d/2 3c/3 4b/0 5a/1 69/2 78/3 87/0 96/1 a5/2 b4/3 c3/0 d2/1 e1/2 f0/3"},
	}
	for _, c := range cases {
		if got := impl.FormatSequence(c.s); got != c.want {
			t.Errorf("FormatSequence(%v) = %q, want %q", c.s, got, c.want)
		}
		if got, ok := impl.ParseSequence(c.want); !ok || !sameSequence(got, c.s) {
			t.Errorf("ParseSequence(%q) = %v, %v", c.want, got, ok)
		}
	}
}

var sequenceText = regexp.MustCompile(`^[2-4]:( [0-9a-f]{2,4}/[0-3]){1,16}$`)

// wantParsed is ParseSequence by a regular expression and the standard library's numbers.
func wantParsed(text string) (impl.Sequence, bool) {
	if !sequenceText.MatchString(text) {
		return impl.Sequence{}, false
	}
	s := impl.Sequence{Base: int(text[0] - '0')}
	states := strings.Fields(text)[1:]
	for _, part := range states {
		if len(part) != s.Base+2 {
			return impl.Sequence{}, false
		}
		var next []int
		for i := range s.Base {
			n, _ := strconv.ParseInt(part[i:i+1], 16, 64)
			if int(n) >= len(states) {
				return impl.Sequence{}, false
			}
			next = append(next, int(n))
		}
		s.Next = append(s.Next, next)
		s.Out = append(s.Out, int(part[s.Base+1]-'0'))
	}
	return s, true
}

// checkParse checks ParseSequence, and that what it accepts is formatted as the text.
func checkParse(t *testing.T, text string) {
	t.Helper()
	want, wantOk := wantParsed(text)
	got, ok := impl.ParseSequence(text)
	if ok != wantOk || !sameSequence(got, want) {
		t.Errorf("ParseSequence(%q) = %v, %v, want %v, %v", text, got, ok, want, wantOk)
	}
	if ok && impl.FormatSequence(got) != text {
		t.Errorf("FormatSequence(ParseSequence(%q)) = %q", text, impl.FormatSequence(got))
	}
}

// mutants contains the texts that differ from a text by a byte too many, too few or another one, or by a part.
func mutants(text string) []string {
	var l []string
	for i := range len(text) + 1 {
		l = append(l, text[:i], text[i:], text[:i]+text[:i], text[i:]+text[:i], text[:i]+"\u00e9"+text[i:], text[:i]+text)
		for b := range 256 {
			l = append(l, text[:i]+string([]byte{byte(b)})+text[i:])
			if i < len(text) {
				l = append(l, text[:i]+string([]byte{byte(b)})+text[i+1:])
			}
		}
		if i < len(text) {
			l = append(l, text[:i]+text[i+1:], text[:i]+text[i:i+1]+text[i:])
		}
		if i+1 < len(text) {
			l = append(l, text[:i]+text[i+1:i+2]+text[i:i+1]+text[i+2:])
		}
	}
	return l
}

func TestSequencesAreParsedFromTheirTexts(t *testing.T) {
	for _, s := range sampleSequences() {
		text := impl.FormatSequence(s)
		if want, ok := wantParsed(text); !ok || !sameSequence(want, s) {
			t.Fatalf("FormatSequence(%v) = %q", s, text)
		}
		checkParse(t, text)
	}
}

func TestParseSequenceMutants(t *testing.T) {
	texts := []string{"2: 00/0", "2: 01/0 10/1", "3: 010/1 111/0", "4: 0122/0 1111/1 2100/2", "2: 10/2 11/0"}
	for base := 2; base <= 4; base++ {
		texts = append(texts, impl.FormatSequence(wide(base, 11, 10)))
	}
	texts = append(texts, impl.FormatSequence(wide(2, 16, 15)))
	for _, text := range texts {
		if _, ok := wantParsed(text); !ok {
			t.Fatalf("%q is no text of a sequence", text)
		}
		for _, m := range mutants(text) {
			checkParse(t, m)
		}
	}
}

func TestParseSequenceShortTexts(t *testing.T) {
	for _, text := range append(textsOver("23: 0/", 6), textsOver(allBytes(), 2)...) {
		checkParse(t, text)
	}
	for _, tail := range textsOver("01/ ", 6) {
		for _, head := range []string{"2:", "2: ", "2: 0", "2: 00/0", "2: 01/", "3: 0", "4: 00"} {
			checkParse(t, head+tail)
		}
	}
}

func TestParseSequenceLimits(t *testing.T) {
	for _, states := range []int{0, 1, 15, 16, 17, 18, 100, 10000} {
		checkParse(t, "2:"+strings.Repeat(" 00/0", states))
		checkParse(t, "3:"+strings.Repeat(" 000/3", states))
		checkParse(t, "4:"+strings.Repeat(" 0000/1", states))
	}
	for states := 1; states <= 16; states++ {
		for n, digit := range "0123456789abcdefgABCDEF" {
			text := "2: 0" + string(digit) + "/0" + strings.Repeat(" 00/0", states-1)
			_, ok := impl.ParseSequence(text)
			if ok != (n < states) {
				t.Errorf("ParseSequence(%q) = %v", text, ok)
			}
		}
	}
	for _, text := range []string{strings.Repeat(" ", 100000), strings.Repeat("2", 100000), "2: " + strings.Repeat("0", 100000) + "/0", "2: 00/" + strings.Repeat("0", 100000)} {
		if s, ok := impl.ParseSequence(text); ok || !isNothing(s) {
			t.Errorf("ParseSequence of a text with %d bytes = %v", len(text), s)
		}
	}
}

func TestParseSequenceRefuses(t *testing.T) {
	for _, text := range []string{
		"", " ", ":", ": ", "2", "2:", "2: ", "2: /", "2: /0", "2: 00", "2: 00/", "2: 0/0", "2: 000/0", "3: 00/0", "4: 000/0",
		"0: /0", "1: 0/0", "5: 00000/0", "a: 00/0", "-2: 00/0", "+2: 00/0", "02: 00/0", "12: 00/0", "2 : 00/0", " 2: 00/0", "2; 00/0", "2:00/0",
		"2:  00/0", "2: 00/0 ", "2: 00/0\n", "2: 00/0  00/0", "2: 00 /0", "2: 00/ 0", "2:\t00/0", "2: 00/0\t00/0", "2: 00/0,00/0", "2: 00/0.00/0", "2.: 00/0",
		"2: 00/4", "2: 00/9", "2: 00/00", "2: 00/01", "2: 00/-0", "2: 00/+0", "2: 00/-1", "2: 00/a", "2: 00/0/0", "2: 00//0", "2: 0/0/0",
		"2: 01/0", "2: 10/0", "2: 01/0 12/1", "2: 0-1/0", "2: -10/0", "2: 0A/0", "2: 0x/0", "2: 0g/0", "2: 0a/0 00/0",
		"2: 0\u0660/0", "2: 0\uff10/0", "\uff12: 00/0", "2: 00/\uff10", "2: 0\xff/0", "2: 00/0\x00", "\x002: 00/0", "\ufeff2: 00/0", "2:\u00a000/0",
		"thue", "thue: 2: 01/0 10/1", "2: 01/0 10/1 thue", "{2 [[0 0]] [0]}",
	} {
		if s, ok := impl.ParseSequence(text); ok || !isNothing(s) {
			t.Errorf("ParseSequence(%q) = %v, %v", text, s, ok)
		}
	}
}

func TestEqualSequencesDifferences(t *testing.T) {
	for _, s := range []impl.Sequence{wide(2, 1, 0), wide(2, 2, 1), wide(3, 5, 0), wide(4, 16, 3), seq(2, []int{0, 1, 1, 0, 2, 1}, 0, 1, 3)} {
		others := []impl.Sequence{{}}
		change := func(f func(c *impl.Sequence)) {
			c := copyOf(s)
			f(&c)
			others = append(others, c)
		}
		change(func(c *impl.Sequence) { c.Base++ })
		change(func(c *impl.Sequence) { c.Base = 0 })
		change(func(c *impl.Sequence) { c.Next = c.Next[1:] })
		change(func(c *impl.Sequence) { c.Next = append(c.Next, nil) })
		change(func(c *impl.Sequence) { c.Next = nil })
		change(func(c *impl.Sequence) { c.Out = append(c.Out, 0) })
		change(func(c *impl.Sequence) { c.Out = c.Out[1:] })
		change(func(c *impl.Sequence) { c.Out = nil })
		for i := range s.Next {
			change(func(c *impl.Sequence) { c.Out[i]++ })
			change(func(c *impl.Sequence) { c.Next[i] = nil })
			change(func(c *impl.Sequence) { c.Next[i] = append(c.Next[i], 0) })
			change(func(c *impl.Sequence) { c.Next[i] = c.Next[i][:s.Base-1] })
			for j := range s.Base {
				change(func(c *impl.Sequence) { c.Next[i][j]++ })
				change(func(c *impl.Sequence) { c.Next[i][j] = -1 })
			}
		}
		for _, o := range others {
			if impl.EqualSequences(s, o) || impl.EqualSequences(o, s) {
				t.Errorf("EqualSequences(%v, %v) is true", s, o)
			}
			if !impl.EqualSequences(o, copyOf(o)) {
				t.Errorf("EqualSequences(%v) is false for a copy", o)
			}
		}
		if !impl.EqualSequences(s, s) || !impl.EqualSequences(s, copyOf(s)) {
			t.Errorf("EqualSequences(%v) is false for a copy", s)
		}
	}
}

func TestEqualSequencesOfAny(t *testing.T) {
	equal := [][2]impl.Sequence{
		{{}, {Next: [][]int{}, Out: []int{}}},
		{{Base: -5}, {Base: -5}},
		{{Base: 2, Next: [][]int{nil}}, {Base: 2, Next: [][]int{{}}}},
		{{Base: 9, Next: [][]int{{-1}, {math.MaxInt, 5}}, Out: []int{math.MinInt}}, {Base: 9, Next: [][]int{{-1}, {math.MaxInt, 5}}, Out: []int{math.MinInt}}},
	}
	for _, p := range equal {
		if !impl.EqualSequences(p[0], p[1]) || !impl.EqualSequences(p[1], p[0]) {
			t.Errorf("EqualSequences(%v, %v) is false", p[0], p[1])
		}
	}
	different := [][2]impl.Sequence{
		{{}, {Base: 1}},
		{{}, {Next: [][]int{nil}}},
		{{}, {Out: []int{0}}},
		{{Next: [][]int{nil}}, {Next: [][]int{nil, nil}}},
		{{Next: [][]int{{1, 2}, {3}}}, {Next: [][]int{{1}, {2, 3}}}},
		{{Next: [][]int{{0}}}, {Out: []int{0}}},
	}
	for _, p := range different {
		if impl.EqualSequences(p[0], p[1]) || impl.EqualSequences(p[1], p[0]) {
			t.Errorf("EqualSequences(%v, %v) is true", p[0], p[1])
		}
	}
}

func TestEqualSequencesOfSamples(t *testing.T) {
	samples := sampleSequences()
	for i, a := range samples {
		for j := 0; j < len(samples); j += 7 {
			if got := impl.EqualSequences(a, samples[j]); got != sameSequence(a, samples[j]) {
				t.Fatalf("EqualSequences(%v, %v) = %v", a, samples[j], got)
			}
		}
		if !impl.EqualSequences(a, samples[i]) {
			t.Fatalf("EqualSequences(%v) is false for itself", a)
		}
	}
}

// guarded is the sequence with spare memory behind each of its lists, and a function that tells whether any memory has changed.
func guarded(s impl.Sequence) (impl.Sequence, func() bool) {
	var lists [][]int
	var before [][]int
	guard := func(d []int) []int {
		short, memory := withTail(d)
		lists = append(lists, memory)
		before = append(before, slices.Clone(memory))
		return short
	}
	g := impl.Sequence{Base: s.Base, Out: guard(s.Out), Next: make([][]int, 0, len(s.Next)+5)}
	for _, next := range s.Next {
		g.Next = append(g.Next, guard(next))
	}
	rows := append(g.Next, []int{77})
	return g, func() bool {
		changed := len(rows[len(rows)-1]) != 1
		for i := range lists {
			changed = changed || !slices.Equal(lists[i], before[i])
		}
		for i, next := range s.Next {
			changed = changed || !slices.Equal(rows[i], next)
		}
		return changed
	}
}

func TestSequencesAreNotChanged(t *testing.T) {
	samples := []impl.Sequence{wide(2, 16, 0), wide(2, 16, 1), wide(3, 5, 4), wide(3, 5, 0), wide(4, 1, 0), wide(2, 17, 0), {}, {Base: 2, Next: [][]int{{0}}, Out: []int{9}}}
	for _, s := range samples {
		calls := map[string]func(impl.Sequence){
			"IsSequence":     func(s impl.Sequence) { impl.IsSequence(s) },
			"StateAfter":     func(s impl.Sequence) { impl.StateAfter(s, []int{1, 0, 1}) },
			"TermAt":         func(s impl.Sequence) { impl.TermAt(s, 11) },
			"PrefixOf":       func(s impl.Sequence) { impl.PrefixOf(s, 256) },
			"IsSteady":       func(s impl.Sequence) { impl.IsSteady(s) },
			"SteadyForm":     func(s impl.Sequence) { impl.SteadyForm(s) },
			"FormatSequence": func(s impl.Sequence) { impl.FormatSequence(s) },
			"EqualSequences": func(s impl.Sequence) { impl.EqualSequences(s, s) },
		}
		for name, call := range calls {
			argument, changed := guarded(s)
			call(argument)
			if changed() {
				t.Errorf("%s changes the memory of %v", name, s)
			}
		}
	}
	argument, memory := withTail([]int{1, 0, 1})
	before := slices.Clone(memory)
	impl.StateAfter(wide(2, 3, 0), argument)
	if !slices.Equal(memory, before) {
		t.Errorf("StateAfter changes %v to %v", before, memory)
	}
}

// overwrite changes one list of a sequence with its spare memory: the terms for -1, and otherwise a row.
func overwrite(s impl.Sequence, i int) {
	l := s.Out
	if i >= 0 {
		l = s.Next[i]
	}
	for j := range l[:cap(l)] {
		l[:cap(l)][j] = 55
	}
}

// checkOwnMemory checks that no two lists of a result share memory; it leaves nothing of the result.
func checkOwnMemory(t *testing.T, s impl.Sequence, name string) {
	t.Helper()
	for i := -1; i < len(s.Next); i++ {
		before := copyOf(s)
		overwrite(s, i)
		overwrite(before, i)
		if !sameSequence(s, before) {
			t.Errorf("two lists of a result of %s share memory", name)
		}
	}
	clear(s.Next[:cap(s.Next)])
}

func TestSteadyFormSharesNoMemory(t *testing.T) {
	// Also an argument whose lists are all one list.
	steady, other := []int{0, 1}, []int{1, 0}
	samples := []impl.Sequence{
		wide(2, 16, 0), wide(2, 15, 1), wide(3, 5, 4), wide(3, 5, 0), wide(4, 1, 0),
		{Base: 2, Next: [][]int{steady, steady}, Out: steady},
		{Base: 2, Next: [][]int{other, other}, Out: other},
	}
	for _, s := range samples {
		argument, changed := guarded(s)
		got, ok := impl.SteadyForm(argument)
		if !ok {
			t.Fatalf("SteadyForm(%v) fails", s)
		}
		checkOwnMemory(t, got, "SteadyForm")
		if changed() {
			t.Errorf("the result of SteadyForm shares memory with %v", s)
		}
		direct := copyOf(s)
		got, _ = impl.SteadyForm(s)
		checkOwnMemory(t, got, "SteadyForm")
		if !sameSequence(s, direct) {
			t.Errorf("the result of SteadyForm shares memory with %v", direct)
		}
	}
}

func TestSequenceResultsAreNew(t *testing.T) {
	for _, c := range namedTerms {
		first, _ := impl.NamedSequence(c.name)
		text := impl.FormatSequence(first)
		checkOwnMemory(t, first, "NamedSequence")
		second, ok := impl.NamedSequence(c.name)
		if !ok || impl.FormatSequence(second) != text {
			t.Errorf("two results of NamedSequence(%q) share memory", c.name)
		}
		parsed, _ := impl.ParseSequence(text)
		checkOwnMemory(t, parsed, "ParseSequence")
		if again, ok := impl.ParseSequence(text); !ok || !sameSequence(again, second) {
			t.Errorf("two results of ParseSequence(%q) share memory", text)
		}
		prefix := impl.PrefixOf(second, 16)
		clear(prefix[:cap(prefix)])
		if impl.FormatSequence(second) != text || impl.TermAt(second, 1) != c.term(1) {
			t.Errorf("PrefixOf of %s shares memory with it", c.name)
		}
	}
}
