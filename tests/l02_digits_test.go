package tests

import (
	"math"
	"slices"
	"strconv"
	"testing"

	"loop.example/g02079/impl"
)

// These assignments do not compile if a signature differs from the document.
var (
	_ func(int, int) []int   = impl.DigitsOf
	_ func([]int, int) int   = impl.ValueOf
	_ func([]int, int) bool  = impl.AreDigits
	_ func([]int, int) []int = impl.PadDigits
	_ func(int, int) int     = impl.DigitSum
	_ func([]int) []int      = impl.ReverseDigits
	_ func(int, int) int     = impl.PowerOf
)

// wrongBases contains the numbers next to the valid bases, and some that are far away.
var wrongBases = []int{math.MinInt, -4, -3, -2, -1, 0, 1, 5, 6, 10, 16, 65536, math.MaxInt}

// wantPower is PowerOf for a valid base, by shifts and by a list of the powers of 3.
func wantPower(base int, k int) int {
	switch base {
	case 2:
		return 1 << k
	case 4:
		return 1 << (2 * k)
	}
	return []int{1, 3, 9, 27, 81, 243, 729, 2187, 6561, 19683, 59049, 177147, 531441, 1594323, 4782969, 14348907, 43046721}[k]
}

// wantDigits is DigitsOf for a valid base by the standard library.
func wantDigits(n int, base int) []int {
	if n <= 0 || n >= wantPower(base, 16) {
		return nil
	}
	var d []int
	for _, r := range strconv.FormatInt(int64(n), base) {
		d = append(d, int(r-'0'))
	}
	return d
}

// digitNumbers contains small numbers, those next to the powers of the base, and those of sampleNumbers.
func digitNumbers(base int) []int {
	l := sampleNumbers()
	for n := range 70000 {
		l = append(l, n)
	}
	for k := range 17 {
		p := wantPower(base, k)
		l = append(l, p-2, p-1, p, p+1, p+2, 2*p-1, 2*p, 2*p+1)
	}
	for n := 70000; n < wantPower(base, 16); n += wantPower(base, 16) / 9973 {
		l = append(l, n)
	}
	return l
}

// listsOver contains all lists of at most most numbers from low up to high.
func listsOver(low int, high int, most int) [][]int {
	all := [][]int{nil}
	last := all
	for range most {
		var next [][]int
		for _, d := range last {
			for v := low; v < high; v++ {
				next = append(next, append(slices.Clone(d), v))
			}
		}
		all = append(all, next...)
		last = next
	}
	return all
}

// repeated is a list of one number, many times.
func repeated(v int, times int) []int {
	return slices.Repeat([]int{v}, times)
}

// withTail is the list with spare memory behind it, and all of that memory.
func withTail(d []int) ([]int, []int) {
	memory := append(append(make([]int, 0, len(d)+20), d...), repeated(77, 20)...)
	return memory[:len(d)], memory
}

func TestDigitConstants(t *testing.T) {
	if impl.MaxBase != 4 || impl.MaxDigits != 16 {
		t.Errorf("MaxBase = %d, MaxDigits = %d", impl.MaxBase, impl.MaxDigits)
	}
}

func TestDigitsOfExamples(t *testing.T) {
	cases := []struct {
		n, base int
		want    []int
	}{
		{0, 2, nil},
		{0, 3, nil},
		{0, 4, nil},
		{1, 2, []int{1}},
		{1, 4, []int{1}},
		{2, 2, []int{1, 0}},
		{2, 3, []int{2}},
		{6, 2, []int{1, 1, 0}},
		{5, 3, []int{1, 2}},
		{27, 4, []int{1, 2, 3}},
		{65535, 2, repeated(1, 16)},
		{65536, 2, nil},
		{32768, 2, append([]int{1}, repeated(0, 15)...)},
		{43046720, 3, repeated(2, 16)},
		{43046721, 3, nil},
		{4294967295, 4, repeated(3, 16)},
		{4294967296, 4, nil},
		{math.MaxInt, 2, nil},
		{math.MaxInt, 4, nil},
		{-1, 2, nil},
		{-6, 3, nil},
		{math.MinInt, 2, nil},
		{math.MinInt, 4, nil},
	}
	for _, c := range cases {
		if got := impl.DigitsOf(c.n, c.base); !slices.Equal(got, c.want) {
			t.Errorf("DigitsOf(%d, %d) = %v, want %v", c.n, c.base, got, c.want)
		}
	}
}

func TestDigitsOfWrongBase(t *testing.T) {
	for _, base := range wrongBases {
		for _, n := range []int{0, 1, 2, 5, 6, 65535, 65536, -1, math.MaxInt, math.MinInt} {
			if got := impl.DigitsOf(n, base); len(got) != 0 {
				t.Errorf("DigitsOf(%d, %d) = %v", n, base, got)
			}
			if got := impl.DigitSum(n, base); got != 0 {
				t.Errorf("DigitSum(%d, %d) = %d", n, base, got)
			}
		}
	}
}

func TestNumbersAreReadBackFromDigits(t *testing.T) {
	for base := 2; base <= 4; base++ {
		for _, n := range digitNumbers(base) {
			d := impl.DigitsOf(n, base)
			if !slices.Equal(d, wantDigits(n, base)) {
				t.Fatalf("DigitsOf(%d, %d) = %v, want %v", n, base, d, wantDigits(n, base))
			}
			if n < 0 || n >= wantPower(base, 16) {
				continue
			}
			if !impl.AreDigits(d, base) {
				t.Fatalf("AreDigits(%v, %d) is false", d, base)
			}
			if got := impl.ValueOf(d, base); got != n {
				t.Fatalf("ValueOf(%v, %d) = %d, want %d", d, base, got, n)
			}
			if got := impl.ValueOf(impl.PadDigits(d, 16), base); got != n {
				t.Fatalf("ValueOf of the digits %v with leading zeros is %d, want %d", d, got, n)
			}
		}
	}
}

func TestDigitsAreReadBackFromNumbers(t *testing.T) {
	for base := 2; base <= 4; base++ {
		for _, d := range listsOver(0, base, 8) {
			n := impl.ValueOf(d, base)
			want, _ := strconv.ParseInt("0"+digitText(d), base, 64)
			if n != int(want) {
				t.Fatalf("ValueOf(%v, %d) = %d, want %d", d, base, n, want)
			}
			if got := impl.PadDigits(impl.DigitsOf(n, base), len(d)); !slices.Equal(got, d) {
				t.Fatalf("the digits %v of %d in base %d come back as %v", d, n, base, got)
			}
		}
	}
}

// digitText writes digits as characters.
func digitText(d []int) string {
	b := make([]byte, len(d))
	for i, v := range d {
		b[i] = byte('0' + v)
	}
	return string(b)
}

func TestValueOfExamples(t *testing.T) {
	cases := []struct {
		d    []int
		base int
		want int
	}{
		{nil, 2, 0},
		{[]int{}, 3, 0},
		{[]int{0}, 4, 0},
		{repeated(0, 16), 2, 0},
		{[]int{0, 1, 1, 0}, 2, 6},
		{[]int{1, 2}, 3, 5},
		{[]int{1, 2, 3}, 4, 27},
		{repeated(1, 16), 2, 65535},
		{repeated(2, 16), 3, 43046720},
		{repeated(3, 16), 4, 4294967295},
	}
	for _, c := range cases {
		if got := impl.ValueOf(c.d, c.base); got != c.want {
			t.Errorf("ValueOf(%v, %d) = %d, want %d", c.d, c.base, got, c.want)
		}
	}
}

func TestAreDigitsOfAllShortLists(t *testing.T) {
	for base := 2; base <= 4; base++ {
		for _, d := range listsOver(-2, 6, 4) {
			want := true
			for _, v := range d {
				want = want && v >= 0 && v < base
			}
			checkAreDigits(t, d, base, want)
		}
	}
}

// checkAreDigits checks AreDigits, and that ValueOf refuses the same lists.
func checkAreDigits(t *testing.T, d []int, base int, want bool) {
	t.Helper()
	if got := impl.AreDigits(d, base); got != want {
		t.Errorf("AreDigits(%v, %d) = %v", d, base, got)
	}
	if got := impl.ValueOf(d, base); (got == -1) == want || got < -1 {
		t.Errorf("ValueOf(%v, %d) = %d", d, base, got)
	}
}

func TestAreDigitsOfWrongNumbers(t *testing.T) {
	for base := 2; base <= 4; base++ {
		for _, v := range []int{-1, base, base + 1, 10, '0', '1', 256, 1 << 32, math.MaxInt, -base, math.MinInt} {
			for i := range 16 {
				d := repeated(1, 16)
				d[i] = v
				checkAreDigits(t, d, base, false)
				checkAreDigits(t, d[i:], base, false)
				checkAreDigits(t, d[:i+1], base, false)
			}
		}
	}
}

func TestAreDigitsLengths(t *testing.T) {
	for base := 2; base <= 4; base++ {
		for v := range base {
			for length := range 40 {
				checkAreDigits(t, repeated(v, length), base, length <= 16)
			}
			checkAreDigits(t, repeated(v, 70000), base, false)
		}
	}
}

func TestAreDigitsWrongBase(t *testing.T) {
	for _, base := range wrongBases {
		for _, d := range [][]int{nil, {}, {0}, {1}, {1, 0}, {-1}, {4}, repeated(0, 16), repeated(0, 17)} {
			checkAreDigits(t, d, base, false)
		}
	}
}

func TestPadDigitsExamples(t *testing.T) {
	seventeen := repeated(3, 17)
	cases := []struct {
		d     []int
		width int
		want  []int
	}{
		{[]int{1}, 3, []int{0, 0, 1}},
		{[]int{1, 0}, 1, []int{1, 0}},
		{[]int{1, 0}, 2, []int{1, 0}},
		{[]int{1, 0}, 3, []int{0, 1, 0}},
		{[]int{1, 0}, 0, []int{1, 0}},
		{[]int{1, 0}, -1, []int{1, 0}},
		{[]int{1, 0}, math.MinInt, []int{1, 0}},
		{[]int{1, 0}, 16, append(repeated(0, 14), 1, 0)},
		{[]int{1, 0}, 17, []int{1, 0}},
		{[]int{1, 0}, math.MaxInt, []int{1, 0}},
		{nil, 0, nil},
		{nil, 1, []int{0}},
		{nil, 16, repeated(0, 16)},
		{nil, 17, nil},
		{nil, -1, nil},
		{nil, math.MinInt, nil},
		{repeated(1, 15), 16, append([]int{0}, repeated(1, 15)...)},
		{repeated(1, 16), 16, repeated(1, 16)},
		{seventeen, 16, seventeen},
		{seventeen, 17, seventeen},
		{seventeen, 18, seventeen},
		{[]int{-5, 99, math.MinInt}, 4, []int{0, -5, 99, math.MinInt}},
		{[]int{-5, 99}, 2, []int{-5, 99}},
	}
	for _, c := range cases {
		if got := impl.PadDigits(c.d, c.width); !slices.Equal(got, c.want) {
			t.Errorf("PadDigits(%v, %d) = %v, want %v", c.d, c.width, got, c.want)
		}
	}
}

func TestPadDigitsLengths(t *testing.T) {
	for length := range 20 {
		d := repeated(2, length)
		for width := -3; width < 40; width++ {
			want := d
			if width > length && width <= 16 {
				want = append(repeated(0, width-length), d...)
			}
			if got := impl.PadDigits(d, width); !slices.Equal(got, want) {
				t.Errorf("PadDigits(%v, %d) = %v, want %v", d, width, got, want)
			}
		}
	}
}

func TestDigitSum(t *testing.T) {
	cases := []struct{ n, base, want int }{
		{0, 2, 0},
		{0, 3, 0},
		{0, 4, 0},
		{7, 2, 3},
		{8, 2, 1},
		{5, 3, 3},
		{27, 4, 6},
		{65535, 2, 16},
		{65536, 2, 0},
		{43046720, 3, 32},
		{43046721, 3, 0},
		{4294967295, 4, 48},
		{4294967296, 4, 0},
		{-1, 2, 0},
		{-7, 4, 0},
		{math.MaxInt, 3, 0},
		{math.MinInt, 3, 0},
	}
	for _, c := range cases {
		if got := impl.DigitSum(c.n, c.base); got != c.want {
			t.Errorf("DigitSum(%d, %d) = %d, want %d", c.n, c.base, got, c.want)
		}
	}
	for base := 2; base <= 4; base++ {
		for _, n := range digitNumbers(base) {
			want := 0
			for _, v := range wantDigits(n, base) {
				want += v
			}
			if got := impl.DigitSum(n, base); got != want {
				t.Fatalf("DigitSum(%d, %d) = %d, want %d", n, base, got, want)
			}
		}
	}
}

func TestReverseDigits(t *testing.T) {
	cases := []struct{ d, want []int }{
		{nil, nil},
		{[]int{}, nil},
		{[]int{1}, []int{1}},
		{[]int{1, 2}, []int{2, 1}},
		{[]int{1, 0, 0}, []int{0, 0, 1}},
		{[]int{0, 1, 2, 3}, []int{3, 2, 1, 0}},
		{[]int{-1, 99, math.MaxInt, math.MinInt}, []int{math.MinInt, math.MaxInt, 99, -1}},
	}
	for _, c := range cases {
		if got := impl.ReverseDigits(c.d); !slices.Equal(got, c.want) {
			t.Errorf("ReverseDigits(%v) = %v, want %v", c.d, got, c.want)
		}
	}
	for length := range 100 {
		d := make([]int, length)
		for i := range d {
			d[i] = i * i
		}
		got := impl.ReverseDigits(d)
		if len(got) != length {
			t.Fatalf("ReverseDigits of %d numbers has %d", length, len(got))
		}
		for i := range d {
			if got[i] != d[length-1-i] {
				t.Fatalf("ReverseDigits(%v) = %v", d, got)
			}
		}
	}
}

func TestPowerOf(t *testing.T) {
	for base := 2; base <= 4; base++ {
		for k := range 17 {
			if got := impl.PowerOf(base, k); got != wantPower(base, k) {
				t.Errorf("PowerOf(%d, %d) = %d, want %d", base, k, got, wantPower(base, k))
			}
		}
		for _, k := range []int{math.MinInt, -16, -2, -1, 17, 18, 32, 63, 64, 1 << 40, math.MaxInt} {
			if got := impl.PowerOf(base, k); got != 0 {
				t.Errorf("PowerOf(%d, %d) = %d, want 0", base, k, got)
			}
		}
	}
	for _, base := range wrongBases {
		for _, k := range []int{math.MinInt, -1, 0, 1, 2, 16, 17, math.MaxInt} {
			if got := impl.PowerOf(base, k); got != 0 {
				t.Errorf("PowerOf(%d, %d) = %d, want 0", base, k, got)
			}
		}
	}
}

func TestDigitListsAreNotChanged(t *testing.T) {
	for _, d := range [][]int{nil, {1}, {1, 0, 1}, {3, 2, 1, 0}, repeated(1, 16), repeated(1, 18), {-1, 9}} {
		calls := map[string]func([]int){
			"ValueOf":         func(d []int) { impl.ValueOf(d, 4) },
			"AreDigits":       func(d []int) { impl.AreDigits(d, 4) },
			"ReverseDigits":   func(d []int) { impl.ReverseDigits(d) },
			"PadDigits to 0":  func(d []int) { impl.PadDigits(d, 0) },
			"PadDigits to 9":  func(d []int) { impl.PadDigits(d, 9) },
			"PadDigits to 16": func(d []int) { impl.PadDigits(d, 16) },
			"PadDigits to 99": func(d []int) { impl.PadDigits(d, 99) },
		}
		for name, call := range calls {
			argument, memory := withTail(d)
			before := slices.Clone(memory)
			call(argument)
			if !slices.Equal(memory, before) {
				t.Errorf("%s changes %v, with what is behind it, to %v", name, before, memory)
			}
		}
	}
}

func TestDigitListsShareNoMemory(t *testing.T) {
	for _, d := range [][]int{nil, {1}, {1, 0, 1}, repeated(1, 16), repeated(1, 18)} {
		results := map[string]func([]int) []int{
			"ReverseDigits":   impl.ReverseDigits,
			"PadDigits to 0":  func(d []int) []int { return impl.PadDigits(d, 0) },
			"PadDigits to 9":  func(d []int) []int { return impl.PadDigits(d, 9) },
			"PadDigits to 16": func(d []int) []int { return impl.PadDigits(d, 16) },
			"PadDigits to 99": func(d []int) []int { return impl.PadDigits(d, 99) },
		}
		for name, result := range results {
			argument, memory := withTail(d)
			before := slices.Clone(memory)
			got := result(argument)
			// The spare memory of a result belongs to it, too.
			for i := range got[:cap(got)] {
				got[:cap(got)][i] = 55
			}
			if !slices.Equal(memory, before) {
				t.Errorf("the result of %s for %v shares memory with it", name, d)
			}
		}
	}
	first, second := impl.DigitsOf(6, 2), impl.DigitsOf(6, 2)
	first[0] = 9
	if !slices.Equal(second, []int{1, 1, 0}) || !slices.Equal(impl.DigitsOf(6, 2), []int{1, 1, 0}) {
		t.Error("two results of DigitsOf share memory")
	}
}
