package tests

import (
	"fmt"
	"math"
	"regexp"
	"slices"
	"strconv"
	"strings"
	"testing"

	"loop.example/g02079/impl"
)

// These assignments do not compile if a signature differs from the document.
var (
	_ func(impl.Morphism) bool                         = impl.IsMorphism
	_ func(impl.Morphism, int) bool                    = impl.IsUniform
	_ func(impl.Morphism, []int) ([]int, bool)         = impl.ApplyMorphism
	_ func(impl.Morphism, int, int) ([]int, bool)      = impl.IterateMorphism
	_ func(impl.Morphism, int) bool                    = impl.IsGrowing
	_ func(impl.Morphism, int, int) ([]int, bool)      = impl.FixedPrefix
	_ func(impl.Sequence) (impl.Morphism, bool)        = impl.MorphismOf
	_ func(impl.Morphism, []int) (impl.Sequence, bool) = impl.SequenceOf
	_ func([]int, int) bool                            = impl.IsWord
	_ func([]int) string                               = impl.FormatWord
	_ func(string) ([]int, bool)                       = impl.ParseWord
)

// wrongLetters contains the numbers next to the letters, of which there are at most 16, and some that are far away.
func wrongLetters(letters int) []int {
	return []int{math.MinInt, -1 << 32, -2, -1, letters, letters + 1, 17, '0', 256, 1 << 32, math.MaxInt}
}

// letters is the word that is written with the digits of the base 16.
func letters(text string) []int {
	var w []int
	for _, r := range text {
		n, _ := strconv.ParseInt(string(r), 16, 64)
		w = append(w, int(n))
	}
	return w
}

// morph is the morphism with such images.
func morph(images ...string) impl.Morphism {
	var m impl.Morphism
	for _, image := range images {
		m.Images = append(m.Images, letters(image))
	}
	return m
}

// identity is the morphism that changes none of so many letters.
func identity(letters int) impl.Morphism {
	var m impl.Morphism
	for letter := range letters {
		m.Images = append(m.Images, []int{letter})
	}
	return m
}

// asRows is a sequence that only has the images as rows, for what is there for sequences.
func asRows(m impl.Morphism) impl.Sequence {
	return impl.Sequence{Next: m.Images}
}

func copiedMorphism(m impl.Morphism) impl.Morphism {
	return impl.Morphism{Images: copyOf(asRows(m)).Next}
}

func sameMorphism(a impl.Morphism, b impl.Morphism) bool {
	return sameSequence(asRows(a), asRows(b))
}

// sampleMorphisms contains all small morphisms, and many of each number of letters.
func sampleMorphisms() []impl.Morphism {
	var l []impl.Morphism
	for _, image := range listsOver(0, 1, 8) {
		l = append(l, impl.Morphism{Images: [][]int{image}})
	}
	short := listsOver(0, 2, 3)
	for _, first := range short {
		for _, second := range short {
			l = append(l, impl.Morphism{Images: [][]int{first, second}})
		}
	}
	draw := drawing(11)
	for i := range 640 {
		count := 1 + i%16
		l = append(l, drawnMorphism(count, []int{1, 2, 3, 8}[i/16%4], i%2 == 0, draw), uniformMorphism(count, i/16%9, draw), vanishingMorphism(count, draw))
	}
	return append(l, identity(1), identity(16), morph("01", "0"), morph("01", "10"), morph("012", "02", "1"))
}

// drawnMorphism has images of any lengths up to the greatest one, of which many begin with their letters if that is asked for.
func drawnMorphism(count int, longest int, itself bool, draw func(n int) int) impl.Morphism {
	var m impl.Morphism
	for letter := range count {
		var image []int
		if itself && draw(3) > 0 {
			image = append(image, letter)
		}
		for range draw(longest + 1 - len(image)) {
			image = append(image, draw(count))
		}
		m.Images = append(m.Images, image)
	}
	return m
}

// uniformMorphism has images of one length.
func uniformMorphism(count int, size int, draw func(n int) int) impl.Morphism {
	var m impl.Morphism
	for range count {
		var image []int
		for range size {
			image = append(image, draw(count))
		}
		m.Images = append(m.Images, image)
	}
	return m
}

// vanishingMorphism puts behind some letters others, which become nothing, one after the other, if no two of them lead to each other.
func vanishingMorphism(count int, draw func(n int) int) impl.Morphism {
	order := make([]int, count)
	for i := range order {
		j := draw(i + 1)
		order[i], order[j] = order[j], i
	}
	m := impl.Morphism{Images: make([][]int, count)}
	for i, letter := range order {
		if draw(3) == 0 {
			m.Images[letter] = append(m.Images[letter], letter)
		}
		for range draw(4) {
			if i > 0 {
				m.Images[letter] = append(m.Images[letter], order[draw(i)])
			}
		}
		if draw(20) == 0 {
			m.Images[letter] = append(m.Images[letter], draw(count))
		}
	}
	return m
}

// sampleWords contains words of lengths up to 400.
func sampleWords(count int) [][]int {
	draw := drawing(uint32(count))
	l := [][]int{nil}
	for _, size := range []int{1, 1, 2, 3, 4, 5, 6, 7, 8, 9, 10, 15, 20, 49, 50, 51, 100, 200, 399, 400} {
		var w []int
		for range size {
			w = append(w, draw(count))
		}
		l = append(l, w)
	}
	return l
}

// invalidMorphism is a morphism that is not valid, and why.
type invalidMorphism struct {
	why string
	m   impl.Morphism
}

// invalidMorphisms contains morphisms that miss one condition of IsMorphism each, most of them by one.
func invalidMorphisms() []invalidMorphism {
	l := []invalidMorphism{
		{"zero value", impl.Morphism{}},
		{"no image", impl.Morphism{Images: [][]int{}}},
		{"17 images", identity(17)},
		{"1000 images", identity(1000)},
		{"17 empty images", impl.Morphism{Images: make([][]int, 17)}},
		{"17 images of the letter 0", impl.Morphism{Images: slices.Repeat([][]int{{0}}, 17)}},
		{"17 uniform images", impl.Morphism{Images: slices.Repeat([][]int{{0, 1}}, 17)}},
	}
	for _, count := range []int{1, 2, 3, 15, 16} {
		for _, at := range []int{0, count / 2, count - 1} {
			for _, size := range []int{9, 10, 16, 400, 401} {
				m := identity(count)
				m.Images[at] = repeated(at, size)
				l = append(l, invalidMorphism{fmt.Sprintf("an image of %d letters", size), m})
			}
			for _, wrong := range wrongLetters(count) {
				for place := range 3 {
					m := impl.Morphism{Images: slices.Repeat([][]int{{0, 0}}, count)}
					m.Images[at] = slices.Insert([]int{0, 0}, place, wrong)
					l = append(l, invalidMorphism{fmt.Sprintf("the letter %d has no image", wrong), m})
				}
				m := identity(count)
				m.Images[at] = []int{wrong}
				l = append(l, invalidMorphism{fmt.Sprintf("the letter %d has no image", wrong), m})
			}
		}
	}
	return l
}

// checkNoLetters checks that a function fails with an empty list.
func checkNoLetters(t *testing.T, got []int, ok bool, call string, arguments ...any) {
	t.Helper()
	if ok || len(got) != 0 {
		t.Errorf("%s = %v, %v, want nothing", fmt.Sprintf(call, arguments...), got, ok)
	}
}

// checkLetters checks that a function succeeds with a list.
func checkLetters(t *testing.T, got []int, ok bool, want []int, call string, arguments ...any) {
	t.Helper()
	if !ok || !slices.Equal(got, want) {
		t.Fatalf("%s = %v, %v, want %v", fmt.Sprintf(call, arguments...), got, ok, want)
	}
}

// checkNoMorphism checks that every function refuses a morphism.
func checkNoMorphism(t *testing.T, why string, m impl.Morphism) {
	t.Helper()
	if impl.IsMorphism(m) {
		t.Errorf("%s: IsMorphism(%v) is true", why, m)
	}
	for k := -1; k <= 9; k++ {
		if impl.IsUniform(m, k) {
			t.Errorf("%s: IsUniform(%v, %d) is true", why, m, k)
		}
	}
	for _, w := range [][]int{nil, {0}, {0, 0, 0}} {
		got, ok := impl.ApplyMorphism(m, w)
		checkNoLetters(t, got, ok, "%s: ApplyMorphism(%v, %v)", why, m, w)
	}
	for _, a := range []int{-1, 0, 1, len(m.Images) - 1, len(m.Images)} {
		for _, n := range []int{-1, 0, 1, 2, 20, 21} {
			got, ok := impl.IterateMorphism(m, a, n)
			checkNoLetters(t, got, ok, "%s: IterateMorphism(%v, %d, %d)", why, m, a, n)
			got, ok = impl.FixedPrefix(m, a, n)
			checkNoLetters(t, got, ok, "%s: FixedPrefix(%v, %d, %d)", why, m, a, n)
		}
		if impl.IsGrowing(m, a) {
			t.Errorf("%s: IsGrowing(%v, %d) is true", why, m, a)
		}
	}
	for _, coding := range [][]int{nil, {0}, {0, 1}, repeated(0, len(m.Images))} {
		got, ok := impl.SequenceOf(m, coding)
		checkNothing(t, fmt.Sprintf("%s: SequenceOf(%v, %v)", why, m, coding), got, ok)
	}
}

func TestIsMorphismOfSamples(t *testing.T) {
	for _, m := range sampleMorphisms() {
		if !impl.IsMorphism(m) {
			t.Errorf("IsMorphism(%v) is false", m)
		}
	}
}

func TestIsMorphismLimits(t *testing.T) {
	for count := 1; count <= 16; count++ {
		for size := range 9 {
			for letter := range count {
				m := impl.Morphism{Images: slices.Repeat([][]int{repeated(letter, size)}, count)}
				if !impl.IsMorphism(m) {
					t.Errorf("IsMorphism(%v) is false", m)
				}
				m = impl.Morphism{Images: make([][]int, count)}
				m.Images[letter] = repeated(count-1, size)
				if !impl.IsMorphism(m) {
					t.Errorf("IsMorphism(%v) is false", m)
				}
			}
		}
	}
}

func TestInvalidMorphisms(t *testing.T) {
	for _, c := range invalidMorphisms() {
		checkNoMorphism(t, c.why, c.m)
	}
}

func TestIsUniform(t *testing.T) {
	for _, m := range sampleMorphisms() {
		sizes := map[int]bool{}
		for _, image := range m.Images {
			sizes[len(image)] = true
		}
		for _, k := range []int{math.MinInt, -8, -1, 0, 1, 2, 3, 4, 5, 6, 7, 8, 9, 16, 1 << 32, math.MaxInt} {
			if got, want := impl.IsUniform(m, k), len(sizes) == 1 && sizes[k]; got != want {
				t.Errorf("IsUniform(%v, %d) = %v", m, k, got)
			}
		}
	}
	for _, c := range []struct {
		m    impl.Morphism
		k    int
		want bool
	}{
		{morph("01", "10"), 2, true},
		{morph("01", "10"), 1, false},
		{morph("01", "0"), 2, false},
		{morph("01", "0"), 1, false},
		{morph("01", ""), 2, false},
		{morph("", "01"), 0, false},
		{morph("", ""), 0, true},
		{morph("01", "10", "222"), 2, false},
		{morph("222", "01", "10"), 2, false},
		{morph("01234567", "00000000", "11111111", "22222222", "33333333", "44444444", "55555555", "66666666"), 8, true},
		{morph("000000000"), 9, false},
		{morph("01", "12"), 2, false},
	} {
		if got := impl.IsUniform(c.m, c.k); got != c.want {
			t.Errorf("IsUniform(%v, %d) = %v", c.m, c.k, got)
		}
	}
}

// wantApplied is ApplyMorphism without its limit.
func wantApplied(m impl.Morphism, w []int) []int {
	if len(w) == 0 {
		return nil
	}
	half := len(w) / 2
	if half == 0 {
		return m.Images[w[0]]
	}
	return slices.Concat(wantApplied(m, w[:half]), wantApplied(m, w[half:]))
}

func TestApplyMorphismExamples(t *testing.T) {
	for _, c := range []struct {
		m       impl.Morphism
		w, want string
	}{
		{morph("01", "10"), "", ""},
		{morph("01", "10"), "0", "01"},
		{morph("01", "10"), "0110", "01101001"},
		{morph("01", "0"), "010", "01001"},
		{morph("012", "02", "1"), "012021", "012021012102"},
		// A letter whose image is empty.
		{morph("01", ""), "0101", "0101"},
		{morph("01", ""), "111", ""},
		{morph("", "01"), "010", "01"},
		{morph(""), "000", ""},
		{morph("", ""), "0110", ""},
		{morph("1", "0"), "0010", "1101"},
		{morph("00000000"), "000", "000000000000000000000000"},
		{morph("f", "e", "d", "c", "b", "a", "9", "8", "7", "6", "5", "4", "3", "2", "1", "0"), "0123456789abcdef", "fedcba9876543210"},
	} {
		got, ok := impl.ApplyMorphism(c.m, letters(c.w))
		checkLetters(t, got, ok, letters(c.want), "ApplyMorphism(%v, %q)", c.m, c.w)
	}
}

func TestApplyMorphismOfSamples(t *testing.T) {
	long, empty := 0, 0
	for _, m := range sampleMorphisms() {
		for _, w := range sampleWords(len(m.Images)) {
			got, ok := impl.ApplyMorphism(m, w)
			if want := wantApplied(m, w); len(want) <= 400 {
				checkLetters(t, got, ok, want, "ApplyMorphism(%v, %v)", m, w)
				empty += oneFor(len(w) > 0 && len(want) == 0)
			} else {
				checkNoLetters(t, got, ok, "ApplyMorphism(%v, %v)", m, w)
				long++
			}
		}
	}
	if long < 1000 || empty < 300 {
		t.Errorf("only %d images are too long, and %d are empty", long, empty)
	}
}

func oneFor(condition bool) int {
	if condition {
		return 1
	}
	return 0
}

func TestApplyMorphismLimits(t *testing.T) {
	m := morph("00000000", "0", "", "33")
	for _, c := range []struct {
		w    []int
		want int
	}{
		{repeated(1, 399), 399},
		{repeated(1, 400), 400},
		{repeated(1, 401), -1},
		// Of a word that is too long the image is not asked for.
		{repeated(2, 400), 0},
		{repeated(2, 401), -1},
		{append(repeated(1, 100), repeated(2, 300)...), 100},
		{append(repeated(1, 100), repeated(2, 301)...), -1},
		{repeated(0, 49), 392},
		{repeated(0, 50), 400},
		{repeated(0, 51), -1},
		{append(repeated(0, 49), repeated(1, 8)...), 400},
		{append(repeated(0, 49), repeated(1, 9)...), -1},
		{append(repeated(0, 50), repeated(2, 350)...), 400},
		{append(repeated(0, 50), 1), -1},
		{append([]int{1}, repeated(0, 50)...), -1},
		{repeated(3, 200), 400},
		{repeated(3, 201), -1},
		{append(repeated(3, 200), 1), -1},
		{repeated(0, 400), -1},
		{repeated(1, 100000), -1},
	} {
		got, ok := impl.ApplyMorphism(m, c.w)
		if c.want >= 0 {
			checkLetters(t, got, ok, wantApplied(m, c.w), "ApplyMorphism(%v, %v)", m, c.w)
			if len(got) != c.want {
				t.Errorf("ApplyMorphism(%v, %v) has %d letters, want %d", m, c.w, len(got), c.want)
			}
		} else {
			checkNoLetters(t, got, ok, "ApplyMorphism(%v, %v)", m, c.w)
		}
	}
}

func TestApplyMorphismWrongLetters(t *testing.T) {
	for count := 1; count <= 16; count++ {
		for _, m := range []impl.Morphism{identity(count), {Images: make([][]int, count)}} {
			for _, wrong := range wrongLetters(count) {
				for _, w := range [][]int{{wrong}, {wrong, 0}, {0, wrong}, {0, wrong, 0}, append(repeated(0, 399), wrong)} {
					got, ok := impl.ApplyMorphism(m, w)
					checkNoLetters(t, got, ok, "ApplyMorphism(%v, %v)", m, w)
				}
			}
			w := []int{0, count - 1, 0}
			got, ok := impl.ApplyMorphism(m, w)
			checkLetters(t, got, ok, wantApplied(m, w), "ApplyMorphism(%v, %v)", m, w)
		}
	}
}

// wantLengths contains the lengths of the words that come from each letter in 0 to 21 steps, with 1000 for all that are greater.
func wantLengths(m impl.Morphism) [][]int {
	lengths := [][]int{repeated(1, len(m.Images))}
	for range 21 {
		last := lengths[len(lengths)-1]
		var next []int
		for _, image := range m.Images {
			sum := 0
			for _, letter := range image {
				sum += last[letter]
			}
			next = append(next, min(sum, 1000))
		}
		lengths = append(lengths, next)
	}
	return lengths
}

// wantIterated is what comes from a letter: what comes from the letters of its image in one step less.
func wantIterated(m impl.Morphism, a int, n int) []int {
	if n == 0 {
		return []int{a}
	}
	var w []int
	for _, letter := range m.Images[a] {
		w = append(w, wantIterated(m, letter, n-1)...)
	}
	return w
}

// checkIterate checks IterateMorphism of a valid morphism for a letter and each number of steps.
func checkIterate(t *testing.T, m impl.Morphism, a int) {
	t.Helper()
	lengths := wantLengths(m)
	fits := true
	for n := range 21 {
		fits = fits && lengths[n][a] <= 400
		got, ok := impl.IterateMorphism(m, a, n)
		if fits {
			checkLetters(t, got, ok, wantIterated(m, a, n), "IterateMorphism(%v, %d, %d)", m, a, n)
		} else {
			checkNoLetters(t, got, ok, "IterateMorphism(%v, %d, %d)", m, a, n)
		}
	}
	for _, n := range []int{math.MinInt, -21, -20, -1, 21, 22, 256, 1 << 32, math.MaxInt} {
		got, ok := impl.IterateMorphism(m, a, n)
		checkNoLetters(t, got, ok, "IterateMorphism(%v, %d, %d)", m, a, n)
	}
}

func TestIterateMorphismExamples(t *testing.T) {
	for _, c := range []struct {
		m    impl.Morphism
		a, n int
		want string
	}{
		{morph("01", "0"), 0, 0, "0"},
		{morph("01", "0"), 1, 0, "1"},
		{morph("01", "0"), 0, 1, "01"},
		{morph("01", "0"), 0, 3, "01001"},
		{morph("01", "0"), 1, 4, "01001"},
		{morph("01", "10"), 0, 4, "0110100110010110"},
		{morph("01", "10"), 1, 3, "10010110"},
		{morph("012", "02", "1"), 0, 3, "012021012102"},
		{morph("00"), 0, 8, strings.Repeat("0", 256)},
		{morph("0"), 0, 20, "0"},
		{morph("1", "0"), 0, 19, "1"},
		{morph("1", "0"), 0, 20, "0"},
		{morph("1", "2", "3", "4", "5", "6", "7", "8", "9", "a", "b", "c", "d", "e", "f", ""), 0, 15, "f"},
		{morph("1", "2", "3", "4", "5", "6", "7", "8", "9", "a", "b", "c", "d", "e", "f", ""), 0, 16, ""},
		{morph("1", "2", "3", "4", "5", "6", "7", "8", "9", "a", "b", "c", "d", "e", "f", ""), 0, 20, ""},
		// A letter whose image is empty.
		{morph("01", ""), 0, 20, "01"},
		{morph("01", ""), 1, 0, "1"},
		{morph("01", ""), 1, 1, ""},
		{morph("01", ""), 1, 20, ""},
		{morph("0112", "", "2"), 0, 5, "01122222"},
		{morph(""), 0, 0, "0"},
		{morph(""), 0, 1, ""},
	} {
		got, ok := impl.IterateMorphism(c.m, c.a, c.n)
		checkLetters(t, got, ok, letters(c.want), "IterateMorphism(%v, %d, %d)", c.m, c.a, c.n)
	}
}

func TestIterateMorphismOfSamples(t *testing.T) {
	for i, m := range sampleMorphisms() {
		for a := range m.Images {
			if i%3 == 0 || a == 0 {
				checkIterate(t, m, a)
			}
		}
	}
}

func TestIterateMorphismLimits(t *testing.T) {
	// The words have 1, 5, 40, 80 and then always 400 letters, and with one letter more from the beginning 401.
	steady := morph("11111", "22222222", "33", "44444", "4")
	more := morph("111115", "22222222", "33", "44444", "4", "5")
	// Behind 401 letters nothing is left, but that comes too late.
	late := morph("111115", "22222222", "33", "44444", "", "5")
	late.Images[5] = letters("6")
	late.Images = append(late.Images, letters("7"), letters("8"), letters("9"), nil)
	fast := morph("11111111", "22222222", "33333333", "")
	for _, c := range []struct {
		name string
		m    impl.Morphism
		last int
	}{{"400 letters", steady, 20}, {"401 letters", more, 3}, {"401 letters that vanish", late, 3}, {"512 letters that vanish", fast, 2}, {"256 letters", morph("00"), 8}} {
		checkIterate(t, c.m, 0)
		for n := range 21 {
			if _, ok := impl.IterateMorphism(c.m, 0, n); ok != (n <= c.last) {
				t.Errorf("%s: IterateMorphism(%v, 0, %d) = %v", c.name, c.m, n, ok)
			}
		}
	}
	if got, ok := impl.IterateMorphism(steady, 0, 20); !ok || !slices.Equal(got, repeated(4, 400)) {
		t.Errorf("IterateMorphism(%v, 0, 20) = %v, %v", steady, got, ok)
	}
}

func TestWrongLetters(t *testing.T) {
	for count := 1; count <= 16; count++ {
		images := make([][]int, count)
		for letter := range images {
			images[letter] = []int{letter, letter}
		}
		for _, m := range []impl.Morphism{{Images: images}, identity(count), {Images: make([][]int, count)}} {
			for _, a := range wrongLetters(count) {
				for _, n := range []int{0, 1, 2, 20} {
					got, ok := impl.IterateMorphism(m, a, n)
					checkNoLetters(t, got, ok, "IterateMorphism(%v, %d, %d)", m, a, n)
					got, ok = impl.FixedPrefix(m, a, n)
					checkNoLetters(t, got, ok, "FixedPrefix(%v, %d, %d)", m, a, n)
				}
				if impl.IsGrowing(m, a) {
					t.Errorf("IsGrowing(%v, %d) is true", m, a)
				}
			}
			for _, a := range []int{0, count - 1} {
				checkIterate(t, m, a)
				checkFixed(t, m, a)
			}
		}
	}
}

// wantGrowing is IsGrowing of a valid morphism: it goes from the letters of what follows to those of its image, again and again.
func wantGrowing(m impl.Morphism, a int) bool {
	if len(m.Images[a]) < 2 || m.Images[a][0] != a {
		return false
	}
	there := map[int]bool{}
	for _, letter := range m.Images[a][1:] {
		there[letter] = true
	}
	// A way through more letters than there are has a circle.
	for range m.Images {
		next := map[int]bool{}
		for letter := range there {
			for _, l := range m.Images[letter] {
				next[l] = true
			}
		}
		there = next
	}
	return len(there) > 0
}

// wantFixedWord is FixedPrefix for a letter that grows: the beginnings of the images of beginnings.
func wantFixedWord(m impl.Morphism, a int, n int) []int {
	w := []int{a}
	for len(w) < n {
		w = wantApplied(m, w)
		w = w[:min(len(w), n)]
	}
	return w[:n]
}

// checkFixed checks IsGrowing and FixedPrefix of a valid morphism for a letter; it reports whether this grows.
func checkFixed(t *testing.T, m impl.Morphism, a int) bool {
	t.Helper()
	growing := wantGrowing(m, a)
	if got := impl.IsGrowing(m, a); got != growing {
		t.Fatalf("IsGrowing(%v, %d) = %v", m, a, got)
	}
	for _, n := range []int{0, 1, 2, 3, 7, 8, 9, 20, 255, 256} {
		got, ok := impl.FixedPrefix(m, a, n)
		if growing {
			checkLetters(t, got, ok, wantFixedWord(m, a, n), "FixedPrefix(%v, %d, %d)", m, a, n)
		} else {
			checkNoLetters(t, got, ok, "FixedPrefix(%v, %d, %d)", m, a, n)
		}
	}
	for _, n := range []int{math.MinInt, -256, -2, -1, 257, 258, 400, 401, 1 << 32, math.MaxInt} {
		got, ok := impl.FixedPrefix(m, a, n)
		checkNoLetters(t, got, ok, "FixedPrefix(%v, %d, %d)", m, a, n)
	}
	return growing
}

// down is the morphism whose letter 0 becomes itself and the letter 15, and each further letter the one before it, down to 1 with a given image.
func down(last string) impl.Morphism {
	m := morph("0f", last)
	for letter := 2; letter < 16; letter++ {
		m.Images = append(m.Images, []int{letter - 1})
	}
	return m
}

// up is the morphism whose letter 0 becomes itself and some letters 1, and each further letter so many of the one behind it, up to 15 with a given image.
func up(times int, last string) impl.Morphism {
	var m impl.Morphism
	for letter := range 15 {
		m.Images = append(m.Images, repeated(letter+1, times))
	}
	m.Images[0] = append([]int{0}, m.Images[0][:min(times, 7)]...)
	m.Images = append(m.Images, letters(last))
	return m
}

func TestIsGrowingExamples(t *testing.T) {
	for _, c := range []struct {
		m    impl.Morphism
		a    int
		want bool
	}{
		{morph("01", "10"), 0, true},
		{morph("01", "10"), 1, true},
		{morph("01", "0"), 0, true},
		{morph("01", "0"), 1, false},
		{morph("012", "02", "1"), 0, true},
		{morph("012", "02", "1"), 1, false},
		{morph("012", "02", "1"), 2, false},
		{morph("00"), 0, true},
		{morph("00000000"), 0, true},
		{morph("0"), 0, false},
		{morph(""), 0, false},
		{morph("10", "1"), 0, false},
		{morph("11", "1"), 0, false},
		{morph("11", "11"), 1, true},
		{morph("01", "1"), 0, true},
		{morph("01", "1"), 1, false},
		// What follows vanishes, at once or later.
		{morph("01", ""), 0, false},
		{morph("01", ""), 1, false},
		{morph("0111", ""), 0, false},
		{morph("010", ""), 0, true},
		{morph("001", ""), 0, true},
		{morph("01", "2", ""), 0, false},
		{morph("01", "2", "1"), 0, true},
		{morph("012", "", "2"), 0, true},
		{morph("021", "", "2"), 0, true},
		{morph("012", "2", ""), 0, false},
		{morph("01", "22", "3", ""), 0, false},
		{morph("01", "22", "31", ""), 0, true},
		{morph("02", "", "11"), 0, false},
		{morph("02", "1", "11"), 0, true},
		// A letter that does not vanish elsewhere does not help.
		{morph("01", "", "222"), 0, false},
		{morph("01", "", "222"), 2, true},
		{down(""), 0, false},
		{down("1"), 0, true},
		{down("f"), 0, true},
		{down("0"), 0, true},
		{up(1, ""), 0, false},
		{up(1, "f"), 0, true},
		{up(1, "1"), 0, true},
		{up(8, ""), 0, false},
		{up(8, "f"), 0, true},
		{up(8, "1"), 0, true},
	} {
		if got := impl.IsGrowing(c.m, c.a); got != c.want {
			t.Errorf("IsGrowing(%v, %d) = %v", c.m, c.a, got)
		}
		checkFixed(t, c.m, c.a)
	}
}

func TestFixedPrefixExamples(t *testing.T) {
	for _, c := range []struct {
		m    impl.Morphism
		a    int
		want string
	}{
		{morph("01", "0"), 0, "010010100100101001010"},
		{morph("01", "10"), 0, "01101001100101101001"},
		{morph("01", "10"), 1, "10010110011010010110"},
		{morph("012", "02", "1"), 0, "01202101210201202102"},
		{morph("00"), 0, "00000000000000000000"},
		{morph("01", "1"), 0, "01111111111111111111"},
		{morph("2", "120", "21"), 1, "12021221120212112012"},
		// A letter whose image is empty.
		{morph("012", "", "2"), 0, "01222222222222222222"},
		{morph("021", "", "2"), 0, "02122222222222222222"},
		{morph("010", ""), 0, "01001001001001001001"},
		{morph("0112", "", "12"), 0, "01121212121212121212"},
		{morph("0112", "", "21"), 0, "01122121212121212121"},
		{morph("0f", "", "1", "0", "", "", "", "", "", "", "", "", "", "", "", "ff"), 0, "0fffffffffffffffffff"},
	} {
		want := letters(c.want)
		if other := wantFixedWord(c.m, c.a, len(want)); !slices.Equal(other, want) {
			t.Fatalf("wantFixedWord(%v, %d, %d) = %v, want %v", c.m, c.a, len(want), other, want)
		}
		got, ok := impl.FixedPrefix(c.m, c.a, len(want))
		checkLetters(t, got, ok, want, "FixedPrefix(%v, %d, %d)", c.m, c.a, len(want))
	}
}

func TestGrowingOfSamples(t *testing.T) {
	growing, vanishing := 0, 0
	for _, m := range sampleMorphisms() {
		for a := range m.Images {
			if checkFixed(t, m, a) {
				growing++
			} else if len(m.Images[a]) > 1 && m.Images[a][0] == a {
				vanishing++
			}
		}
	}
	if growing < 2000 || vanishing < 400 {
		t.Errorf("only %d letters grow, and of only %d letters what follows vanishes", growing, vanishing)
	}
}

func TestFixedPrefixDoesNotChange(t *testing.T) {
	for i, m := range sampleMorphisms() {
		for a := range m.Images {
			all, ok := impl.FixedPrefix(m, a, 256)
			if !ok {
				continue
			}
			for n := i % 8; n <= 256; n += 8 {
				got, ok := impl.FixedPrefix(m, a, n)
				checkLetters(t, got, ok, all[:n], "FixedPrefix(%v, %d, %d)", m, a, n)
			}
			for n := range 51 {
				// The image of a beginning is a beginning, which is longer.
				image, ok := impl.ApplyMorphism(m, all[:n])
				if common := min(len(image), 256); !ok || n > 0 && len(image) <= n || !slices.Equal(image[:common], all[:common]) {
					t.Fatalf("the morphism %v changes %v to %v", m, all[:n], image)
				}
			}
			for n := range 21 {
				if w, ok := impl.IterateMorphism(m, a, n); ok && !slices.Equal(w[:min(len(w), 256)], all[:min(len(w), 256)]) {
					t.Fatalf("IterateMorphism(%v, %d, %d) = %v, but FixedPrefix is %v", m, a, n, w, all)
				}
			}
		}
	}
}

// steadySequences contains the steady ones of manySequences, and one with all states of each base that are not reached.
func steadySequences() []impl.Sequence {
	var l []impl.Sequence
	for _, s := range manySequences() {
		if s.Next[0][0] == 0 {
			l = append(l, s)
		}
	}
	for base := 2; base <= 4; base++ {
		s := unary(base, 1, 15)
		s.Next[0] = repeated(0, base)
		l = append(l, s)
	}
	return l
}

func TestMorphismOfExamples(t *testing.T) {
	for _, c := range []struct {
		s    string
		want impl.Morphism
	}{
		{"2: 00/3", morph("00")},
		{"4: 0000/1", morph("0000")},
		{"2: 01/0 10/1", morph("01", "10")},
		{"2: 01/0 02/0 31/1 32/1", morph("01", "02", "31", "32")},
		{"2: 01/0 12/1 22/0", morph("01", "12", "22")},
		{"3: 010/1 111/0", morph("010", "111")},
		// States that are equal or never reached are letters, too.
		{"2: 01/0 00/0 22/3", morph("01", "00", "22")},
	} {
		got, ok := impl.MorphismOf(parsed(t, c.s))
		if !ok || !sameMorphism(got, c.want) {
			t.Errorf("MorphismOf %q = %v, %v", c.s, got, ok)
		}
	}
}

func TestSteadySequencesAreMorphisms(t *testing.T) {
	for _, s := range steadySequences() {
		m, ok := impl.MorphismOf(s)
		if !ok || !sameMorphism(m, impl.Morphism{Images: s.Next}) || !impl.IsMorphism(m) || !impl.IsUniform(m, s.Base) {
			t.Fatalf("MorphismOf(%v) = %v, %v", s, m, ok)
		}
		got, ok := impl.SequenceOf(m, s.Out)
		checkSequence(t, fmt.Sprintf("SequenceOf(%v, %v)", m, s.Out), got, ok, s, true)
		// The infinite word from 0 on has the states behind all numbers, in order.
		states, ok := impl.FixedPrefix(m, 0, 256)
		if !ok {
			t.Fatalf("FixedPrefix(%v, 0, 256) fails", m)
		}
		for n, state := range states {
			if want := wantState(s, wantDigits(n, s.Base)); state != want {
				t.Fatalf("FixedPrefix(%v, 0, 256)[%d] = %d, want %d", m, n, state, want)
			}
		}
		if got := impl.PrefixOf(s, 256); !slices.Equal(got, coded(states, s.Out)) {
			t.Fatalf("PrefixOf(%v, 256) = %v, but the letters are %v", s, got, states)
		}
		checkBlocks(t, s, m)
	}
}

// coded is a word with the term of each letter.
func coded(w []int, coding []int) []int {
	var terms []int
	for _, letter := range w {
		terms = append(terms, coding[letter])
	}
	return terms
}

// checkBlocks checks that a word that comes from a state in k steps has the states after it by all lists of k digits.
func checkBlocks(t *testing.T, s impl.Sequence, m impl.Morphism) {
	t.Helper()
	for state := range s.Next {
		for k, steps := 0, 1; steps <= 100; k, steps = k+1, steps*s.Base {
			got, ok := impl.IterateMorphism(m, state, k)
			if !ok || len(got) != steps {
				t.Fatalf("IterateMorphism(%v, %d, %d) = %v, %v", m, state, k, got, ok)
			}
			for n, letter := range got {
				want, power := state, steps
				for range k {
					power /= s.Base
					want = s.Next[want][n/power%s.Base]
				}
				if letter != want {
					t.Fatalf("IterateMorphism(%v, %d, %d)[%d] = %d, want %d", m, state, k, n, letter, want)
				}
			}
		}
	}
}

func TestMorphismOfNamedSequences(t *testing.T) {
	for _, c := range namedTerms {
		s, _ := impl.NamedSequence(c.name)
		m, ok := impl.MorphismOf(s)
		if !ok {
			t.Fatalf("MorphismOf %s fails", c.name)
		}
		states, ok := impl.FixedPrefix(m, 0, 256)
		if !ok || len(states) != 256 {
			t.Fatalf("FixedPrefix of %s = %v, %v", c.name, states, ok)
		}
		for n, term := range coded(states, s.Out) {
			if term != c.term(n) {
				t.Errorf("the letter %d of %s has the term %d, want %d", n, c.name, term, c.term(n))
			}
		}
	}
}

// checkNoMorphismOf checks that a sequence is no morphism.
func checkNoMorphismOf(t *testing.T, why string, s impl.Sequence) {
	t.Helper()
	if got, ok := impl.MorphismOf(s); ok || len(got.Images) != 0 {
		t.Errorf("%s: MorphismOf(%v) = %v, %v", why, s, got, ok)
	}
}

func TestMorphismOfRefuses(t *testing.T) {
	refused := 0
	for _, s := range manySequences() {
		if s.Next[0][0] == 0 {
			continue
		}
		refused++
		checkNoMorphismOf(t, "not steady", s)
		// Its steady form is one, if there is one.
		steady, ok := wantSteady(s)
		if m, mOk := impl.MorphismOf(steady); mOk != ok || !sameMorphism(m, impl.Morphism{Images: steady.Next}) {
			t.Fatalf("MorphismOf(%v) = %v, %v", steady, m, mOk)
		}
	}
	if refused < 500 {
		t.Errorf("only %d sequences are not steady", refused)
	}
	for base := 2; base <= 4; base++ {
		for states := 1; states <= 16; states++ {
			for first := range states {
				s := wide(base, states, first)
				if first > 0 {
					checkNoMorphismOf(t, "not steady", s)
				} else if m, ok := impl.MorphismOf(s); !ok || !sameMorphism(m, impl.Morphism{Images: s.Next}) {
					t.Errorf("MorphismOf(%v) = %v, %v", s, m, ok)
				}
			}
		}
	}
	for _, c := range invalidSequences() {
		checkNoMorphismOf(t, c.why, c.s)
	}
}

// wantSequence is SequenceOf for a valid morphism.
func wantSequence(m impl.Morphism, coding []int) (impl.Sequence, bool) {
	sizes := map[int]bool{}
	for _, image := range m.Images {
		sizes[len(image)] = true
	}
	base := len(m.Images[0])
	ok := len(sizes) == 1 && base >= 2 && base <= 4 && m.Images[0][0] == 0 && len(coding) == len(m.Images)
	for _, v := range coding {
		ok = ok && v >= 0 && v <= 3
	}
	if !ok {
		return impl.Sequence{}, false
	}
	return impl.Sequence{Base: base, Next: m.Images, Out: coding}, true
}

func TestUniformMorphismsAreSteadySequences(t *testing.T) {
	made := 0
	for i, m := range sampleMorphisms() {
		for shift := range 3 {
			var coding []int
			for letter := range m.Images {
				coding = append(coding, (i+letter*shift)%4)
			}
			want, wantOk := wantSequence(m, coding)
			got, ok := impl.SequenceOf(m, coding)
			checkSequence(t, fmt.Sprintf("SequenceOf(%v, %v)", m, coding), got, ok, want, wantOk)
			if !ok {
				continue
			}
			made++
			if back, ok := impl.MorphismOf(got); !impl.IsSteady(got) || !ok || !sameMorphism(back, m) {
				t.Fatalf("MorphismOf(%v) = %v, %v, want %v", got, back, ok, m)
			}
			word, ok := impl.FixedPrefix(m, 0, 256)
			if !ok || !slices.Equal(impl.PrefixOf(got, 256), coded(word, coding)) {
				t.Fatalf("PrefixOf(%v, 256) = %v, but the letters are %v", got, impl.PrefixOf(got, 256), word)
			}
		}
	}
	if made < 50 {
		t.Errorf("only %d sequences are made", made)
	}
}

func TestSequenceOfExamples(t *testing.T) {
	for _, c := range []struct {
		m      impl.Morphism
		coding []int
		want   string
	}{
		{morph("00"), []int{3}, "2: 00/3"},
		{morph("0000"), []int{0}, "4: 0000/0"},
		{morph("01", "10"), []int{0, 1}, "2: 01/0 10/1"},
		{morph("01", "10"), []int{2, 2}, "2: 01/2 10/2"},
		{morph("010", "111"), []int{1, 0}, "3: 010/1 111/0"},
		// Letters that never come are states, too.
		{morph("01", "11", "20"), []int{1, 2, 3}, "2: 01/1 11/2 20/3"},
		{morph("0f", "00", "00", "00", "00", "00", "00", "00", "00", "00", "00", "00", "00", "00", "00", "f0"), repeated(1, 16), "2: 0f/1" + strings.Repeat(" 00/1", 14) + " f0/1"},
		// Images of different lengths, the first one and others.
		{morph("01", "0"), []int{0, 1}, ""},
		{morph("0", "01"), []int{0, 1}, ""},
		{morph("01", "101"), []int{0, 1}, ""},
		{morph("010", "10"), []int{0, 1}, ""},
		{morph("01", "10", "000"), []int{0, 1, 2}, ""},
		{morph("01", "10", ""), []int{0, 1, 2}, ""},
		{morph("", "10"), []int{0, 1}, ""},
		{morph("01", ""), []int{0, 1}, ""},
		// The sum of the lengths is right.
		{morph("012", "1", "20"), []int{0, 1, 2}, ""},
		// The first image does not begin with 0.
		{morph("10", "10"), []int{0, 1}, ""},
		{morph("11", "01"), []int{0, 1}, ""},
		{morph("100", "000"), []int{0, 1}, ""},
		{morph("1000", "0000"), []int{0, 1}, ""},
		{morph("ff", "00", "00", "00", "00", "00", "00", "00", "00", "00", "00", "00", "00", "00", "00", "00"), repeated(1, 16), ""},
		// All images have the same length, but there is no such base.
		{morph(""), []int{0}, ""},
		{morph("", ""), []int{0, 1}, ""},
		{morph("0"), []int{0}, ""},
		{morph("0", "1"), []int{0, 1}, ""},
		{morph("00000"), []int{0}, ""},
		{morph("01010", "10101"), []int{0, 1}, ""},
		{morph("00000000"), []int{0}, ""},
		// A coding of another length.
		{morph("00"), nil, ""},
		{morph("00"), []int{0, 0}, ""},
		{morph("01", "10"), nil, ""},
		{morph("01", "10"), []int{0}, ""},
		{morph("01", "10"), []int{0, 1, 0}, ""},
		{morph("01", "10"), repeated(0, 16), ""},
	} {
		got, ok := impl.SequenceOf(c.m, c.coding)
		if c.want == "" {
			checkNothing(t, fmt.Sprintf("SequenceOf(%v, %v)", c.m, c.coding), got, ok)
		} else if text := impl.FormatSequence(got); !ok || text != c.want {
			t.Errorf("SequenceOf(%v, %v) = %q, %v, want %q", c.m, c.coding, text, ok, c.want)
		}
	}
}

func TestSequenceOfCodings(t *testing.T) {
	for base := 2; base <= 4; base++ {
		for count := 1; count <= 16; count++ {
			s := wide(base, count, 0)
			m := impl.Morphism{Images: s.Next}
			for size := range 20 {
				got, ok := impl.SequenceOf(m, repeated(2, size))
				want := withTerms(s, repeated(2, count))
				if size != count {
					want = impl.Sequence{}
				}
				checkSequence(t, fmt.Sprintf("SequenceOf(%v, %v)", m, repeated(2, size)), got, ok, want, size == count)
			}
			for _, at := range []int{0, count - 1} {
				for _, v := range append([]int{0, 1, 2, 3}, wrongTerms...) {
					coding := repeated(1, count)
					coding[at] = v
					want, wantOk := wantSequence(m, coding)
					got, ok := impl.SequenceOf(m, coding)
					checkSequence(t, fmt.Sprintf("SequenceOf(%v, %v)", m, coding), got, ok, want, wantOk)
				}
			}
		}
	}
	// Also the coding of a letter that never comes has to be a term.
	for _, v := range wrongTerms {
		got, ok := impl.SequenceOf(morph("00", "11"), []int{0, v})
		checkNothing(t, fmt.Sprintf("SequenceOf with the term %d", v), got, ok)
	}
}

// wordLengths contains lengths on both sides of the limit.
var wordLengths = []int{0, 1, 2, 8, 9, 255, 256, 257, 399, 400, 401, 402, 512, 100000}

func TestIsWord(t *testing.T) {
	for _, count := range []int{math.MinInt, -16, -1, 0, 1, 2, 3, 10, 15, 16, 17, 18, 32, 400, 1 << 32, math.MaxInt} {
		valid := count >= 1 && count <= 16
		for _, size := range wordLengths {
			if got := impl.IsWord(repeated(0, size), count); got != (valid && size <= 400) {
				t.Errorf("IsWord of %d letters 0 for %d letters = %v", size, count, got)
			}
		}
		for letter := -2; letter < 20; letter++ {
			for _, w := range [][]int{{letter}, {letter, 0}, {0, letter}, {0, letter, 0}, append(repeated(0, 399), letter), append([]int{letter}, repeated(0, 399)...)} {
				if got := impl.IsWord(w, count); got != (valid && letter >= 0 && letter < count) {
					t.Errorf("IsWord(%v, %d) = %v", w, count, got)
				}
			}
		}
	}
	for count := 1; count <= 16; count++ {
		for _, wrong := range wrongLetters(count) {
			if impl.IsWord([]int{0, wrong}, count) {
				t.Errorf("IsWord([0 %d], %d) is true", wrong, count)
			}
		}
		for _, w := range sampleWords(count) {
			if !impl.IsWord(w, count) {
				t.Errorf("IsWord(%v, %d) is false", w, count)
			}
		}
	}
	for _, count := range []int{0, 17} {
		if impl.IsWord(nil, count) || impl.IsWord([]int{}, count) {
			t.Errorf("the empty word is a word of %d letters", count)
		}
	}
}

func TestFormatWord(t *testing.T) {
	for _, c := range []struct {
		w    []int
		want string
	}{
		{nil, "empty"},
		{[]int{}, "empty"},
		{[]int{0}, "0"},
		{[]int{0, 0}, "00"},
		{[]int{0, 10, 15}, "0af"},
		{[]int{14}, "e"},
		{[]int{0, 1, 2, 3, 4, 5, 6, 7, 8, 9, 10, 11, 12, 13, 14, 15}, "0123456789abcdef"},
		{repeated(15, 400), strings.Repeat("f", 400)},
		{repeated(0, 399), strings.Repeat("0", 399)},
		{repeated(0, 401), ""},
		{repeated(0, 100000), ""},
		{[]int{16}, ""},
		{[]int{-1}, ""},
		{[]int{0, 16}, ""},
		{[]int{16, 0}, ""},
		{[]int{0, -1, 0}, ""},
		{[]int{256}, ""},
		{[]int{math.MaxInt}, ""},
		{[]int{math.MinInt}, ""},
		{[]int{1 << 32}, ""},
	} {
		if got := impl.FormatWord(c.w); got != c.want {
			t.Errorf("FormatWord(%v) = %q, want %q", c.w, got, c.want)
		}
	}
}

var wordText = regexp.MustCompile(`^[0-9a-f]+$`)

// checkWordText checks ParseWord, and that what it accepts is formatted as the text.
func checkWordText(t *testing.T, text string) {
	t.Helper()
	got, ok := impl.ParseWord(text)
	switch {
	case text == "empty":
		checkLetters(t, got, ok, nil, "ParseWord(%q)", text)
	case wordText.MatchString(text) && len(text) <= 400:
		checkLetters(t, got, ok, letters(text), "ParseWord(%q)", text)
	default:
		checkNoLetters(t, got, ok, "ParseWord(%q)", text)
	}
	if ok && impl.FormatWord(got) != text {
		t.Errorf("FormatWord(ParseWord(%q)) = %q", text, impl.FormatWord(got))
	}
}

func TestWordsAreParsedFromTheirTexts(t *testing.T) {
	words := listsOver(0, 16, 3)
	for count := 1; count <= 16; count++ {
		words = append(words, sampleWords(count)...)
	}
	texts := map[string]bool{}
	for _, w := range words {
		text := impl.FormatWord(w)
		got, ok := impl.ParseWord(text)
		checkLetters(t, got, ok, w, "ParseWord(%q)", text)
		checkWordText(t, text)
		texts[text] = true
	}
	if len(texts) < 4369 {
		t.Errorf("there are only %d different texts", len(texts))
	}
}

func TestParseWordRefuses(t *testing.T) {
	for _, text := range []string{
		"", " ", "g", "A", "F", "0A", "G", "-", "-1", "+1", "0x1", ".", ",", "/", ":", "@", "`", "01 1", " 01", "01 ", "01\n", "\n01", "0,1", "0.1", "0\x00", "\x00",
		"emptyy", "empt", "Empty", "EMPTY", "emptY", "empty ", " empty", "emptyempty", "0empty", "empty0", "empty\n", "em", "none", "\"\"", "[]", "[0 1]",
		"\xff", "0\xff", "\xff0", "\u0660", "\uff10", "\uff11", "1\uff10", "\ufeff01", "0\u00e9", "\ufffd", "0\ufffd", "\u0430", "\xed\xa0\x80", "\xc0\xb0", "\U0001d7ce",
	} {
		got, ok := impl.ParseWord(text)
		checkNoLetters(t, got, ok, "ParseWord(%q)", text)
		checkWordText(t, text)
	}
	for _, text := range append(textsOver("0fgF ", 5), textsOver(allBytes(), 2)...) {
		checkWordText(t, text)
	}
	for _, text := range []string{"empty", "0", "01", "fe", "0123456789abcdef"} {
		for _, m := range mutants(text) {
			checkWordText(t, m)
		}
	}
}

func TestParseWordLengths(t *testing.T) {
	for _, size := range wordLengths {
		for _, letter := range []string{"0", "9", "a", "f", "g", "\uff10", "\xff"} {
			checkWordText(t, strings.Repeat(letter, size))
			checkWordText(t, strings.Repeat("0", size)+letter)
		}
		_, ok := impl.ParseWord(strings.Repeat("7", size))
		if ok != (size >= 1 && size <= 400) {
			t.Errorf("ParseWord of %d letters = %v", size, ok)
		}
		if text := impl.FormatWord(repeated(7, size)); (text == strings.Repeat("7", size)) != ok {
			t.Errorf("FormatWord of %d letters = %q", size, text)
		}
	}
}

// memorySamples contains morphisms of which some grow, are uniform or are not valid, also ones whose images are all one list.
func memorySamples() []impl.Morphism {
	row := []int{0, 1}
	return []impl.Morphism{
		morph("01", "10"), morph("01", "0"), morph("012", "", "2"), morph("00"), morph("0000000"), morph("0"), morph(""), morph("0123", "1032", "2301", "3210"),
		identity(16), identity(17), morph("02", "11"), {}, {Images: [][]int{row, row}},
	}
}

// guardedMorphism is the morphism with spare memory behind each of its lists, and a function that tells whether any memory has changed.
func guardedMorphism(m impl.Morphism) (impl.Morphism, func() bool) {
	rows, changed := guarded(asRows(m))
	return impl.Morphism{Images: rows.Next}, changed
}

// guardedWord is the same for a word.
func guardedWord(w []int) ([]int, func() bool) {
	short, memory := withTail(w)
	before := slices.Clone(memory)
	return short, func() bool { return !slices.Equal(memory, before) }
}

func TestMorphismsAreNotChanged(t *testing.T) {
	for _, m := range memorySamples() {
		calls := map[string]func(impl.Morphism, []int){
			"IsMorphism":      func(m impl.Morphism, w []int) { impl.IsMorphism(m) },
			"IsUniform":       func(m impl.Morphism, w []int) { impl.IsUniform(m, 2) },
			"ApplyMorphism":   func(m impl.Morphism, w []int) { impl.ApplyMorphism(m, w) },
			"IterateMorphism": func(m impl.Morphism, w []int) { impl.IterateMorphism(m, 0, 5) },
			"IsGrowing":       func(m impl.Morphism, w []int) { impl.IsGrowing(m, 0) },
			"FixedPrefix":     func(m impl.Morphism, w []int) { impl.FixedPrefix(m, 0, 50) },
			"SequenceOf":      func(m impl.Morphism, w []int) { impl.SequenceOf(m, w) },
			"IsWord":          func(m impl.Morphism, w []int) { impl.IsWord(w, 2) },
			"FormatWord":      func(m impl.Morphism, w []int) { impl.FormatWord(w) },
		}
		for name, call := range calls {
			for _, w := range [][]int{nil, {0}, {0, 1}, {0, 1, 1, 0}, repeated(0, 400), {0, 16}} {
				argument, changed := guardedMorphism(m)
				word, wordChanged := guardedWord(w)
				call(argument, word)
				if changed() || wordChanged() {
					t.Errorf("%s changes the memory of %v or %v", name, m, w)
				}
			}
		}
	}
	for _, s := range kernelSamples(t) {
		argument, changed := guarded(s)
		impl.MorphismOf(argument)
		if changed() {
			t.Errorf("MorphismOf changes the memory of %v", s)
		}
	}
}

// spoil changes a word with its spare memory.
func spoil(w []int) {
	for i := range w[:cap(w)] {
		w[:cap(w)][i] = 55
	}
}

func TestWordsShareNoMemory(t *testing.T) {
	made := 0
	for _, m := range memorySamples() {
		calls := map[string]func(impl.Morphism, []int) ([]int, bool){
			"ApplyMorphism":         impl.ApplyMorphism,
			"ApplyMorphism, itself": func(m impl.Morphism, w []int) ([]int, bool) { return impl.ApplyMorphism(m, slices.Concat(m.Images...)) },
			"FixedPrefix":           func(m impl.Morphism, w []int) ([]int, bool) { return impl.FixedPrefix(m, 0, 2) },
			"FixedPrefix, long":     func(m impl.Morphism, w []int) ([]int, bool) { return impl.FixedPrefix(m, 0, 256) },
			"ParseWord":             func(m impl.Morphism, w []int) ([]int, bool) { return impl.ParseWord("0af") },
		}
		for n := range 4 {
			calls[fmt.Sprintf("IterateMorphism, %d", n)] = func(m impl.Morphism, w []int) ([]int, bool) { return impl.IterateMorphism(m, 0, n) }
		}
		for name, call := range calls {
			for _, w := range [][]int{{0}, {0, 1, 1}} {
				argument, changed := guardedMorphism(m)
				word, wordChanged := guardedWord(w)
				got, ok := call(argument, word)
				again, _ := call(argument, word)
				before := slices.Clone(got)
				spoil(again)
				made += oneFor(ok)
				if changed() || wordChanged() || !slices.Equal(got, before) {
					t.Errorf("the result of %s for %v and %v shares memory", name, m, w)
				}
			}
		}
	}
	if made < 100 {
		t.Errorf("only %d words are made", made)
	}
	// A morphism that is asked for the image of its own image.
	m := morph("01", "10")
	got, ok := impl.ApplyMorphism(m, m.Images[1])
	spoil(got)
	if !ok || !sameMorphism(m, morph("01", "10")) {
		t.Errorf("the result of ApplyMorphism shares memory with %v", m)
	}
}

func TestMorphismsAndSequencesShareNoMemory(t *testing.T) {
	for _, s := range kernelSamples(t) {
		argument, changed := guarded(s)
		got, ok := impl.MorphismOf(argument)
		again, _ := impl.MorphismOf(argument)
		before := copiedMorphism(got)
		checkOwnMemory(t, asRows(again), "MorphismOf")
		if changed() || !sameMorphism(got, before) {
			t.Errorf("the result of MorphismOf for %v shares memory", s)
		}
		if ok != impl.IsSteady(s) {
			t.Errorf("MorphismOf(%v) = %v", s, ok)
		}
	}
	made := 0
	for _, m := range memorySamples() {
		for _, coding := range [][]int{{0}, {0, 1}, {3, 2, 1, 0}} {
			argument, changed := guardedMorphism(m)
			terms, termsChanged := guardedWord(coding)
			got, ok := impl.SequenceOf(argument, terms)
			again, _ := impl.SequenceOf(argument, terms)
			before := copyOf(got)
			checkOwnMemory(t, again, "SequenceOf")
			made += oneFor(ok)
			if changed() || termsChanged() || !sameSequence(got, before) {
				t.Errorf("the result of SequenceOf for %v and %v shares memory", m, coding)
			}
		}
	}
	if made < 4 {
		t.Errorf("only %d sequences are made", made)
	}
	// A coding that is an image, too.
	m := morph("01", "10")
	got, ok := impl.SequenceOf(m, m.Images[0])
	checkOwnMemory(t, got, "SequenceOf")
	if !ok || !sameMorphism(m, morph("01", "10")) {
		t.Errorf("the result of SequenceOf shares memory with %v", m)
	}
}
