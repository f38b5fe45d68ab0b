package tests

import (
	"encoding/binary"
	"encoding/hex"
	"math"
	"strconv"
	"strings"
	"testing"

	"loop.example/g02079/impl"
)

// These assignments do not compile if a signature differs from the document.
var (
	_ func(int, int) string         = impl.EncodeFixed
	_ func(string, int) (int, bool) = impl.DecodeFixed
	_ func(int) string              = impl.EncodeVarint
	_ func(string) (int, int)       = impl.DecodeVarint
	_ func(string) string           = impl.EncodeHex
	_ func(string) (string, bool)   = impl.DecodeHex
	_ func(int) string              = impl.FormatInt
	_ func(string) (int, bool)      = impl.ParseInt
)

// sampleNumbers contains the numbers next to each power of two, of both signs, and next to each power of ten.
func sampleNumbers() []int {
	l := []int{math.MinInt, math.MinInt + 1, math.MaxInt}
	add := func(n int) { l = append(l, n-1, n, n+1, -n-1, -n, -n+1) }
	for k := 0; k < 63; k++ {
		add(1 << k)
	}
	for n := 1; n <= 1000000000000000000/10; n *= 10 {
		add(n)
		add(7 * n)
	}
	for n := 0; n < 1000; n++ {
		l = append(l, n, n*258, n*70001)
	}
	return l
}

// textsOver contains all texts of at most most bytes over an alphabet.
func textsOver(alphabet string, most int) []string {
	all := []string{""}
	last := all
	for range most {
		var next []string
		for _, s := range last {
			for i := 0; i < len(alphabet); i++ {
				next = append(next, s+alphabet[i:i+1])
			}
		}
		all = append(all, next...)
		last = next
	}
	return all
}

// allBytes contains each byte once.
func allBytes() string {
	b := make([]byte, 256)
	for i := range b {
		b[i] = byte(i)
	}
	return string(b)
}

// wantFixed is EncodeFixed by the standard library.
func wantFixed(n int, width int) string {
	if width < 1 || width > 7 || n < 0 || n >= 1<<(8*width) {
		return ""
	}
	b := binary.BigEndian.AppendUint64(nil, uint64(n))
	return string(b[8-width:])
}

// wantVarint is EncodeVarint by the standard library.
func wantVarint(n int) string {
	if n < 0 || n > 562949953421311 {
		return ""
	}
	return string(binary.AppendUvarint(nil, uint64(n)))
}

func TestEncodeFixedExamples(t *testing.T) {
	cases := []struct {
		n, width int
		want     string
	}{
		{258, 2, "\x01\x02"},
		{0, 1, "\x00"},
		{0, 7, "\x00\x00\x00\x00\x00\x00\x00"},
		{255, 1, "\xff"},
		{256, 1, ""},
		{256, 2, "\x01\x00"},
		{65535, 2, "\xff\xff"},
		{65536, 2, ""},
		{1<<56 - 1, 7, "\xff\xff\xff\xff\xff\xff\xff"},
		{1 << 56, 7, ""},
		{math.MaxInt, 7, ""},
		{-1, 1, ""},
		{-1, 7, ""},
		{math.MinInt, 7, ""},
		{0, 0, ""},
		{0, -1, ""},
		{0, 8, ""},
		{1, 8, ""},
		{0, math.MaxInt, ""},
		{0, math.MinInt, ""},
	}
	for _, c := range cases {
		if got := impl.EncodeFixed(c.n, c.width); got != c.want {
			t.Errorf("EncodeFixed(%d, %d) = %q, want %q", c.n, c.width, got, c.want)
		}
	}
}

func TestEncodeFixedIsInverted(t *testing.T) {
	for width := -2; width <= 66; width++ {
		for _, n := range sampleNumbers() {
			s := impl.EncodeFixed(n, width)
			if s != wantFixed(n, width) {
				t.Fatalf("EncodeFixed(%d, %d) = %q, want %q", n, width, s, wantFixed(n, width))
			}
			if s == "" {
				continue
			}
			if got, ok := impl.DecodeFixed(s, width); got != n || !ok {
				t.Fatalf("DecodeFixed(%q, %d) = %d, %v, want %d", s, width, got, ok, n)
			}
			if got, ok := impl.DecodeFixed(s+"\xff\x01", width); got != n || !ok {
				t.Fatalf("DecodeFixed reads beyond the width %d of %q: %d, %v", width, s, got, ok)
			}
			if got, ok := impl.DecodeFixed(s[:width-1], width); got != 0 || ok {
				t.Fatalf("DecodeFixed accepts %q, which is cut off at width %d: %d, %v", s[:width-1], width, got, ok)
			}
		}
	}
}

func TestDecodeFixedIsInverted(t *testing.T) {
	for _, s := range textsOver("\x00\x01\x7f\x80\xff", 7) {
		for width := 1; width <= 7; width++ {
			n, ok := impl.DecodeFixed(s, width)
			if ok != (len(s) >= width) {
				t.Fatalf("DecodeFixed(%q, %d) = %d, %v", s, width, n, ok)
			}
			if !ok && n != 0 {
				t.Fatalf("DecodeFixed(%q, %d) returns %d with false", s, width, n)
			}
			if ok && impl.EncodeFixed(n, width) != s[:width] {
				t.Fatalf("DecodeFixed(%q, %d) = %d, which is encoded differently", s, width, n)
			}
		}
	}
}

func TestDecodeFixedRefuses(t *testing.T) {
	long := strings.Repeat("\x01", 80)
	for _, width := range []int{0, -1, -8, 8, 9, 64, math.MaxInt, math.MinInt} {
		for _, s := range []string{"", "\x01", long} {
			if n, ok := impl.DecodeFixed(s, width); n != 0 || ok {
				t.Errorf("DecodeFixed(%q, %d) = %d, %v", s, width, n, ok)
			}
		}
	}
	if n, ok := impl.DecodeFixed("", 1); n != 0 || ok {
		t.Errorf("DecodeFixed of the empty text = %d, %v", n, ok)
	}
}

func TestEncodeVarintExamples(t *testing.T) {
	cases := []struct {
		n    int
		want string
	}{
		{300, "\xac\x02"},
		{0, "\x00"},
		{1, "\x01"},
		{127, "\x7f"},
		{128, "\x80\x01"},
		{16383, "\xff\x7f"},
		{16384, "\x80\x80\x01"},
		{562949953421311, "\xff\xff\xff\xff\xff\xff\x7f"},
		{562949953421312, ""},
		{math.MaxInt, ""},
		{-1, ""},
		{math.MinInt, ""},
	}
	for _, c := range cases {
		if got := impl.EncodeVarint(c.n); got != c.want {
			t.Errorf("EncodeVarint(%d) = %q, want %q", c.n, got, c.want)
		}
	}
	if impl.MaxVarint != 562949953421311 {
		t.Errorf("MaxVarint = %d", impl.MaxVarint)
	}
}

func TestEncodeVarintIsInverted(t *testing.T) {
	for _, n := range sampleNumbers() {
		s := impl.EncodeVarint(n)
		if s != wantVarint(n) {
			t.Fatalf("EncodeVarint(%d) = %q, want %q", n, s, wantVarint(n))
		}
		if s == "" {
			continue
		}
		for _, tail := range []string{"", "\x00", "z", "\x80", "\xff\xff"} {
			if got, length := impl.DecodeVarint(s + tail); got != n || length != len(s) {
				t.Fatalf("DecodeVarint(%q) = %d, %d, want %d, %d", s+tail, got, length, n, len(s))
			}
		}
		for i := range len(s) {
			if got, length := impl.DecodeVarint(s[:i]); got != 0 || length != 0 {
				t.Fatalf("DecodeVarint accepts %q, which is cut off: %d, %d", s[:i], got, length)
			}
		}
	}
}

func TestDecodeVarintUnnecessaryBytes(t *testing.T) {
	for _, s := range []string{
		"\x80\x00",
		"\x80\x80\x00",
		"\x81\x00",
		"\xff\x00",
		"\xac\x82\x00",
		"\xac\x82\x80\x00",
		"\x80\x80\x80\x80\x80\x80\x00",
		"\xff\xff\xff\xff\xff\xff\x00",
		"\xff\xff\xff\xff\xff\xff\x80\x00",
		"\x80\x00\x01",
	} {
		if n, length := impl.DecodeVarint(s); n != 0 || length != 0 {
			t.Errorf("DecodeVarint(%q) = %d, %d, want 0, 0", s, n, length)
		}
	}
}

func TestDecodeVarintLimits(t *testing.T) {
	for _, s := range []string{
		"",
		"\x80",
		"\xff\xff\xff\xff\xff\xff",
		"\xff\xff\xff\xff\xff\xff\xff",
		"\x80\x80\x80\x80\x80\x80\x80\x01",
		"\xff\xff\xff\xff\xff\xff\xff\x7f",
		"\xff\xff\xff\xff\xff\xff\xff\xff\xff\x01",
		strings.Repeat("\x80", 100) + "\x01",
	} {
		if n, length := impl.DecodeVarint(s); n != 0 || length != 0 {
			t.Errorf("DecodeVarint(%q) = %d, %d, want 0, 0", s, n, length)
		}
	}
	if n, length := impl.DecodeVarint("\xff\xff\xff\xff\xff\xff\x7f"); n != impl.MaxVarint || length != 7 {
		t.Errorf("DecodeVarint of the greatest varint = %d, %d", n, length)
	}
	if n, length := impl.DecodeVarint("\x00\x80"); n != 0 || length != 1 {
		t.Errorf("DecodeVarint of 0 = %d, %d", n, length)
	}
}

func TestDecodeVarintIsInverted(t *testing.T) {
	for _, s := range append(textsOver("\x00\x01\x7f\x80\xff", 7), textsOver(allBytes(), 2)...) {
		n, length := impl.DecodeVarint(s)
		want := 0
		for i := 1; i <= len(s); i++ {
			// The standard library accepts unnecessary bytes, so its number is encoded again.
			if v, k := binary.Uvarint([]byte(s[:i])); k == i && wantVarint(int(v)) == s[:i] {
				want = i
			}
		}
		if length != want || impl.EncodeVarint(n) != s[:length] && length > 0 || length == 0 && n != 0 {
			t.Fatalf("DecodeVarint(%q) = %d, %d, want the length %d", s, n, length, want)
		}
	}
}

func TestEncodeHex(t *testing.T) {
	cases := []struct{ s, want string }{
		{"", ""},
		{"a\xff", "61ff"},
		{"\x00", "00"},
		{"\x0f\xf0", "0ff0"},
		{"\xab\xcd\xef", "abcdef"},
		{"\u00e9", "c3a9"},
	}
	for _, c := range cases {
		if got := impl.EncodeHex(c.s); got != c.want {
			t.Errorf("EncodeHex(%q) = %q, want %q", c.s, got, c.want)
		}
	}
	all := allBytes()
	if got := impl.EncodeHex(all); got != hex.EncodeToString([]byte(all)) {
		t.Errorf("EncodeHex of all bytes = %q", got)
	}
	for _, s := range append(textsOver(all, 1), all, all+all, strings.Repeat("\x00\xff", 1000)) {
		if got, ok := impl.DecodeHex(impl.EncodeHex(s)); got != s || !ok {
			t.Errorf("DecodeHex(EncodeHex(%q)) = %q, %v", s, got, ok)
		}
	}
}

func TestDecodeHexIsInverted(t *testing.T) {
	digits := "0123456789abcdef"
	for _, s := range append(textsOver(allBytes(), 2), textsOver("09afF\xc3", 5)...) {
		want := len(s)%2 == 0 && strings.Trim(s, digits) == ""
		got, ok := impl.DecodeHex(s)
		if ok != want {
			t.Fatalf("DecodeHex(%q) = %q, %v", s, got, ok)
		}
		if ok && impl.EncodeHex(got) != s || !ok && got != "" {
			t.Fatalf("DecodeHex(%q) = %q, %v", s, got, ok)
		}
	}
}

func TestDecodeHexRefuses(t *testing.T) {
	for _, s := range []string{"6F", "FF", "6", "616", "6g", "g6", "0x", " 61", "61 ", "6\x00", "\u00e9", "\uff161", "61\xff\xff", "61\u00e9", "\uff41", "-1", "+1", "61:62", "616/"} {
		if got, ok := impl.DecodeHex(s); got != "" || ok {
			t.Errorf("DecodeHex(%q) = %q, %v", s, got, ok)
		}
	}
	if got, ok := impl.DecodeHex(""); got != "" || !ok {
		t.Errorf("DecodeHex of the empty text = %q, %v", got, ok)
	}
}

func TestFormatInt(t *testing.T) {
	cases := []struct {
		n    int
		want string
	}{
		{0, "0"},
		{7, "7"},
		{-7, "-7"},
		{10, "10"},
		{-120, "-120"},
		{1000000000, "1000000000"},
		{math.MaxInt, "9223372036854775807"},
		{math.MinInt, "-9223372036854775808"},
	}
	for _, c := range cases {
		if got := impl.FormatInt(c.n); got != c.want {
			t.Errorf("FormatInt(%d) = %q, want %q", c.n, got, c.want)
		}
	}
}

func TestFormatIntIsInverted(t *testing.T) {
	for _, n := range sampleNumbers() {
		s := impl.FormatInt(n)
		if s != strconv.Itoa(n) {
			t.Fatalf("FormatInt(%d) = %q", n, s)
		}
		got, ok := impl.ParseInt(s)
		short := n >= -999999999 && n <= 999999999
		if short && (got != n || !ok) || !short && (got != 0 || ok) {
			t.Fatalf("ParseInt(%q) = %d, %v", s, got, ok)
		}
	}
}

func TestParseIntIsInverted(t *testing.T) {
	for _, s := range append(textsOver("019-+ ", 5), textsOver(allBytes(), 2)...) {
		n, err := strconv.Atoi(s)
		want := err == nil && strconv.Itoa(n) == s
		got, ok := impl.ParseInt(s)
		if ok != want || ok && got != n || !ok && got != 0 {
			t.Fatalf("ParseInt(%q) = %d, %v", s, got, ok)
		}
	}
}

func TestParseIntExamples(t *testing.T) {
	cases := []struct {
		s    string
		want int
	}{
		{"-7", -7},
		{"0", 0},
		{"10", 10},
		{"-100", -100},
		{"999999999", 999999999},
		{"-999999999", -999999999},
		{"100000000", 100000000},
		{"-100000000", -100000000},
	}
	for _, c := range cases {
		if got, ok := impl.ParseInt(c.s); got != c.want || !ok {
			t.Errorf("ParseInt(%q) = %d, %v, want %d", c.s, got, ok, c.want)
		}
	}
}

func TestParseIntRefuses(t *testing.T) {
	for _, s := range []string{
		"", "-", "--1", "-0", "-00", "00", "07", "-07", "+7", "+0", " 7", "7 ", "7\n", "\x007", "7-", "1-2",
		"1000000000", "-1000000000", "0999999999", "0000000001", "-0000000001", "9223372036854775807", "-9223372036854775808",
		"18446744073709551617", "99999999999999999999999", strings.Repeat("1", 5000),
		"1_000", "1.0", "1e3", "0x1", "1a", "a", "\u0661", "\uff11", "1\xff", "\xff", "\u22121", "\u20131",
	} {
		if n, ok := impl.ParseInt(s); n != 0 || ok {
			t.Errorf("ParseInt(%q) = %d, %v", s, n, ok)
		}
	}
}
