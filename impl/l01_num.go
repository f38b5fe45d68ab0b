package impl

import (
	"strconv"
	"strings"
)

const MaxVarint = 562949953421311

// With at most 7 bytes, or 7 groups of 7 bits, no shift reaches the sign bit.
const maxFixedWidth = 7
const maxVarintLength = 7

const maxParsedDigits = 9

const hexDigits = "0123456789abcdef"

func EncodeFixed(n int, width int) string {
	if !isFixedWidth(width) || n < 0 || n>>(8*width) != 0 {
		return ""
	}
	b := make([]byte, width)
	for i := width - 1; i >= 0; i-- {
		b[i] = byte(n)
		n >>= 8
	}
	return string(b)
}

func DecodeFixed(s string, width int) (int, bool) {
	if !isFixedWidth(width) || len(s) < width {
		return 0, false
	}
	n := 0
	for i := 0; i < width; i++ {
		n = n<<8 | int(s[i])
	}
	return n, true
}

func isFixedWidth(width int) bool {
	return width >= 1 && width <= maxFixedWidth
}

func EncodeVarint(n int) string {
	if n < 0 || n > MaxVarint {
		return ""
	}
	var b []byte
	for n >= 128 {
		b = append(b, byte(n%128+128))
		n /= 128
	}
	return string(append(b, byte(n)))
}

func DecodeVarint(s string) (int, int) {
	n := 0
	for i := 0; i < len(s) && i < maxVarintLength; i++ {
		n |= int(s[i]%128) << (7 * i)
		if s[i] >= 128 {
			continue
		}
		// A highest group of 0 would be an unnecessary byte, except for the number 0 itself.
		if i > 0 && s[i] == 0 {
			return 0, 0
		}
		return n, i + 1
	}
	return 0, 0
}

func EncodeHex(s string) string {
	b := make([]byte, 0, 2*len(s))
	for i := 0; i < len(s); i++ {
		b = append(b, hexDigits[s[i]>>4], hexDigits[s[i]&15])
	}
	return string(b)
}

func DecodeHex(s string) (string, bool) {
	if len(s)%2 != 0 {
		return "", false
	}
	b := make([]byte, len(s)/2)
	// Every rune before one that is refused is a single byte, so i counts digits, too.
	for i, r := range s {
		v := hexValue(r)
		if v < 0 {
			return "", false
		}
		b[i/2] = b[i/2]<<4 | byte(v)
	}
	return string(b), true
}

// hexValue returns -1 for a rune that EncodeHex never writes.
func hexValue(r rune) int {
	return strings.IndexRune(hexDigits, r)
}

func FormatInt(n int) string {
	return strconv.Itoa(n)
}

func ParseInt(s string) (int, bool) {
	digits := strings.TrimPrefix(s, "-")
	if len(digits) > maxParsedDigits {
		return 0, false
	}
	n := 0
	for _, r := range digits {
		n = n*10 + int(r-'0')
	}
	if len(digits) < len(s) {
		n = -n
	}
	// Formatting again refuses the empty text, -0, leading zeros and runes that are no digits.
	if FormatInt(n) != s {
		return 0, false
	}
	return n, true
}
