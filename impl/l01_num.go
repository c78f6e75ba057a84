package impl

import (
	"strconv"
	"strings"
)

const MaxVar = 562949953421311

// maxWidth bytes hold 56 bits, so every number of Fixed is an int.
const maxWidth = 7

// maxVarBytes is the length of the varint of MaxVar.
const maxVarBytes = 7

const maxDecDigits = 9

const hexDigits = "0123456789abcdef"

func widthOk(width int) bool {
	return width >= 1 && width <= maxWidth
}

func Fixed(n int, width int) string {
	if !widthOk(width) || n < 0 || n>>(8*width) != 0 {
		return ""
	}
	b := make([]byte, width)
	for i := range b {
		b[i] = byte(n >> (8 * (width - 1 - i)))
	}
	return string(b)
}

func ReadFixed(s string, width int) (int, bool) {
	if !widthOk(width) || len(s) < width {
		return 0, false
	}
	n := 0
	for i := range width {
		n = n<<8 | int(s[i])
	}
	return n, true
}

func Var(n int) string {
	if n < 0 || n > MaxVar {
		return ""
	}
	b := make([]byte, 0, maxVarBytes)
	for n >= 128 {
		b = append(b, byte(n%128+128))
		n /= 128
	}
	return string(append(b, byte(n)))
}

func ReadVar(s string) (int, int) {
	n := 0
	for i := range min(len(s), maxVarBytes) {
		n |= int(s[i]%128) << (7 * i)
		if s[i] < 128 {
			return shortestVar(n, s[:i+1])
		}
	}
	return 0, 0
}

// shortestVar rejects a varint with more bytes than necessary: Var writes
// another one for its number.
func shortestVar(n int, s string) (int, int) {
	if Var(n) != s {
		return 0, 0
	}
	return n, len(s)
}

func Hex(s string) string {
	b := make([]byte, 0, 2*len(s))
	for i := range len(s) {
		b = append(b, hexDigits[s[i]/16], hexDigits[s[i]%16])
	}
	return string(b)
}

func Unhex(s string) (string, bool) {
	if len(s)%2 != 0 {
		return "", false
	}
	b := make([]byte, 0, len(s)/2)
	for i := 0; i < len(s); i += 2 {
		high := strings.IndexByte(hexDigits, s[i])
		low := strings.IndexByte(hexDigits, s[i+1])
		if high < 0 || low < 0 {
			return "", false
		}
		b = append(b, byte(16*high+low))
	}
	return string(b), true
}

func Dec(n int) string {
	return strconv.Itoa(n)
}

func ReadDec(s string) (int, bool) {
	if len(strings.TrimPrefix(s, "-")) > maxDecDigits {
		return 0, false
	}
	n, err := strconv.Atoi(s)
	// Atoi also accepts a leading +, leading zeros and -0, which Dec never writes.
	if err != nil || Dec(n) != s {
		return 0, false
	}
	return n, true
}
