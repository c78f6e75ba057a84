package tests

import (
	"math"
	"strconv"
	"strings"
	"testing"

	"loop.example/g01543/impl"
)

// Each test here belongs to promise 1: each decoder is the inverse of its
// encoder and accepts nothing else.

// wordsOver returns all strings of at most most bytes of this alphabet.
func wordsOver(alphabet string, most int) []string {
	all := []string{""}
	last := all
	for range most {
		var longer []string
		for _, s := range last {
			for i := range len(alphabet) {
				longer = append(longer, s+alphabet[i:i+1])
			}
		}
		all = append(all, longer...)
		last = longer
	}
	return all
}

func everyByte() string {
	var b []byte
	for i := range 256 {
		b = append(b, byte(i))
	}
	return string(b)
}

// nearPowers returns the numbers at and beside each power of two, and the
// ends of the range of int.
func nearPowers() []int {
	l := []int{0, math.MaxInt, math.MinInt}
	for k := range 63 {
		for d := -1; d <= 1; d++ {
			l = append(l, 1<<k+d, -(1<<k)+d)
		}
	}
	return l
}

func TestP1FixedExamples(t *testing.T) {
	for _, c := range []struct {
		n, width int
		want     string
	}{
		{258, 2, "\x01\x02"},
		{0, 1, "\x00"},
		{255, 1, "\xff"},
		{256, 1, ""},
		{1, 7, "\x00\x00\x00\x00\x00\x00\x01"},
		{0x01020304050607, 7, "\x01\x02\x03\x04\x05\x06\x07"},
		{1<<56 - 1, 7, "\xff\xff\xff\xff\xff\xff\xff"},
		{1 << 56, 7, ""},
		{math.MaxInt, 7, ""},
		{-1, 7, ""},
		{math.MinInt, 7, ""},
		{0, 0, ""},
		{0, 8, ""},
		{0, -1, ""},
		{0, math.MaxInt, ""},
		{0, math.MinInt, ""},
	} {
		if got := impl.Fixed(c.n, c.width); got != c.want {
			t.Errorf("Fixed(%d, %d) = %q, want %q", c.n, c.width, got, c.want)
		}
	}
}

func TestP1FixedIsReadBack(t *testing.T) {
	for width := 1; width <= 7; width++ {
		for _, n := range nearPowers() {
			s := impl.Fixed(n, width)
			if n < 0 || n >= 1<<(8*width) {
				if s != "" {
					t.Errorf("Fixed(%d, %d) = %q", n, width, s)
				}
				continue
			}
			if len(s) != width {
				t.Errorf("Fixed(%d, %d) = %q", n, width, s)
			}
			for _, rest := range []string{"", "\x00", "\xff\x80", "more bytes"} {
				if got, ok := impl.ReadFixed(s+rest, width); got != n || !ok {
					t.Errorf("ReadFixed(%q, %d) = %d, %v, want %d", s+rest, width, got, ok, n)
				}
			}
		}
	}
}

func TestP1ReadFixedAcceptsEnoughBytes(t *testing.T) {
	for _, s := range append(wordsOver(everyByte(), 2), wordsOver("\x00\x7f\xff", 8)...) {
		for width := -1; width <= 9; width++ {
			n, ok := impl.ReadFixed(s, width)
			if ok != (width >= 1 && width <= 7 && len(s) >= width) {
				t.Fatalf("ReadFixed(%q, %d): %v", s, width, ok)
			}
			if !ok && n != 0 {
				t.Fatalf("ReadFixed(%q, %d) = %d without a value", s, width, n)
			}
			if ok && impl.Fixed(n, width) != s[:width] {
				t.Fatalf("ReadFixed(%q, %d) = %d, which has another encoding", s, width, n)
			}
		}
	}
}

func TestP1ReadFixedOfStrangeWidths(t *testing.T) {
	s := strings.Repeat("\x01", 20)
	for _, width := range []int{0, 8, 9, 20, -1, -7, math.MaxInt, math.MinInt} {
		if n, ok := impl.ReadFixed(s, width); n != 0 || ok {
			t.Errorf("ReadFixed of width %d = %d, %v", width, n, ok)
		}
	}
}

func TestP1VarExamples(t *testing.T) {
	for _, c := range []struct {
		n    int
		want string
	}{
		{0, "\x00"},
		{1, "\x01"},
		{127, "\x7f"},
		{128, "\x80\x01"},
		{300, "\xac\x02"},
		{16383, "\xff\x7f"},
		{16384, "\x80\x80\x01"},
		{1<<42 - 1, "\xff\xff\xff\xff\xff\x7f"},
		{1 << 42, "\x80\x80\x80\x80\x80\x80\x01"},
		{impl.MaxVar, "\xff\xff\xff\xff\xff\xff\x7f"},
		{impl.MaxVar + 1, ""},
		{math.MaxInt, ""},
		{-1, ""},
		{math.MinInt, ""},
	} {
		if got := impl.Var(c.n); got != c.want {
			t.Errorf("Var(%d) = %q, want %q", c.n, got, c.want)
		}
	}
	if impl.MaxVar != 562949953421311 {
		t.Error("MaxVar")
	}
}

func TestP1VarIsReadBack(t *testing.T) {
	numbers := append(nearPowers(), impl.MaxVar-1, impl.MaxVar, impl.MaxVar+1)
	for n := range 70000 {
		numbers = append(numbers, n)
	}
	for _, n := range numbers {
		s := impl.Var(n)
		if n < 0 || n > impl.MaxVar {
			if s != "" {
				t.Errorf("Var(%d) = %q", n, s)
			}
			continue
		}
		for _, rest := range []string{"", "\x00", "\xff\x80", "more bytes"} {
			if got, k := impl.ReadVar(s + rest); got != n || k != len(s) || k == 0 {
				t.Errorf("ReadVar(%q) = %d, %d, want %d", s+rest, got, k, n)
			}
		}
	}
}

// prefixOf returns the number of the encoding that is a prefix of s, and its
// length; 0 and 0 if there is none.
func prefixOf(s string, encodings map[string]int) (int, int) {
	for k := range len(s) + 1 {
		if n, ok := encodings[s[:k]]; ok {
			return n, k
		}
	}
	return 0, 0
}

func TestP1ReadVarAcceptsNothingElse(t *testing.T) {
	t.Parallel()
	encodings := map[string]int{}
	for n := range 1 << 14 {
		encodings[impl.Var(n)] = n
	}
	for _, s := range wordsOver(everyByte(), 2) {
		want, length := prefixOf(s, encodings)
		if n, k := impl.ReadVar(s); n != want || k != length {
			t.Fatalf("ReadVar(%q) = %d, %d, want %d, %d", s, n, k, want, length)
		}
	}
	for _, s := range wordsOver("\x00\x01\x7f\x80\xff", 9) {
		n, k := impl.ReadVar(s)
		if k == 0 && n != 0 || k > 0 && impl.Var(n) != s[:k] {
			t.Fatalf("ReadVar(%q) = %d, %d", s, n, k)
		}
	}
}

func TestP1ReadVarInvalid(t *testing.T) {
	for _, s := range []string{
		"",
		"\x80",
		"\xff\xff\xff",
		"\x80\x00",
		"\x81\x00",
		"\xac\x82\x00",
		"\xff\xff\xff\xff\xff\xff\x00",
		"\x80\x80\x80\x80\x80\x80\x80",
		"\x80\x80\x80\x80\x80\x80\x80\x01",
		"\xff\xff\xff\xff\xff\xff\xff\x7f",
		"\x80\x80\x80\x80\x80\x80\x80\x80\x80\x01",
		strings.Repeat("\x80", 1000) + "\x01",
	} {
		if n, k := impl.ReadVar(s); n != 0 || k != 0 {
			t.Errorf("ReadVar(%q) = %d, %d", s, n, k)
		}
	}
}

func TestP1HexExamples(t *testing.T) {
	for _, c := range [][2]string{
		{"", ""},
		{"\x00", "00"},
		{"a\xff", "61ff"},
		{"\x0a\xb0", "0ab0"},
		{"\xe4\xb8\xad", "e4b8ad"},
		{"\x01\x23\x45\x67\x89\xab\xcd\xef", "0123456789abcdef"},
	} {
		if got := impl.Hex(c[0]); got != c[1] {
			t.Errorf("Hex(%q) = %q, want %q", c[0], got, c[1])
		}
		if got, ok := impl.Unhex(c[1]); got != c[0] || !ok {
			t.Errorf("Unhex(%q) = %q, %v, want %q", c[1], got, ok, c[0])
		}
	}
}

func TestP1HexIsReadBack(t *testing.T) {
	for _, s := range append(wordsOver(everyByte(), 2), everyByte(), strings.Repeat("\xf0\x0f", 3000)) {
		if got, ok := impl.Unhex(impl.Hex(s)); got != s || !ok {
			t.Fatalf("Unhex(%q) = %q, %v", impl.Hex(s), got, ok)
		}
	}
}

func TestP1UnhexAcceptsNothingElse(t *testing.T) {
	formats := map[string]string{}
	for _, s := range wordsOver(everyByte(), 1) {
		formats[impl.Hex(s)] = s
	}
	for _, s := range wordsOver(everyByte(), 2) {
		want, valid := formats[s]
		if got, ok := impl.Unhex(s); got != want || ok != valid {
			t.Fatalf("Unhex(%q) = %q, %v, want %q, %v", s, got, ok, want, valid)
		}
	}
	for _, s := range []string{"6", "61f", "6F", "F6", "61fF", "0x", "g0", "0g", " 61", "61 ", "6:", "/6", "61\x00\x00", "61zz", "zz61", "61ff6"} {
		if got, ok := impl.Unhex(s); got != "" || ok {
			t.Errorf("Unhex(%q) = %q, %v", s, got, ok)
		}
	}
}

func TestP1DecExamples(t *testing.T) {
	for _, c := range []struct {
		n    int
		want string
	}{
		{0, "0"},
		{7, "7"},
		{-7, "-7"},
		{10, "10"},
		{-120, "-120"},
		{999999999, "999999999"},
		{1000000000, "1000000000"},
		{-1000000000, "-1000000000"},
		{math.MaxInt, "9223372036854775807"},
		{math.MinInt, "-9223372036854775808"},
	} {
		if got := impl.Dec(c.n); got != c.want {
			t.Errorf("Dec(%d) = %q, want %q", c.n, got, c.want)
		}
	}
	for _, n := range nearPowers() {
		if got := impl.Dec(n); got != strconv.FormatInt(int64(n), 10) {
			t.Errorf("Dec(%d) = %q", n, got)
		}
	}
}

func TestP1DecIsReadBack(t *testing.T) {
	numbers := append(nearPowers(), 999999998, 999999999, 1000000000, -999999998, -999999999, -1000000000)
	for n := -100000; n <= 100000; n++ {
		numbers = append(numbers, n)
	}
	for _, n := range numbers {
		got, ok := impl.ReadDec(impl.Dec(n))
		if n < -999999999 || n > 999999999 {
			if got != 0 || ok {
				t.Errorf("ReadDec(%q) = %d, %v", impl.Dec(n), got, ok)
			}
			continue
		}
		if got != n || !ok {
			t.Errorf("ReadDec(%q) = %d, %v", impl.Dec(n), got, ok)
		}
	}
}

func TestP1ReadDecAcceptsNothingElse(t *testing.T) {
	formats := map[string]int{}
	for n := -9999; n <= 99999; n++ {
		formats[impl.Dec(n)] = n
	}
	for _, s := range append(wordsOver("-+0189 _.", 5), wordsOver(everyByte(), 2)...) {
		want, valid := formats[s]
		if got, ok := impl.ReadDec(s); got != want || ok != valid {
			t.Fatalf("ReadDec(%q) = %d, %v, want %d, %v", s, got, ok, want, valid)
		}
	}
}

func TestP1ReadDecInvalid(t *testing.T) {
	for _, s := range []string{
		"", "-", "--1", "+1", "-+1", "07", "-07", "00", "-0", "1-", " 1", "1 ", "1\n", "0x1", "1_000", "1.0", "1e3",
		"000000001", "0000000001", "-0000000001", "1000000000", "-1000000000", "1234567890", "9999999999",
		"9223372036854775807", "-9223372036854775808", "9223372036854775808", "18446744073709551617",
		"\xd9\xa1", strings.Repeat("9", 10000), strings.Repeat("0", 10000), strings.Repeat("-", 10000),
	} {
		if n, ok := impl.ReadDec(s); n != 0 || ok {
			t.Errorf("ReadDec(%.30q) = %d, %v", s, n, ok)
		}
	}
}
