package tests

import (
	"math"
	"strings"
	"testing"

	"loop.example/g01543/impl"
)

// Each test here belongs to promise 2, as far as chapter 2 goes: the character
// classes on which keywords, builtins and names rest.

const (
	lettersWanted = "abcdefghijklmnopqrstuvwxyzABCDEFGHIJKLMNOPQRSTUVWXYZ_"
	digitsWanted  = "0123456789"
	blanksWanted  = " \t"
)

// byteIn looks b up without narrowing it, so that no number beyond a byte is
// taken for the byte of its low bits.
func byteIn(b int, set string) bool {
	for i := range len(set) {
		if int(set[i]) == b {
			return true
		}
	}
	return false
}

func checkClasses(t *testing.T, b int) {
	t.Helper()
	letter, digit, blank := byteIn(b, lettersWanted), byteIn(b, digitsWanted), byteIn(b, blanksWanted)
	if got := impl.IsLetter(b); got != letter {
		t.Errorf("IsLetter(%d) = %v", b, got)
	}
	if got := impl.IsDigit(b); got != digit {
		t.Errorf("IsDigit(%d) = %v", b, got)
	}
	if got := impl.IsBlank(b); got != blank {
		t.Errorf("IsBlank(%d) = %v", b, got)
	}
	if got := impl.IsWordByte(b); got != (letter || digit) {
		t.Errorf("IsWordByte(%d) = %v", b, got)
	}
}

func TestP2ClassesOfEachByte(t *testing.T) {
	for b := range 256 {
		checkClasses(t, b)
	}
}

func TestP2ClassExamples(t *testing.T) {
	for _, c := range []struct {
		b                          int
		letter, digit, blank, word bool
	}{
		{'a', true, false, false, true},
		{'z', true, false, false, true},
		{'A', true, false, false, true},
		{'Z', true, false, false, true},
		{'_', true, false, false, true},
		{'0', false, true, false, true},
		{'9', false, true, false, true},
		{32, false, false, true, false},
		{9, false, false, true, false},
		{'`', false, false, false, false},
		{'{', false, false, false, false},
		{'@', false, false, false, false},
		{'[', false, false, false, false},
		{'^', false, false, false, false},
		{'/', false, false, false, false},
		{':', false, false, false, false},
		{8, false, false, false, false},
		{'\n', false, false, false, false},
		{'\v', false, false, false, false},
		{'\r', false, false, false, false},
		{31, false, false, false, false},
		{33, false, false, false, false},
		{0, false, false, false, false},
		{127, false, false, false, false},
		{128, false, false, false, false},
		{0xa0, false, false, false, false},
		{0xb2, false, false, false, false},
		{0xe4, false, false, false, false},
		{255, false, false, false, false},
	} {
		if impl.IsLetter(c.b) != c.letter || impl.IsDigit(c.b) != c.digit || impl.IsBlank(c.b) != c.blank || impl.IsWordByte(c.b) != c.word {
			t.Errorf("%d: letter %v, digit %v, blank %v, word %v", c.b, impl.IsLetter(c.b), impl.IsDigit(c.b), impl.IsBlank(c.b), impl.IsWordByte(c.b))
		}
	}
}

func TestP2ClassesOfNoByte(t *testing.T) {
	numbers := []int{-1, 256, math.MinInt, math.MaxInt, 0x660, 0xff21}
	for b := range 256 {
		numbers = append(numbers, b-256, b+256, b-65536, b+65536, b+1<<32, b-1<<32, -b-1, math.MinInt+b)
	}
	for _, b := range numbers {
		if impl.IsLetter(b) || impl.IsDigit(b) || impl.IsBlank(b) || impl.IsWordByte(b) {
			t.Errorf("%d is no byte, but has a class", b)
		}
	}
	for b := -70000; b <= 70000; b++ {
		checkClasses(t, b)
	}
}

func TestP2ClassesAreDisjoint(t *testing.T) {
	count := [4]int{}
	for b := range 256 {
		letter, digit, blank := impl.IsLetter(b), impl.IsDigit(b), impl.IsBlank(b)
		if letter && digit || letter && blank || digit && blank {
			t.Errorf("%d has two classes", b)
		}
		for k, is := range []bool{letter, digit, blank, impl.IsWordByte(b)} {
			if is {
				count[k]++
			}
		}
	}
	if count != [4]int{53, 10, 2, 63} {
		t.Error("letters, digits, blanks, word bytes:", count)
	}
}

func TestP2NameShapeExamples(t *testing.T) {
	for _, s := range []string{
		"a", "Z", "_", "a1_", "__", "_0", "x9y", "NF", "BEGIN", "while", "length", "aaaaaaaaaaaa", "abcdefghijkl", "a12345678901", "____________",
	} {
		if !impl.NameShape(s) {
			t.Errorf("NameShape(%q) is false", s)
		}
	}
	for _, s := range []string{
		"", "0", "9", "1a", "0_", "123", "abcdefghijklm", "_____________", "1bcdefghijkl", " ", "\t", " a", "a ", "a\t", "a b", "a\n", "\na", "a-b", "-a", "a.b",
		"a$", "$a", "a(", "a\x00", "\x00", "\x00a", "\xff", "a\xff", "\xc3\xa4", "a\xc3\xa4", "\xd9\xa1", "x\xd9\xa1", "abcdefghijk ", "abcdefghijk\xe4",
	} {
		if impl.NameShape(s) {
			t.Errorf("NameShape(%q) is true", s)
		}
	}
}

func TestP2NameShapeLengths(t *testing.T) {
	if impl.MaxName != 12 {
		t.Error("MaxName")
	}
	for n := range 300 {
		for _, s := range []string{strings.Repeat("n", n), strings.Repeat("_", n), ("k" + strings.Repeat("7", n))[:n]} {
			if got := impl.NameShape(s); got != (n >= 1 && n <= 12) {
				t.Errorf("NameShape(%q) = %v", s, got)
			}
		}
	}
	if impl.NameShape(strings.Repeat("a", 1<<20)) {
		t.Error("a long name")
	}
}

func TestP2NameShapeOfShortStrings(t *testing.T) {
	for _, s := range wordsOver(everyByte(), 2) {
		want := s != "" && byteIn(int(s[0]), lettersWanted)
		for i := range len(s) {
			want = want && byteIn(int(s[i]), lettersWanted+digitsWanted)
		}
		if got := impl.NameShape(s); got != want {
			t.Fatalf("NameShape(%q) = %v", s, got)
		}
	}
}

func TestP2NameShapeAtEachPlace(t *testing.T) {
	name := "aB_0z9Z1y2X_"
	for n := 1; n <= impl.MaxName; n++ {
		for i := range n {
			for b := range 256 {
				s := name[:i] + string([]byte{byte(b)}) + name[i+1:n]
				want := byteIn(b, lettersWanted) || i > 0 && byteIn(b, digitsWanted)
				if got := impl.NameShape(s); got != want {
					t.Errorf("NameShape(%q) = %v", s, got)
				}
			}
		}
	}
}
