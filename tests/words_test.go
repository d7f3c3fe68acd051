package tests

import (
	"math"
	"slices"
	"strings"
	"testing"

	"loop.example/g00972/impl"
)

// everyByte holds each of the 256 bytes once.
func everyByte() string {
	b := make([]byte, 256)
	for i := range b {
		b[i] = byte(i)
	}
	return string(b)
}

func TestWordsLimits(t *testing.T) {
	if impl.MaxText != 20000 || impl.MaxNumber != 1000000000 || impl.MaxWords != 600 || impl.MaxParts != 12 {
		t.Error("limits", impl.MaxText, impl.MaxNumber, impl.MaxWords, impl.MaxParts)
	}
}

func TestHex(t *testing.T) {
	for _, c := range []struct {
		text, want string
	}{
		{"", ""},
		{"az", "617a"},
		{"\x00", "00"},
		{"\x0f\xf0", "0ff0"},
		{"\xff", "ff"},
		{"\xab\xcd\xef", "abcdef"},
		{"\x01\x23\x45\x67\x89", "0123456789"},
		{"é", "c3a9"},
		{"a b\n", "6120620a"},
		{strings.Repeat("z", impl.MaxText), strings.Repeat("7a", impl.MaxText)},
	} {
		if got, ok := impl.Hex(c.text); !ok || got != c.want {
			t.Errorf("Hex(%.20q) = %.20q, %v", c.text, got, ok)
		}
	}
}

func TestHexTooLong(t *testing.T) {
	for _, n := range []int{impl.MaxText + 1, 2 * impl.MaxText} {
		if got, ok := impl.Hex(strings.Repeat("z", n)); ok || got != "" {
			t.Errorf("Hex of %d bytes = %.20q, %v", n, got, ok)
		}
	}
}

func TestUnhex(t *testing.T) {
	for _, c := range []struct {
		text, want string
	}{
		{"", ""},
		{"617a", "az"},
		{"00", "\x00"},
		{"0ff0", "\x0f\xf0"},
		{"abcdef0123456789", "\xab\xcd\xef\x01\x23\x45\x67\x89"},
		{strings.Repeat("7a", impl.MaxText), strings.Repeat("z", impl.MaxText)},
	} {
		if got, ok := impl.Unhex(c.text); !ok || got != c.want {
			t.Errorf("Unhex(%.20q) = %.20q, %v", c.text, got, ok)
		}
	}
}

func TestUnhexRejects(t *testing.T) {
	for _, text := range []string{
		"6", "617", "7A", "A7", "aF", "0x61", "6g", "g6", "/0", "0/", ":0", "0:", "`0", "0`", "@1", "G1",
		" 61", "61 ", "6 1 ", "-1", "+1", "\x00\x00", "é", "617z", "6161zz",
		strings.Repeat("7a", impl.MaxText+1),
		strings.Repeat("7a", impl.MaxText) + "7",
	} {
		if got, ok := impl.Unhex(text); ok || got != "" {
			t.Errorf("Unhex(%.20q) = %.20q, %v", text, got, ok)
		}
	}
}

// TestUnhexDigits checks each pair of bytes, of which only two lowercase digits are accepted.
func TestUnhexDigits(t *testing.T) {
	const digits = "0123456789abcdef"
	for a := range 256 {
		for b := range 256 {
			text := string([]byte{byte(a), byte(b)})
			high, low := strings.IndexByte(digits, byte(a)), strings.IndexByte(digits, byte(b))
			want, valid := "", high >= 0 && low >= 0
			if valid {
				want = string([]byte{byte(16*high + low)})
			}
			if got, ok := impl.Unhex(text); ok != valid || got != want {
				t.Errorf("Unhex(%q) = %q, %v", text, got, ok)
			}
		}
	}
}

func TestHexInverse(t *testing.T) {
	texts := []string{"", "a", "add 1", everyByte(), strings.Repeat("\xff", impl.MaxText), strings.Repeat(everyByte(), 78)}
	for _, text := range texts {
		coded, ok := impl.Hex(text)
		back, right := impl.Unhex(coded)
		if !ok || !right || back != text || len(coded) != 2*len(text) {
			t.Errorf("%.20q -> %.20q (%v) -> %.20q (%v)", text, coded, ok, back, right)
		}
		again, good := impl.Hex(back)
		if !good || again != coded {
			t.Errorf("%.20q -> %.20q (%v)", coded, again, good)
		}
	}
}

func TestDecimal(t *testing.T) {
	for _, c := range []struct {
		n    int
		want string
	}{
		{0, "0"},
		{1, "1"},
		{-1, "-1"},
		{9, "9"},
		{10, "10"},
		{-10, "-10"},
		{907, "907"},
		{-5, "-5"},
		{impl.MaxNumber, "1000000000"},
		{impl.MaxNumber + 1, "1000000001"},
		{-impl.MaxNumber, "-1000000000"},
		{math.MaxInt, "9223372036854775807"},
		{math.MinInt + 1, "-9223372036854775807"},
		{math.MinInt, "-9223372036854775808"},
	} {
		if got := impl.Decimal(c.n); got != c.want {
			t.Errorf("Decimal(%d) = %q", c.n, got)
		}
	}
}

func TestReadDecimal(t *testing.T) {
	for _, c := range []struct {
		text string
		want int
	}{
		{"0", 0},
		{"1", 1},
		{"9", 9},
		{"10", 10},
		{"100", 100},
		{"123456789", 123456789},
		{"999999999", 999999999},
		{"1000000000", impl.MaxNumber},
	} {
		if got, ok := impl.ReadDecimal(c.text); !ok || got != c.want {
			t.Errorf("ReadDecimal(%q) = %d, %v", c.text, got, ok)
		}
	}
}

func TestReadDecimalRejects(t *testing.T) {
	for _, text := range []string{
		"", "00", "01", "007", "0000000001", "01000000000",
		"-1", "-0", "-", "+", "+1", "+0",
		"1000000001", "9999999999", "10000000000",
		"9223372036854775807", "9223372036854775808", "18446744073709551616", "18446744073709551617",
		strings.Repeat("1", 100), strings.Repeat("0", 100),
		" 1", "1 ", "1 2", "\n", "1\n", "\x001", "1.0", "1e3", "1_000", "0x1", "a", "1a", "a1", "/", ":", "1/", "1:", "٣", "１",
	} {
		if got, ok := impl.ReadDecimal(text); ok || got != 0 {
			t.Errorf("ReadDecimal(%.30q) = %d, %v", text, got, ok)
		}
	}
}

// TestReadDecimalBytes checks each byte alone and after a digit.
func TestReadDecimalBytes(t *testing.T) {
	for b := range 256 {
		digit := b >= '0' && b <= '9'
		one, two := 0, 0
		if digit {
			one, two = b-'0', 70+b-'0'
		}
		if got, ok := impl.ReadDecimal(string([]byte{byte(b)})); ok != digit || got != one {
			t.Errorf("byte %d: %d, %v", b, got, ok)
		}
		if got, ok := impl.ReadDecimal(string([]byte{'7', byte(b)})); ok != digit || got != two {
			t.Errorf("7 and byte %d: %d, %v", b, got, ok)
		}
	}
}

func TestDecimalInverse(t *testing.T) {
	numbers := []int{impl.MaxNumber - 1, impl.MaxNumber}
	for n := range 2000 {
		numbers = append(numbers, n)
	}
	for n := 1; n <= impl.MaxNumber; n *= 10 {
		numbers = append(numbers, n-1, n, n+n/7)
	}
	for _, n := range numbers {
		text := impl.Decimal(n)
		back, ok := impl.ReadDecimal(text)
		if valid := n <= impl.MaxNumber; ok != valid || valid && (back != n || impl.Decimal(back) != text) {
			t.Errorf("%d -> %q -> %d, %v", n, text, back, ok)
		}
	}
}

func TestDecimalOutsideIsNotRead(t *testing.T) {
	for _, n := range []int{-1, -impl.MaxNumber, impl.MaxNumber + 1, math.MaxInt, math.MinInt} {
		if got, ok := impl.ReadDecimal(impl.Decimal(n)); ok || got != 0 {
			t.Errorf("%d was read as %d, %v", n, got, ok)
		}
	}
}

func TestPartsOf(t *testing.T) {
	for _, c := range []struct {
		line string
		want []string
	}{
		{"", nil},
		{" ", nil},
		{"     ", nil},
		{strings.Repeat(" ", impl.MaxWords), nil},
		{"a", []string{"a"}},
		{"add", []string{"add"}},
		{" add  1 ", []string{"add", "1"}},
		{"   add", []string{"add"}},
		{"add   ", []string{"add"}},
		{"insert 0 1 2", []string{"insert", "0", "1", "2"}},
		{"a a  a", []string{"a", "a", "a"}},
		{"! ~", []string{"!", "~"}},
		{"#,:-%*", []string{"#,:-%*"}},
		{strings.Repeat("x", impl.MaxWords), []string{strings.Repeat("x", impl.MaxWords)}},
		{"1 2 3 4 5 6 7 8 9 10 11 12", []string{"1", "2", "3", "4", "5", "6", "7", "8", "9", "10", "11", "12"}},
		{"  1 2 3 4 5 6 7 8 9 10 11   12  ", []string{"1", "2", "3", "4", "5", "6", "7", "8", "9", "10", "11", "12"}},
	} {
		if got, ok := impl.PartsOf(c.line); !ok || !slices.Equal(got, c.want) {
			t.Errorf("PartsOf(%.40q) = %.40q, %v", c.line, got, ok)
		}
	}
}

func TestPartsOfRejects(t *testing.T) {
	for _, line := range []string{
		strings.Repeat("x", impl.MaxWords+1),
		strings.Repeat(" ", impl.MaxWords+1),
		"1 2 3 4 5 6 7 8 9 10 11 12 13",
		" 1 2 3 4 5 6 7 8 9 10 11 12 13 ",
		strings.Repeat("x ", 300),
		"\t", "add\t1", "add 1\n", "\nadd", "add\r", "a \x00", "\x7f", "a\x7fb", "é", "add \xff",
		strings.Repeat("x", impl.MaxWords-1) + "\x1f",
	} {
		if got, ok := impl.PartsOf(line); ok || len(got) != 0 {
			t.Errorf("PartsOf(%.40q) = %.40q, %v", line, got, ok)
		}
	}
}

// TestPartsOfBytes checks each byte at the beginning, in the middle and at the end of a line.
func TestPartsOfBytes(t *testing.T) {
	for b := range 256 {
		s := string([]byte{byte(b)})
		for _, c := range []struct {
			line   string
			joined []string
			split  []string
		}{
			{s, []string{s}, nil},
			{s + "ab", []string{s + "ab"}, []string{"ab"}},
			{"a" + s + "b", []string{"a" + s + "b"}, []string{"a", "b"}},
			{"ab" + s, []string{"ab" + s}, []string{"ab"}},
		} {
			valid := b >= 32 && b <= 126
			want := c.joined
			if b == ' ' {
				want = c.split
			}
			if !valid {
				want = nil
			}
			if got, ok := impl.PartsOf(c.line); ok != valid || !slices.Equal(got, want) {
				t.Errorf("PartsOf(%q) = %q, %v", c.line, got, ok)
			}
		}
	}
}

func TestPartsOfResultsAreNew(t *testing.T) {
	first, _ := impl.PartsOf("add 1")
	first[0] = "changed"
	if second, ok := impl.PartsOf("add 1"); !ok || !slices.Equal(second, []string{"add", "1"}) {
		t.Errorf("a result was changed from outside: %q", second)
	}
}

func TestBrought(t *testing.T) {
	for _, c := range []struct {
		n, least, most, want int
	}{
		{3, 1, 5, 3},
		{1, 1, 5, 1},
		{5, 1, 5, 5},
		{0, 1, 5, 1},
		{6, 1, 5, 5},
		{9, 1, 5, 5},
		{-9, 1, 5, 1},
		{-3, -5, -1, -3},
		{-6, -5, -1, -5},
		{0, -5, -1, -1},
		{7, 4, 4, 4},
		{4, 4, 4, 4},
		{1, 4, 4, 4},
		{3, 5, 1, 5},
		{0, 5, 1, 5},
		{9, 5, 1, 5},
		{5, 5, 4, 5},
		{0, math.MinInt, math.MaxInt, 0},
		{math.MinInt, math.MinInt, math.MaxInt, math.MinInt},
		{math.MaxInt, math.MinInt, math.MaxInt, math.MaxInt},
		{math.MinInt, 0, 1, 0},
		{math.MaxInt, 0, 1, 1},
		{0, math.MaxInt, math.MinInt, math.MaxInt},
		{math.MinInt, math.MaxInt, math.MinInt, math.MaxInt},
	} {
		if got := impl.Brought(c.n, c.least, c.most); got != c.want {
			t.Errorf("Brought(%d, %d, %d) = %d", c.n, c.least, c.most, got)
		}
	}
}

func TestBroughtIsWithinTheRange(t *testing.T) {
	for n := -6; n <= 6; n++ {
		for least := -5; least <= 5; least++ {
			for most := -5; most <= 5; most++ {
				got := impl.Brought(n, least, most)
				switch {
				case most < least:
					if got != least {
						t.Errorf("Brought(%d, %d, %d) = %d", n, least, most, got)
					}
				case got < least || got > most, n >= least && n <= most && got != n:
					t.Errorf("Brought(%d, %d, %d) = %d", n, least, most, got)
				case n < least && got != least, n > most && got != most:
					t.Errorf("Brought(%d, %d, %d) = %d", n, least, most, got)
				}
			}
		}
	}
}
