package impl

import (
	"strconv"
	"strings"
)

const (
	MaxText   = 20000
	MaxNumber = 1000000000
	MaxWords  = 600
	MaxParts  = 12
)

const hexDigits = "0123456789abcdef"

func Hex(text string) (string, bool) {
	if len(text) > MaxText {
		return "", false
	}
	var out strings.Builder
	out.Grow(2 * len(text))
	for i := 0; i < len(text); i++ {
		out.WriteByte(hexDigits[text[i]>>4])
		out.WriteByte(hexDigits[text[i]&15])
	}
	return out.String(), true
}

func Unhex(text string) (string, bool) {
	if len(text)%2 != 0 || len(text) > 2*MaxText {
		return "", false
	}
	var out strings.Builder
	out.Grow(len(text) / 2)
	for i := 0; i < len(text); i += 2 {
		high, highOk := hexValue(text[i])
		low, lowOk := hexValue(text[i+1])
		if !highOk || !lowOk {
			return "", false
		}
		out.WriteByte(high<<4 | low)
	}
	return out.String(), true
}

// hexValue rejects uppercase digits because Hex never writes them.
func hexValue(b byte) (byte, bool) {
	switch {
	case b >= '0' && b <= '9':
		return b - '0', true
	case b >= 'a' && b <= 'f':
		return b - 'a' + 10, true
	}
	return 0, false
}

func Decimal(n int) string {
	return strconv.Itoa(n)
}

func ReadDecimal(text string) (int, bool) {
	if text == "" || len(text) > 1 && text[0] == '0' {
		return 0, false
	}
	n := 0
	for i := 0; i < len(text); i++ {
		if text[i] < '0' || text[i] > '9' {
			return 0, false
		}
		n = n*10 + int(text[i]-'0')
		// Checked after every digit, so that a long text cannot wrap around.
		if n > MaxNumber {
			return 0, false
		}
	}
	return n, true
}

func PartsOf(line string) ([]string, bool) {
	if len(line) > MaxWords {
		return nil, false
	}
	parts, scanned := scanParts(line)
	if scanned < len(line) || len(parts) > MaxParts {
		return nil, false
	}
	return parts, true
}

// scanParts also returns the number of bytes before the first invalid one,
// which is less than the length of the line only if there is an invalid byte.
func scanParts(line string) ([]string, int) {
	var parts []string
	start := 0
	at := 0
scan:
	for at < len(line) {
		switch b := line[at]; {
		case b < 32 || b > 126:
			break scan
		case b == ' ':
			parts = addPart(parts, line[start:at])
			start = at + 1
		}
		at++
	}
	return addPart(parts, line[start:at]), at
}

// addPart drops the empty text between two adjacent spaces.
func addPart(parts []string, part string) []string {
	if part == "" {
		return parts
	}
	return append(parts, part)
}

func Brought(n int, least int, most int) int {
	// The lower bound comes first, so that it wins if most is less than least.
	if n < least || most < least {
		return least
	}
	if n > most {
		return most
	}
	return n
}
