package impl

import (
	"strconv"
	"strings"
)

const (
	MaxText   = 8000
	MaxNumber = 1000000000
	MaxWords  = 400
	MaxParts  = 8
)

const (
	longestVar     = 5  // bytes of the VarText of MaxNumber
	longestDecimal = 10 // figures of the Decimal of MaxNumber
	hexFigures     = "0123456789abcdef"
)

func VarText(n int) (string, bool) {
	if n < 0 || n > MaxNumber {
		return "", false
	}
	out := make([]byte, 0, longestVar)
	for n > 127 {
		out = append(out, byte(n%128+128))
		n /= 128
	}
	return string(append(out, byte(n))), true
}

func ReadVar(text string, at int) (int, int, bool) {
	if at < 0 || at > len(text) {
		return 0, 0, false
	}
	n, weight := 0, 1
	for i := at; i < len(text) && i < at+longestVar; i++ {
		n += int(text[i]%128) * weight
		weight *= 128
		if text[i] < 128 {
			return onlyForm(n, text[at:i+1], i+1)
		}
	}
	return 0, 0, false
}

// onlyForm holds what was read against what VarText writes: a longer form gives the same number, but is none.
func onlyForm(n int, form string, behind int) (int, int, bool) {
	right, ok := VarText(n)
	if !ok || form != right {
		return 0, 0, false
	}
	return n, behind, true
}

func ShortText(s string) (string, bool) {
	if len(s) > MaxText {
		return "", false
	}
	size, ok := VarText(len(s))
	return size + s, ok
}

func ReadShort(text string, at int) (string, int, bool) {
	size, from, ok := ReadVar(text, at)
	if !ok || size > MaxText || size > len(text)-from {
		return "", 0, false
	}
	// A piece of a string shares its bytes; an answer must share none.
	return strings.Clone(text[from : from+size]), from + size, true
}

func Hex(text string) (string, bool) {
	if len(text) > MaxText {
		return "", false
	}
	out := make([]byte, 0, 2*len(text))
	for i := 0; i < len(text); i++ {
		out = append(out, hexFigures[text[i]/16], hexFigures[text[i]%16])
	}
	return string(out), true
}

func Unhex(text string) (string, bool) {
	if len(text)%2 != 0 || len(text) > 2*MaxText {
		return "", false
	}
	out := make([]byte, 0, len(text)/2)
	for i := 0; i < len(text); i += 2 {
		n, ok := readFigures(text[i:i+2], 16)
		if !ok {
			return "", false
		}
		out = append(out, byte(n))
	}
	return string(out), true
}

// readFigures is right of figures of the base 10 or 16 alone; its callers bound their length, so that the number can't wrap round.
func readFigures(text string, base int) (int, bool) {
	n, right := 0, true
figures:
	for i := 0; i < len(text); i++ {
		switch b := text[i]; {
		case b >= '0' && b <= '9':
			n = n*base + int(b-'0')
		case base == 16 && b >= 'a' && b <= 'f':
			n = n*base + int(b-'a') + 10
		default:
			n, right = 0, false
			break figures
		}
	}
	return n, right
}

func Decimal(n int) string {
	return strconv.Itoa(n)
}

func ReadDecimal(text string) (int, bool) {
	if len(text) > longestDecimal {
		return 0, false
	}
	n, ok := readFigures(text, 10)
	// Only Decimal's own form counts: this refuses needless noughts, and the empty text.
	if !ok || n > MaxNumber || text != Decimal(n) {
		return 0, false
	}
	return n, true
}

func PartsOf(line string) ([]string, bool) {
	if len(line) > MaxWords || !allPrintable(line) {
		return nil, false
	}
	// Of the bytes that are left only the blank is white space to Fields.
	parts := strings.Fields(line)
	if len(parts) > MaxParts {
		return nil, false
	}
	for i, part := range parts {
		parts[i] = strings.Clone(part)
	}
	return parts, true
}

func allPrintable(line string) bool {
	for i := 0; i < len(line); i++ {
		if line[i] < 32 || line[i] > 126 {
			return false
		}
	}
	return true
}
