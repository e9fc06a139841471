package impl

import (
	"strconv"
	"strings"
)

const (
	MaxText   = 20000
	MaxNumber = 1000000000
	MaxWords  = 600
	MaxParts  = 10
)

const hexFigures = "0123456789abcdef"

func VarText(n int) (string, bool) {
	if n < 0 || n > MaxNumber {
		return "", false
	}
	var out []byte
	for n > 127 {
		out = append(out, byte(n%128+128))
		n /= 128
	}
	return string(append(out, byte(n))), true
}

func ReadVar(text string, at int) (int, int, bool) {
	if at < 0 || at > len(text) {
		return 0, 0, false
	}
	n := 0
	// A byte whose weight is above MaxNumber is either too much or adds
	// nothing, so going on there could only read a wrong form.
	for i, weight := at, 1; i < len(text) && weight <= MaxNumber; i, weight = i+1, weight*128 {
		c := int(text[i])
		n += c % 128 * weight
		if c > 127 {
			continue
		}
		// A last byte of 0 behind others adds nothing: a longer form.
		if n > MaxNumber || c == 0 && i > at {
			break
		}
		return n, i + 1, true
	}
	return 0, 0, false
}

func ShortText(s string) (string, bool) {
	if len(s) > MaxText {
		return "", false
	}
	head, ok := VarText(len(s))
	return head + s, ok
}

func ReadShort(text string, at int) (string, int, bool) {
	n, from, ok := ReadVar(text, at)
	if !ok || n > MaxText || n > len(text)-from {
		return "", 0, false
	}
	// An answer shares no memory with an argument, so the piece is copied.
	return strings.Clone(text[from : from+n]), from + n, true
}

func Hex(text string) (string, bool) {
	if len(text) > MaxText {
		return "", false
	}
	out := make([]byte, 0, 2*len(text))
	for _, c := range []byte(text) {
		out = append(out, hexFigures[c>>4], hexFigures[c&15])
	}
	return string(out), true
}

func Unhex(text string) (string, bool) {
	if len(text)%2 != 0 || len(text) > 2*MaxText {
		return "", false
	}
	out := make([]byte, 0, len(text)/2)
	high := byte(0)
figures:
	for i, c := range []byte(text) {
		value := byte(0)
		switch {
		case '0' <= c && c <= '9':
			value = c - '0'
		case 'a' <= c && c <= 'f':
			value = c - 'a' + 10
		default:
			break figures
		}
		if i%2 == 0 {
			high = value
			continue figures
		}
		out = append(out, high<<4|value)
	}
	// Fewer bytes than pairs: a figure was none.
	if len(out) < len(text)/2 {
		return "", false
	}
	return string(out), true
}

func Decimal(n int) string { return strconv.Itoa(n) }

func ReadDecimal(text string) (int, bool) {
	if text == "" || text[0] == '0' && len(text) > 1 {
		return 0, false
	}
	n, read := 0, 0
figures:
	for _, c := range []byte(text) {
		value := int(c) - '0'
		// Left at the limit, n cannot grow past what an int holds.
		if value < 0 || value > 9 || 10*n+value > MaxNumber {
			break figures
		}
		n = 10*n + value
		read++
	}
	if read < len(text) {
		return 0, false
	}
	return n, true
}

func PartsOf(line string) ([]string, bool) {
	if len(line) > MaxWords || !plainLine(line) {
		return nil, false
	}
	// Of what Fields takes for a gap, a plain line has the blank alone.
	parts := strings.Fields(line)
	if len(parts) > MaxParts {
		return nil, false
	}
	for i, part := range parts {
		parts[i] = strings.Clone(part)
	}
	return parts, true
}

func plainLine(line string) bool {
	for _, c := range []byte(line) {
		if c < 32 || c > 126 {
			return false
		}
	}
	return true
}
