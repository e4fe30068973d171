package impl

import (
	"strconv"
	"strings"
)

const (
	MaxInputLen      = 20000
	MaxUint          = 1000000000
	MaxLineLen       = 600
	MaxFieldsPerLine = 24
)

const (
	hexDigits     = "0123456789abcdef"
	fieldSpace    = 32
	firstLineByte = 32
	lastLineByte  = 126
)

// EncodeHex returns the lowercase hexadecimal encoding of s.
func EncodeHex(s string) (string, bool) {
	if len(s) > MaxInputLen {
		return "", false
	}
	text := make([]byte, 0, 2*len(s))
	for i := range len(s) {
		text = append(text, hexDigits[s[i]/16], hexDigits[s[i]%16])
	}
	return string(text), true
}

// DecodeHex returns the string that EncodeHex encodes as s.
func DecodeHex(s string) (string, bool) {
	if len(s)%2 != 0 || len(s) > 2*MaxInputLen {
		return "", false
	}
	decoded := make([]byte, 0, len(s)/2)
	for i := 0; i < len(s); i += 2 {
		high := strings.IndexByte(hexDigits, s[i])
		low := strings.IndexByte(hexDigits, s[i+1])
		if high < 0 || low < 0 {
			return "", false
		}
		decoded = append(decoded, byte(16*high+low))
	}
	return string(decoded), true
}

// FormatInt returns n in decimal.
func FormatInt(n int) string { return strconv.Itoa(n) }

// ParseUint returns the number from 0 to MaxUint that FormatInt writes as s.
func ParseUint(s string) (int, bool) {
	n, err := strconv.Atoi(s)
	// Atoi also reads signs and leading zeros, which FormatInt does not write.
	if err != nil || n < 0 || n > MaxUint || FormatInt(n) != s {
		return 0, false
	}
	return n, true
}

// SplitFields returns the fields of a line, which spaces separate.
func SplitFields(line string) ([]string, bool) {
	if len(line) > MaxLineLen {
		return nil, false
	}
	fields := []string{}
	start, end := 0, 0
scan:
	for end < len(line) {
		switch c := line[end]; {
		case c < firstLineByte || c > lastLineByte:
			break scan
		case c == fieldSpace:
			fields = appendField(fields, line[start:end])
			start = end + 1
		}
		end++
	}
	if end < len(line) {
		return nil, false
	}
	fields = appendField(fields, line[start:end])
	if len(fields) > MaxFieldsPerLine {
		return nil, false
	}
	return fields, true
}

// appendField leaves out the empty runs between neighbouring spaces, and
// copies the field, because a result shares no memory with an argument.
func appendField(fields []string, field string) []string {
	if field == "" {
		return fields
	}
	return append(fields, strings.Clone(field))
}

// Clamp returns n clamped to the range low to high.
func Clamp(n int, low int, high int) int {
	// The bound low is applied last, because it wins if high is less than low.
	return max(low, min(n, high))
}
