package impl

import (
	"strconv"
	"strings"
)

const (
	MaxInputLen      = 20000
	MaxUint          = 1000000000
	MaxLineLen       = 600
	MaxFieldsPerLine = 24
)

const (
	hexDigits       = "0123456789abcdef"
	lowestLineByte  = 32
	highestLineByte = 126
)

// EncodeHex returns two lowercase digits for each byte of s, the high half first.
func EncodeHex(s string) (string, bool) {
	if len(s) > MaxInputLen {
		return "", false
	}
	out := make([]byte, 0, 2*len(s))
	for i := range len(s) {
		out = append(out, hexDigits[s[i]>>4], hexDigits[s[i]&15])
	}
	return string(out), true
}

// DecodeHex returns the string of which s is the result of EncodeHex.
func DecodeHex(s string) (string, bool) {
	if len(s)%2 != 0 || len(s) > 2*MaxInputLen {
		return "", false
	}
	out := make([]byte, 0, len(s)/2)
	for i := 0; i < len(s); i += 2 {
		high := strings.IndexByte(hexDigits, s[i])
		low := strings.IndexByte(hexDigits, s[i+1])
		if high < 0 || low < 0 {
			return "", false
		}
		out = append(out, byte(high<<4|low))
	}
	return string(out), true
}

// FormatInt returns n in decimal.
func FormatInt(n int) string {
	return strconv.Itoa(n)
}

// ParseUint returns the number from 0 to MaxUint whose FormatInt is s.
func ParseUint(s string) (int, bool) {
	n, err := strconv.Atoi(s)
	if err != nil || n < 0 || n > MaxUint {
		return 0, false
	}
	// Atoi also reads a plus sign and leading zeros, which FormatInt never writes.
	if FormatInt(n) != s {
		return 0, false
	}
	return n, true
}

// SplitFields returns the runs of bytes other than the space in a line.
func SplitFields(line string) ([]string, bool) {
	if len(line) > MaxLineLen {
		return nil, false
	}
	var fields []string
	start, at := 0, 0
scan:
	for ; at < len(line); at++ {
		switch b := line[at]; {
		case b < lowestLineByte || b > highestLineByte:
			break scan
		case b == ' ':
			fields = appendField(fields, line[start:at])
			start = at + 1
		}
	}
	if at < len(line) {
		return nil, false
	}
	fields = appendField(fields, line[start:])
	if len(fields) > MaxFieldsPerLine {
		return nil, false
	}
	return fields, true
}

// appendField leaves out the empty text between two neighbouring spaces. It
// copies the field, because a result shares no memory with an argument.
func appendField(fields []string, field string) []string {
	if field == "" {
		return fields
	}
	return append(fields, strings.Clone(field))
}

// Clamp returns n clamped to the range low to high.
func Clamp(n int, low int, high int) int {
	// The bound low is applied last, so that it wins if high is less than low.
	return max(low, min(n, high))
}
