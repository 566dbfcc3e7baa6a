package impl

import (
	"strconv"
	"strings"
)

const (
	MaxInputLen      = 20000
	MaxUint          = 1000000000
	MaxLineLen       = 600
	MaxFieldsPerLine = 24
)

const hexDigits = "0123456789abcdef"

// EncodeHex writes each byte of s as two lowercase digits, the high half first.
func EncodeHex(s string) (string, bool) {
	if len(s) > MaxInputLen {
		return "", false
	}
	out := make([]byte, 0, 2*len(s))
	for i := range len(s) {
		out = append(out, hexDigits[s[i]>>4], hexDigits[s[i]&15])
	}
	return string(out), true
}

// DecodeHex undoes EncodeHex. It refuses capital digits, because EncodeHex never writes them.
func DecodeHex(s string) (string, bool) {
	if len(s)%2 != 0 || len(s) > 2*MaxInputLen {
		return "", false
	}
	out := make([]byte, 0, len(s)/2)
	for i := 0; i < len(s); i += 2 {
		high := strings.IndexByte(hexDigits, s[i])
		low := strings.IndexByte(hexDigits, s[i+1])
		if high < 0 || low < 0 {
			return "", false
		}
		out = append(out, byte(high<<4|low))
	}
	return string(out), true
}

// FormatInt writes n in decimal without leading zeros.
func FormatInt(n int) string {
	return strconv.Itoa(n)
}

// ParseUint undoes FormatInt for the numbers from 0 to MaxUint.
func ParseUint(s string) (int, bool) {
	n, err := strconv.Atoi(s)
	if err != nil || n < 0 || n > MaxUint {
		return 0, false
	}
	// Atoi also reads texts that FormatInt never writes: "01", "+1", "-0".
	if FormatInt(n) != s {
		return 0, false
	}
	return n, true
}

// SplitFields cuts a line at its spaces.
func SplitFields(line string) ([]string, bool) {
	if len(line) > MaxLineLen {
		return nil, false
	}
	var fields []string
	start, at := 0, 0
scan:
	for at < len(line) {
		switch b := line[at]; {
		case b < ' ' || b > '~':
			break scan
		case b == ' ':
			fields = appendField(fields, line[start:at])
			start = at + 1
		}
		at++
	}
	if at < len(line) {
		return nil, false
	}
	fields = appendField(fields, line[start:])
	if len(fields) > MaxFieldsPerLine {
		return nil, false
	}
	return fields, true
}

// appendField leaves out the empty text between two spaces that follow each other.
func appendField(fields []string, text string) []string {
	if text == "" {
		return fields
	}
	// A result shares no memory with an argument.
	return append(fields, strings.Clone(text))
}

// Clamp moves n into the range low to high. An empty range gives low.
func Clamp(n int, low int, high int) int {
	if n < low || high < low {
		return low
	}
	if n > high {
		return high
	}
	return n
}
