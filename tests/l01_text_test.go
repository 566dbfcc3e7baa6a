package tests

import (
	"fmt"
	"math"
	"slices"
	"strings"
	"testing"

	"loop.example/g03304/impl"
)

// Promise 1: strings can be decoded from their hexadecimal text and numbers
// from their decimal text, within the limits; clamped values are in the range.

func TestTextConstants(t *testing.T) {
	got := []int{impl.MaxInputLen, impl.MaxUint, impl.MaxLineLen, impl.MaxFieldsPerLine}
	want := []int{20000, 1000000000, 600, 24}
	if !slices.Equal(got, want) {
		t.Errorf("constants are %v, want %v", got, want)
	}
}

func TestEncodeHex(t *testing.T) {
	cases := []struct{ in, want string }{
		{"", ""},
		{"az", "617a"},
		{"\x00", "00"},
		{"\x0f\xf0", "0ff0"},
		{"\xff", "ff"},
		{"\xab\xcd", "abcd"},
		{"é", "c3a9"},
	}
	for _, c := range cases {
		got, ok := impl.EncodeHex(c.in)
		if got != c.want || !ok {
			t.Errorf("EncodeHex(%q) = %q, %v, want %q, true", c.in, got, ok, c.want)
		}
	}
}

func TestEncodeHexOfEachByte(t *testing.T) {
	for b := range 256 {
		got, ok := impl.EncodeHex(string([]byte{byte(b)}))
		if want := fmt.Sprintf("%02x", b); got != want || !ok {
			t.Errorf("EncodeHex of byte %d = %q, %v, want %q, true", b, got, ok, want)
		}
	}
}

func TestEncodeHexLimit(t *testing.T) {
	got, ok := impl.EncodeHex(strings.Repeat("a", impl.MaxInputLen))
	if got != strings.Repeat("61", impl.MaxInputLen) || !ok {
		t.Errorf("EncodeHex at the limit: %d bytes, %v", len(got), ok)
	}
	got, ok = impl.EncodeHex(strings.Repeat("a", impl.MaxInputLen+1))
	if got != "" || ok {
		t.Errorf("EncodeHex past the limit: %d bytes, %v", len(got), ok)
	}
}

func TestDecodeHex(t *testing.T) {
	cases := []struct{ in, want string }{
		{"", ""},
		{"617a", "az"},
		{"00", "\x00"},
		{"0ff0", "\x0f\xf0"},
		{"0123456789abcdef", "\x01\x23\x45\x67\x89\xab\xcd\xef"},
	}
	for _, c := range cases {
		got, ok := impl.DecodeHex(c.in)
		if got != c.want || !ok {
			t.Errorf("DecodeHex(%q) = %q, %v, want %q, true", c.in, got, ok, c.want)
		}
	}
}

func TestDecodeHexRefuses(t *testing.T) {
	cases := []string{
		"6", "617", "A", "6A", "A6", "7F", "FF", "617A",
		"g0", "0g", "`0", "0`", "/0", "0/", ":0", "0:", "@0", "0@",
		" 6", "6 ", "61 7a", "0x61", "-1", "+1", "\x00\x00", "é", "61\n",
	}
	for _, in := range cases {
		if got, ok := impl.DecodeHex(in); got != "" || ok {
			t.Errorf("DecodeHex(%q) = %q, %v, want \"\", false", in, got, ok)
		}
	}
}

func TestDecodeHexReadsOnlySixteenDigits(t *testing.T) {
	for b := range 256 {
		c := string([]byte{byte(b)})
		isDigit := b >= '0' && b <= '9' || b >= 'a' && b <= 'f'
		if _, ok := impl.DecodeHex(c + "0"); ok != isDigit {
			t.Errorf("DecodeHex with byte %d as the high half: %v", b, ok)
		}
		if _, ok := impl.DecodeHex("0" + c); ok != isDigit {
			t.Errorf("DecodeHex with byte %d as the low half: %v", b, ok)
		}
	}
}

func TestDecodeHexLimit(t *testing.T) {
	got, ok := impl.DecodeHex(strings.Repeat("61", impl.MaxInputLen))
	if got != strings.Repeat("a", impl.MaxInputLen) || !ok {
		t.Errorf("DecodeHex at the limit: %d bytes, %v", len(got), ok)
	}
	got, ok = impl.DecodeHex(strings.Repeat("61", impl.MaxInputLen+1))
	if got != "" || ok {
		t.Errorf("DecodeHex past the limit: %d bytes, %v", len(got), ok)
	}
	got, ok = impl.DecodeHex(strings.Repeat("61", impl.MaxInputLen) + "6")
	if got != "" || ok {
		t.Errorf("DecodeHex one digit past the limit: %d bytes, %v", len(got), ok)
	}
}

func TestHexIsUndone(t *testing.T) {
	all := make([]byte, 0, 512)
	for b := range 256 {
		all = append(all, byte(b), byte(255-b))
	}
	for n := range len(all) + 1 {
		s := string(all[:n])
		text, ok := impl.EncodeHex(s)
		back, right := impl.DecodeHex(text)
		if !ok || !right || back != s {
			t.Fatalf("DecodeHex(EncodeHex(%q)) = %q, %v, %v", s, back, ok, right)
		}
	}
}

func TestFormatInt(t *testing.T) {
	cases := []struct {
		in   int
		want string
	}{
		{0, "0"},
		{7, "7"},
		{10, "10"},
		{1000000000, "1000000000"},
		{1000000001, "1000000001"},
		{-1, "-1"},
		{-5, "-5"},
		{-10, "-10"},
		{math.MaxInt, "9223372036854775807"},
		{math.MinInt, "-9223372036854775808"},
		{math.MinInt + 1, "-9223372036854775807"},
	}
	for _, c := range cases {
		if got := impl.FormatInt(c.in); got != c.want {
			t.Errorf("FormatInt(%d) = %q, want %q", c.in, got, c.want)
		}
	}
}

func TestParseUint(t *testing.T) {
	cases := []struct {
		in   string
		want int
	}{
		{"0", 0},
		{"1", 1},
		{"9", 9},
		{"10", 10},
		{"100", 100},
		{"999999999", 999999999},
		{"1000000000", 1000000000},
	}
	for _, c := range cases {
		if got, ok := impl.ParseUint(c.in); got != c.want || !ok {
			t.Errorf("ParseUint(%q) = %d, %v, want %d, true", c.in, got, ok, c.want)
		}
	}
}

func TestParseUintRefuses(t *testing.T) {
	cases := []string{
		"", " ", "00", "01", "001", "0000000001", "01000000000",
		"-0", "+0", "-1", "+1", "-", "+", "--1",
		" 1", "1 ", "1 2", "1\n", "1\x00", "1_000", "0x1", "0b1", "0o7", "1e3", "1.0", "1,0", "a", "1a", "a1", "١",
		"/", ":", "1/", "1:",
		"1000000001", "1000000010", "1000000100", "2000000000", "9999999999", "10000000000",
		"9223372036854775807", "9223372036854775808", "18446744073709551615", "18446744073709551616", "18446744073709551617",
		strings.Repeat("1", 1000), strings.Repeat("0", 1000) + "1",
	}
	for _, in := range cases {
		if got, ok := impl.ParseUint(in); got != 0 || ok {
			t.Errorf("ParseUint(%q) = %d, %v, want 0, false", in, got, ok)
		}
	}
}

func TestNumbersAreReadBack(t *testing.T) {
	numbers := []int{impl.MaxUint}
	for n := range 2000 {
		numbers = append(numbers, n, n*499979, impl.MaxUint-n)
	}
	for _, n := range numbers {
		text := impl.FormatInt(n)
		if got, ok := impl.ParseUint(text); got != n || !ok {
			t.Errorf("ParseUint(%q) = %d, %v, want %d, true", text, got, ok, n)
		}
		if got, ok := impl.ParseUint("0" + text); got != 0 || ok {
			t.Errorf("ParseUint(%q) = %d, %v, want 0, false", "0"+text, got, ok)
		}
	}
}

func TestSplitFields(t *testing.T) {
	cases := []struct {
		in   string
		want []string
	}{
		{"", nil},
		{" ", nil},
		{"     ", nil},
		{"add", []string{"add"}},
		{"add 1", []string{"add", "1"}},
		{" add  1 ", []string{"add", "1"}},
		{"   a b   c  ", []string{"a", "b", "c"}},
		{"a ", []string{"a"}},
		{" a", []string{"a"}},
		{"~ ! a", []string{"~", "!", "a"}},
		{"a,b;c a\"b", []string{"a,b;c", "a\"b"}},
	}
	for _, c := range cases {
		got, ok := impl.SplitFields(c.in)
		if !slices.Equal(got, c.want) || !ok {
			t.Errorf("SplitFields(%q) = %q, %v, want %q, true", c.in, got, ok, c.want)
		}
	}
}

func TestSplitFieldsBytes(t *testing.T) {
	for b := range 256 {
		c := string([]byte{byte(b)})
		good := b >= 32 && b <= 126
		for _, line := range []string{c, c + "a", "a" + c, "a" + c + "b", " " + c, c + " "} {
			got, ok := impl.SplitFields(line)
			if ok != good || !good && got != nil {
				t.Errorf("SplitFields(%q) = %q, %v, want %v", line, got, ok, good)
			}
		}
		if good && b != ' ' {
			got, _ := impl.SplitFields("a" + c + "b")
			if !slices.Equal(got, []string{"a" + c + "b"}) {
				t.Errorf("byte %d separates fields: %q", b, got)
			}
		}
	}
}

func TestSplitFieldsLineLimit(t *testing.T) {
	long := strings.Repeat("a", impl.MaxLineLen)
	got, ok := impl.SplitFields(long)
	if !slices.Equal(got, []string{long}) || !ok {
		t.Errorf("SplitFields at the limit: %d fields, %v", len(got), ok)
	}
	spaces := strings.Repeat(" ", impl.MaxLineLen)
	got, ok = impl.SplitFields(spaces)
	if len(got) != 0 || !ok {
		t.Errorf("SplitFields of spaces at the limit: %d fields, %v", len(got), ok)
	}
	for _, line := range []string{long + "a", long + " ", " " + long, spaces + " "} {
		if got, ok = impl.SplitFields(line); got != nil || ok {
			t.Errorf("SplitFields past the limit: %d fields, %v", len(got), ok)
		}
	}
}

func TestSplitFieldsCountLimit(t *testing.T) {
	most := strings.Repeat("a ", impl.MaxFieldsPerLine)
	for _, line := range []string{most, strings.TrimSpace(most), "  " + most + "  "} {
		got, ok := impl.SplitFields(line)
		if len(got) != impl.MaxFieldsPerLine || !ok {
			t.Errorf("SplitFields(%q): %d fields, %v", line, len(got), ok)
		}
	}
	for _, line := range []string{most + "b", most + "b ", most + most} {
		if got, ok := impl.SplitFields(line); got != nil || ok {
			t.Errorf("SplitFields(%q) = %q, %v, want nil, false", line, got, ok)
		}
	}
}

func TestSplitFieldsAreNew(t *testing.T) {
	first, _ := impl.SplitFields("a b c")
	first[0] = "z"
	second, _ := impl.SplitFields("a b c")
	if !slices.Equal(second, []string{"a", "b", "c"}) {
		t.Errorf("a change of one result is seen in the next one: %q", second)
	}
}

func TestClamp(t *testing.T) {
	cases := []struct{ n, low, high, want int }{
		{9, 1, 5, 5},
		{5, 1, 5, 5},
		{3, 1, 5, 3},
		{1, 1, 5, 1},
		{0, 1, 5, 1},
		{-7, -5, -1, -5},
		{7, -5, -1, -1},
		{3, 4, 4, 4},
		{5, 4, 4, 4},
		{0, 5, 1, 5},
		{3, 5, 1, 5},
		{9, 5, 1, 5},
		{5, 5, 4, 5},
		{math.MaxInt, math.MinInt, math.MaxInt, math.MaxInt},
		{math.MinInt, math.MinInt, math.MaxInt, math.MinInt},
		{math.MinInt, 0, math.MaxInt, 0},
		{0, math.MaxInt, math.MinInt, math.MaxInt},
	}
	for _, c := range cases {
		if got := impl.Clamp(c.n, c.low, c.high); got != c.want {
			t.Errorf("Clamp(%d, %d, %d) = %d, want %d", c.n, c.low, c.high, got, c.want)
		}
	}
}

func TestClampedValuesAreInTheRange(t *testing.T) {
	for low := -4; low <= 4; low++ {
		for high := -4; high <= 4; high++ {
			for n := -6; n <= 6; n++ {
				got := impl.Clamp(n, low, high)
				if high < low {
					if got != low {
						t.Errorf("Clamp(%d, %d, %d) = %d, want low", n, low, high, got)
					}
					continue
				}
				inside := n >= low && n <= high
				if got < low || got > high || inside && got != n || n < low && got != low || n > high && got != high {
					t.Errorf("Clamp(%d, %d, %d) = %d", n, low, high, got)
				}
			}
		}
	}
}
