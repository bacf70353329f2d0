package tests

import (
	"math"
	"slices"
	"strings"
	"testing"

	"loop.example/g03301/impl"
)

func TestTextConstants(t *testing.T) {
	got := []int{impl.MaxInputLen, impl.MaxUint, impl.MaxLineLen, impl.MaxFieldsPerLine}
	want := []int{20000, 1000000000, 600, 24}
	if !slices.Equal(got, want) {
		t.Errorf("constants are %v, want %v", got, want)
	}
}

func TestEncodeHex(t *testing.T) {
	cases := []struct{ text, want string }{
		{"", ""},
		{"az", "617a"},
		{"\x00", "00"},
		{"\x0f\xf0", "0ff0"},
		{"\xff\xab\xcd\xef", "ffabcdef"},
		{"é", "c3a9"},
		{"0123456789", "30313233343536373839"},
	}
	for _, c := range cases {
		got, ok := impl.EncodeHex(c.text)
		if !ok || got != c.want {
			t.Errorf("EncodeHex(%q) = %q, %v, want %q", c.text, got, ok, c.want)
		}
	}
}

func TestHexLimits(t *testing.T) {
	for _, n := range []int{impl.MaxInputLen - 1, impl.MaxInputLen} {
		text := strings.Repeat("\xa5", n)
		hex := strings.Repeat("a5", n)
		if got, ok := impl.EncodeHex(text); !ok || got != hex {
			t.Errorf("EncodeHex of %d bytes fails", n)
		}
		if got, ok := impl.DecodeHex(hex); !ok || got != text {
			t.Errorf("DecodeHex to %d bytes fails", n)
		}
	}
	if got, ok := impl.EncodeHex(strings.Repeat("x", impl.MaxInputLen+1)); ok || got != "" {
		t.Errorf("EncodeHex of MaxInputLen + 1 bytes succeeds")
	}
	for _, digits := range []int{1, 2} {
		if got, ok := impl.DecodeHex(strings.Repeat("6", 2*impl.MaxInputLen+digits)); ok || got != "" {
			t.Errorf("DecodeHex of %d digits too many succeeds", digits)
		}
	}
}

func TestHexRoundTrip(t *testing.T) {
	for a := range 256 {
		for b := range 256 {
			text := string([]byte{byte(a), byte(b)})
			hex, ok := impl.EncodeHex(text)
			if !ok || len(hex) != 4 {
				t.Fatalf("EncodeHex(%q) = %q, %v", text, hex, ok)
			}
			if got, ok := impl.DecodeHex(hex); !ok || got != text {
				t.Fatalf("DecodeHex(%q) = %q, %v, want %q", hex, got, ok, text)
			}
		}
	}
}

// Of all pairs of bytes, DecodeHex accepts just those that EncodeHex writes.
func TestDecodeHexEveryPair(t *testing.T) {
	const digits = "0123456789abcdef"
	for a := range 256 {
		for b := range 256 {
			pair := string([]byte{byte(a), byte(b)})
			high, low := strings.IndexByte(digits, byte(a)), strings.IndexByte(digits, byte(b))
			want := ""
			if high >= 0 && low >= 0 {
				want = string([]byte{byte(16*high + low)})
			}
			got, ok := impl.DecodeHex(pair)
			if got != want || ok != (want != "") {
				t.Fatalf("DecodeHex(%q) = %q, %v, want %q", pair, got, ok, want)
			}
		}
	}
}

func TestDecodeHexInvalid(t *testing.T) {
	if got, ok := impl.DecodeHex(""); !ok || got != "" {
		t.Errorf("DecodeHex(\"\") = %q, %v", got, ok)
	}
	for _, s := range []string{"6", "617", "617A", "0G", "g0", "0x61", " 61", "61 ", "6 ", "-1", "61\n7a", "6é"} {
		if got, ok := impl.DecodeHex(s); ok || got != "" {
			t.Errorf("DecodeHex(%q) = %q, %v, want \"\", false", s, got, ok)
		}
	}
}

func TestFormatInt(t *testing.T) {
	cases := []struct {
		n    int
		want string
	}{
		{0, "0"}, {7, "7"}, {-5, "-5"}, {10, "10"}, {-100, "-100"},
		{impl.MaxUint, "1000000000"}, {impl.MaxUint + 1, "1000000001"}, {-impl.MaxUint, "-1000000000"},
		{math.MaxInt, "9223372036854775807"},
		{math.MinInt + 1, "-9223372036854775807"},
		{math.MinInt, "-9223372036854775808"},
	}
	for _, c := range cases {
		if got := impl.FormatInt(c.n); got != c.want {
			t.Errorf("FormatInt(%d) = %q, want %q", c.n, got, c.want)
		}
	}
}

func TestParseUintRoundTrip(t *testing.T) {
	numbers := []int{9, 10, 99, 100, 123456789, 999999999, impl.MaxUint - 1, impl.MaxUint}
	for n := range 2000 {
		numbers = append(numbers, n)
	}
	for _, n := range numbers {
		if got, ok := impl.ParseUint(impl.FormatInt(n)); !ok || got != n {
			t.Errorf("ParseUint(%q) = %d, %v", impl.FormatInt(n), got, ok)
		}
	}
}

func TestParseUintInvalid(t *testing.T) {
	texts := []string{
		"", "01", "00", "000", "007", "0000000001", "01000000000",
		"-", "+", "-0", "+0", "-1", "+1", "--1", "1-",
		" ", " 1", "1 ", "1 2", "1\n", "\t1", "1\x00", "\xff",
		"a", "1a", "0x1", "0b1", "0o1", "1_000", "1,000", "1.0", "1e3", "\u0661", "/", ":", "1:",
		"1000000001", "1000000010", "2000000000", "9999999999", "10000000000",
		"9223372036854775807", "9223372036854775808", "18446744073709551616", "18446744073709551617",
		"-9223372036854775808", strings.Repeat("9", 100), strings.Repeat("0", 100), strings.Repeat("1", 1000000),
	}
	for _, s := range texts {
		if n, ok := impl.ParseUint(s); ok || n != 0 {
			t.Errorf("ParseUint(%.30q) = %d, %v, want 0, false", s, n, ok)
		}
	}
	for _, n := range []int{impl.MaxUint + 1, -1, math.MaxInt, math.MinInt} {
		if got, ok := impl.ParseUint(impl.FormatInt(n)); ok || got != 0 {
			t.Errorf("ParseUint(FormatInt(%d)) = %d, %v, want 0, false", n, got, ok)
		}
	}
}

func TestSplitFields(t *testing.T) {
	cases := []struct {
		line string
		want []string
	}{
		{"", nil},
		{" ", nil},
		{"     ", nil},
		{"lay", []string{"lay"}},
		{"lay 1 2", []string{"lay", "1", "2"}},
		{" lay  1 ", []string{"lay", "1"}},
		{"   a   b   c   ", []string{"a", "b", "c"}},
		{"!\"#~ ,;", []string{"!\"#~", ",;"}},
	}
	for _, c := range cases {
		got, ok := impl.SplitFields(c.line)
		if !ok || !slices.Equal(got, c.want) {
			t.Errorf("SplitFields(%q) = %q, %v, want %q", c.line, got, ok, c.want)
		}
	}
}

func TestSplitFieldsLength(t *testing.T) {
	const most = impl.MaxLineLen
	lines := []struct {
		text func(n int) string
		want func(n int) []string
	}{
		{
			func(n int) string { return strings.Repeat("x", n) },
			func(n int) []string { return []string{strings.Repeat("x", n)} },
		},
		{
			func(n int) string { return strings.Repeat(" ", n) },
			func(n int) []string { return nil },
		},
		{
			func(n int) string { return "a" + strings.Repeat(" ", n-2) + "b" },
			func(n int) []string { return []string{"a", "b"} },
		},
	}
	for i, line := range lines {
		for _, n := range []int{most - 1, most} {
			if got, ok := impl.SplitFields(line.text(n)); !ok || !slices.Equal(got, line.want(n)) {
				t.Errorf("line %d of %d bytes: %q, %v", i, n, got, ok)
			}
		}
		if got, ok := impl.SplitFields(line.text(most + 1)); ok || len(got) != 0 {
			t.Errorf("line %d of MaxLineLen + 1 bytes: %q, %v", i, got, ok)
		}
	}
}

func TestSplitFieldsCount(t *testing.T) {
	const most = impl.MaxFieldsPerLine
	for _, n := range []int{most - 1, most} {
		for _, line := range []string{strings.Repeat("ab ", n), strings.Repeat("  ab", n)} {
			want := slices.Repeat([]string{"ab"}, n)
			if got, ok := impl.SplitFields(line); !ok || !slices.Equal(got, want) {
				t.Errorf("%d fields: %q, %v", n, got, ok)
			}
		}
	}
	for _, line := range []string{strings.Repeat("a ", most+1), strings.Repeat(" a", most+1), strings.Repeat("a ", 2*most)} {
		if got, ok := impl.SplitFields(line); ok || len(got) != 0 {
			t.Errorf("SplitFields(%q) = %q, %v, want no fields, false", line, got, ok)
		}
	}
}

// Every byte is tried at the beginning, inside and at the end of a line.
func TestSplitFieldsBytes(t *testing.T) {
	for b := range 256 {
		c := string([]byte{byte(b)})
		for _, line := range []string{c + "a b", "a" + c + "b", "a " + c + " b", "a b" + c, c} {
			got, ok := impl.SplitFields(line)
			if b < 32 || b > 126 {
				if ok || len(got) != 0 {
					t.Errorf("SplitFields(%q) = %q, %v, want no fields, false", line, got, ok)
				}
				continue
			}
			var want []string
			for _, field := range strings.Split(line, " ") {
				if field != "" {
					want = append(want, field)
				}
			}
			if !ok || !slices.Equal(got, want) {
				t.Errorf("SplitFields(%q) = %q, %v, want %q", line, got, ok, want)
			}
		}
	}
}

func TestSplitFieldsNewMemory(t *testing.T) {
	first, _ := impl.SplitFields("a b c")
	second, _ := impl.SplitFields("a b c")
	first[0] = "changed"
	if want := []string{"a", "b", "c"}; !slices.Equal(second, want) {
		t.Errorf("a change of one result changes another one: %q", second)
	}
}

func TestClamp(t *testing.T) {
	cases := []struct{ n, low, high, want int }{
		{0, 1, 5, 1}, {1, 1, 5, 1}, {3, 1, 5, 3}, {5, 1, 5, 5}, {6, 1, 5, 5}, {9, 1, 5, 5},
		{-9, -3, -1, -3}, {-2, -3, -1, -2}, {0, -3, -1, -1},
		{4, 4, 4, 4}, {3, 4, 4, 4}, {5, 4, 4, 4},
		{0, 5, 1, 5}, {1, 5, 1, 5}, {3, 5, 1, 5}, {5, 5, 1, 5}, {9, 5, 1, 5},
		{math.MinInt, -1, 1, -1}, {math.MaxInt, -1, 1, 1},
		{math.MinInt, math.MinInt, math.MaxInt, math.MinInt}, {math.MaxInt, math.MinInt, math.MaxInt, math.MaxInt},
		{0, math.MaxInt, math.MinInt, math.MaxInt},
	}
	for _, c := range cases {
		if got := impl.Clamp(c.n, c.low, c.high); got != c.want {
			t.Errorf("Clamp(%d, %d, %d) = %d, want %d", c.n, c.low, c.high, got, c.want)
		}
	}
}

func TestClampInRange(t *testing.T) {
	for n := -6; n <= 6; n++ {
		for low := -4; low <= 4; low++ {
			for high := -4; high <= 4; high++ {
				want := n
				switch {
				case high < low || n < low:
					want = low
				case n > high:
					want = high
				}
				if got := impl.Clamp(n, low, high); got != want {
					t.Errorf("Clamp(%d, %d, %d) = %d, want %d", n, low, high, got, want)
				}
			}
		}
	}
}
