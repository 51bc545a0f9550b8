package tests

import (
	"math"
	"math/big"
	"slices"
	"strings"
	"testing"

	"loop.example/g01063/impl"
)

// oddTexts are texts that no function may stumble over, among them bytes that are no UTF-8.
var oddTexts = []string{
	"", " ", "  ", "-", "/", "//", "1/", "/1", "-/-", "\x00", "\n", "\xff", "a\xff b", "\xc3", "é", "日本 語", "٣", "１",
	"0", "-0", "00", "+1", "-1", "1/2", "-1/2", "2/4", "1/0", "1e3", "0x1", "1_0", "9223372036854775807", "-9223372036854775808",
	strings.Repeat("9", 5000), strings.Repeat(" ", 5000), strings.Repeat("a", 5000), strings.Repeat("/", 5000),
}

func TestCodeNames(t *testing.T) {
	codes := []int64{impl.OK, impl.ErrInvalid, impl.ErrRange, impl.ErrNotFound, impl.ErrExists, impl.ErrFull, impl.ErrState, impl.ErrSyntax, impl.ErrFormat, impl.ErrClash, impl.ErrDark}
	names := []string{"ok", "invalid", "range", "not-found", "exists", "full", "state", "syntax", "format", "clash", "dark"}
	for i, code := range codes {
		if code != int64(i) {
			t.Errorf("the code %s is %d, want %d", names[i], code, i)
		}
		if got := impl.CodeName(code); got != names[i] {
			t.Errorf("CodeName(%d) = %q, want %q", code, got, names[i])
		}
	}
	for _, code := range []int64{-1, 11, 12, math.MinInt64, math.MaxInt64, 1 << 32, -1 << 32} {
		if got := impl.CodeName(code); got != "" {
			t.Errorf("CodeName(%d) = %q, want none", code, got)
		}
	}
}

func TestIsName(t *testing.T) {
	for _, s := range []string{"a", "z", "disc-3", "a-", "a--b", "a0", "z9", "a-0", "abcdefghijkl", "a23456789012"} {
		if !impl.IsName(s) {
			t.Errorf("IsName(%q) = false", s)
		}
	}
	for _, s := range []string{
		"", "-", "-a", "0", "9a", "A", "Disc", "dIsc", "abcdefghijklm", "disc 3", " disc", "disc ", "a_b", "a.b", "a/b", "a:b", "a`b", "a{b", "`a", "{a",
		"é", "aé", "a\xff", "\xffa", "a\x00", "a\n", "aµ", "a٣", "a１", "ａ", "a\ufffd", strings.Repeat("a", 5000),
	} {
		if impl.IsName(s) {
			t.Errorf("IsName(%q) = true", s)
		}
	}
}

func TestDecimal(t *testing.T) {
	cases := map[int64]string{
		0: "0", 1: "1", -1: "-1", 9: "9", 10: "10", -10: "-10", 100: "100", 1005: "1005", -1234567890: "-1234567890",
		999999999999999999: "999999999999999999", 1000000000000000000: "1000000000000000000",
		math.MaxInt64: "9223372036854775807", math.MinInt64: "-9223372036854775808", math.MinInt64 + 1: "-9223372036854775807",
	}
	for n, want := range cases {
		if got := impl.Decimal(n); got != want {
			t.Errorf("Decimal(%d) = %q, want %q", n, got, want)
		}
	}
	for n := int64(1); n > 0 && n < math.MaxInt64/3; n *= 3 {
		for _, m := range []int64{n, -n} {
			if got, want := impl.Decimal(m), big.NewInt(m).String(); got != want {
				t.Errorf("Decimal(%d) = %q, want %q", m, got, want)
			}
		}
	}
}

func TestReadDecimal(t *testing.T) {
	for _, n := range []int64{0, 1, -1, 9, 10, -10, 120, 1000000, -1000000, 99999999999999999, 999999999999999999, -999999999999999999} {
		if got, ok := impl.ReadDecimal(impl.Decimal(n)); !ok || got != n {
			t.Errorf("ReadDecimal(%q) = %d, %v", impl.Decimal(n), got, ok)
		}
	}
	for _, s := range []string{
		"", "-", "--1", "-0", "00", "01", "-01", "007", "+1", "+0", " 1", "1 ", "1 2", "1_0", "1.0", "1e3", "0x10", "a", "1a", "1-", "1\x00", "1\n", "\xff", "٣", "１", "−1",
		"1000000000000000000", "-1000000000000000000", "000000000000000001", "0000000000000000001",
		"9223372036854775807", "-9223372036854775808", "9223372036854775808", "18446744073709551617", strings.Repeat("9", 5000),
	} {
		if got, ok := impl.ReadDecimal(s); ok || got != 0 {
			t.Errorf("ReadDecimal(%q) = %d, %v, want none", s, got, ok)
		}
	}
}

func TestSplitWords(t *testing.T) {
	cases := []struct {
		text string
		want []string
	}{
		{"", nil}, {" ", nil}, {"    ", nil}, {"a", []string{"a"}}, {"a b", []string{"a", "b"}}, {"  show  disc-3 ", []string{"show", "disc-3"}},
		{"b a b", []string{"b", "a", "b"}}, {" abc", []string{"abc"}}, {"abc ", []string{"abc"}},
		{"a\tb\nc\rd e", []string{"a\tb\nc\rd", "e"}}, {"a\u00a0b\u2003c\u3000d", []string{"a\u00a0b\u2003c\u3000d"}}, {"\v \f", []string{"\v", "\f"}},
		{"\xff \xc3 é", []string{"\xff", "\xc3", "é"}}, {"\x00 \x00", []string{"\x00", "\x00"}}, {"日本 語", []string{"日本", "語"}},
	}
	for _, c := range cases {
		if got := impl.SplitWords(c.text); !slices.Equal(got, c.want) {
			t.Errorf("SplitWords(%q) = %q, want %q", c.text, got, c.want)
		}
	}
	if got := impl.SplitWords(strings.Repeat(" x", 3000)); len(got) != 3000 {
		t.Errorf("SplitWords of 3000 words has %d", len(got))
	}
}

func TestSplitWordsIsNew(t *testing.T) {
	first := impl.SplitWords("one two three")
	second := impl.SplitWords("one two three")
	first[0] = "changed"
	_ = append(first[:1], "changed", "changed")
	want := []string{"one", "two", "three"}
	if !slices.Equal(second, want) || !slices.Equal(impl.SplitWords("one two three"), want) {
		t.Error("two results of SplitWords share memory")
	}
}

// TestBasicsOfAllArguments checks that odd arguments are answered, twice in the same way.
func TestBasicsOfAllArguments(t *testing.T) {
	for _, s := range oddTexts {
		n, ok := impl.ReadDecimal(s)
		again, okAgain := impl.ReadDecimal(s)
		if n != again || ok != okAgain || ok != (impl.Decimal(n) == s) {
			t.Errorf("ReadDecimal(%.40q) = %d, %v, and then %d, %v", s, n, ok, again, okAgain)
		}
		if impl.IsName(s) != impl.IsName(s) {
			t.Errorf("IsName(%.40q) differs", s)
		}
		words := impl.SplitWords(s)
		if !slices.Equal(words, impl.SplitWords(s)) {
			t.Errorf("SplitWords(%.40q) differs", s)
		}
		if strings.Join(words, "") != strings.ReplaceAll(s, " ", "") || slices.Contains(words, "") {
			t.Errorf("SplitWords(%.40q) = %.40q", s, words)
		}
	}
	for _, n := range extremes {
		if impl.Decimal(n) != big.NewInt(n).String() || impl.Decimal(n) != impl.Decimal(n) || impl.CodeName(n) != impl.CodeName(n) {
			t.Errorf("Decimal or CodeName of %d", n)
		}
	}
}
