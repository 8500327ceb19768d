package tests

import (
	"fmt"
	"math"
	"math/big"
	"slices"
	"strings"
	"testing"

	"loop.example/g00498/impl"
)

var largestLong = new(big.Int).SetUint64(math.MaxUint64)

func TestDigits(t *testing.T) {
	for n, want := range map[int]string{
		0: "0", 7: "7", -1: "-1", 10: "10", -70: "-70", 1203: "1203", 999999999: "999999999", 1000000000: "1000000000",
		math.MaxInt: "9223372036854775807", -math.MaxInt: "-9223372036854775807", math.MinInt: "-9223372036854775808",
	} {
		if got := impl.Digits(n); got != want {
			t.Errorf("Digits(%d) = %q", n, got)
		}
	}
}

func TestNumberParsesDigits(t *testing.T) {
	values := []int{999999998, 999999999}
	for n := range 2000 {
		values = append(values, n)
	}
	for power := 1; power <= 100000000; power *= 10 {
		values = append(values, power-1, power, power+1, 7*power)
	}
	for _, n := range values {
		if got, ok := impl.Number(impl.Digits(n)); !ok || got != n {
			t.Errorf("Number(Digits(%d)) = %d, %v", n, got, ok)
		}
	}
}

func TestNumberRejects(t *testing.T) {
	outside := []int{-1, -70, -999999999, 1000000000, 1000000001, 4294967296, 9999999999, math.MaxInt, math.MinInt}
	for _, n := range outside {
		rejectNumber(t, impl.Digits(n))
	}
	for _, s := range slices.Concat(malformedNumerals(), twentyDigits()) {
		rejectNumber(t, s)
	}
}

func rejectNumber(t *testing.T, s string) {
	t.Helper()
	if got, ok := impl.Number(s); ok || got != 0 {
		t.Errorf("Number(%q) = %d, %v", s, got, ok)
	}
}

// malformedNumerals are spellings that other parsers of numbers may accept.
func malformedNumerals() []string {
	return []string{
		"", "-", "+", "-0", "+0", "+1", "-1", "00", "01", "007", "0000000001", "000000000000000000001",
		" 1", "1 ", "1\n", "1\x00", "\x001", "1_0", "1,000", "1.0", ".5", "1e3", "0x1", "0b1", "a", "f", "1a", "a1", "1-", "/", ":", "1/", "1:",
		"\u0661", "1\u0662", "\xff", "1\xff", "\uff11",
	}
}

// twentyDigits are numerals of twenty digits, many of which wrap around to a small value modulo 2 to the power 64.
func twentyDigits() []string {
	return []string{
		"10000000000000000000", "11111111111111111111", "18446744073709551599", "18446744073709551609", "18446744073709551610",
		"18446744073709551614", "18446744073709551615", "18446744073709551616", "18446744073709551617", "18446744073709551619",
		"18446744073709551620", "18446744073709551625", "18446744073709551700", "18446744073709561615", "18446744083709551615",
		"19000000000000000000", "19999999999999999999", "20000000000000000000", "27670116110564327424", "36893488147419103232",
		"55340232221128654848", "73786976294838206464", "92233720368547758070", "92233720368547758080", "99999999999999999999",
		"00000000000000000001", "01844674407370955161", "+1844674407370955161", "1844674407370955161x", "x8446744073709551615",
	}
}

func TestLong(t *testing.T) {
	for u, want := range map[uint64]string{
		0: "0", 9: "9", 10: "10", 1000000000: "1000000000", 1 << 63: "9223372036854775808",
		9999999999999999999: "9999999999999999999", 10000000000000000000: "10000000000000000000", math.MaxUint64: "18446744073709551615",
	} {
		if got := impl.Long(u); got != want {
			t.Errorf("Long(%d) = %q", u, got)
		}
	}
}

func TestLongOfParsesLong(t *testing.T) {
	values := []uint64{0, math.MaxUint64}
	for power := uint64(1); power <= 1000000000000000000; power *= 10 {
		values = append(values, power-1, power, power+1, 9*power)
	}
	for shift := range 64 {
		values = append(values, 1<<shift, 1<<shift-1, 1<<shift+1, math.MaxUint64>>shift, math.MaxUint64-1<<shift)
	}
	for _, u := range values {
		if got, ok := impl.LongOf(impl.Long(u)); !ok || got != u {
			t.Errorf("LongOf(Long(%d)) = %d, %v", u, got, ok)
		}
	}
}

func TestLongOfNearTheLimit(t *testing.T) {
	numerals := twentyDigits()
	for offset := int64(-300); offset <= 300; offset++ {
		numerals = append(numerals, new(big.Int).Add(largestLong, big.NewInt(offset)).String())
	}
	// Multiples of 2 to the power 64 wrap around to 0.
	for factor := range int64(60) {
		multiple := new(big.Int).Lsh(big.NewInt(factor), 64)
		for offset := int64(-2); offset <= 2; offset++ {
			numerals = append(numerals, new(big.Int).Add(multiple, big.NewInt(offset)).String())
		}
	}
	// Every first digit and every place at which a numeral may begin to differ from the limit.
	for place, digit := range largestLong.String() {
		for other := '0'; other <= '9'; other++ {
			changed := []byte(largestLong.String())
			changed[place] = byte(other)
			numerals = append(numerals, string(changed))
			if other > digit {
				numerals = append(numerals, string(changed[:place+1])+strings.Repeat("0", 19-place))
			}
		}
	}
	for _, s := range numerals {
		checkLongOf(t, s)
	}
}

func TestLongOfRejects(t *testing.T) {
	long := []string{
		"100000000000000000000", "184467440737095516150", "184467440737095516160", "018446744073709551615",
		"340282366920938463463374607431768211456", strings.Repeat("9", 5000), strings.Repeat("0", 5000), "1" + strings.Repeat("0", 5000),
	}
	for _, s := range slices.Concat(malformedNumerals(), long) {
		if got, ok := impl.LongOf(s); ok || got != 0 {
			t.Errorf("LongOf(%q) = %d, %v", s, got, ok)
		}
	}
}

// checkLongOf compares LongOf with big integers, which do not wrap around.
func checkLongOf(t *testing.T, s string) {
	t.Helper()
	want, wantOk := uint64(0), false
	if value, ok := new(big.Int).SetString(s, 10); ok && value.String() == s && value.IsUint64() {
		want, wantOk = value.Uint64(), true
	}
	if got, ok := impl.LongOf(s); got != want || ok != wantOk {
		t.Errorf("LongOf(%q) = %d, %v", s, got, ok)
	}
}

func TestNumeralsOfUpToTwoBytes(t *testing.T) {
	accepted := map[string]int{}
	for n := range 100 {
		accepted[fmt.Sprint(n)] = n
	}
	for _, s := range stringsOfUpToTwoBytes() {
		want, wantOk := accepted[s]
		if got, ok := impl.Number(s); got != want || ok != wantOk {
			t.Errorf("Number(%q) = %d, %v", s, got, ok)
		}
		if got, ok := impl.LongOf(s); got != uint64(want) || ok != wantOk {
			t.Errorf("LongOf(%q) = %d, %v", s, got, ok)
		}
	}
}

func stringsOfUpToTwoBytes() []string {
	list := []string{""}
	for first := range 256 {
		list = append(list, string([]byte{byte(first)}))
		for second := range 256 {
			list = append(list, string([]byte{byte(first), byte(second)}))
		}
	}
	return list
}

func TestHex(t *testing.T) {
	for s, want := range map[string]string{"": "", "A0": "4130", "\x00\xfaA": "00fa41", "\xff\x0f\xf0": "ff0ff0", "\u00e9": "c3a9"} {
		if got := impl.Hex(s); got != want {
			t.Errorf("Hex(%q) = %q", s, got)
		}
		if got, ok := impl.Unhex(want); !ok || got != s {
			t.Errorf("Unhex(%q) = %q, %v", want, got, ok)
		}
	}
	every := make([]byte, 0, 256)
	for b := range 256 {
		every = append(every, byte(b))
	}
	if got := impl.Hex(string(every)); got != fmt.Sprintf("%x", every) {
		t.Errorf("Hex of every byte = %q", got)
	}
	if got, ok := impl.Unhex(impl.Hex(string(every))); !ok || got != string(every) {
		t.Errorf("Unhex of every byte = %q, %v", got, ok)
	}
}

func TestUnhexOfUpToTwoBytes(t *testing.T) {
	accepted := map[string]string{"": ""}
	for b := range 256 {
		accepted[fmt.Sprintf("%02x", b)] = string([]byte{byte(b)})
	}
	for _, s := range stringsOfUpToTwoBytes() {
		want, wantOk := accepted[s]
		if got, ok := impl.Unhex(s); got != want || ok != wantOk {
			t.Errorf("Unhex(%q) = %q, %v", s, got, ok)
		}
	}
}

func TestUnhexRejects(t *testing.T) {
	for _, s := range []string{
		"0", "4", "413", "41304", "A0", "4A", "a0B0", "4130F0", "0x41", "41 30", "4130 ", " 4130", "4130\n", "41g0", "g041", "4`", "4:", "4/", "-1", "\u00e9", "41\u0661", "41\xff0",
	} {
		if got, ok := impl.Unhex(s); ok || got != "" {
			t.Errorf("Unhex(%q) = %q, %v", s, got, ok)
		}
	}
}

func TestParts(t *testing.T) {
	for _, c := range []struct {
		s    string
		by   byte
		want []string
	}{
		{"", ',', []string{""}},
		{"", 0, []string{""}},
		{"a", ',', []string{"a"}},
		{",", ',', []string{"", ""}},
		{"a,,b", ',', []string{"a", "", "b"}},
		{",a,b,", ',', []string{"", "a", "b", ""}},
		{",,,", ',', []string{"", "", "", ""}},
		{"a b;c", ';', []string{"a b", "c"}},
		{"a\x00b", 0, []string{"a", "b"}},
		{"a\xffb\xff", 255, []string{"a", "b", ""}},
		{"\u00e9x\u00e8", 0xc3, []string{"", "\xa9x", "\xa8"}},
		{"\u00e9x\u00e8", 0xa9, []string{"\xc3", "x\u00e8"}},
		{"\u00e9", 0xe9, []string{"\u00e9"}},
		{"\xe9", 0xe9, []string{"", ""}},
	} {
		if got := impl.Parts(c.s, c.by); !slices.Equal(got, c.want) {
			t.Errorf("Parts(%q, %d) = %q", c.s, c.by, got)
		}
	}
}

func TestPartsAtEveryByte(t *testing.T) {
	const s = "ab\x80c\xffba\xc3\xa9\x00b"
	for by := range 256 {
		separator := string([]byte{byte(by)})
		got := impl.Parts(s, byte(by))
		if len(got) != strings.Count(s, separator)+1 || strings.Join(got, separator) != s {
			t.Errorf("Parts(%q, %d) = %q", s, by, got)
		}
	}
}

func TestPartsSharesNoMemory(t *testing.T) {
	first := impl.Parts("a,b", ',')
	first[0] = "changed"
	if again := impl.Parts("a,b", ','); !slices.Equal(again, []string{"a", "b"}) {
		t.Errorf("Parts after a change of an earlier result = %q", again)
	}
}
