package impl

import (
	"strconv"
	"strings"
)

const (
	mostNumber = 999999999
	mostLong   = 1<<64 - 1
	hexDigits  = "0123456789abcdef"
)

func Digits(n int) string { return strconv.Itoa(n) }

// A panic leaves the first result at its zero value, as the document requires of a rejected string.
func Number(s string) (n int, ok bool) {
	defer func() { ok = recover() == nil }()
	return int(numeral(s, mostNumber)), true
}

func Hex(s string) string {
	out := make([]byte, 0, 2*len(s))
	for i := range len(s) {
		out = append(out, hexDigits[s[i]>>4], hexDigits[s[i]&15])
	}
	return string(out)
}

func Unhex(s string) (text string, ok bool) {
	defer func() { ok = recover() == nil }()
	return bytesOfHex(s), true
}

// The separator is built from a byte slice because string(rune(by)) would be two bytes from 128 on.
func Parts(s string, by byte) []string {
	return strings.Split(s, string([]byte{by}))
}

func Long(u uint64) string { return strconv.FormatUint(u, 10) }

func LongOf(s string) (u uint64, ok bool) {
	defer func() { ok = recover() == nil }()
	return numeral(s, mostLong), true
}

// numeral panics unless s is the shortest decimal numeral of a value up to most, which is at least 9.
func numeral(s string, most uint64) uint64 {
	if s == "" || len(s) > 1 && s[0] == '0' {
		panic("an empty numeral or a leading zero")
	}
	value := uint64(0)
	for i := range len(s) {
		digit := digitIn(s[i], 10)
		// The limit is divided because ten times the value may wrap around and look small again.
		if value > (most-digit)/10 {
			panic("a numeral above the limit")
		}
		value = 10*value + digit
	}
	return value
}

// bytesOfHex panics unless s consists of pairs of lower-case digits.
func bytesOfHex(s string) string {
	if len(s)%2 != 0 {
		panic("half a byte")
	}
	out := make([]byte, 0, len(s)/2)
	for i := 0; i < len(s); i += 2 {
		out = append(out, byte(digitIn(s[i], 16)<<4|digitIn(s[i+1], 16)))
	}
	return string(out)
}

// digitIn panics unless c is a digit of this base, which is at most 16.
func digitIn(c byte, base int) uint64 {
	at := strings.IndexByte(hexDigits[:base], c)
	if at < 0 {
		panic("not a digit")
	}
	return uint64(at)
}
