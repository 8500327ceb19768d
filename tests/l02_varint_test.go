package tests

import (
	"encoding/binary"
	"math"
	"math/rand"
	"strings"
	"testing"

	"loop.example/g00498/impl"
)

// sampleValues holds the values around every power of two, and with them the first and last value of every encoded length.
func sampleValues() []uint64 {
	values := []uint64{0, 3, 100, 127, 128, 150, 300, 16383, 16384, math.MaxUint64 - 1, math.MaxUint64}
	for shift := range 64 {
		values = append(values, 1<<shift-1, 1<<shift, 1<<shift+1, math.MaxUint64<<shift, math.MaxUint64>>shift, 5<<shift)
	}
	source := rand.New(rand.NewSource(2))
	for range 500 {
		values = append(values, source.Uint64()>>source.Intn(64))
	}
	return values
}

// highBytes are n bytes with the high bit set and the given lowest seven bits.
func highBytes(n int, low byte) string { return strings.Repeat(string([]byte{low | 128}), n) }

func checkGetVar(t *testing.T, s string, at int, value uint64, next int, code int) {
	t.Helper()
	if u, n, c := impl.GetVar(s, at); u != value || n != next || c != code {
		t.Errorf("GetVar(%q, %d) = %d, %d, %d, not %d, %d, %d", s, at, u, n, c, value, next, code)
	}
}

func TestVarCodes(t *testing.T) {
	if impl.VrMore != 1 || impl.VrOver != 2 {
		t.Errorf("VrMore = %d, VrOver = %d", impl.VrMore, impl.VrOver)
	}
}

func TestPutVar(t *testing.T) {
	for u, want := range map[uint64]string{
		0: "\x00", 1: "\x01", 127: "\x7f", 128: "\x80\x01", 129: "\x81\x01", 150: "\x96\x01", 255: "\xff\x01", 256: "\x80\x02",
		300: "\xac\x02", 16383: "\xff\x7f", 16384: "\x80\x80\x01", math.MaxUint32: "\xff\xff\xff\xff\x0f",
		1<<63 - 1: highBytes(8, 127) + "\x7f", 1 << 63: highBytes(9, 0) + "\x01", math.MaxUint64: highBytes(9, 127) + "\x01",
	} {
		if got := impl.PutVar(u); got != want {
			t.Errorf("PutVar(%d) = %q", u, got)
		}
		checkGetVar(t, want, 0, u, len(want), 0)
	}
}

func TestPutVarAndVarLenOfSamples(t *testing.T) {
	for _, u := range sampleValues() {
		want := string(binary.AppendUvarint(nil, u))
		if got := impl.PutVar(u); got != want {
			t.Errorf("PutVar(%d) = %q", u, got)
		}
		if got := impl.VarLen(u); got != len(want) {
			t.Errorf("VarLen(%d) = %d", u, got)
		}
	}
}

func TestVarLenAtTheLengthLimits(t *testing.T) {
	for n := 1; n <= 9; n++ {
		last := uint64(1)<<(7*n) - 1
		if impl.VarLen(last) != n || impl.VarLen(last+1) != n+1 {
			t.Errorf("VarLen(%d) = %d, VarLen(%d) = %d", last, impl.VarLen(last), last+1, impl.VarLen(last+1))
		}
	}
	if impl.VarLen(0) != 1 || impl.VarLen(math.MaxUint64) != 10 {
		t.Errorf("VarLen(0) = %d, VarLen of the largest value = %d", impl.VarLen(0), impl.VarLen(math.MaxUint64))
	}
}

func TestPadVar(t *testing.T) {
	for _, c := range []struct {
		u    uint64
		n    int
		want string
	}{
		{0, 1, "\x00"}, {0, 2, "\x80\x00"}, {1, 3, "\x81\x80\x00"}, {127, 1, "\x7f"}, {127, 2, "\xff\x00"}, {128, 2, "\x80\x01"},
		{300, 2, "\xac\x02"}, {300, 3, "\xac\x82\x00"}, {300, 10, "\xac\x82" + highBytes(7, 0) + "\x00"},
		{0, 10, highBytes(9, 0) + "\x00"}, {1<<63 - 1, 9, highBytes(8, 127) + "\x7f"}, {1<<63 - 1, 10, highBytes(9, 127) + "\x00"},
		{1 << 63, 10, highBytes(9, 0) + "\x01"}, {math.MaxUint64, 10, highBytes(9, 127) + "\x01"},
		{300, 1, ""}, {128, 1, ""}, {1 << 63, 9, ""}, {math.MaxUint64, 9, ""}, {0, 0, ""}, {0, 11, ""}, {1, -1, ""}, {math.MaxUint64, 11, ""},
	} {
		if got := impl.PadVar(c.u, c.n); got != c.want {
			t.Errorf("PadVar(%d, %d) = %q", c.u, c.n, got)
		}
	}
}

// padded lays the padding beside the shortest encoding, without asking PadVar.
func padded(u uint64, n int) string {
	bytes := binary.AppendUvarint(nil, u)
	for len(bytes) < n {
		bytes[len(bytes)-1] |= 128
		bytes = append(bytes, 0)
	}
	return string(bytes)
}

func TestPaddedVarintsOfEveryLength(t *testing.T) {
	for _, u := range sampleValues() {
		shortest := len(binary.AppendUvarint(nil, u))
		for n := shortest; n <= 10; n++ {
			text := impl.PadVar(u, n)
			if text != padded(u, n) {
				t.Errorf("PadVar(%d, %d) = %q", u, n, text)
			}
			checkGetVar(t, text, 0, u, n, 0)
		}
		outside := []int{11, 12, 20, 64, 1 << 32, math.MaxInt, -1, -2, -10, math.MinInt, math.MinInt + 1}
		for n := range shortest {
			outside = append(outside, n)
		}
		for _, n := range outside {
			if got := impl.PadVar(u, n); got != "" {
				t.Errorf("PadVar(%d, %d) = %q", u, n, got)
			}
		}
	}
}

func TestTenthByte(t *testing.T) {
	for _, low := range []byte{0, 1, 64, 127} {
		nine := highBytes(9, low)
		below, _ := binary.Uvarint([]byte(nine + "\x00"))
		for tenth := range 256 {
			for _, rest := range []string{"", "\x00", "\x01", "\x80", "\xff\x00"} {
				for _, before := range []string{"", "x", "\xff\xff\xff"} {
					s, at := before+nine+string([]byte{byte(tenth)})+rest, len(before)
					if tenth <= 1 {
						checkGetVar(t, s, at, below|uint64(tenth)<<63, at+10, 0)
					} else {
						checkGetVar(t, s, at, 0, at+9, impl.VrOver)
					}
				}
			}
		}
	}
}

func TestTenthByteAfterNineLargestGroups(t *testing.T) {
	nine := highBytes(9, 127)
	checkGetVar(t, nine+"\x00", 0, math.MaxInt64, 10, 0)
	checkGetVar(t, nine+"\x01", 0, math.MaxUint64, 10, 0)
	for _, tenth := range []string{"\x02", "\x7f", "\x80", "\x81", "\xff"} {
		checkGetVar(t, nine+tenth, 0, 0, 9, impl.VrOver)
		checkGetVar(t, nine+tenth+"\x00\x00", 0, 0, 9, impl.VrOver)
	}
	checkGetVar(t, nine, 0, 0, 9, impl.VrMore)
	// Only the tenth byte is limited: a ninth byte of 127 is in range.
	checkGetVar(t, highBytes(8, 127)+"\x7f", 0, math.MaxInt64, 9, 0)
	checkGetVar(t, highBytes(8, 0)+"\x02", 0, 1<<57, 9, 0)
}

func TestGetVarInTheMiddle(t *testing.T) {
	checkGetVar(t, "x\x81\x80\x00y", 1, 1, 4, 0)
	checkGetVar(t, "\xff\xff\xac\x02\xff", 2, 300, 4, 0)
	// A start inside of a varint decodes what is left of it.
	checkGetVar(t, "\xac\x02\x05", 1, 2, 2, 0)
	checkGetVar(t, highBytes(12, 127)+"\x01", 3, math.MaxUint64, 13, 0)
	checkGetVar(t, highBytes(12, 127)+"\x01", 2, 0, 11, impl.VrOver)
	for _, u := range sampleValues() {
		for _, before := range []string{"", "\x00", "\xff", "ab\x80"} {
			for _, after := range []string{"", "\x00", "\xff\xff", "z"} {
				text := impl.PutVar(u)
				checkGetVar(t, before+text+after, len(before), u, len(before)+len(text), 0)
			}
		}
	}
}

func TestGetVarOfTruncatedVarints(t *testing.T) {
	checkGetVar(t, "a\x80", 1, 0, 2, impl.VrMore)
	for _, u := range sampleValues() {
		for _, text := range []string{impl.PutVar(u), padded(u, 10)} {
			for end := range len(text) {
				checkGetVar(t, text[:end], 0, 0, end, impl.VrMore)
				checkGetVar(t, "\x01\xfe"+text[:end], 2, 0, end+2, impl.VrMore)
			}
		}
	}
}

func TestGetVarOutsideOfTheText(t *testing.T) {
	for _, s := range []string{"", "a", "\x80", "\xac\x02", highBytes(9, 127), highBytes(20, 0)} {
		checkGetVar(t, s, len(s), 0, len(s), impl.VrMore)
		outside := []int{-1, -2, -10, -1 << 32, math.MinInt, math.MinInt + 1, len(s) + 1, len(s) + 2, len(s) + 10, 1 << 32, math.MaxInt - 9, math.MaxInt}
		for _, at := range outside {
			checkGetVar(t, s, at, 0, 0, impl.VrMore)
		}
	}
}

// checkConsumed holds what GetVar says of s against the promise: consumed bytes are an encoding of the value.
func checkConsumed(t *testing.T, s string, at int) {
	t.Helper()
	u, next, code := impl.GetVar(s, at)
	if code != 0 {
		if u != 0 || code == impl.VrMore && next != len(s) || code == impl.VrOver && next != at+9 || code > impl.VrOver || code < 0 {
			t.Errorf("GetVar(%q, %d) = %d, %d, %d", s, at, u, next, code)
		}
		return
	}
	if next <= at || next > len(s) || next-at > 10 || s[at:next] != padded(u, next-at) || s[at:next] != impl.PadVar(u, next-at) {
		t.Errorf("GetVar(%q, %d) = %d, %d, 0", s, at, u, next)
	}
}

func TestConsumedBytesEncodeTheValue(t *testing.T) {
	for _, s := range stringsOfUpToTwoBytes() {
		for at := range len(s) + 1 {
			checkConsumed(t, s, at)
		}
	}
	source := rand.New(rand.NewSource(3))
	for range 3000 {
		s := longRuns(source, 24)
		for at := range len(s) + 1 {
			checkConsumed(t, s, at)
		}
	}
}

// longRuns returns up to most random bytes, of which most have the high bit set, so that the tenth byte of a varint is reached.
func longRuns(source *rand.Rand, most int) string {
	bytes := make([]byte, source.Intn(most+1))
	for i := range bytes {
		bytes[i] = byte(source.Intn(128)) | 128
		if source.Intn(9) == 0 {
			bytes[i] = "\x00\x01\x02\x7f"[source.Intn(4)]
		}
	}
	return string(bytes)
}

func TestGetVarAgreesWithTheStandardLibrary(t *testing.T) {
	source := rand.New(rand.NewSource(4))
	for range 3000 {
		s := longRuns(source, 13)
		switch value, n := binary.Uvarint([]byte(s)); {
		case n > 0:
			checkGetVar(t, s, 0, value, n, 0)
		case len(s) < 10:
			checkGetVar(t, s, 0, 0, len(s), impl.VrMore)
		default:
			// Uvarint looks for an eleventh byte where the document rejects the tenth.
			checkGetVar(t, s, 0, 0, 9, impl.VrOver)
		}
	}
}
