package tests

import (
	"encoding/binary"
	"math"
	"math/big"
	"math/rand"
	"testing"

	"loop.example/g00498/impl"
)

func checkScanByte(t *testing.T, s impl.Scan, b int, want impl.Scan, code int) {
	t.Helper()
	if got, c := impl.ScanByte(s, b); got != want || c != code {
		t.Errorf("ScanByte(%v, %d) = %v, %d, not %v, %d", s, b, got, c, want, code)
	}
}

func checkScanText(t *testing.T, s impl.Scan, text string, want impl.Scan, n int, code int) {
	t.Helper()
	if got, m, c := impl.ScanText(s, text); got != want || m != n || c != code {
		t.Errorf("ScanText(%v, %q) = %v, %d, %d, not %v, %d, %d", s, text, got, m, c, want, n, code)
	}
}

func checkGetFix(t *testing.T, s string, at int, width int, value uint64, ok bool) {
	t.Helper()
	if got, gotOk := impl.GetFix(s, at, width); got != value || gotOk != ok {
		t.Errorf("GetFix(%q, %d, %d) = %d, %v, not %d, %v", s, at, width, got, gotOk, value, ok)
	}
}

// haveSamples are numbers of bytes inside, at and outside of every limit.
func haveSamples() []int {
	list := []int{math.MinInt, math.MinInt + 1, -1 << 32, -64, math.MaxInt, math.MaxInt - 1, 1 << 32, 1<<61 + 1, 63, 64}
	for have := -10; have <= 20; have++ {
		list = append(list, have)
	}
	return list
}

// byteSamples are all the bytes, and numbers that are none but would be with their higher bits cut off.
func byteSamples() []int {
	list := []int{math.MinInt, math.MinInt + 1, -1 << 32, -256, -255, -129, -128, -127, 1 << 8, 1<<8 + 1, 1<<16 + 1, 1<<32 + 1, math.MaxInt - 1, math.MaxInt}
	for b := -2; b <= 258; b++ {
		list = append(list, b)
	}
	return list
}

// fewValues are enough for tests that try many divisions of each of them.
func fewValues() []uint64 {
	return []uint64{
		0, 1, 127, 128, 255, 300, 16383, 16384, math.MaxUint32, 1 << 32, 0x8040201008040201, 0x0123456789abcdef,
		1<<56 - 1, 1 << 56, 1<<63 - 1, 1 << 63, math.MaxUint64 - 1, math.MaxUint64,
	}
}

// power returns 2 to the power n without a machine word's limit.
func power(n int) *big.Int { return new(big.Int).Lsh(big.NewInt(1), uint(n)) }

func long(u uint64) *big.Int { return new(big.Int).SetUint64(u) }

// scanValid says what the document says of ScanOk, in big integers.
func scanValid(s impl.Scan) bool {
	return s.Have >= 0 && s.Have <= 9 && long(s.Bits).Cmp(power(7*s.Have)) < 0
}

func TestScanCodes(t *testing.T) {
	if impl.ScMore != 0 || impl.ScDone != 1 || impl.ScOver != 2 {
		t.Errorf("ScMore = %d, ScDone = %d, ScOver = %d", impl.ScMore, impl.ScDone, impl.ScOver)
	}
}

func TestScanOk(t *testing.T) {
	for _, c := range []struct {
		s    impl.Scan
		want bool
	}{
		{impl.Scan{}, true},
		{impl.Scan{Bits: 1, Have: 0}, false},
		{impl.Scan{Bits: math.MaxUint64, Have: 0}, false},
		{impl.Scan{Bits: 0, Have: -1}, false},
		{impl.Scan{Bits: 1, Have: -1}, false},
		{impl.Scan{Bits: 127, Have: 1}, true},
		{impl.Scan{Bits: 128, Have: 1}, false},
		{impl.Scan{Bits: 1 << 63, Have: 1}, false},
		{impl.Scan{Bits: 1<<49 - 1, Have: 7}, true},
		{impl.Scan{Bits: 1 << 49, Have: 7}, false},
		{impl.Scan{Bits: 1<<56 - 1, Have: 8}, true},
		{impl.Scan{Bits: 1 << 56, Have: 8}, false},
		{impl.Scan{Bits: 0, Have: 9}, true},
		{impl.Scan{Bits: 1<<63 - 1, Have: 9}, true},
		{impl.Scan{Bits: 1 << 63, Have: 9}, false},
		{impl.Scan{Bits: math.MaxUint64, Have: 9}, false},
		{impl.Scan{Bits: 0, Have: 10}, false},
		{impl.Scan{Bits: 1, Have: 10}, false},
		{impl.Scan{Bits: math.MaxUint64, Have: 10}, false},
		{impl.Scan{Bits: 0, Have: math.MaxInt}, false},
		{impl.Scan{Bits: 0, Have: math.MinInt}, false},
	} {
		if got := impl.ScanOk(c.s); got != c.want {
			t.Errorf("ScanOk(%v) = %v", c.s, got)
		}
	}
}

func TestScanOkOfSamples(t *testing.T) {
	for _, have := range haveSamples() {
		for _, bits := range sampleValues() {
			s := impl.Scan{Bits: bits, Have: have}
			if got := impl.ScanOk(s); got != scanValid(s) {
				t.Errorf("ScanOk(%v) = %v", s, got)
			}
		}
	}
}

func TestScanByte(t *testing.T) {
	checkScanByte(t, impl.Scan{}, 0, impl.Scan{Bits: 0, Have: 1}, impl.ScDone)
	checkScanByte(t, impl.Scan{}, 127, impl.Scan{Bits: 127, Have: 1}, impl.ScDone)
	checkScanByte(t, impl.Scan{}, 128, impl.Scan{Bits: 0, Have: 1}, impl.ScMore)
	checkScanByte(t, impl.Scan{}, 172, impl.Scan{Bits: 44, Have: 1}, impl.ScMore)
	checkScanByte(t, impl.Scan{}, 255, impl.Scan{Bits: 127, Have: 1}, impl.ScMore)
	checkScanByte(t, impl.Scan{Bits: 44, Have: 1}, 2, impl.Scan{Bits: 300, Have: 2}, impl.ScDone)
	checkScanByte(t, impl.Scan{Bits: 0, Have: 1}, 0, impl.Scan{Bits: 0, Have: 2}, impl.ScDone)
	checkScanByte(t, impl.Scan{Bits: 1, Have: 7}, 255, impl.Scan{Bits: 127<<49 + 1, Have: 8}, impl.ScMore)
	checkScanByte(t, impl.Scan{Bits: 1, Have: 7}, 127, impl.Scan{Bits: 127<<49 + 1, Have: 8}, impl.ScDone)
	checkScanByte(t, impl.Scan{Bits: 1<<56 - 1, Have: 8}, 127, impl.Scan{Bits: 1<<63 - 1, Have: 9}, impl.ScDone)
	checkScanByte(t, impl.Scan{Bits: 1<<56 - 1, Have: 8}, 255, impl.Scan{Bits: 1<<63 - 1, Have: 9}, impl.ScMore)
}

func TestTenthScannedByte(t *testing.T) {
	for _, bits := range []uint64{0, 1, 127, 1 << 56, 1 << 62, 1<<63 - 1} {
		s := impl.Scan{Bits: bits, Have: 9}
		checkScanByte(t, s, 0, impl.Scan{Bits: bits, Have: 10}, impl.ScDone)
		checkScanByte(t, s, 1, impl.Scan{Bits: bits + 1<<63, Have: 10}, impl.ScDone)
		for b := 2; b <= 256; b++ {
			checkScanByte(t, s, b, s, impl.ScOver)
		}
		// The nine bytes do not limit each other: only the tenth is limited to 0 and 1.
		earlier := impl.Scan{Bits: bits >> 7, Have: 8}
		checkScanByte(t, earlier, 2, impl.Scan{Bits: bits>>7 + 2<<56, Have: 9}, impl.ScDone)
	}
}

func TestRejectedBytesLeaveTheState(t *testing.T) {
	states := []impl.Scan{
		{}, {Bits: 44, Have: 1}, {Bits: 1<<63 - 1, Have: 9},
		{Bits: 1, Have: 0}, {Bits: 128, Have: 1}, {Bits: 1 << 63, Have: 9}, {Bits: 5, Have: -1}, {Bits: 5, Have: 10}, {Bits: math.MaxUint64, Have: 10},
		{Bits: 7, Have: math.MinInt}, {Bits: 7, Have: math.MaxInt},
	}
	for _, s := range states {
		for _, b := range []int{-1, -128, -256, 256, 257, 384, math.MinInt, math.MaxInt} {
			checkScanByte(t, s, b, s, impl.ScOver)
		}
	}
	for _, s := range states[3:] {
		for b := range 256 {
			checkScanByte(t, s, b, s, impl.ScOver)
		}
	}
}

// scanned says what the document says of ScanByte, in big integers.
func scanned(s impl.Scan, b int) (impl.Scan, int) {
	if !scanValid(s) || b < 0 || b > 255 || s.Have == 9 && b > 1 {
		return s, impl.ScOver
	}
	group := new(big.Int).Mul(big.NewInt(int64(b%128)), power(7*s.Have))
	next := impl.Scan{Bits: group.Add(group, long(s.Bits)).Uint64(), Have: s.Have + 1}
	if b < 128 {
		return next, impl.ScDone
	}
	return next, impl.ScMore
}

// fitting cuts bits to those that a valid state of this many bytes may have, so that most of the samples are valid.
func fitting(bits uint64, have int) uint64 {
	if have < 0 || have > 9 {
		return bits
	}
	return bits >> (64 - 7*have)
}

func TestScanByteOfSamples(t *testing.T) {
	for _, have := range haveSamples() {
		for _, bits := range fewValues() {
			for _, b := range byteSamples() {
				for _, kept := range []uint64{bits, fitting(bits, have)} {
					s := impl.Scan{Bits: kept, Have: have}
					want, code := scanned(s, b)
					checkScanByte(t, s, b, want, code)
				}
			}
		}
	}
}

func TestScanText(t *testing.T) {
	checkScanText(t, impl.Scan{}, "\xac\x02", impl.Scan{Bits: 300, Have: 2}, 2, impl.ScDone)
	checkScanText(t, impl.Scan{}, "\xac\x82\x00", impl.Scan{Bits: 300, Have: 3}, 3, impl.ScDone)
	checkScanText(t, impl.Scan{}, "\xac", impl.Scan{Bits: 44, Have: 1}, 1, impl.ScMore)
	checkScanText(t, impl.Scan{Bits: 44, Have: 1}, "\x02", impl.Scan{Bits: 300, Have: 2}, 1, impl.ScDone)
	checkScanText(t, impl.Scan{}, highBytes(9, 127), impl.Scan{Bits: 1<<63 - 1, Have: 9}, 9, impl.ScMore)
	checkScanText(t, impl.Scan{}, highBytes(9, 127)+"\x00", impl.Scan{Bits: 1<<63 - 1, Have: 10}, 10, impl.ScDone)
	checkScanText(t, impl.Scan{}, highBytes(9, 127)+"\x01", impl.Scan{Bits: math.MaxUint64, Have: 10}, 10, impl.ScDone)
	for _, tenth := range []string{"\x02", "\x7f", "\x80", "\xff", "\x02\x00", "\x80\x01", "\xff\xff"} {
		checkScanText(t, impl.Scan{}, highBytes(9, 127)+tenth, impl.Scan{Bits: 1<<63 - 1, Have: 9}, 10, impl.ScOver)
	}
}

func TestScanTextOfNoBytes(t *testing.T) {
	for _, s := range []impl.Scan{
		{}, {Bits: 44, Have: 1}, {Bits: 1<<63 - 1, Have: 9}, {Bits: 300, Have: 10}, {Bits: 1, Have: 0}, {Bits: 9, Have: -1}, {Bits: 1, Have: math.MinInt}, {Bits: 1, Have: math.MaxInt},
	} {
		checkScanText(t, s, "", s, 0, impl.ScMore)
	}
}

func TestScanTextFromAnInvalidState(t *testing.T) {
	for _, s := range []impl.Scan{{Bits: 1, Have: 0}, {Bits: 128, Have: 1}, {Bits: 1 << 63, Have: 9}, {Bits: 300, Have: 10}, {Have: 10}, {Have: -1}, {Have: math.MaxInt}} {
		for _, text := range []string{"\x00", "\x01", "\x7f", "\x80", "\xff", "\x00\x00", "\x80\x01", highBytes(12, 0)} {
			checkScanText(t, s, text, s, 1, impl.ScOver)
		}
	}
}

func TestBytesAfterTheVarintAreNotExamined(t *testing.T) {
	for _, u := range sampleValues() {
		for n := impl.VarLen(u); n <= 10; n++ {
			for _, after := range []string{"", "\x00", "\x01", "\x80", "\xff", "x\xac\x02", highBytes(12, 127)} {
				checkScanText(t, impl.Scan{}, padded(u, n)+after, impl.Scan{Bits: u, Have: n}, n, impl.ScDone)
			}
		}
	}
}

// byBytes feeds the bytes of text one at a time until a code other than ScMore, and counts the bytes.
func byBytes(s impl.Scan, text string) (impl.Scan, int, int) {
	for i := range len(text) {
		next, code := impl.ScanByte(s, int(text[i]))
		if code != impl.ScMore {
			return next, i + 1, code
		}
		s = next
	}
	return s, len(text), impl.ScMore
}

// byChunks feeds the chunks in order until a code other than ScMore, and counts the bytes.
func byChunks(s impl.Scan, chunks []string) (impl.Scan, int, int) {
	total := 0
	for _, chunk := range chunks {
		next, n, code := impl.ScanText(s, chunk)
		total += n
		if code != impl.ScMore {
			return next, total, code
		}
		s = next
	}
	return s, total, impl.ScMore
}

// divisions are all the ways to cut text into chunks that are not empty, and for each of them the same with empty chunks in between.
func divisions(text string) [][]string {
	var list [][]string
	for cuts := range 1 << max(0, len(text)-1) {
		chunks, loose, start := []string{}, []string{""}, 0
		for end := 1; end <= len(text); end++ {
			if end == len(text) || cuts>>(end-1)&1 == 1 {
				chunks, loose, start = append(chunks, text[start:end]), append(loose, text[start:end], ""), end
			}
		}
		list = append(list, chunks, loose)
	}
	return list
}

func TestDivisions(t *testing.T) {
	if got := divisions("abc"); len(got) != 8 || len(got[0]) != 1 || len(got[6]) != 3 || got[6][1] != "b" || len(got[7]) != 7 {
		t.Errorf("divisions of abc = %q", got)
	}
}

func TestVarintsInAnyDivision(t *testing.T) {
	for _, u := range fewValues() {
		for n := impl.VarLen(u); n <= 10; n++ {
			text, want := padded(u, n), impl.Scan{Bits: u, Have: n}
			checkScanText(t, impl.Scan{}, text, want, n, impl.ScDone)
			if got, m, code := byBytes(impl.Scan{}, text); got != want || m != n || code != impl.ScDone {
				t.Errorf("bytes of %q = %v, %d, %d", text, got, m, code)
			}
			for _, chunks := range divisions(text) {
				if got, m, code := byChunks(impl.Scan{}, chunks); got != want || m != n || code != impl.ScDone {
					t.Errorf("%q = %v, %d, %d", chunks, got, m, code)
				}
			}
			if value, next, code := impl.GetVar(text, 0); value != u || next != n || code != 0 {
				t.Errorf("GetVar(%q, 0) = %d, %d, %d", text, value, next, code)
			}
		}
	}
}

func TestIncompleteAndRejectedVarintsInAnyDivision(t *testing.T) {
	texts := []string{"", "\x80", "\xac", highBytes(5, 85), highBytes(8, 127), highBytes(9, 127), highBytes(9, 0)}
	for _, tenth := range []string{"\x00", "\x01", "\x02", "\x7f", "\x80", "\xff"} {
		texts = append(texts, highBytes(9, 127)+tenth, highBytes(9, 127)+tenth+"\x01", highBytes(9, 0)+tenth, "\x81\x05"+tenth)
	}
	for _, text := range texts {
		want, n, code := byBytes(impl.Scan{}, text)
		for _, chunks := range divisions(text) {
			if got, m, c := byChunks(impl.Scan{}, chunks); got != want || m != n || c != code {
				t.Errorf("%q = %v, %d, %d, not %v, %d, %d", chunks, got, m, c, want, n, code)
			}
		}
	}
}

func TestScanTextAgreesWithGetVar(t *testing.T) {
	source := rand.New(rand.NewSource(5))
	for range 3000 {
		text := longRuns(source, 14)
		s, n, code := impl.ScanText(impl.Scan{}, text)
		value, next, told := impl.GetVar(text, 0)
		switch told {
		case 0:
			checkScanText(t, impl.Scan{}, text, impl.Scan{Bits: value, Have: next}, next, impl.ScDone)
		case impl.VrMore:
			if code != impl.ScMore || n != len(text) || s.Have != len(text) || !impl.ScanOk(s) {
				t.Errorf("ScanText of %q = %v, %d, %d", text, s, n, code)
			}
		default:
			if code != impl.ScOver || n != next+1 || s.Have != 9 || !impl.ScanOk(s) {
				t.Errorf("ScanText of %q = %v, %d, %d", text, s, n, code)
			}
		}
	}
}

func TestScanTextIsScanByteRepeated(t *testing.T) {
	source := rand.New(rand.NewSource(6))
	for range 3000 {
		// Some of these states are invalid.
		s := impl.Scan{Bits: source.Uint64() >> source.Intn(65), Have: source.Intn(12) - 1}
		text := longRuns(source, 12)
		want, n, code := byBytes(s, text)
		checkScanText(t, s, text, want, n, code)
	}
}

func TestFixByte(t *testing.T) {
	for _, c := range []struct {
		s    impl.Scan
		b    int
		want impl.Scan
	}{
		{impl.Scan{}, 0, impl.Scan{Bits: 0, Have: 1}},
		{impl.Scan{}, 1, impl.Scan{Bits: 1, Have: 1}},
		{impl.Scan{}, 255, impl.Scan{Bits: 255, Have: 1}},
		{impl.Scan{Bits: 1, Have: 1}, 2, impl.Scan{Bits: 513, Have: 2}},
		{impl.Scan{Bits: 5, Have: 3}, 128, impl.Scan{Bits: 1<<31 + 5, Have: 4}},
		{impl.Scan{Bits: 5, Have: 4}, 128, impl.Scan{Bits: 1<<39 + 5, Have: 5}},
		{impl.Scan{Bits: 1<<56 - 1, Have: 7}, 255, impl.Scan{Bits: math.MaxUint64, Have: 8}},
		{impl.Scan{Bits: 0, Have: 7}, 128, impl.Scan{Bits: 1 << 63, Have: 8}},
		// Bits that are already at the place of the byte are added to it, and the sum wraps around.
		{impl.Scan{Bits: 1, Have: 0}, 1, impl.Scan{Bits: 2, Have: 1}},
		{impl.Scan{Bits: 255, Have: 0}, 1, impl.Scan{Bits: 256, Have: 1}},
		{impl.Scan{Bits: math.MaxUint64, Have: 0}, 1, impl.Scan{Bits: 0, Have: 1}},
		{impl.Scan{Bits: 1 << 63, Have: 7}, 128, impl.Scan{Bits: 0, Have: 8}},
		{impl.Scan{Bits: math.MaxUint64, Have: 7}, 255, impl.Scan{Bits: math.MaxUint64 - 1<<56, Have: 8}},
		// These are rejected.
		{impl.Scan{Bits: 3, Have: -1}, 1, impl.Scan{Bits: 3, Have: -1}},
		{impl.Scan{Bits: 3, Have: 8}, 1, impl.Scan{Bits: 3, Have: 8}},
		{impl.Scan{Bits: math.MaxUint64, Have: 8}, 0, impl.Scan{Bits: math.MaxUint64, Have: 8}},
		{impl.Scan{Bits: 3, Have: 9}, 1, impl.Scan{Bits: 3, Have: 9}},
		{impl.Scan{Bits: 3, Have: 2}, -1, impl.Scan{Bits: 3, Have: 2}},
		{impl.Scan{Bits: 3, Have: 2}, 256, impl.Scan{Bits: 3, Have: 2}},
		{impl.Scan{Bits: 3, Have: math.MinInt}, 1, impl.Scan{Bits: 3, Have: math.MinInt}},
		{impl.Scan{Bits: 3, Have: math.MaxInt}, 1, impl.Scan{Bits: 3, Have: math.MaxInt}},
	} {
		if got := impl.FixByte(c.s, c.b); got != c.want {
			t.Errorf("FixByte(%v, %d) = %v, not %v", c.s, c.b, got, c.want)
		}
	}
}

// fixed says what the document says of FixByte, in big integers.
func fixed(s impl.Scan, b int) impl.Scan {
	if s.Have < 0 || s.Have > 7 || b < 0 || b > 255 {
		return s
	}
	sum := new(big.Int).Mul(big.NewInt(int64(b)), power(8*s.Have))
	sum.Add(sum, long(s.Bits)).Mod(sum, power(64))
	return impl.Scan{Bits: sum.Uint64(), Have: s.Have + 1}
}

func TestFixByteOfSamples(t *testing.T) {
	for _, have := range haveSamples() {
		for _, bits := range fewValues() {
			for _, b := range byteSamples() {
				s := impl.Scan{Bits: bits, Have: have}
				if got := impl.FixByte(s, b); got != fixed(s, b) {
					t.Errorf("FixByte(%v, %d) = %v", s, b, got)
				}
			}
		}
	}
}

// littleEndian asks the standard library for the encoding; width is 4 or 8.
func littleEndian(u uint64, width int) string {
	return string(binary.LittleEndian.AppendUint64(nil, u)[:width])
}

func TestPutFix(t *testing.T) {
	for _, c := range []struct {
		u     uint64
		width int
		want  string
	}{
		{0, 4, "\x00\x00\x00\x00"}, {513, 4, "\x01\x02\x00\x00"}, {math.MaxUint32, 4, "\xff\xff\xff\xff"}, {1 << 31, 4, "\x00\x00\x00\x80"},
		{1 << 32, 4, ""}, {1<<32 + 1, 4, ""}, {1 << 40, 4, ""}, {1 << 63, 4, ""}, {math.MaxUint64, 4, ""},
		{0, 8, "\x00\x00\x00\x00\x00\x00\x00\x00"}, {1 << 32, 8, "\x00\x00\x00\x00\x01\x00\x00\x00"}, {0x0123456789abcdef, 8, "\xef\xcd\xab\x89\x67\x45\x23\x01"},
		{1 << 63, 8, "\x00\x00\x00\x00\x00\x00\x00\x80"}, {math.MaxUint64, 8, "\xff\xff\xff\xff\xff\xff\xff\xff"},
		{0, 0, ""}, {0, 1, ""}, {0, 2, ""}, {0, 3, ""}, {0, 5, ""}, {0, 6, ""}, {0, 7, ""}, {0, 9, ""}, {0, 16, ""}, {0, -1, ""}, {0, -4, ""}, {0, -8, ""},
	} {
		if got := impl.PutFix(c.u, c.width); got != c.want {
			t.Errorf("PutFix(%d, %d) = %q", c.u, c.width, got)
		}
	}
}

func TestFixedIntegersOfSamples(t *testing.T) {
	for _, u := range sampleValues() {
		for _, width := range []int{4, 8} {
			text := littleEndian(u, width)
			if width == 4 && u > math.MaxUint32 {
				if got := impl.PutFix(u, width); got != "" {
					t.Errorf("PutFix(%d, %d) = %q", u, width, got)
				}
				continue
			}
			if got := impl.PutFix(u, width); got != text {
				t.Errorf("PutFix(%d, %d) = %q", u, width, got)
			}
			for _, before := range []string{"", "\x00", "\xff\xff\xff"} {
				for _, after := range []string{"", "\x01", "\xff\xff\xff\xff\xff"} {
					checkGetFix(t, before+text+after, len(before), width, u, true)
				}
			}
		}
		for _, width := range wrongWidths() {
			if got := impl.PutFix(u, width); got != "" {
				t.Errorf("PutFix(%d, %d) = %q", u, width, got)
			}
		}
	}
}

func wrongWidths() []int {
	return []int{math.MinInt, math.MinInt + 4, -1 << 32, -8, -4, -1, 0, 1, 2, 3, 5, 6, 7, 9, 10, 12, 16, 32, 64, 1<<32 + 4, 1<<61 + 4, 1<<61 + 8, math.MaxInt}
}

func TestGetFix(t *testing.T) {
	const s = "x\x01\x02\x03\x04\x05\x06\x07\x80"
	checkGetFix(t, s, 0, 4, 0x03020178, true)
	checkGetFix(t, s, 1, 4, 0x04030201, true)
	checkGetFix(t, s, 5, 4, 0x80070605, true)
	checkGetFix(t, s, 6, 4, 0, false)
	checkGetFix(t, s, 0, 8, 0x0706050403020178, true)
	checkGetFix(t, s, 1, 8, 0x8007060504030201, true)
	checkGetFix(t, s, 2, 8, 0, false)
	for _, width := range wrongWidths() {
		for at := range len(s) + 1 {
			checkGetFix(t, s, at, width, 0, false)
		}
	}
}

func TestGetFixAtEveryOffset(t *testing.T) {
	for length := range 20 {
		s := ("\x81\xff\x00\x7f\x10\x99\xab\x01\xfe\x55" + highBytes(10, 3))[:length]
		for _, width := range []int{4, 8} {
			for at := range length + 1 {
				if length-at < width {
					checkGetFix(t, s, at, width, 0, false)
					continue
				}
				eight := make([]byte, 8)
				copy(eight, s[at:at+width])
				checkGetFix(t, s, at, width, binary.LittleEndian.Uint64(eight), true)
			}
			outside := []int{-1, -2, -4, -8, -1 << 32, math.MinInt, math.MinInt + 1, math.MinInt + 8, length + 1, length + 8, 1 << 32, math.MaxInt - 8, math.MaxInt - 4, math.MaxInt - 3, math.MaxInt}
			for _, at := range outside {
				checkGetFix(t, s, at, width, 0, false)
			}
		}
	}
}

// byFixChunks feeds the bytes of the chunks, with nothing kept from chunk to chunk but the state.
func byFixChunks(chunks []string) impl.Scan {
	s := impl.Scan{}
	for _, chunk := range chunks {
		for i := range len(chunk) {
			s = impl.FixByte(s, int(chunk[i]))
		}
	}
	return s
}

func TestFixedIntegersInAnyDivision(t *testing.T) {
	for _, u := range fewValues() {
		for _, width := range []int{4, 8} {
			text := littleEndian(u, width)
			value, ok := impl.GetFix(text, 0, width)
			if !ok || impl.PutFix(value, width) != text {
				t.Errorf("GetFix(%q, 0, %d) = %d, %v", text, width, value, ok)
			}
			for _, chunks := range divisions(text) {
				if got := byFixChunks(chunks); got != (impl.Scan{Bits: value, Have: width}) {
					t.Errorf("%q = %v, not %d", chunks, got, value)
				}
			}
		}
	}
}

func TestAnyFixedBytesAreAnEncoding(t *testing.T) {
	source := rand.New(rand.NewSource(7))
	for range 3000 {
		text := littleEndian(source.Uint64()>>source.Intn(64), 8)
		for _, width := range []int{4, 8} {
			value, ok := impl.GetFix(text, 0, width)
			if !ok || impl.PutFix(value, width) != text[:width] {
				t.Errorf("GetFix(%q, 0, %d) = %d, %v", text, width, value, ok)
			}
			if got := byFixChunks([]string{text[:width]}); got.Bits != value {
				t.Errorf("bytes of %q = %v, not %d", text[:width], got, value)
			}
		}
	}
}
