package tests

import (
	"math"
	"math/rand"
	"strings"
	"sync"
	"testing"
	"unicode/utf8"

	"loop.example/g00498/impl"
)

func checkUtfByte(t *testing.T, u impl.Utf, b int, want impl.Utf, ok bool) {
	t.Helper()
	if got, gotOk := impl.UtfByte(u, b); got != want || gotOk != ok {
		t.Errorf("UtfByte(%v, %d) = %v, %v, not %v, %v", u, b, got, gotOk, want, ok)
	}
}

func checkUtfText(t *testing.T, u impl.Utf, s string, want impl.Utf, at int) {
	t.Helper()
	if got, gotAt := impl.UtfText(u, s); got != want || gotAt != at {
		t.Errorf("UtfText(%v, %q) = %v, %d, not %v, %d", u, s, got, gotAt, want, at)
	}
}

// checkUtf compares what is said of a whole text with the state that is expected of it and the offset of its first wrong byte.
func checkUtf(t *testing.T, s string, want impl.Utf, at int) {
	t.Helper()
	checkUtfText(t, impl.Utf{}, s, want, at)
	if got := impl.UtfState(s); got != want {
		t.Errorf("UtfState(%q) = %v, not %v", s, got, want)
	}
	if got, good := impl.UtfGood(s), at == -1 && want == (impl.Utf{}); got != good {
		t.Errorf("UtfGood(%q) = %v", s, got)
	}
}

func utf(want int, low int, high int) impl.Utf {
	return impl.Utf{Want: want, Low: low, High: high}
}

func anyNext(want int) impl.Utf { return utf(want, 128, 191) }

// utfStates are the valid states, each with a text that leads to it.
func utfStates() map[impl.Utf]string {
	return map[impl.Utf]string{
		{}:               "",
		anyNext(1):       "\xc2",
		anyNext(2):       "\xe1",
		anyNext(3):       "\xf1",
		utf(2, 160, 191): "\xe0",
		utf(2, 128, 159): "\xed",
		utf(3, 144, 191): "\xf0",
		utf(3, 128, 143): "\xf4",
	}
}

// wrongUtfStates are states near to the valid ones and far from them.
func wrongUtfStates() []impl.Utf {
	var list []impl.Utf
	limits := []int{math.MinInt, -1, 0, 1, 2, 127, 128, 129, 143, 144, 145, 159, 160, 161, 190, 191, 192, 255, 256, math.MaxInt}
	for _, want := range []int{math.MinInt, -128, -2, -1, 0, 1, 2, 3, 4, 5, 128, 191, 256, 257, math.MaxInt} {
		for _, low := range limits {
			for _, high := range limits {
				u := utf(want, low, high)
				if _, valid := utfStates()[u]; !valid {
					list = append(list, u)
				}
			}
		}
	}
	return list
}

// utfStarts has for every beginning of an encoding the state after it, found by taking all the encodings of unicode/utf8 apart.
var utfStarts = sync.OnceValue(func() map[string]impl.Utf {
	starts := map[string]impl.Utf{"": {}}
	for point := rune(128); point <= utf8.MaxRune; point++ {
		if !utf8.ValidRune(point) {
			continue
		}
		text := string(point)
		for have := 1; have < len(text); have++ {
			next := int(text[have])
			u, known := starts[text[:have]]
			if !known {
				u = impl.Utf{Want: len(text) - have, Low: next, High: next}
			}
			u.Low, u.High = min(u.Low, next), max(u.High, next)
			starts[text[:have]] = u
		}
	}
	return starts
})

func onePoint(s string) bool { return utf8.ValidString(s) && utf8.RuneCountInString(s) == 1 }

// continued is the beginning of an encoding that is left when b follows start, and whether b may follow.
func continued(start string, b byte) (string, bool) {
	longer := start + string([]byte{b})
	if onePoint(longer) {
		return "", true
	}
	if _, ok := utfStarts()[longer]; ok {
		return longer, true
	}
	return start, false
}

// utfRead is what UtfText should return for s from the zero state.
func utfRead(s string) (impl.Utf, int) {
	start := ""
	for i := range len(s) {
		next, ok := continued(start, s[i])
		if !ok {
			return utfStarts()[start], i
		}
		start = next
	}
	return utfStarts()[start], -1
}

// concatenation reports whether s can be cut into results of RuneText.
func concatenation(s string) bool {
	reached := make([]bool, len(s)+1)
	reached[0] = true
	for i := range len(s) {
		for end := i + 1; reached[i] && end <= min(i+4, len(s)); end++ {
			point, _ := utf8.DecodeRuneInString(s[i:end])
			if impl.RuneText(int(point)) == s[i:end] {
				reached[end] = true
			}
		}
	}
	return reached[len(s)]
}

// pointSamples are code points around every limit of the encoding, and some others.
func pointSamples() []int {
	var list []int
	for _, limit := range []int{0, 127, 2047, 4095, 53247, 55295, 57344, 65535, 65536, 262143, 1048575, 1114111} {
		for n := limit - 2; n <= limit+2; n++ {
			if impl.RuneText(n) != "" {
				list = append(list, n)
			}
		}
	}
	return append(list, 65, 233, 955, 8364, 65279, 65533, 128512)
}

// joinedPoints returns the encodings of up to most samples, one after another.
func joinedPoints(source *rand.Rand, most int) string {
	points, text := pointSamples(), ""
	for range source.Intn(most + 1) {
		text += impl.RuneText(points[source.Intn(len(points))])
	}
	return text
}

// misspelt returns s with a byte changed, removed or inserted.
func misspelt(source *rand.Rand, s string) string {
	at, b := source.Intn(len(s)+1), string([]byte{byte(source.Intn(256))})
	switch {
	case source.Intn(3) == 0 || at == len(s):
		return s[:at] + b + s[at:]
	case source.Intn(2) == 0:
		return s[:at] + b + s[at+1:]
	}
	return s[:at] + s[at+1:]
}

// utfEdges are bytes on both sides of every limit in chapter 5.
const utfEdges = "\x00\x41\x7f\x80\x8f\x90\x9f\xa0\xbf\xc0\xc1\xc2\xdf\xe0\xe1\xec\xed\xee\xef\xf0\xf1\xf3\xf4\xf5\xff"

// edgeStrings are all the strings of n of these bytes.
func edgeStrings(n int) []string {
	list := []string{""}
	for range n {
		var longer []string
		for _, s := range list {
			for i := range len(utfEdges) {
				longer = append(longer, s+utfEdges[i:i+1])
			}
		}
		list = longer
	}
	return list
}

func TestUtfOkOfNamedStates(t *testing.T) {
	valid := map[impl.Utf]bool{
		utf(0, 0, 0): true, utf(1, 128, 191): true, utf(2, 128, 191): true, utf(2, 160, 191): true, utf(2, 128, 159): true,
		utf(3, 128, 191): true, utf(3, 144, 191): true, utf(3, 128, 143): true,
	}
	for want := -1; want <= 4; want++ {
		for _, low := range []int{0, 128, 144, 160} {
			for _, high := range []int{0, 143, 159, 191} {
				u := utf(want, low, high)
				if got := impl.UtfOk(u); got != valid[u] {
					t.Errorf("UtfOk(%v) = %v", u, got)
				}
			}
		}
	}
}

func TestUtfOkOfOtherStates(t *testing.T) {
	for _, u := range wrongUtfStates() {
		if impl.UtfOk(u) {
			t.Errorf("UtfOk(%v) = true", u)
		}
	}
	for u := range utfStates() {
		if !impl.UtfOk(u) {
			t.Errorf("UtfOk(%v) = false", u)
		}
	}
}

// Every state that bytes lead to from the zero state is valid, and every valid state is among them.
func TestReachedUtfStates(t *testing.T) {
	seen := map[impl.Utf]bool{{}: true}
	for work := []impl.Utf{{}}; len(work) > 0; work = work[1:] {
		for _, b := range byteSamples() {
			next, ok := impl.UtfByte(work[0], b)
			if !impl.UtfOk(next) || !ok && next != work[0] {
				t.Errorf("UtfByte(%v, %d) = %v, %v", work[0], b, next, ok)
			}
			if !seen[next] {
				seen[next] = true
				work = append(work, next)
			}
		}
	}
	states := utfStates()
	for u := range seen {
		if _, ok := states[u]; !ok {
			t.Errorf("%v is reached", u)
		}
	}
	if len(seen) != len(states) {
		t.Errorf("%d states are reached, not %d", len(seen), len(states))
	}
}

func TestFirstUtfBytes(t *testing.T) {
	zero := impl.Utf{}
	narrow := map[int]impl.Utf{224: utf(2, 160, 191), 237: utf(2, 128, 159), 240: utf(3, 144, 191), 244: utf(3, 128, 143)}
	for _, b := range byteSamples() {
		first, special := narrow[b]
		switch {
		case special:
			checkUtfByte(t, zero, b, first, true)
		case b >= 0 && b <= 127:
			checkUtfByte(t, zero, b, zero, true)
		case b >= 194 && b <= 223:
			checkUtfByte(t, zero, b, anyNext(1), true)
		case b >= 224 && b <= 239:
			checkUtfByte(t, zero, b, anyNext(2), true)
		case b >= 240 && b <= 244:
			checkUtfByte(t, zero, b, anyNext(3), true)
		default:
			checkUtfByte(t, zero, b, zero, false)
		}
	}
}

func TestFirstUtfBytesAtTheLimits(t *testing.T) {
	zero := impl.Utf{}
	for _, c := range []struct {
		b    int
		want impl.Utf
		ok   bool
	}{
		{math.MinInt, zero, false}, {-1, zero, false}, {0, zero, true}, {127, zero, true}, {128, zero, false},
		{193, zero, false}, {194, anyNext(1), true}, {223, anyNext(1), true},
		{224, utf(2, 160, 191), true}, {225, anyNext(2), true}, {236, anyNext(2), true},
		{237, utf(2, 128, 159), true}, {238, anyNext(2), true}, {239, anyNext(2), true},
		{240, utf(3, 144, 191), true}, {241, anyNext(3), true}, {243, anyNext(3), true},
		{244, utf(3, 128, 143), true}, {245, zero, false},
		{255, zero, false}, {256, zero, false}, {256 + 65, zero, false}, {1<<32 + 65, zero, false}, {math.MaxInt, zero, false},
	} {
		checkUtfByte(t, zero, c.b, c.want, c.ok)
	}
}

func TestSecondUtfBytesAtTheLimits(t *testing.T) {
	for first, after := range map[int]impl.Utf{224: anyNext(1), 237: anyNext(1), 240: anyNext(2), 244: anyNext(2), 225: anyNext(1), 243: anyNext(2), 194: {}} {
		u, _ := impl.UtfByte(impl.Utf{}, first)
		low, high := 128, 191
		switch first {
		case 224:
			low = 160
		case 237:
			high = 159
		case 240:
			low = 144
		case 244:
			high = 143
		}
		for _, b := range []int{math.MinInt, -1, 0, 65, 127, 128, 143, 144, 159, 160, 191, 192, 255, 256, math.MaxInt} {
			if b >= low && b <= high {
				checkUtfByte(t, u, b, after, true)
			} else {
				checkUtfByte(t, u, b, u, false)
			}
		}
	}
}

func TestUtfByteOfEveryStateAndByte(t *testing.T) {
	for u, start := range utfStates() {
		if utfStarts()[start] != u {
			t.Errorf("%v is after %q", utfStarts()[start], start)
		}
		for _, b := range byteSamples() {
			if b < 0 || b > 255 {
				checkUtfByte(t, u, b, u, false)
				continue
			}
			next, ok := continued(start, byte(b))
			checkUtfByte(t, u, b, utfStarts()[next], ok)
		}
	}
}

func TestUtfByteInAStateThatIsNotValid(t *testing.T) {
	for _, u := range wrongUtfStates() {
		for _, b := range []int{math.MinInt, -1, 0, 65, 127, 128, 143, 144, 159, 160, 191, 192, 194, 224, 237, 240, 244, 245, 255, 256, math.MaxInt} {
			checkUtfByte(t, u, b, u, false)
		}
		checkUtfText(t, u, "", u, -1)
		for _, s := range []string{"a", "\x80", "\x90ab", "\xbf", "\xc2\x80", "\xff"} {
			checkUtfText(t, u, s, u, 0)
		}
	}
}

func TestUtfTextFromEveryState(t *testing.T) {
	for u, start := range utfStates() {
		checkUtfText(t, u, "", u, -1)
		for _, rest := range append(edgeStrings(2), "\x80\x80\x80", "\xa0\x80a", "\x90\x80\x80\xed", "\x8f\x80\x80\xed\xa0", "\x8f\x80a") {
			want, at := utfRead(start + rest)
			if at >= 0 {
				at -= len(start)
			}
			checkUtfText(t, u, rest, want, at)
		}
	}
}

func TestUtfTextRejects(t *testing.T) {
	zero := impl.Utf{}
	for _, c := range []struct {
		s    string
		want impl.Utf
		at   int
	}{
		{"\x80", zero, 0}, {"\xc1\xbf", zero, 0}, {"\xff", zero, 0}, {"\xf5\x80\x80\x80", zero, 0},
		{"\x80abc", zero, 0}, {"ab\x80c", zero, 2}, {"abc\x80", zero, 3},
		{"é\xc2\xc2é", anyNext(1), 3}, {"é€\xf1\x80\x80é", anyNext(1), 8}, {"\xe1a\x80", anyNext(2), 1}, {"\xe1\x80a", anyNext(1), 2},
		{"x\xf1\x80\x80\xc0", anyNext(1), 4}, {"x\xf1\x80a", anyNext(2), 3}, {"x\xf1\x00", anyNext(3), 2},
		{"\xe0\x9f\x80", utf(2, 160, 191), 1}, {"a\xed\xa0\x80", utf(2, 128, 159), 2},
		{"\xf0\x8f\x80\x80", utf(3, 144, 191), 1}, {"ab\xf4\x90", utf(3, 128, 143), 3},
	} {
		checkUtf(t, c.s, c.want, c.at)
	}
}

func TestUtfTextAccepts(t *testing.T) {
	zero := impl.Utf{}
	for s, want := range map[string]impl.Utf{
		"": zero, "\x00": zero, "a": zero, "\x7f": zero, "aé€😀": zero, "\ufffd": zero, "a\ufffdb": zero, "\ufeff": zero,
		"\u007f\u0080\u07ff\u0800\ud7ff\ue000\uffff\U00010000\U0010ffff": zero,
		"a\xc2": anyNext(1), "a\xdf": anyNext(1), "\xe0\xa0": anyNext(1), "\xed\x9f": anyNext(1), "€\xef": anyNext(2), "€\xef\xbf": anyNext(1),
		"\xe0": utf(2, 160, 191), "\xed": utf(2, 128, 159), "\xf0": utf(3, 144, 191), "\xf4": utf(3, 128, 143), "\xf1": anyNext(3),
		"\xf0\x90": anyNext(2), "\xf4\x8f": anyNext(2), "\xf0\x90\x80": anyNext(1), "\xf4\x8f\xbf": anyNext(1), "é\xf2\xbf": anyNext(2),
	} {
		checkUtf(t, s, want, -1)
	}
}

// Too long encodings, encoded surrogates and code points above 1114111 are refused at the byte that shows it.
func TestUtfRefusesOtherEncodings(t *testing.T) {
	for s, at := range map[string]int{
		"\xc0\x80": 0, "\xc1\xbf": 0, "\xe0\x80\x80": 1, "\xe0\x9f\xbf": 1, "\xf0\x80\x80\x80": 1, "\xf0\x8f\xbf\xbf": 1,
		"\xf8\x88\x80\x80\x80": 0, "\xfc\x84\x80\x80\x80\x80": 0, "\xf4\x90\x80\x80": 1, "\xf4\xbf\xbf\xbf": 1, "\xf5\x80\x80\x80": 0, "\xf7\xbf\xbf\xbf": 0,
		"\xed\xa0\x80": 1, "\xed\xaf\xbf": 1, "\xed\xb0\x80": 1, "\xed\xbf\xbf": 1, "\xed\xa0\x80\xed\xb0\x80": 1,
	} {
		for _, before := range []string{"", "a", "€", "\ufffd"} {
			want, _ := utfRead(s[:at])
			checkUtf(t, before+s, want, at+len(before))
			checkUtf(t, before+s+"a", want, at+len(before))
		}
	}
}

func TestUtfOfShortStrings(t *testing.T) {
	for _, s := range append(stringsOfUpToTwoBytes(), edgeStrings(3)...) {
		want, at := utfRead(s)
		checkUtf(t, s, want, at)
	}
	for _, s := range edgeStrings(4) {
		if got := impl.UtfGood(s); got != utf8.ValidString(s) {
			t.Errorf("UtfGood(%q) = %v", s, got)
		}
	}
}

func TestGoodStringsAreConcatenations(t *testing.T) {
	for _, s := range append(stringsOfUpToTwoBytes(), edgeStrings(3)...) {
		if got := impl.UtfGood(s); got != concatenation(s) {
			t.Errorf("UtfGood(%q) = %v", s, got)
		}
	}
	source := rand.New(rand.NewSource(6))
	for range 3000 {
		s := joinedPoints(source, 6)
		want, at := utfRead(s)
		if !concatenation(s) || at != -1 || want != (impl.Utf{}) {
			t.Fatalf("%q is no concatenation", s)
		}
		checkUtf(t, s, want, at)
		for range 10 {
			wrong := misspelt(source, s)
			want, at := utfRead(wrong)
			checkUtf(t, wrong, want, at)
			if got := impl.UtfGood(wrong); got != concatenation(wrong) {
				t.Errorf("UtfGood(%q) = %v", wrong, got)
			}
		}
	}
}

// utfByBytes feeds the bytes of s one at a time until one is rejected.
func utfByBytes(t *testing.T, u impl.Utf, s string) (impl.Utf, int) {
	for i := range len(s) {
		next, ok := impl.UtfByte(u, int(s[i]))
		if !ok {
			if next != u {
				t.Errorf("UtfByte(%v, %d) = %v, false", u, s[i], next)
			}
			return next, i
		}
		if !impl.UtfOk(next) {
			t.Errorf("UtfByte(%v, %d) = %v", u, s[i], next)
		}
		u = next
	}
	return u, -1
}

// utfByChunks feeds the chunks in order until a byte is rejected, whose offset in all of them it returns.
func utfByChunks(u impl.Utf, chunks []string) (impl.Utf, int) {
	total := 0
	for _, chunk := range chunks {
		next, at := impl.UtfText(u, chunk)
		if at >= 0 {
			return next, total + at
		}
		u, total = next, total+len(chunk)
	}
	return u, -1
}

func TestUtfInAnyDivision(t *testing.T) {
	source := rand.New(rand.NewSource(7))
	texts := []string{"", "a", "aé€😀", "€\xe2\x82", "a\xc3", "\xed\xa0\x80", "ab\x80", "é\xf4\x90\x80", "\xf0\x90\x80\x80\xf4\x8f\xbf\xbf", "\xf0\x8f\xbf\xbf", "\xe0\xa0\x80\xc1"}
	for range 120 {
		s := joinedPoints(source, 3)
		texts = append(texts, s[:min(len(s), 9)], misspelt(source, s[:min(len(s), 8)]))
	}
	for _, s := range texts {
		want, at := impl.UtfText(impl.Utf{}, s)
		if got, gotAt := utfByBytes(t, impl.Utf{}, s); got != want || gotAt != at {
			t.Errorf("bytes of %q = %v, %d, not %v, %d", s, got, gotAt, want, at)
		}
		for _, chunks := range divisions(s) {
			if got, gotAt := utfByChunks(impl.Utf{}, chunks); got != want || gotAt != at {
				t.Errorf("%q = %v, %d, not %v, %d", chunks, got, gotAt, want, at)
			}
		}
	}
}

func TestLongUtf(t *testing.T) {
	text := strings.Repeat("aé€😀\ufffd\x00", 20000)
	checkUtf(t, text, impl.Utf{}, -1)
	checkUtf(t, text+"\xe2\x82", anyNext(1), -1)
	checkUtf(t, text+"\xe2\x82\xe2", anyNext(1), len(text)+2)
	checkUtf(t, text+"\x80"+text, impl.Utf{}, len(text))
}

func TestRuneTextAtTheLimits(t *testing.T) {
	for n, want := range map[int]string{
		math.MinInt: "", math.MinInt + 65: "", -1 << 32: "", -1: "", 0: "\x00", 127: "\x7f", 128: "\xc2\x80", 2047: "\xdf\xbf", 2048: "\xe0\xa0\x80",
		55295: "\xed\x9f\xbf", 55296: "", 57343: "", 57344: "\xee\x80\x80", 65533: "\xef\xbf\xbd", 65535: "\xef\xbf\xbf",
		65536: "\xf0\x90\x80\x80", 1114111: "\xf4\x8f\xbf\xbf", 1114112: "", 1 << 31: "", 1 << 32: "", 1<<32 + 65: "", math.MaxInt: "",
	} {
		if got := impl.RuneText(n); got != want {
			t.Errorf("RuneText(%d) = %q, not %q", n, got, want)
		}
	}
}

func TestRuneTextOfEveryPoint(t *testing.T) {
	for n := -2000; n <= 1200000; n++ {
		got := impl.RuneText(n)
		if n < 0 || n > 1114111 || n >= 55296 && n <= 57343 {
			if got != "" {
				t.Fatalf("RuneText(%d) = %q", n, got)
			}
			continue
		}
		if want := string(utf8.AppendRune(nil, rune(n))); got != want {
			t.Fatalf("RuneText(%d) = %q, not %q", n, got, want)
		}
		if u, at := impl.UtfText(impl.Utf{}, got); !impl.UtfGood(got) || u != (impl.Utf{}) || at != -1 {
			t.Fatalf("UtfText of RuneText(%d) = %v, %d", n, u, at)
		}
	}
}

func TestRuneTextOfIntegers(t *testing.T) {
	for _, n := range intSamples() {
		want := ""
		if n == int(rune(n)) && utf8.ValidRune(rune(n)) {
			want = string(rune(n))
		}
		if got := impl.RuneText(n); got != want {
			t.Errorf("RuneText(%d) = %q, not %q", n, got, want)
		}
	}
}
