package tests

import (
	"fmt"
	"math"
	"math/rand"
	"slices"
	"strings"
	"testing"

	"loop.example/g00498/impl"
)

// The number 4 is the document's, not the program's constant.
func textPart(s string) impl.Event { return impl.Event{Kind: 4, Text: s} }

// textParts has one part for each text.
func textParts(texts ...string) []impl.Event {
	var list []impl.Event
	for _, s := range texts {
		list = append(list, textPart(s))
	}
	return list
}

// oddPart is a part that is not valid, because a number that parts do not use is not zero.
func oddPart(s string, number int) impl.Event { return impl.Event{Kind: 4, Text: s, Field: number} }

// wildPart is a part in which all that parts do not use is not zero.
func wildPart(s string) impl.Event {
	return impl.Event{Kind: 4, Text: s, Field: 5, Bits: 6, Len: 7, Code: 8, At: 9}
}

func withText(e impl.Event, s string) impl.Event {
	e.Text = s
	return e
}

// modelMerged collects the texts of parts until an event of another kind comes.
func modelMerged(list []impl.Event) []impl.Event {
	var out, waiting []impl.Event
	text := ""
	for _, e := range append(slices.Clone(list), impl.Event{Kind: 999}) {
		if e.Kind != 4 {
			if text != "" {
				out = append(out, withText(waiting[0], text))
			}
			out = append(out, e)
			waiting, text = nil, ""
		} else if e.Text != "" {
			waiting = append(waiting, e)
			text += e.Text
		}
	}
	return out[:len(out)-1]
}

// modelShattered adds texts byte by byte to the last piece.
func modelShattered(list []impl.Event, n int) []impl.Event {
	if n <= 0 {
		return list
	}
	var out []impl.Event
	for _, e := range list {
		if e.Kind != 4 {
			out = append(out, e)
			continue
		}
		for i := range len(e.Text) {
			if i%n == 0 {
				out = append(out, withText(e, ""))
			}
			out[len(out)-1].Text += e.Text[i : i+1]
		}
	}
	return out
}

func modelPrefixOf(a []impl.Event, b []impl.Event) bool {
	x, y := modelMerged(a), modelMerged(b)
	for i, e := range x {
		same := i < len(y) && e == y[i]
		begun := i == len(x)-1 && i < len(y) && e.Kind == 4 && y[i].Kind == 4 && strings.HasPrefix(y[i].Text, e.Text)
		if !same && !begun {
			return false
		}
	}
	return true
}

// bytesOfEvents has one event for each byte of a part, and the other events. If all parts are valid, the division does not show in it.
func bytesOfEvents(list []impl.Event) []impl.Event {
	var out []impl.Event
	for _, e := range list {
		if e.Kind != 4 {
			out = append(out, e)
			continue
		}
		for i := range len(e.Text) {
			out = append(out, withText(e, e.Text[i:i+1]))
		}
	}
	return out
}

func startsWith(list []impl.Event, start []impl.Event) bool {
	return len(start) <= len(list) && slices.Equal(list[:len(start)], start)
}

func checkMerged(t *testing.T, list []impl.Event, want []impl.Event) {
	t.Helper()
	if got := impl.Merged(list); !slices.Equal(got, want) {
		t.Errorf("Merged(%#v) = %#v, not %#v", list, got, want)
	}
	if got := modelMerged(list); !slices.Equal(got, want) {
		t.Errorf("%#v is %#v by the model, not %#v", list, got, want)
	}
	checkDivided(t, list)
}

func checkShattered(t *testing.T, list []impl.Event, n int, want []impl.Event) {
	t.Helper()
	if got := impl.Shattered(list, n); !slices.Equal(got, want) {
		t.Errorf("Shattered(%#v, %d) = %#v, not %#v", list, n, got, want)
	}
	if got := modelShattered(list, n); !slices.Equal(got, want) {
		t.Errorf("%#v by %d is %#v by the model, not %#v", list, n, got, want)
	}
	checkDivided(t, list)
}

func checkPrefix(t *testing.T, a []impl.Event, b []impl.Event, want bool) {
	t.Helper()
	if got := impl.PrefixOf(a, b); got != want {
		t.Errorf("PrefixOf(%#v, %#v) = %v", a, b, got)
	}
	if got := modelPrefixOf(a, b); got != want {
		t.Errorf("%#v before %#v is %v by the model", a, b, got)
	}
}

func checkParts(t *testing.T, list []impl.Event, sum int, longest int) {
	t.Helper()
	if got := impl.PartBytes(list); got != sum {
		t.Errorf("PartBytes(%#v) = %d, not %d", list, got, sum)
	}
	if got := impl.LongestPart(list); got != longest {
		t.Errorf("LongestPart(%#v) = %d, not %d", list, got, longest)
	}
}

// sizesFor are the sizes around 1, around the lengths of the texts, and the outermost ones.
func sizesFor(list []impl.Event) []int {
	sizes := []int{math.MinInt, math.MinInt + 1, -1 << 32, -2, -1, 0, 1, 2, 3, 5, 1<<32 + 1, 1 << 62, math.MaxInt - 1, math.MaxInt}
	for _, e := range list {
		if e.Kind == 4 && len(e.Text) > 2 {
			sizes = append(sizes, len(e.Text)-1, len(e.Text), len(e.Text)+1, (len(e.Text)+1)/2)
		}
	}
	slices.Sort(sizes)
	return slices.Compact(sizes)
}

// checkDivided holds promise 11 against the list: dividing its texts and merging them again loses and changes nothing.
func checkDivided(t *testing.T, list []impl.Event) {
	t.Helper()
	merged := impl.Merged(list)
	if want := modelMerged(list); !slices.Equal(merged, want) {
		t.Errorf("Merged(%#v) = %#v, not %#v", list, merged, want)
	}
	if again := impl.Merged(merged); !slices.Equal(again, merged) {
		t.Errorf("Merged(%#v) = %#v", merged, again)
	}
	sum, longest := impl.PartBytes(list), impl.LongestPart(list)
	if got := impl.PartBytes(merged); got != sum {
		t.Errorf("%#v has %d bytes, merged %d", list, sum, got)
	}
	for _, n := range sizesFor(list) {
		shattered := impl.Shattered(list, n)
		if want := modelShattered(list, n); !slices.Equal(shattered, want) {
			t.Errorf("Shattered(%#v, %d) = %#v, not %#v", list, n, shattered, want)
		}
		if got := impl.Merged(shattered); !slices.Equal(got, merged) {
			t.Errorf("Merged(Shattered(%#v, %d)) = %#v, not %#v", list, n, got, merged)
		}
		if got := impl.PartBytes(shattered); got != sum {
			t.Errorf("%#v has %d bytes, by %d it has %d", list, sum, n, got)
		}
		want := longest
		if n > 0 {
			want = min(longest, n)
		}
		if got := impl.LongestPart(shattered); got != want {
			t.Errorf("the longest part of %#v by %d has %d bytes, not %d", list, n, got, want)
		}
	}
}

// otherEvents are events that are no parts, some of them not valid, and some with a text. They have no equal neighbours.
func otherEvents() []impl.Event {
	list := slices.DeleteFunc(append(sampleEvents(), fullEvents()...), func(e impl.Event) bool { return e.Kind == 4 })
	for _, k := range []int{math.MinInt, -4, 0, 3, 5, 11, 1<<32 + 4, 1<<8 + 4, math.MaxInt} {
		list = append(list, impl.Event{Kind: k}, impl.Event{Kind: k, Text: "a"})
	}
	return list
}

func TestMergedWithoutTexts(t *testing.T) {
	checkMerged(t, nil, nil)
	checkMerged(t, []impl.Event{}, nil)
	checkMerged(t, sampleEvents()[:0], nil)
	checkMerged(t, make([]impl.Event, 0, 3), nil)
	for n := 1; n < 6; n++ {
		checkMerged(t, slices.Repeat(textParts(""), n), nil)
		checkMerged(t, slices.Repeat([]impl.Event{wildPart("")}, n), nil)
	}
	for _, e := range otherEvents() {
		list := []impl.Event{e}
		checkMerged(t, list, list)
		checkMerged(t, []impl.Event{e, e, e}, []impl.Event{e, e, e})
		checkMerged(t, []impl.Event{textPart(""), e, textPart("")}, list)
		checkMerged(t, []impl.Event{e, textPart(""), e}, []impl.Event{e, e})
	}
	checkMerged(t, otherEvents(), otherEvents())
}

func TestMergedTexts(t *testing.T) {
	for _, row := range [][2]string{
		{"a", "a"}, {"abc", "abc"}, {"a b", "ab"}, {"ab c", "abc"}, {"a bc", "abc"}, {"a a", "aa"}, {"b a", "ba"}, {"a b c", "abc"},
		{"abc def g", "abcdefg"}, {"a b c d e f g h i j k l m n o p", "abcdefghijklmnop"},
		{"\xe2 \x82 \xac", "\u20ac"}, {"\xff \xfe\xff", "\xff\xfe\xff"}, {"\x00 \x00 a", "\x00\x00a"}, {"é e\u0301", "ée\u0301"},
	} {
		parts := textParts(strings.Split(row[0], " ")...)
		checkMerged(t, parts, textParts(row[1]))
		for _, e := range otherEvents() {
			list := slices.Concat([]impl.Event{e}, parts, []impl.Event{e}, parts)
			checkMerged(t, list, []impl.Event{e, textPart(row[1]), e, textPart(row[1])})
			list = slices.Concat(parts, []impl.Event{e}, parts, []impl.Event{e})
			checkMerged(t, list, []impl.Event{textPart(row[1]), e, textPart(row[1]), e})
		}
	}
}

// An empty text is removed wherever it is, and the parts around it are adjacent then.
func TestMergedWithEmptyTexts(t *testing.T) {
	for _, texts := range [][]string{
		{"", "a", "b"}, {"a", "", "b"}, {"a", "b", ""}, {"", "a", "", "b", ""}, {"", "", "a", "", "", "b", "", ""}, {"", "ab"}, {"ab", ""}, {"", "ab", ""},
	} {
		checkMerged(t, textParts(texts...), textParts("ab"))
		for _, e := range otherEvents() {
			list := slices.Concat(textParts(texts...), []impl.Event{e}, textParts(texts...))
			checkMerged(t, list, []impl.Event{textPart("ab"), e, textPart("ab")})
			list = slices.Concat([]impl.Event{e}, textParts(texts...), []impl.Event{e})
			checkMerged(t, list, []impl.Event{e, textPart("ab"), e})
		}
	}
}

// Parts with another event between them are not adjacent, whatever that event is.
func TestMergedWithEventsBetween(t *testing.T) {
	for _, e := range otherEvents() {
		list := []impl.Event{textPart("a"), e, textPart("b")}
		checkMerged(t, list, list)
		list = []impl.Event{textPart("a"), textPart(""), e, textPart(""), textPart("b")}
		checkMerged(t, list, []impl.Event{textPart("a"), e, textPart("b")})
		list = []impl.Event{textPart("a"), textPart("b"), e, e, textPart("c"), textPart("d")}
		checkMerged(t, list, []impl.Event{textPart("ab"), e, e, textPart("cd")})
	}
}

// The kind alone makes an event a part. Nothing is said of its other numbers, so a part that is not merged keeps them, and those
// of the first part stay when parts are merged.
func TestMergedPartsThatAreNotValid(t *testing.T) {
	for _, value := range partValues() {
		if value.part == "Text" {
			continue
		}
		odd := textPart("a")
		value.set(&odd)
		checkMerged(t, []impl.Event{odd}, []impl.Event{odd})
		checkMerged(t, []impl.Event{odd, textPart("b")}, []impl.Event{withText(odd, "ab")})
		checkMerged(t, []impl.Event{textPart("b"), odd}, textParts("ba"))
		checkMerged(t, []impl.Event{odd, odd}, []impl.Event{withText(odd, "aa")})
		checkMerged(t, []impl.Event{withText(odd, "")}, nil)
		checkMerged(t, []impl.Event{withText(odd, ""), textPart("b")}, textParts("b"))
		checkMerged(t, []impl.Event{textPart(""), odd}, []impl.Event{odd})
		checkMerged(t, []impl.Event{odd, {Kind: 7}, odd}, []impl.Event{odd, {Kind: 7}, odd})
	}
	checkMerged(t, []impl.Event{oddPart("a", 1), oddPart("b", 2), oddPart("c", 3)}, []impl.Event{oddPart("abc", 1)})
	checkMerged(t, []impl.Event{wildPart("a"), textPart("b"), {Kind: 5}, textPart("c"), wildPart("d")},
		[]impl.Event{wildPart("ab"), {Kind: 5}, textPart("cd")})
}

func TestShatteredTexts(t *testing.T) {
	for _, row := range []struct {
		text string
		n    int
		want string
	}{
		{"a", 1, "a"}, {"a", 2, "a"}, {"a", math.MaxInt, "a"}, {"ab", 1, "a b"}, {"ab", 2, "ab"}, {"ab", 3, "ab"},
		{"abcdef", 1, "a b c d e f"}, {"abcdef", 2, "ab cd ef"}, {"abcdef", 3, "abc def"}, {"abcdef", 4, "abcd ef"}, {"abcdef", 5, "abcde f"},
		{"abcdef", 6, "abcdef"}, {"abcdef", 7, "abcdef"}, {"abcdef", 8, "abcdef"}, {"abcdef", 1 << 32, "abcdef"},
		{"abcdef", 1<<32 + 1, "abcdef"}, {"abcdef", math.MaxInt - 1, "abcdef"}, {"abcdef", math.MaxInt, "abcdef"},
		{"abcdefg", 2, "ab cd ef g"}, {"abcdefg", 3, "abc def g"}, {"aaaa", 2, "aa aa"},
		{"\u20ac", 1, "\xe2 \x82 \xac"}, {"\u20ac", 2, "\xe2\x82 \xac"}, {"\xff\xfe\x80", 2, "\xff\xfe \x80"}, {"\x00\x00\x00", 2, "\x00\x00 \x00"},
	} {
		want := textParts(strings.Split(row.want, " ")...)
		checkShattered(t, textParts(row.text), row.n, want)
		for _, e := range otherEvents() {
			list := []impl.Event{e, textPart(row.text), e, textPart(row.text), textPart(row.text)}
			checkShattered(t, list, row.n, slices.Concat([]impl.Event{e}, want, []impl.Event{e}, want, want))
		}
	}
}

// The list stays as it is, its empty texts included.
func TestShatteredIntoNothing(t *testing.T) {
	for _, n := range []int{0, -1, -2, -1 << 32, math.MinInt + 1, math.MinInt} {
		for _, list := range [][]impl.Event{
			nil, {}, textParts(""), textParts("", ""), textParts("abc"), textParts("a", "", "b"), sampleEvents(), fullEvents(), otherEvents(), {wildPart("")}, {wildPart("ab")},
		} {
			checkShattered(t, list, n, list)
		}
	}
}

func TestShatteredWithEmptyTexts(t *testing.T) {
	for _, n := range []int{1, 2, 3, math.MaxInt} {
		checkShattered(t, nil, n, nil)
		checkShattered(t, []impl.Event{}, n, nil)
		checkShattered(t, textParts(""), n, nil)
		checkShattered(t, textParts("", "", ""), n, nil)
		checkShattered(t, []impl.Event{wildPart("")}, n, nil)
		checkShattered(t, textParts("", "a", "", "b", ""), n, textParts("a", "b"))
		for _, e := range otherEvents() {
			checkShattered(t, []impl.Event{textPart(""), e, textPart(""), e, textPart("")}, n, []impl.Event{e, e})
		}
	}
}

// Pieces are never merged, nor is what is short made longer.
func TestShatteredOfDividedTexts(t *testing.T) {
	checkShattered(t, textParts("a", "b", "c"), 2, textParts("a", "b", "c"))
	checkShattered(t, textParts("abc", "d", "efgh"), 2, textParts("ab", "c", "d", "ef", "gh"))
	checkShattered(t, textParts("abc", "d", "efgh"), 3, textParts("abc", "d", "efg", "h"))
	checkShattered(t, textParts("abc", "d", "efgh"), 4, textParts("abc", "d", "efgh"))
}

// Events of other kinds stay as they are, even if they have a text.
func TestShatteredWithoutParts(t *testing.T) {
	for _, n := range []int{-1, 0, 1, 2, math.MaxInt} {
		checkShattered(t, otherEvents(), n, otherEvents())
	}
}

// Whatever else a part has, its pieces have, too.
func TestShatteredPartsThatAreNotValid(t *testing.T) {
	for _, value := range partValues() {
		if value.part == "Text" {
			continue
		}
		odd := textPart("abc")
		value.set(&odd)
		checkShattered(t, []impl.Event{odd}, 0, []impl.Event{odd})
		checkShattered(t, []impl.Event{odd}, 3, []impl.Event{odd})
		checkShattered(t, []impl.Event{odd}, 2, []impl.Event{withText(odd, "ab"), withText(odd, "c")})
		checkShattered(t, []impl.Event{textPart("de"), odd}, 2, []impl.Event{textPart("de"), withText(odd, "ab"), withText(odd, "c")})
		checkShattered(t, []impl.Event{withText(odd, "")}, 1, nil)
	}
}

func TestDividedTextsOfAllKinds(t *testing.T) {
	for _, s := range eventTexts() {
		checkDivided(t, textParts(s))
		checkDivided(t, textParts(s, s))
		checkDivided(t, []impl.Event{wildPart(s), {Kind: 5}, textPart(s)})
		for _, other := range eventTexts() {
			if len(s)+len(other) < 20 {
				checkDivided(t, textParts(s, "", other))
			}
		}
	}
	for b := range 256 {
		checkDivided(t, textParts(string([]byte{byte(b)}), string([]byte{byte(b), byte(b)})))
	}
}

// alphabet are the events of which short lists are made: three texts, no text, a part that is not valid, and two other events.
func alphabet() []impl.Event {
	return []impl.Event{textPart("a"), textPart("b"), textPart("ab"), textPart(""), oddPart("a", 1), {Kind: 7}, {Kind: 5, Text: "a"}}
}

// eachList visits all lists of up to most of these events.
func eachList(events []impl.Event, most int, visit func(list []impl.Event)) {
	var grow func(list []impl.Event)
	grow = func(list []impl.Event) {
		visit(list)
		if len(list) == most {
			return
		}
		for _, e := range events {
			grow(append(slices.Clone(list), e))
		}
	}
	grow(nil)
}

func TestDivisionsOfShortLists(t *testing.T) {
	count := 0
	eachList(alphabet(), 5, func(list []impl.Event) {
		checkDivided(t, list)
		count++
	})
	if count != 1+7+49+343+2401+16807 {
		t.Errorf("there are %d lists", count)
	}
}

// Without a model: the merged list of valid parts has the same bytes at the same places, no empty text, and no adjacent parts.
func TestMergedListsHaveTheBytesOfTheList(t *testing.T) {
	eachList([]impl.Event{textPart("a"), textPart("bc"), textPart(""), {Kind: 7}, {Kind: 2, Field: 1}}, 5, func(list []impl.Event) {
		merged := impl.Merged(list)
		if !slices.Equal(bytesOfEvents(merged), bytesOfEvents(list)) {
			t.Errorf("Merged(%#v) = %#v", list, merged)
		}
		for i, e := range merged {
			if e.Kind == 4 && (e.Text == "" || i > 0 && merged[i-1].Kind == 4) {
				t.Errorf("Merged(%#v) = %#v", list, merged)
			}
		}
	})
}

// randomDivided has short texts, some of them empty, in parts of which about one in ten is not valid, and other events.
func randomDivided(source *rand.Rand, most int) []impl.Event {
	others := otherEvents()
	var list []impl.Event
	for range source.Intn(most + 1) {
		text := make([]byte, max(0, source.Intn(12)-2))
		for i := range text {
			text[i] = byte(oneOf(source, 97, 98, 0, 255, 226, 130, 172))
		}
		switch source.Intn(10) {
		case 0, 1:
			list = append(list, others[source.Intn(len(others))])
		case 2:
			list = append(list, oddPart(string(text), source.Intn(3)-1))
		default:
			list = append(list, textPart(string(text)))
		}
	}
	return list
}

func TestDivisionsOfRandomLists(t *testing.T) {
	source := rand.New(rand.NewSource(110))
	for range 5000 {
		checkDivided(t, randomDivided(source, 20))
	}
	values := partValues()
	for range 300 {
		checkDivided(t, randomEvents(source, values, 8))
	}
}

// Divisions of the same text are the same once they are merged, and only they are.
func TestAllDivisionsOfAText(t *testing.T) {
	for _, s := range []string{"abcdef", "aaaaaa", "\u20ac\xff\x00", "\U0010ffffab"} {
		for _, chunks := range divisions(s) {
			list := textParts(chunks...)
			checkMerged(t, list, textParts(s))
			around := slices.Concat([]impl.Event{{Kind: 3, Field: 1, Len: len(s)}}, list, []impl.Event{{Kind: 5}})
			checkMerged(t, around, []impl.Event{{Kind: 3, Field: 1, Len: len(s)}, textPart(s), {Kind: 5}})
			checkPrefix(t, list, textParts(s), true)
			checkPrefix(t, textParts(s), list, true)
			checkPrefix(t, textParts(s[:3]), list, true)
			checkPrefix(t, textParts(s[:3]+"\x01"), list, false)
			checkPrefix(t, list, textParts(s[:3]), false)
		}
	}
}

func TestPrefixOfEmptyLists(t *testing.T) {
	empty := [][]impl.Event{nil, {}, sampleEvents()[:0], textParts(""), textParts("", ""), {wildPart("")}}
	for _, a := range empty {
		for _, b := range empty {
			checkPrefix(t, a, b, true)
		}
		for _, b := range [][]impl.Event{sampleEvents(), fullEvents(), otherEvents(), textParts("a"), textParts("", "a"), {{}}} {
			checkPrefix(t, a, b, true)
			checkPrefix(t, b, a, false)
		}
	}
}

func TestPrefixOfLists(t *testing.T) {
	list := sampleEvents()
	for _, e := range otherEvents() {
		list = append(list, e, textPart("abc"))
	}
	for i := range list {
		checkPrefix(t, list[:i], list, true)
		checkPrefix(t, list[:i], list[:i], true)
		checkPrefix(t, list[:i], list[:i+1], true)
		checkPrefix(t, list[:i+1], list[:i], false)
		checkPrefix(t, list, list[:i], false)
		checkPrefix(t, list[i:], list, i == 0)
		checkPrefix(t, append(slices.Clone(list[:i]), impl.Event{Kind: 77}), list, false)
		checkPrefix(t, slices.Delete(slices.Clone(list), i, i+1), list, i == len(list)-1)
	}
}

// The last text of a may go on in b, but nothing may be left out or differ.
func TestPrefixOfTheLastText(t *testing.T) {
	up, num := impl.Event{Kind: 7}, impl.Event{Kind: 2, Field: 1}
	for _, row := range []struct {
		a    string
		b    string
		want bool
	}{
		{"a", "a", true}, {"a", "ab", true}, {"ab", "ab", true}, {"ab", "abcdef", true}, {"\xe2", "\u20ac", true}, {"\x00", "\x00\x00", true},
		{"ab", "a", false}, {"abc", "ab", false}, {"b", "ab", false}, {"ac", "abc", false}, {"a", "b", false}, {"a", "A", false},
		{"abd", "abc", false}, {"\x00", "a", false}, {"\x00", "\x01", false}, {"\xff", "\xfe\xff", false}, {"a\x00", "a", false},
	} {
		a, b := textPart(row.a), textPart(row.b)
		checkPrefix(t, []impl.Event{a}, []impl.Event{b}, row.want)
		checkPrefix(t, []impl.Event{up, a}, []impl.Event{up, b}, row.want)
		checkPrefix(t, []impl.Event{up, a}, []impl.Event{num, b}, false)
		checkPrefix(t, []impl.Event{a}, []impl.Event{b, up}, row.want)
		checkPrefix(t, []impl.Event{a}, []impl.Event{b, textPart("z"), up, a}, row.want)
		// Here it is not the last event, so a part of the text is not enough.
		checkPrefix(t, []impl.Event{a, up}, []impl.Event{b, up}, row.a == row.b)
		checkPrefix(t, []impl.Event{a, up, a}, []impl.Event{b, up, b}, row.a == row.b)
		checkPrefix(t, []impl.Event{a, up, num}, []impl.Event{b, up, num, b}, row.a == row.b)
		// An empty text after the last one is none.
		checkPrefix(t, []impl.Event{a, textPart("")}, []impl.Event{b}, row.want)
		checkPrefix(t, []impl.Event{a}, []impl.Event{textPart(""), b}, row.want)
	}
	checkPrefix(t, textParts("abc", "x"), textParts("ab", "c", "d"), false)
	checkPrefix(t, textParts("abc", "d"), textParts("ab", "c", "d"), true)
	checkPrefix(t, textParts("ab", "cd"), textParts("abc"), false)
}

// The text goes on only in a part, and only from a part.
func TestPrefixOfATextAndOfAnotherEvent(t *testing.T) {
	for _, e := range otherEvents() {
		checkPrefix(t, textParts("a"), []impl.Event{e}, false)
		checkPrefix(t, textParts("a"), []impl.Event{e, textPart("a")}, false)
		checkPrefix(t, textParts("a"), []impl.Event{withText(e, "a")}, false)
		checkPrefix(t, []impl.Event{e}, textParts("a"), false)
		checkPrefix(t, []impl.Event{withText(e, "a")}, textParts("ab"), false)
		checkPrefix(t, []impl.Event{withText(e, "")}, textParts("ab"), false)
		checkPrefix(t, []impl.Event{withText(e, "a")}, []impl.Event{withText(e, "ab")}, false)
		checkPrefix(t, []impl.Event{withText(e, "")}, []impl.Event{withText(e, "ab")}, false)
		checkPrefix(t, []impl.Event{withText(e, "ab")}, []impl.Event{withText(e, "ab")}, true)
		checkPrefix(t, []impl.Event{textPart("a"), e}, textParts("a"), false)
		checkPrefix(t, []impl.Event{textPart("a"), e}, textParts("a", "b"), false)
	}
}

// Every number of an event counts, at the last place and at an earlier one.
func TestPrefixOfListsThatDifferInOnePart(t *testing.T) {
	var list []impl.Event
	for _, e := range fullEvents() {
		if e.Kind != 4 {
			list = append(list, e)
		}
	}
	for at := range list {
		for _, change := range eventChanges() {
			other := slices.Clone(list)
			change(&other[at])
			for _, length := range []int{at + 1, at + 2, len(list)} {
				a, b := list[:min(length, len(list))], other[:min(length, len(list))]
				checkPrefix(t, a, b, false)
				checkPrefix(t, a, other, false)
				checkPrefix(t, b, b, true)
				checkPrefix(t, b, other, true)
			}
			checkPrefix(t, list[:at], other, true)
		}
	}
}

// Of the last part only the text counts, even if another number makes it invalid. An earlier part has to be equal.
func TestPrefixOfPartsThatAreNotValid(t *testing.T) {
	up := impl.Event{Kind: 7}
	for _, value := range partValues() {
		if value.part == "Text" {
			continue
		}
		odd := textPart("ab")
		value.set(&odd)
		for _, pair := range [][2]impl.Event{{odd, textPart("ab")}, {textPart("ab"), odd}, {odd, textPart("abc")}, {odd, withText(odd, "abc")}} {
			checkPrefix(t, pair[:1], pair[1:], true)
			checkPrefix(t, pair[:1], []impl.Event{pair[1], up}, true)
			checkPrefix(t, []impl.Event{pair[0], up}, []impl.Event{pair[1], up}, false)
		}
		checkPrefix(t, []impl.Event{odd, up}, []impl.Event{odd, up}, true)
		checkPrefix(t, []impl.Event{odd}, textParts("a"), false)
		checkPrefix(t, []impl.Event{odd}, textParts("a", "b"), true)
		checkPrefix(t, []impl.Event{odd, textPart("c"), up}, []impl.Event{withText(odd, "abc"), up}, true)
		checkPrefix(t, []impl.Event{textPart("c"), odd, up}, []impl.Event{withText(odd, "cab"), up}, false)
	}
}

// How the texts are divided does not matter, neither in a nor in b.
func TestPrefixOfListsThatAreDividedDifferently(t *testing.T) {
	source := rand.New(rand.NewSource(111))
	for range 1500 {
		list := randomDivided(source, 8)
		for range 4 {
			at, n, m := source.Intn(len(list)+1), source.Intn(4), source.Intn(4)
			start := slices.Clone(list[:at])
			if at > 0 && start[at-1].Kind == 4 {
				start[at-1].Text = start[at-1].Text[:source.Intn(len(start[at-1].Text)+1)]
			}
			checkPrefix(t, impl.Shattered(start, n), impl.Shattered(list, m), modelPrefixOf(start, list))
			checkPrefix(t, impl.Merged(start), impl.Shattered(list, m), modelPrefixOf(start, list))
			checkPrefix(t, impl.Shattered(list, n), impl.Shattered(list, m), true)
			checkPrefix(t, impl.Shattered(list, n), impl.Shattered(start, m), modelPrefixOf(list, start))
		}
	}
}

// Without a model: if all parts are valid, a list is a prefix exactly if its bytes are.
func TestPrefixOfShortLists(t *testing.T) {
	var lists [][]impl.Event
	eachList([]impl.Event{textPart("a"), textPart("b"), textPart("ab"), textPart(""), {Kind: 7}, {Kind: 5, Text: "a"}}, 3, func(list []impl.Event) {
		lists = append(lists, list)
	})
	count := 0
	for _, a := range lists {
		for _, b := range lists {
			want := startsWith(bytesOfEvents(b), bytesOfEvents(a))
			checkPrefix(t, a, b, want)
			count += truth(want)
		}
	}
	if len(lists) != 1+6+36+216 || count < 2000 || count > len(lists)*len(lists)/2 {
		t.Errorf("%d of the pairs of %d lists are prefixes", count, len(lists))
	}
}

func TestPrefixOfRandomLists(t *testing.T) {
	source := rand.New(rand.NewSource(112))
	events := alphabet()
	count := 0
	for range 30000 {
		var a, b []impl.Event
		for range source.Intn(6) {
			e := events[source.Intn(len(events))]
			a, b = append(a, e), append(b, e)
		}
		for range source.Intn(3) {
			b = append(b, events[source.Intn(len(events))])
		}
		if len(a) > 0 && source.Intn(2) == 0 {
			a[source.Intn(len(a))] = events[source.Intn(len(events))]
		}
		want := modelPrefixOf(a, b)
		checkPrefix(t, a, b, want)
		count += truth(want)
	}
	if count < 10000 || count > 28000 {
		t.Errorf("%d of the pairs are prefixes", count)
	}
}

func TestPartBytes(t *testing.T) {
	checkParts(t, nil, 0, 0)
	checkParts(t, []impl.Event{}, 0, 0)
	checkParts(t, sampleEvents()[:0], 0, 0)
	checkParts(t, otherEvents(), 0, 0)
	checkParts(t, sampleEvents(), 2, 2)
	checkParts(t, fullEvents(), 5, 5)
	for _, e := range otherEvents() {
		checkParts(t, []impl.Event{e}, 0, 0)
		checkParts(t, []impl.Event{withText(e, "abc")}, 0, 0)
		checkParts(t, []impl.Event{textPart("ab"), withText(e, "abc"), textPart("c")}, 3, 2)
	}
	for _, row := range []struct {
		texts        string
		sum, longest int
	}{
		{"a", 1, 1}, {"", 0, 0}, {",", 0, 0}, {"abc", 3, 3}, {"abc,d", 4, 3}, {"d,abc", 4, 3}, {"abc,de,f", 6, 3}, {"de,abc,f", 6, 3},
		{"f,de,abc", 6, 3}, {"ab,cd", 4, 2}, {",a,", 1, 1}, {"\u20ac,ab", 5, 3}, {"\xff\xfe\xff,\x00", 4, 3}, {"a,b,c,d,e", 5, 1},
	} {
		parts := textParts(strings.Split(row.texts, ",")...)
		checkParts(t, parts, row.sum, row.longest)
		for _, e := range otherEvents() {
			list := []impl.Event{e}
			for _, part := range parts {
				list = append(list, part, e)
			}
			checkParts(t, list, row.sum, row.longest)
		}
	}
}

// The kind alone makes an event a part.
func TestPartBytesOfPartsThatAreNotValid(t *testing.T) {
	checkParts(t, []impl.Event{wildPart("abc"), oddPart("de", 1), wildPart("")}, 5, 3)
	checkParts(t, []impl.Event{oddPart("ab", -1), wildPart("cde")}, 5, 3)
	for _, k := range eventCodes() {
		checkParts(t, []impl.Event{{Kind: k, Text: "abc"}, {Kind: k, Text: "d"}}, 4*truth(k == 4), 3*truth(k == 4))
	}
}

func TestPartBytesOfRandomLists(t *testing.T) {
	source := rand.New(rand.NewSource(113))
	for range 3000 {
		list := randomDivided(source, 20)
		var sizes []int
		for _, e := range list {
			if e.Kind == 4 {
				sizes = append(sizes, len(e.Text))
			}
		}
		slices.Sort(sizes)
		sum := 0
		for _, size := range sizes {
			sum += size
		}
		checkParts(t, list, sum, append([]int{0}, sizes...)[len(sizes)])
	}
}

// A list of as many parts as this is merged in a moment only if its text is not copied again for each of them.
func TestLongTexts(t *testing.T) {
	long := strings.Repeat("abcdefg", 100000)
	merged := textParts(long)
	shattered := impl.Shattered(merged, 1)
	if len(shattered) != 700000 || shattered[6] != textPart("g") || shattered[699999] != textPart("g") {
		t.Error("a long text is not divided into its bytes")
	}
	if !slices.Equal(impl.Merged(shattered), merged) {
		t.Error("a long text is not restored")
	}
	checkPrefix(t, impl.Shattered(merged, 3)[:1000], impl.Shattered(merged, 1000), true)
	if impl.PartBytes(shattered) != 700000 || impl.LongestPart(shattered) != 1 || impl.LongestPart(merged) != 700000 {
		t.Error("the bytes of a long text are not counted")
	}
	many := slices.Repeat(sampleEvents(), 20000)
	if !slices.Equal(impl.Merged(many), many) || len(impl.Shattered(many, 1)) != 220000 {
		t.Error("a long list is not merged or not divided")
	}
	empty := slices.Repeat(textParts(""), 200000)
	if len(impl.Merged(empty)) != 0 || len(impl.Shattered(empty, 1)) != 0 || len(impl.Shattered(empty, 0)) != 200000 {
		t.Error("many empty texts are not removed")
	}
}

// dividedLists are lists of which some are changed by merging and by dividing and some by neither.
func dividedLists() [][]impl.Event {
	list := append(someLists(), textParts("abcd", "", "e"), textParts("", "a"), textParts("a", ""), textParts(""), []impl.Event{wildPart("abc")})
	source := rand.New(rand.NewSource(114))
	for range 300 {
		list = append(list, randomDivided(source, 8))
	}
	return list
}

func TestMergingEventsChangesNothing(t *testing.T) {
	lists := dividedLists()
	for i, list := range lists {
		a, b := roomyEvents(list), roomyEvents(lists[(i*7+1)%len(lists)])
		linesOfA, linesOfB := eventLines(a[:cap(a)]), eventLines(b[:cap(b)])
		for _, n := range sizesFor(a) {
			impl.Shattered(a, n)
		}
		impl.Merged(a)
		impl.PrefixOf(a, b)
		impl.PrefixOf(b, a)
		impl.PrefixOf(a, a)
		impl.PartBytes(a)
		impl.LongestPart(a)
		if !slices.Equal(eventLines(a[:cap(a)]), linesOfA) || !slices.Equal(eventLines(b[:cap(b)]), linesOfB) {
			t.Errorf("%v and %v were changed to %#v and %#v", linesOfA, linesOfB, a[:cap(a)], b[:cap(b)])
		}
	}
}

// spoilEvents overwrites the events and the room behind them.
func spoilEvents(list []impl.Event) {
	for i := range list[:cap(list)] {
		list[:cap(list)][i] = impl.Event{Kind: -7, Text: "spoilt"}
	}
}

func TestMergedEventsShareNoMemory(t *testing.T) {
	calls := map[string]func(list []impl.Event) []impl.Event{"Merged": impl.Merged}
	for _, n := range []int{math.MinInt, -1, 0, 1, 2, 3, math.MaxInt} {
		calls[fmt.Sprint("Shattered by ", n)] = func(list []impl.Event) []impl.Event { return impl.Shattered(list, n) }
	}
	for _, list := range dividedLists() {
		for name, call := range calls {
			argument := roomyEvents(list)
			was := eventLines(argument[:cap(argument)])
			first, second := call(argument), call(argument)
			want := eventLines(first)
			spoilEvents(first)
			if !slices.Equal(eventLines(argument[:cap(argument)]), was) {
				t.Fatalf("%s: %v was changed to %#v through the result", name, was, argument[:cap(argument)])
			}
			if got := eventLines(second); !slices.Equal(got, want) {
				t.Fatalf("%s: the result %v was changed to %v through another one", name, want, got)
			}
			spoilEvents(second)
			if got := eventLines(call(argument)); !slices.Equal(got, want) {
				t.Fatalf("%s: the later result is %v, not %v", name, got, want)
			}
			third := call(argument)
			spoilEvents(argument)
			if got := eventLines(third); !slices.Equal(got, want) {
				t.Fatalf("%s: the result %v was changed to %v through the argument", name, want, got)
			}
		}
	}
}

// Unused capacity is no part of a list, even if the part in it would be adjacent.
func TestWhatIsBeyondTheLengthIsNotMerged(t *testing.T) {
	for _, list := range dividedLists() {
		spare := roomyEvents(list)
		if !slices.Equal(impl.Merged(spare), modelMerged(list)) || !slices.Equal(impl.Shattered(spare, 2), modelShattered(list, 2)) || !slices.Equal(impl.Shattered(spare, 0), list) {
			t.Errorf("%#v is merged or divided with what is beyond its length", list)
		}
		checkPrefix(t, spare, list, true)
		checkPrefix(t, list, spare, true)
		checkPrefix(t, spare[:len(list)+2], list, false)
		checkParts(t, spare, impl.PartBytes(slices.Clone(list)), impl.LongestPart(slices.Clone(list)))
	}
}

// The results do not depend on the calls before.
func TestMergedEventsAreTheSameEachTime(t *testing.T) {
	for _, list := range dividedLists() {
		merged, shattered := eventLines(impl.Merged(list)), eventLines(impl.Shattered(list, 2))
		for range 3 {
			impl.Merged(textParts("x", "y"))
			impl.Shattered(textParts("xyz"), 1)
			if !slices.Equal(eventLines(impl.Merged(list)), merged) || !slices.Equal(eventLines(impl.Shattered(list, 2)), shattered) {
				t.Errorf("%#v has other results later", list)
			}
			checkPrefix(t, list, list, true)
		}
	}
}
