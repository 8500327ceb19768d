package tests

import (
	"fmt"
	"math"
	"math/rand"
	"slices"
	"strings"
	"testing"

	"loop.example/g00498/impl"
)

// An eventRow is what the document says of a kind of event; sample is a valid event in which each part that the kind uses is not zero.
type eventRow struct {
	word   string
	uses   []string
	sample impl.Event
}

// eventRows has the kind k at k - 1. The numbers are the document's, not the program's constants.
func eventRows() []eventRow {
	return []eventRow{
		{"frame", []string{"Len"}, impl.Event{Kind: 1, Len: 12}},
		{"num", []string{"Field", "Bits"}, impl.Event{Kind: 2, Field: 3, Bits: 7}},
		{"open", []string{"Field", "Len"}, impl.Event{Kind: 3, Field: 4, Len: 2}},
		{"part", []string{"Text"}, impl.Event{Kind: 4, Text: "ab"}},
		{"shut", nil, impl.Event{Kind: 5}},
		{"down", []string{"Field", "Len"}, impl.Event{Kind: 6, Field: 5, Len: 3}},
		{"up", nil, impl.Event{Kind: 7}},
		{"end", nil, impl.Event{Kind: 8}},
		{"done", []string{"At"}, impl.Event{Kind: 9, At: 13}},
		{"fail", []string{"Code", "At"}, impl.Event{Kind: 10, Code: 6, At: 14}},
	}
}

var rowsOfEvents = eventRows()

// usedBy tells whether events of this kind use this part. A kind that is none uses nothing.
func usedBy(k int, part string) bool {
	return k >= 1 && k <= 10 && slices.Contains(rowsOfEvents[k-1].uses, part)
}

// sampleEvents has the sample of every kind, in order.
func sampleEvents() []impl.Event {
	var list []impl.Event
	for _, row := range eventRows() {
		list = append(list, row.sample)
	}
	return list
}

// eventFaults names the parts of e for which it is not valid, one by one.
func eventFaults(e impl.Event) []string {
	var list []string
	fault := func(part string, zero bool, fits bool) {
		if usedBy(e.Kind, part) && !fits || !usedBy(e.Kind, part) && !zero {
			list = append(list, part)
		}
	}
	if e.Kind <= 0 || e.Kind >= 11 {
		list = append(list, "Kind")
	}
	fault("Field", e.Field == 0, e.Field > 0 && e.Field < 536870912)
	fault("Bits", e.Bits == 0, true)
	fault("Len", e.Len == 0, e.Len > -1)
	fault("Text", len(e.Text) == 0, len(e.Text) > 0)
	fault("Code", e.Code == 0, e.Code > 0)
	fault("At", e.At == 0, e.At > -1)
	return list
}

func checkEvent(t *testing.T, e impl.Event, want bool) {
	t.Helper()
	if got := impl.EventOk(e); got != want {
		t.Errorf("EventOk(%#v) = %v", e, got)
	}
	if got := len(eventFaults(e)) == 0; got != want {
		t.Errorf("%#v has the faults %v", e, eventFaults(e))
	}
}

func compareEvent(t *testing.T, e impl.Event) bool {
	t.Helper()
	faults := eventFaults(e)
	if got := impl.EventOk(e); got != (len(faults) == 0) {
		t.Errorf("EventOk(%#v) = %v, but the faults are %v", e, got, faults)
	}
	return len(faults) == 0
}

// A partValue gives one part of an event a value that is not zero. It fits if a kind that uses the part may have it.
type partValue struct {
	part string
	fits bool
	set  func(e *impl.Event)
}

func partValues() []partValue {
	var list []partValue
	for _, n := range []int{
		math.MinInt, math.MinInt + 1, -1 << 32, -536870911, -20, -1, 1, 2, 10, 11, 20, 18999, 19000, 19500, 19999, 20000,
		536870910, 536870911, 536870912, 536870913, 1000000000, 1 << 31, 1 << 32, 1<<32 + 1, 1 << 62, math.MaxInt - 1, math.MaxInt,
	} {
		list = append(list,
			partValue{"Field", n > 0 && n < 536870912, func(e *impl.Event) { e.Field = n }},
			partValue{"Len", n > 0, func(e *impl.Event) { e.Len = n }},
			partValue{"Code", n > 0, func(e *impl.Event) { e.Code = n }},
			partValue{"At", n > 0, func(e *impl.Event) { e.At = n }},
		)
	}
	for _, u := range append(fewValues(), 2, 1<<63, 1<<63+1) {
		if u != 0 {
			list = append(list, partValue{"Bits", true, func(e *impl.Event) { e.Bits = u }})
		}
	}
	for _, s := range eventTexts() {
		if s != "" {
			list = append(list, partValue{"Text", true, func(e *impl.Event) { e.Text = s }})
		}
	}
	return list
}

// eventTexts are texts of which some are not valid UTF-8, and some look empty.
func eventTexts() []string {
	return []string{
		"", "a", "b", "A", "ab", "\x00", "\x00\x00", " ", "\n", "é", "e\u0301", "\u20ac", "\ufffd", "\ufeff", "\U0010ffff",
		"\xff", "\xfe", "\x80", "\xe2\x82", "\xed\xa0\x80", "\xc0\x80", "a\xff", strings.Repeat("x", 5000), strings.Repeat("\xff", 5000),
	}
}

// clearPart sets one part to its zero value.
func clearPart(e impl.Event, part string) impl.Event {
	switch part {
	case "Field":
		e.Field = 0
	case "Bits":
		e.Bits = 0
	case "Len":
		e.Len = 0
	case "Text":
		e.Text = ""
	case "Code":
		e.Code = 0
	case "At":
		e.At = 0
	}
	return e
}

func TestEventNumbers(t *testing.T) {
	kinds := []int{
		impl.EvFrame, impl.EvNum, impl.EvOpen, impl.EvPart, impl.EvShut,
		impl.EvDown, impl.EvUp, impl.EvFrameEnd, impl.EvDone, impl.EvFail,
	}
	codes := []int{
		impl.ErVarint, impl.ErTag, impl.ErWire, impl.ErKind, impl.ErUtf,
		impl.ErDeep, impl.ErFrame, impl.ErLen, impl.ErEnd, impl.ErCut,
	}
	want := []int{1, 2, 3, 4, 5, 6, 7, 8, 9, 10}
	if !slices.Equal(kinds, want) || !slices.Equal(codes, want) {
		t.Error(kinds, codes)
	}
}

// The ten kinds, by the program's names.
func TestSampleEvents(t *testing.T) {
	for _, e := range []impl.Event{
		{Kind: impl.EvFrame, Len: 5}, {Kind: impl.EvNum, Field: 1, Bits: 2}, {Kind: impl.EvOpen, Field: 2, Len: 3},
		{Kind: impl.EvPart, Text: "abc"}, {Kind: impl.EvShut}, {Kind: impl.EvDown, Field: 3, Len: 0}, {Kind: impl.EvUp},
		{Kind: impl.EvFrameEnd}, {Kind: impl.EvDone, At: 6}, {Kind: impl.EvFail, Code: impl.ErCut, At: 7},
	} {
		checkEvent(t, e, true)
	}
	for _, e := range sampleEvents() {
		checkEvent(t, e, true)
	}
	checkEvent(t, impl.Event{}, false)
}

// An event in which one part that its kind does not use is not zero is not valid, whatever the value.
func TestPartsThatAKindDoesNotUse(t *testing.T) {
	for i, row := range eventRows() {
		unused := map[string]bool{}
		for _, value := range partValues() {
			e := row.sample
			value.set(&e)
			if usedBy(i+1, value.part) {
				checkEvent(t, e, value.fits)
				continue
			}
			checkEvent(t, e, false)
			unused[value.part] = true
		}
		if len(unused)+len(row.uses) != 6 {
			t.Errorf("the kind %d has the parts %v, and %v are not its own", i+1, row.uses, unused)
		}
	}
}

// Parts that a kind does not use do not make up for each other.
func TestTwoPartsThatAKindDoesNotUse(t *testing.T) {
	values := partValues()
	for _, e := range sampleEvents() {
		for _, one := range values {
			for _, other := range values {
				both := e
				one.set(&both)
				other.set(&both)
				compareEvent(t, both)
			}
		}
	}
}

// An event of a kind may have all values of the parts that it uses, together.
func TestPartsThatAKindUses(t *testing.T) {
	for i, row := range eventRows() {
		events := []impl.Event{row.sample}
		for _, part := range row.uses {
			for _, e := range slices.Clone(events) {
				for _, value := range partValues() {
					if value.part == part && value.fits {
						value.set(&e)
						events = append(events, e)
					}
				}
			}
		}
		for _, e := range events {
			checkEvent(t, e, true)
			for _, k := range []int{math.MinInt, -i - 1, -1, 0, 11, 12, i + 1 + 1<<32, math.MaxInt} {
				e.Kind = k
				checkEvent(t, e, false)
			}
		}
	}
}

func TestPartsThatMayBeZero(t *testing.T) {
	zeros := map[string]bool{"Field": false, "Bits": true, "Len": true, "Text": false, "Code": false, "At": true}
	for _, row := range eventRows() {
		for _, part := range row.uses {
			checkEvent(t, clearPart(row.sample, part), zeros[part])
		}
	}
}

func TestKindsOfEvents(t *testing.T) {
	// The kinds without a part that must not be zero.
	bare := []int{1, 5, 7, 8, 9}
	// Other kinds with which the sample of a kind is valid.
	others := map[int][]int{3: {6}, 6: {3}, 5: bare, 7: bare, 8: bare}
	for i, row := range eventRows() {
		for _, k := range eventCodes() {
			e := row.sample
			e.Kind = k
			checkEvent(t, e, k == i+1 || slices.Contains(others[i+1], k))
		}
	}
	for _, k := range eventCodes() {
		checkEvent(t, impl.Event{Kind: k}, slices.Contains(bare, k))
	}
	for _, k := range []int{-1, 0, 11} {
		for _, value := range partValues() {
			e := impl.Event{Kind: k}
			value.set(&e)
			checkEvent(t, e, false)
		}
	}
}

func TestLengthsOfEvents(t *testing.T) {
	for n, want := range map[int]bool{
		math.MinInt: false, -2000: false, -1: false, 0: true, 1: true, 2000: true, 2001: true, 1 << 32: true, math.MaxInt: true,
	} {
		checkEvent(t, impl.Event{Kind: 1, Len: n}, want)
		checkEvent(t, impl.Event{Kind: 3, Field: 1, Len: n}, want)
		checkEvent(t, impl.Event{Kind: 6, Field: 1, Len: n}, want)
	}
	for _, n := range intSamples() {
		for _, k := range []int{1, 3, 6} {
			checkEvent(t, impl.Event{Kind: k, Field: truth(k > 1), Len: n}, n >= 0)
		}
	}
}

// Reserved numbers are from 1 to MaxNumber, too.
func TestFieldsOfEvents(t *testing.T) {
	for n, want := range map[int]bool{
		math.MinInt: false, -536870911: false, -1: false, 0: false, 1: true, 2: true, 18999: true, 19000: true, 19999: true, 20000: true,
		536870910: true, 536870911: true, 536870912: false, 1 << 32: false, 1<<32 + 1: false, math.MaxInt: false,
	} {
		for _, k := range []int{2, 3, 6} {
			checkEvent(t, impl.Event{Kind: k, Field: n}, want)
		}
	}
	for _, n := range intSamples() {
		for _, k := range []int{2, 3, 6} {
			checkEvent(t, impl.Event{Kind: k, Field: n}, n >= 1 && n <= impl.MaxNumber)
		}
	}
}

func TestBitsOfEvents(t *testing.T) {
	for _, u := range append(bitSamples(), 0, math.MaxUint64) {
		checkEvent(t, impl.Event{Kind: 2, Field: 1, Bits: u}, true)
		checkEvent(t, impl.Event{Kind: 2, Field: 536870911, Bits: u}, true)
		checkEvent(t, impl.Event{Kind: 2, Bits: u}, false)
		for k := range 12 {
			checkEvent(t, impl.Event{Kind: k, Field: 1, Bits: u}, k == 2 || u == 0 && (k == 3 || k == 6))
		}
	}
}

// An event has bytes, whether or not they are valid UTF-8.
func TestTextsOfEvents(t *testing.T) {
	for _, s := range eventTexts() {
		checkEvent(t, impl.Event{Kind: 4, Text: s}, s != "")
		checkEvent(t, impl.Event{Kind: 4, Text: s, Len: len(s)}, false)
	}
	for b := range 256 {
		checkEvent(t, impl.Event{Kind: 4, Text: string([]byte{byte(b)})}, true)
		checkEvent(t, impl.Event{Kind: 4, Text: string([]byte{byte(b), 65})}, true)
		checkEvent(t, impl.Event{Kind: 5, Text: string([]byte{byte(b)})}, false)
	}
}

func TestOffsetsOfEvents(t *testing.T) {
	for n, want := range map[int]bool{
		math.MinInt: false, -4000: false, -1: false, 0: true, 1: true, 4000: true, 4001: true, 1000000001: true, 1 << 32: true, math.MaxInt: true,
	} {
		checkEvent(t, impl.Event{Kind: 9, At: n}, want)
		checkEvent(t, impl.Event{Kind: 10, Code: 1, At: n}, want)
		checkEvent(t, impl.Event{Kind: 10, At: n}, false)
	}
	for _, n := range intSamples() {
		checkEvent(t, impl.Event{Kind: 9, At: n}, n >= 0)
		checkEvent(t, impl.Event{Kind: 10, Code: 1, At: n}, n >= 0)
	}
}

// Codes from 11 to 19 are none that the document names, but they are from 1 on.
func TestCodesOfEvents(t *testing.T) {
	for n, want := range map[int]bool{
		math.MinInt: false, -20: false, -10: false, -1: false, 0: false, 1: true, 2: true, 9: true, 10: true, 11: true, 19: true, 20: true,
		21: true, 1 << 32: true, math.MaxInt: true,
	} {
		checkEvent(t, impl.Event{Kind: 10, Code: n}, want)
		checkEvent(t, impl.Event{Kind: 10, Code: n, At: 5}, want)
		checkEvent(t, impl.Event{Kind: 9, Code: n}, n == 0)
		checkEvent(t, impl.Event{Kind: 9, Code: n, At: 5}, n == 0)
	}
	for _, n := range intSamples() {
		checkEvent(t, impl.Event{Kind: 10, Code: n}, n >= 1)
		checkEvent(t, impl.Event{Kind: 9, Code: n}, n == 0)
	}
}

// Every combination of the limits of all parts.
func TestEventsAtAllLimits(t *testing.T) {
	count := map[int]int{}
	numbers := []int{-1, 0, 1, 536870911, 536870912}
	small := []int{math.MinInt, -1, 0, 1, math.MaxInt}
	for k := -1; k <= 11; k++ {
		for _, number := range numbers {
			for _, u := range []uint64{0, 1, math.MaxUint64} {
				for _, length := range small {
					for _, text := range []string{"", "a", "\xff"} {
						for _, code := range small {
							for _, at := range small {
								e := impl.Event{Kind: k, Field: number, Bits: u, Len: length, Text: text, Code: code, At: at}
								count[k] += truth(compareEvent(t, e))
							}
						}
					}
				}
			}
		}
	}
	want := map[int]int{1: 3, 2: 2 * 3, 3: 2 * 3, 4: 2, 5: 1, 6: 2 * 3, 7: 1, 8: 1, 9: 3, 10: 2 * 3}
	for k := -1; k <= 11; k++ {
		if count[k] != want[k] {
			t.Errorf("%d events of the kind %d are valid, not %d", count[k], k, want[k])
		}
	}
}

// randomEvent is a sample to which up to two of the values and sometimes another kind are given; about three quarters of the events are valid.
func randomEvent(source *rand.Rand, values []partValue) impl.Event {
	e := rowsOfEvents[source.Intn(10)].sample
	for range source.Intn(3) {
		value := values[source.Intn(len(values))]
		if usedBy(e.Kind, value.part) || source.Intn(4) == 0 {
			value.set(&e)
		}
	}
	if source.Intn(20) == 0 {
		e.Kind = oneOf(source, -1, 0, 11, 12, 20, e.Kind+1, e.Kind+1<<32)
	}
	return e
}

func TestRandomEvents(t *testing.T) {
	source := rand.New(rand.NewSource(100))
	values := partValues()
	valid := 0
	for range 60000 {
		valid += truth(compareEvent(t, randomEvent(source, values)))
	}
	if valid < 30000 || valid > 50000 {
		t.Errorf("%d events are valid", valid)
	}
}

// The answer does not depend on the events before.
func TestEventsAreTheSameEachTime(t *testing.T) {
	bad := impl.Event{Kind: 7, Len: 1}
	for _, e := range sampleEvents() {
		for range 3 {
			checkEvent(t, bad, false)
			checkEvent(t, e, true)
		}
	}
}

// eventLines writes a list event by event, with all parts, so that equal lists have equal lines.
func eventLines(list []impl.Event) []string {
	lines := make([]string, len(list))
	for i, e := range list {
		lines[i] = fmt.Sprintf("%#v", e)
	}
	return lines
}

func checkSameEvents(t *testing.T, a []impl.Event, b []impl.Event, want bool) {
	t.Helper()
	if got := impl.SameEvents(a, b); got != want {
		t.Errorf("SameEvents(%#v, %#v) = %v", a, b, got)
	}
	if got := impl.SameEvents(b, a); got != want {
		t.Errorf("SameEvents(%#v, %#v) = %v", b, a, got)
	}
}

// eventChanges each change one part of an event whose Field, Bits, Len, Code and At are from 1 to 1000.
func eventChanges() []func(e *impl.Event) {
	return []func(e *impl.Event){
		func(e *impl.Event) { e.Kind++ },
		func(e *impl.Event) { e.Kind = -e.Kind },
		func(e *impl.Event) { e.Kind += 1 << 32 },
		func(e *impl.Event) { e.Kind = 0 },
		func(e *impl.Event) { e.Field++ },
		func(e *impl.Event) { e.Field = -e.Field },
		func(e *impl.Event) { e.Field += 1 << 32 },
		func(e *impl.Event) { e.Field = 0 },
		func(e *impl.Event) { e.Bits++ },
		func(e *impl.Event) { e.Bits += 1 << 63 },
		func(e *impl.Event) { e.Bits += 1 << 32 },
		func(e *impl.Event) { e.Bits = 0 },
		func(e *impl.Event) { e.Len++ },
		func(e *impl.Event) { e.Len = -e.Len },
		func(e *impl.Event) { e.Len += 1 << 32 },
		func(e *impl.Event) { e.Len = 0 },
		func(e *impl.Event) { e.Text = "" },
		func(e *impl.Event) { e.Text += "\x00" },
		func(e *impl.Event) { e.Text = "-" + e.Text },
		func(e *impl.Event) { e.Text = e.Text[1:] },
		func(e *impl.Event) { e.Text = e.Text[:len(e.Text)-1] },
		func(e *impl.Event) { e.Text = strings.ToUpper(e.Text) },
		func(e *impl.Event) { e.Text = strings.Replace(e.Text, "a", "b", 1) },
		func(e *impl.Event) { e.Code++ },
		func(e *impl.Event) { e.Code = -e.Code },
		func(e *impl.Event) { e.Code += 1 << 32 },
		func(e *impl.Event) { e.Code = 0 },
		func(e *impl.Event) { e.At++ },
		func(e *impl.Event) { e.At = -e.At },
		func(e *impl.Event) { e.At += 1 << 32 },
		func(e *impl.Event) { e.At = 0 },
	}
}

// fullEvents have the ten kinds and, except for their kinds, no part that is zero, so most of them are not valid.
func fullEvents() []impl.Event {
	var list []impl.Event
	for k := 1; k <= 10; k++ {
		text := strings.Repeat("a", k) + "z"
		list = append(list, impl.Event{Kind: k, Field: 20 + k, Bits: uint64(40 + k), Len: 60 + k, Text: text, Code: 80 + k, At: 100 + k})
	}
	return list
}

func TestSameLists(t *testing.T) {
	for _, list := range [][]impl.Event{nil, {}, {{}}, sampleEvents(), fullEvents(), fullEvents()[:1]} {
		checkSameEvents(t, list, list, true)
		checkSameEvents(t, list, slices.Clone(list), true)
		other := slices.Clone(list)
		for i := range other {
			other[i].Text = strings.Clone(other[i].Text)
		}
		checkSameEvents(t, list, other, true)
	}
	checkSameEvents(t, sampleEvents(), fullEvents(), false)
}

func TestNilAndEmptyListsAreEqual(t *testing.T) {
	list := sampleEvents()
	empty := [][]impl.Event{nil, {}, make([]impl.Event, 0, 5), list[:0], list[3:3], list[10:]}
	for _, a := range empty {
		for _, b := range empty {
			checkSameEvents(t, a, b, true)
		}
		checkSameEvents(t, a, []impl.Event{{}}, false)
		checkSameEvents(t, a, list, false)
		for _, e := range list {
			checkSameEvents(t, a, []impl.Event{e}, false)
		}
	}
}

// Every part counts at every place, the first and the last included, and whether or not the kind uses it.
func TestListsThatDifferInOnePart(t *testing.T) {
	for _, length := range []int{1, 2, 10} {
		for at := range length {
			for i, change := range eventChanges() {
				list := fullEvents()[:length]
				change(&list[at])
				if list[at] == fullEvents()[at] {
					t.Fatalf("the change %d leaves %#v as it is", i, list[at])
				}
				checkSameEvents(t, list, fullEvents()[:length], false)
				checkSameEvents(t, list, slices.Clone(list), true)
			}
		}
	}
}

// A difference in a part that is zero in one of two valid lists.
func TestListsOfSamplesThatDifferInOnePart(t *testing.T) {
	for at := range 10 {
		for _, value := range partValues() {
			list := sampleEvents()
			value.set(&list[at])
			checkSameEvents(t, list, sampleEvents(), list[at] == sampleEvents()[at])
			first, last := []impl.Event{{}, {}}, []impl.Event{{}, {}}
			value.set(&first[0])
			value.set(&last[1])
			checkSameEvents(t, first, make([]impl.Event, 2), false)
			checkSameEvents(t, last, make([]impl.Event, 2), false)
			checkSameEvents(t, first, last, false)
		}
	}
}

// What the parts of an event add up to does not matter, nor where the numbers are.
func TestPartsOfAnEventAreNotExchanged(t *testing.T) {
	var list []impl.Event
	for _, numbers := range []int{12345, 21345, 12354, 15342, 52341, 32145, 13245, 12435, 14325, 11445} {
		e := impl.Event{Kind: numbers / 10000, Field: numbers / 1000 % 10, Len: numbers / 100 % 10, Code: numbers / 10 % 10, At: numbers % 10}
		list = append(list, e)
		e.Bits = 1
		list = append(list, e)
		e.Bits, e.Text = 0, "1"
		list = append(list, e)
	}
	for i, a := range list {
		for j, b := range list {
			checkSameEvents(t, []impl.Event{a}, []impl.Event{b}, i == j)
		}
	}
}

func TestTextsAreComparedByBytes(t *testing.T) {
	for i, a := range eventTexts() {
		for j, b := range eventTexts() {
			checkSameEvents(t, []impl.Event{{Kind: 4, Text: a}}, []impl.Event{{Kind: 4, Text: strings.Clone(b)}}, i == j)
			checkSameEvents(t, []impl.Event{{Kind: 9, Text: a}}, []impl.Event{{Kind: 9, Text: strings.Clone(b)}}, i == j)
		}
	}
}

// Unlike the events of a merged list, divided texts are not equal to the whole.
func TestDividedTextsAreNotEqual(t *testing.T) {
	part := func(s string) impl.Event { return impl.Event{Kind: 4, Text: s} }
	lists := [][]impl.Event{
		{part("abc")}, {part("ab"), part("c")}, {part("a"), part("bc")}, {part("a"), part("b"), part("c")},
		{part("abc"), part("")}, {part(""), part("abc")},
	}
	for i, a := range lists {
		for j, b := range lists {
			checkSameEvents(t, a, b, i == j)
		}
	}
}

// Both begin the same, or end the same, but one is longer.
func TestListsOfDifferentLengths(t *testing.T) {
	for _, list := range [][]impl.Event{sampleEvents(), fullEvents(), make([]impl.Event, 10)} {
		for i := range 11 {
			for j := range 11 {
				checkSameEvents(t, list[:i], slices.Clone(list[:j]), i == j)
				checkSameEvents(t, list[:i], list[:j], i == j)
				checkSameEvents(t, list[i:], list[j:], i == j)
				checkSameEvents(t, slices.Clone(list[i:]), list[j:], i == j)
			}
		}
	}
}

func TestListsInAnotherOrder(t *testing.T) {
	list := sampleEvents()
	for i := range list {
		for j := range list {
			other := slices.Clone(list)
			other[i], other[j] = other[j], other[i]
			checkSameEvents(t, list, other, i == j)
		}
	}
	for i := range list {
		turned := append(slices.Clone(list[i:]), list[:i]...)
		checkSameEvents(t, list, turned, i == 0)
		twice := slices.Insert(slices.Clone(list), i, list[i])
		checkSameEvents(t, list, twice, false)
		checkSameEvents(t, list, twice[:10], i == 9)
	}
}

// A list may go on after an event that ends it, and the events after it count, too.
func TestEventsAfterATerminalOneCount(t *testing.T) {
	for _, end := range []impl.Event{{Kind: 9, At: 4}, {Kind: 10, Code: 1, At: 4}} {
		for _, e := range sampleEvents() {
			for _, other := range sampleEvents() {
				checkSameEvents(t, []impl.Event{end, e}, []impl.Event{end, other}, e == other)
			}
			checkSameEvents(t, []impl.Event{end, e}, []impl.Event{end}, false)
		}
	}
}

// Events that are not valid are compared by their parts, too.
func TestListsOfInvalidEvents(t *testing.T) {
	wild := impl.Event{
		Kind: math.MinInt, Field: math.MaxInt, Bits: math.MaxUint64, Len: math.MinInt, Text: "\xff", Code: math.MinInt, At: math.MaxInt,
	}
	invalid := []impl.Event{{}, wild, {Kind: 11}, {Kind: -1}, {Kind: 7, Len: 1}, {Kind: 7, Len: -1}, {Kind: 7, At: 1}, {Kind: 2}, {Kind: 4}, {Kind: 10}, {Kind: 10, Code: -1}}
	for i, a := range invalid {
		checkEvent(t, a, false)
		for j, b := range invalid {
			checkSameEvents(t, []impl.Event{a}, []impl.Event{b}, i == j)
			checkSameEvents(t, []impl.Event{a, b}, []impl.Event{b, a}, i == j)
			checkSameEvents(t, []impl.Event{a, wild, b}, []impl.Event{a, wild, b}, true)
			checkSameEvents(t, []impl.Event{a, b}, []impl.Event{a}, false)
		}
	}
}

func randomEvents(source *rand.Rand, values []partValue, most int) []impl.Event {
	var list []impl.Event
	for range source.Intn(most + 1) {
		list = append(list, randomEvent(source, values))
	}
	return list
}

func TestSameEventsOfRandomLists(t *testing.T) {
	source := rand.New(rand.NewSource(101))
	values := partValues()
	for range 10000 {
		a, b := randomEvents(source, values, 3), randomEvents(source, values, 3)
		checkSameEvents(t, a, b, slices.Equal(eventLines(a), eventLines(b)))
		c := slices.Clone(a)
		if len(c) > 0 {
			values[source.Intn(len(values))].set(&c[source.Intn(len(c))])
		}
		checkSameEvents(t, a, c, slices.Equal(eventLines(a), eventLines(c)))
	}
}

func TestTerminal(t *testing.T) {
	for _, k := range eventCodes() {
		want := k == 9 || k == 10
		if got := impl.Terminal(impl.Event{Kind: k}); got != want {
			t.Errorf("Terminal of the kind %d = %v", k, got)
		}
	}
	for _, e := range append(sampleEvents(), fullEvents()...) {
		if got := impl.Terminal(e); got != (e.Kind > 8) {
			t.Errorf("Terminal(%#v) = %v", e, got)
		}
	}
}

// Only the kind matters, even if the event is not valid.
func TestTerminalOfInvalidEvents(t *testing.T) {
	for k := -1; k <= 12; k++ {
		for _, value := range partValues() {
			e := impl.Event{Kind: k}
			value.set(&e)
			if got := impl.Terminal(e); got != (k == 9 || k == 10) {
				t.Errorf("Terminal(%#v) = %v", e, got)
			}
		}
	}
}

func checkMany(t *testing.T, list []impl.Event, kind int, want int) {
	t.Helper()
	if got := impl.Many(list, kind); got != want {
		t.Errorf("Many(%#v, %d) = %d, not %d", list, kind, got, want)
	}
}

// listOf has an event of each of these kinds, whether or not they are kinds.
func listOf(kinds ...int) []impl.Event {
	var list []impl.Event
	for i, k := range kinds {
		list = append(list, impl.Event{Kind: k, Field: i})
	}
	return list
}

func TestManyOfEmptyLists(t *testing.T) {
	for _, k := range eventCodes() {
		checkMany(t, nil, k, 0)
		checkMany(t, []impl.Event{}, k, 0)
		checkMany(t, sampleEvents()[:0], k, 0)
	}
}

func TestMany(t *testing.T) {
	list := listOf(1, 2, 2, 3, 4, 4, 4, 5, 6, 2, 7, 8, 9)
	want := map[int]int{1: 1, 2: 3, 3: 1, 4: 3, 5: 1, 6: 1, 7: 1, 8: 1, 9: 1}
	for _, k := range eventCodes() {
		checkMany(t, list, k, want[k])
	}
	for k := 1; k <= 10; k++ {
		checkMany(t, sampleEvents(), k, 1)
		for n := range 6 {
			checkMany(t, slices.Repeat([]impl.Event{{Kind: k}}, n), k, n)
			checkMany(t, slices.Repeat([]impl.Event{{Kind: k}}, n), k%10+1, 0)
			checkMany(t, append(sampleEvents(), slices.Repeat([]impl.Event{{Kind: k}}, n)...), k, n+1)
		}
	}
}

// An integer that is no kind is counted like any other. Events after the one that ends the list count as well.
func TestManyOfInvalidKinds(t *testing.T) {
	list := listOf(0, -1, 11, 11, 10, 0, math.MinInt, math.MaxInt, 1<<32+1, 1, 9, 10, 0, -1, 1)
	want := map[int]int{0: 3, -1: 2, 11: 2, 10: 2, 9: 1, 1: 2, math.MinInt: 1, math.MaxInt: 1, 1<<32 + 1: 1}
	for _, k := range append(eventCodes(), 1<<32+1, 1<<32) {
		checkMany(t, list, k, want[k])
		checkMany(t, sampleEvents(), k, truth(k >= 1 && k <= 10))
	}
}

// Only the kind matters, whatever the other parts are.
func TestManyOfInvalidEvents(t *testing.T) {
	var list []impl.Event
	for _, value := range partValues() {
		for k := -1; k <= 11; k++ {
			e := impl.Event{Kind: k}
			value.set(&e)
			list = append(list, e)
		}
	}
	for k := -2; k <= 12; k++ {
		checkMany(t, list, k, len(partValues())*truth(k >= -1 && k <= 11))
	}
}

func TestManyOfRandomLists(t *testing.T) {
	source := rand.New(rand.NewSource(102))
	values := partValues()
	for range 2000 {
		list := randomEvents(source, values, 30)
		count := map[int]int{}
		for _, e := range list {
			count[e.Kind]++
		}
		for k := -1; k <= 12; k++ {
			checkMany(t, list, k, count[k])
		}
	}
}

func TestLongLists(t *testing.T) {
	list := slices.Repeat(sampleEvents(), 20000)
	other := slices.Clone(list)
	checkMany(t, list, 4, 20000)
	if !impl.SameEvents(list, other) {
		t.Error("long lists are not the same")
	}
	other[len(other)-1].At++
	if impl.SameEvents(list, other) || impl.SameEvents(list, list[1:]) {
		t.Error("long lists are the same")
	}
}

// eventCodes are the kinds and codes, the integers around them, the outermost ones, and such as become kinds when they are cut to fewer bits.
func eventCodes() []int {
	list := append(intSamples(), math.MinInt, math.MaxInt)
	for k := 0; k <= 11; k++ {
		for shift := 8; shift < 64; shift++ {
			list = append(list, k+1<<shift, k-1<<shift, -k)
		}
	}
	return list
}

func TestEventWord(t *testing.T) {
	words := map[int]string{
		1: "frame", 2: "num", 3: "open", 4: "part", 5: "shut", 6: "down", 7: "up", 8: "end", 9: "done", 10: "fail",
		0: "", 11: "", -1: "", math.MinInt: "", math.MaxInt: "",
	}
	for k, want := range words {
		if got := impl.EventWord(k); got != want {
			t.Errorf("EventWord(%d) = %q, not %q", k, got, want)
		}
	}
	for _, k := range eventCodes() {
		if got := impl.EventWord(k); got != words[k] {
			t.Errorf("EventWord(%d) = %q, not %q", k, got, words[k])
		}
	}
	for i, row := range eventRows() {
		if got := impl.EventWord(i + 1); got != row.word {
			t.Errorf("EventWord(%d) = %q, not %q", i+1, got, row.word)
		}
	}
}

// A code of a reader has no word, nor has one between those of the decoder and those of readers.
func TestErrorWord(t *testing.T) {
	words := map[int]string{
		1: "varint", 2: "tag", 3: "wire", 4: "kind", 5: "utf", 6: "deep", 7: "frame", 8: "length", 9: "end", 10: "cut",
		0: "", 11: "", 19: "", 20: "", 21: "", -1: "", math.MinInt: "", math.MaxInt: "",
	}
	for code, want := range words {
		if got := impl.ErrorWord(code); got != want {
			t.Errorf("ErrorWord(%d) = %q, not %q", code, got, want)
		}
	}
	for _, code := range eventCodes() {
		if got := impl.ErrorWord(code); got != words[code] {
			t.Errorf("ErrorWord(%d) = %q, not %q", code, got, words[code])
		}
	}
}

// Exactly the kinds that a valid event can have are named, each by a word of its own.
func TestOnlyKindsOfEventsHaveAWord(t *testing.T) {
	kinds, codes := map[string]int{}, map[string]int{}
	for _, k := range eventCodes() {
		word := impl.EventWord(k)
		if got := slices.ContainsFunc(sampleEvents(), func(e impl.Event) bool {
			e.Kind = k
			return impl.EventOk(e)
		}); got != (word != "") {
			t.Errorf("EventWord(%d) = %q, but a valid event has this kind: %v", k, word, got)
		}
		if other, seen := kinds[word]; seen && other != k && word != "" {
			t.Errorf("%q is the word of %d and %d", word, k, other)
		}
		kinds[word] = k
		name := impl.ErrorWord(k)
		if other, seen := codes[name]; seen && other != k && name != "" {
			t.Errorf("%q is the word of %d and %d", name, k, other)
		}
		codes[name] = k
	}
	if len(kinds) != 11 || len(codes) != 11 {
		t.Error(kinds, codes)
	}
}

// roomyEvents are the events in an array with room for more, which is filled.
func roomyEvents(list []impl.Event) []impl.Event {
	spare := append(slices.Clone(list), impl.Event{Kind: 4, Text: "spare"}, impl.Event{Kind: 77, Field: 77, Len: -77})
	return spare[:len(list)]
}

// someLists are lists of valid and invalid events.
func someLists() [][]impl.Event {
	list := [][]impl.Event{{}, sampleEvents(), fullEvents(), {{}}, make([]impl.Event, 5), listOf(0, -1, 11, 4, 4)}
	source := rand.New(rand.NewSource(103))
	values := partValues()
	for range 300 {
		list = append(list, randomEvents(source, values, 8))
	}
	return list
}

func TestReadingEventsChangesNothing(t *testing.T) {
	lists := someLists()
	for i, list := range lists {
		a, b := roomyEvents(list), roomyEvents(lists[(i*7+1)%len(lists)])
		linesOfA, linesOfB := eventLines(a[:cap(a)]), eventLines(b[:cap(b)])
		impl.SameEvents(a, b)
		impl.SameEvents(b, a)
		impl.SameEvents(a, slices.Clone(a))
		for k := -1; k <= 12; k++ {
			impl.Many(a, k)
		}
		for _, e := range a {
			was := fmt.Sprintf("%#v", e)
			impl.EventOk(e)
			impl.Terminal(e)
			if got := fmt.Sprintf("%#v", e); got != was {
				t.Errorf("%s was changed to %s", was, got)
			}
		}
		if !slices.Equal(eventLines(a[:cap(a)]), linesOfA) || !slices.Equal(eventLines(b[:cap(b)]), linesOfB) {
			t.Errorf("%v and %v were changed to %#v and %#v", linesOfA, linesOfB, a, b)
		}
	}
}

// Unused capacity is no part of a list.
func TestWhatIsBeyondTheLengthOfAListDoesNotCount(t *testing.T) {
	for _, list := range someLists() {
		spare := roomyEvents(list)
		checkSameEvents(t, spare, slices.Clip(slices.Clone(list)), true)
		checkSameEvents(t, spare[:len(list)+1], list, false)
		checkMany(t, spare, 77, 0)
		checkMany(t, spare[:len(list)+2], 77, 1)
	}
}
