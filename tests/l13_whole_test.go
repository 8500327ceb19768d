package tests

import (
	"math"
	"math/rand"
	"reflect"
	"slices"
	"strings"
	"testing"

	"loop.example/g00498/impl"
)

// framed are the events of a complete frame of n bytes.
func framed(n int, events ...impl.Event) []impl.Event {
	return slices.Concat([]impl.Event{{Kind: 1, Len: n}}, events, []impl.Event{{Kind: 8}})
}

func doneOf(at int) impl.Event { return impl.Event{Kind: 9, At: at} }

// frameBytes is a frame whose length has no padding.
func frameBytes(body string) string { return varintOf(uint64(len(body))) + body }

// withMost is the same plan for frames of up to so many bytes.
func withMost(p impl.Plan, most int) impl.Plan {
	p.Most = most
	return p
}

// An account is an input and what is to be told of it: its events, and the offsets at which it could have ended.
type account struct {
	text   string
	events []impl.Event
	ends   []int
}

// nothing is the account of an input of which nothing has been read. Its other methods add to it.
func nothing() account { return account{ends: []int{0}} }

// frame adds a frame whose length has so many bytes.
func (a account) frame(width int, body string, events ...impl.Event) account {
	a.text += padded(uint64(len(body)), width) + body
	a.events = slices.Concat(a.events, framed(len(body), events...))
	a.ends = append(slices.Clone(a.ends), len(a.text))
	return a
}

// plain adds a frame whose length has no padding.
func (a account) plain(body string, events ...impl.Event) account {
	return a.frame(len(varintOf(uint64(len(body)))), body, events...)
}

func (a account) done() account {
	a.events = append(slices.Clone(a.events), doneOf(len(a.text)))
	return a
}

// fails adds bytes of which these events are told before they fail. The offset is counted from the first of them.
func (a account) fails(text string, code int, at int, events ...impl.Event) account {
	a.events = slices.Concat(a.events, events, []impl.Event{failOf(code, len(a.text)+at)})
	a.text += text
	return a
}

// cut adds bytes that end before the frame that they begin.
func (a account) cut(text string, events ...impl.Event) account {
	return a.fails(text, 10, len(text), events...)
}

// followed is the same input with more bytes behind those that failed.
func (a account) followed(text string) account {
	a.text += text
	return a
}

// modelWhole reads each message alone, in a text that has no other bytes.
func modelWhole(p impl.Plan, s string) ([]impl.Event, []int) {
	valid := len(schemaFaults(p.Schema)) == 0 && p.Root >= 0 && p.Root < len(p.Schema.Shapes)
	if !valid || p.Deep < 1 || p.Deep > 8 || p.Most < 0 || p.Most > 2000 || len(s) > 4000 {
		return nil, nil
	}
	var list []impl.Event
	at, ends := 0, []int{0}
	for at < len(s) {
		u, next, code := modelWithin(s, at, math.MaxInt)
		if code != 0 {
			return append(list, failOf(code, next)), ends
		}
		if u > 2000 || int(u) > p.Most {
			return append(list, failOf(7, at)), ends
		}
		n := int(u)
		at = next + n
		events, fail, _ := modelRead(p, p.Root, s[next:min(at, len(s))], 0, n, 1)
		if fail.Kind != 0 {
			list = append(list, framed(n, events...)...)
			list[len(list)-1] = failOf(fail.Code, next+fail.At)
			return list, ends
		}
		list = append(list, framed(n, events...)...)
		ends = append(ends, at)
	}
	return append(list, doneOf(at)), ends
}

// compareInput returns the last event, or none if there is none.
func compareInput(t *testing.T, p impl.Plan, s string) impl.Event {
	t.Helper()
	events, ends := modelWhole(p, s)
	got := impl.Whole(p, s)
	if !slices.Equal(got, events) {
		t.Errorf("Whole of %q is %v, not %v, with %v", s, got, events, p)
	}
	if list := impl.Boundaries(p, s); !slices.Equal(list, ends) {
		t.Errorf("Boundaries of %q are %v, not %v, with %v", s, list, ends, p)
	}
	if n := impl.FramesIn(p, s); n != max(0, len(ends)-1) {
		t.Errorf("FramesIn of %q is %d, but the boundaries are %v, with %v", s, n, ends, p)
	}
	if len(got) == 0 {
		return impl.Event{}
	}
	checkNesting(t, s, got)
	return got[len(got)-1]
}

// checkNesting holds the first half of promise 13 against the events of the input.
func checkNesting(t *testing.T, s string, events []impl.Event) {
	t.Helper()
	if !nestedWithin(events) {
		t.Errorf("the events %v of %q are not nested, or the last one alone is not terminal", events, s)
		return
	}
	last := events[len(events)-1]
	if last.At > len(s) || (last.Kind == 9 || last.Code == 10) && last.At != len(s) {
		t.Errorf("the events of %q end with %v", s, last)
	}
}

// nestedWithin tells whether each event is valid and stands within one that it may stand in, and only the last one is terminal.
func nestedWithin(events []impl.Event) bool {
	open := []int{0}
	for i, e := range events {
		inside := open[len(open)-1]
		if !impl.EventOk(e) || !mayStandIn(e.Kind, inside) {
			return false
		}
		switch e.Kind {
		case 1, 3, 6:
			open = append(open, e.Kind)
		case 5, 7, 8:
			open = open[:len(open)-1]
		case 9, 10:
			return i == len(events)-1
		}
	}
	return false
}

// mayStandIn tells whether an event of this kind may stand in the last one that is open, or in none if that is 0.
func mayStandIn(kind int, open int) bool {
	switch kind {
	case 1, 9:
		return open == 0
	case 2, 3, 6:
		return open == 1 || open == 6
	case 4, 5:
		return open == 3
	case 7:
		return open == 6
	case 8:
		return open == 1
	}
	return kind == 10
}

// checkPrefixes holds promise 13 against the input: its first k bytes end with an EvDone exactly if k is a boundary. Of a long input it
// visits the first and the last k, and some between them.
func checkPrefixes(t *testing.T, p impl.Plan, s string) {
	t.Helper()
	all, ends := impl.Whole(p, s), impl.Boundaries(p, s)
	if len(all) == 0 || len(ends) == 0 || ends[0] != 0 || !slices.IsSorted(ends) {
		t.Errorf("Whole and Boundaries of %q are %v and %v, with %v", s, all, ends, p)
		return
	}
	step := 1 + len(s)/300*7
	for k := range len(s) + 1 {
		if k%step > 0 && k > 10 && k < len(s)-10 {
			continue
		}
		last := compareInput(t, p, s[:k])
		if (last.Kind == 9) != slices.Contains(ends, k) {
			t.Errorf("Whole of %q ends with %v, but the boundaries of %q are %v, with %v", s[:k], last, s, ends, p)
		}
		before := ends[:len(slices.DeleteFunc(slices.Clone(ends), func(end int) bool { return end > k }))]
		if list := impl.Boundaries(p, s[:k]); !slices.Equal(list, before) {
			t.Errorf("Boundaries of %q are %v, but those of %q are %v, with %v", s[:k], list, s, ends, p)
		}
		events := impl.Whole(p, s[:k])
		if len(events) == 0 || !modelPrefixOf(events[:len(events)-1], all[:len(all)-1]) {
			t.Errorf("Whole of %q is %v, which does not begin %v, with %v", s[:k], events, all, p)
		}
		if last.Kind == 10 && last != failOf(10, k) && !slices.Equal(events, all) {
			t.Errorf("Whole of %q is %v, but with more bytes it is %v, with %v", s[:k], events, all, p)
		}
	}
}

func checkInput(t *testing.T, p impl.Plan, a account) {
	t.Helper()
	if events := impl.Whole(p, a.text); !slices.Equal(events, a.events) {
		t.Errorf("Whole of %q is %v, not %v, with %v", a.text, events, a.events, p)
	}
	if ends := impl.Boundaries(p, a.text); !slices.Equal(ends, a.ends) {
		t.Errorf("Boundaries of %q are %v, not %v, with %v", a.text, ends, a.ends, p)
	}
	if n := impl.FramesIn(p, a.text); n != len(a.ends)-1 {
		t.Errorf("FramesIn of %q is %d, not %d, with %v", a.text, n, len(a.ends)-1, p)
	}
	checkPrefixes(t, p, a.text)
}

// checkNoInput is for arguments of which nothing is told, not even that they fail.
func checkNoInput(t *testing.T, p impl.Plan, s string) {
	t.Helper()
	if events, ends := impl.Whole(p, s), impl.Boundaries(p, s); events != nil || ends != nil {
		t.Errorf("Whole and Boundaries of %d bytes are %v and %v, with %v", len(s), events, ends, p)
	}
	if n := impl.FramesIn(p, s); n != 0 {
		t.Errorf("FramesIn of %d bytes is %d, with %v", len(s), n, p)
	}
}

// someStarts are accounts of inputs that go on, of three frames or fewer, in some of which there are messages in others.
func someStarts() []account {
	deep, events := tower(1, "\x08\x05\x32\x02hi", slices.Concat(numsOf(1, 5), textOf(6, "hi"))...)
	return []account{
		nothing(), nothing().plain(""), nothing().plain("\x08\x05", numOf(1, 5)), nothing().plain(deep, events...),
		nothing().frame(10, "").plain("").frame(3, "\x32\x00", textOf(6, "")...), nothing().plain("\x4a\x03\x01\x08\xff").frame(2, deep, events...),
	}
}

func TestInputsOfFrames(t *testing.T) {
	p := kindsPlan(2)
	for _, a := range someStarts() {
		checkInput(t, p, a.done())
		checkInput(t, p, a.plain("\x08\x05\x08\x06", numsOf(1, 5, 6)...).done())
		checkInput(t, p, a.plain("\x08\x05", numOf(1, 5)).plain("").plain("\x18\x07", numOf(3, 1)).done())
		checkInput(t, p, a.plain("\x42\x02\x08\x05", nestOf(8, 2, numOf(1, 5))...).done())
		checkInput(t, p, a.plain("\x3a\x04\x02\x08\x05\x00", textOf(7, "\x02\x08\x05\x00")...).done())
		checkInput(t, p, a.frame(2, longOf(7, strings.Repeat("a", 98)), textOf(7, strings.Repeat("a", 98))...).done())
	}
}

// The same in full, by the program's names.
func TestInputOfTwoFrames(t *testing.T) {
	p := kindsPlan(2)
	events := impl.Whole(p, "\x09\x08\x05\x42\x05\x32\x01h\x48\x01\x80\x00\x02\x18\x09")
	want := []impl.Event{
		{Kind: impl.EvFrame, Len: 9}, {Kind: impl.EvNum, Field: 1, Bits: 5}, {Kind: impl.EvDown, Field: 8, Len: 5},
		{Kind: impl.EvOpen, Field: 6, Len: 1}, {Kind: impl.EvPart, Text: "h"}, {Kind: impl.EvShut}, {Kind: impl.EvUp}, {Kind: impl.EvFrameEnd},
		{Kind: impl.EvFrame, Len: 0}, {Kind: impl.EvFrameEnd},
		{Kind: impl.EvFrame, Len: 2}, {Kind: impl.EvNum, Field: 3, Bits: 1}, {Kind: impl.EvFrameEnd}, {Kind: impl.EvDone, At: 15},
	}
	if !slices.Equal(events, want) {
		t.Errorf("%v, not %v", events, want)
	}
	if ends := impl.Boundaries(p, "\x09\x08\x05\x42\x05\x32\x01h\x48\x01\x80\x00\x02\x18\x09"); !slices.Equal(ends, []int{0, 10, 12, 15}) {
		t.Error(ends)
	}
	if n := impl.FramesIn(p, "\x09\x08\x05\x42\x05\x32\x01h\x48\x01\x80\x00\x02\x18\x09"); n != 3 {
		t.Error(n)
	}
	events = impl.Whole(p, "\x00\x02\x08")
	want = []impl.Event{
		{Kind: impl.EvFrame}, {Kind: impl.EvFrameEnd}, {Kind: impl.EvFrame, Len: 2}, {Kind: impl.EvFail, Code: impl.ErCut, At: 3},
	}
	if !slices.Equal(events, want) {
		t.Errorf("%v, not %v", events, want)
	}
}

func TestInputsOfInvalidPlans(t *testing.T) {
	for _, p := range wrongPlans() {
		for _, s := range []string{
			"", "\x00", "\x02\x08\x05", "\x02\x08", "\x80", "\xff\xff", "\x01\x00", strings.Repeat("\x00", 4000), strings.Repeat("\x00", 4001),
		} {
			checkNoInput(t, p, s)
		}
	}
	for _, most := range []int{math.MinInt, -2, -1, 2001, 2002, 4000, 1<<32 + 1, math.MaxInt} {
		checkNoInput(t, withMost(kindsPlan(1), most), "")
		checkNoInput(t, withMost(kindsPlan(1), most), "\x00")
		checkNoInput(t, withMost(kindsPlan(1), most), "\x02\x08\x05")
	}
}

func TestEmptyInputs(t *testing.T) {
	count := 0
	for _, p := range somePlans() {
		if !impl.PlanOk(p) {
			checkNoInput(t, p, "")
			continue
		}
		checkInput(t, p, nothing().done())
		checkInput(t, withMost(p, 0), nothing().done())
		count++
	}
	if count < 100 {
		t.Errorf("%d plans are valid", count)
	}
}

// textOfBytes is a message of n bytes, which is only a KdBytes, and its events. There is none of one byte.
func textOfBytes(n int) (string, []impl.Event) {
	if n == 0 {
		return "", nil
	}
	width := 1
	if n > 129 {
		width = 2
	}
	s := strings.Repeat("\xfe", n-1-width)
	return "\x3a" + padded(uint64(len(s)), width) + s, textOf(7, s)
}

// The limit of an input is one of its bytes, however many frames they are, and comes before everything that is told.
func TestLongestInputs(t *testing.T) {
	p := withMost(kindsPlan(1), 2000)
	body, events := textOfBytes(1998)
	for _, a := range []account{
		nothing().plain(body, events...).plain(body, events...).done(),
		nothing().plain(body, events...).plain("").cut(frameBytes(body)[:1999], impl.Event{Kind: 1, Len: 1998}, events[0], textPart(events[1].Text[1:])),
		nothing().fails(strings.Repeat("\xff", 4000), 1, 9),
		nothing().fails("\xd1\x0f"+strings.Repeat("\x00", 3998), 7, 0),
		nothing().fails("\x01"+strings.Repeat("\x00", 3999), 2, 1, impl.Event{Kind: 1, Len: 1}),
	} {
		if n := len(a.text); n != 4000 {
			t.Fatalf("there are %d bytes", n)
		}
		checkNoInput(t, p, a.text+"\x00")
		checkNoInput(t, p, "\x00"+a.text)
		for _, n := range []int{1, 2, 100, 4000, 100000} {
			checkNoInput(t, p, a.text+strings.Repeat("\x00", n))
		}
		checkInput(t, p, a)
	}
}

func TestManyFrames(t *testing.T) {
	a := nothing()
	for n := range 4001 {
		if n == 1 || n == 299 || n >= 3999 {
			checkInput(t, withMost(kindsPlan(1), n%2*2000), a.done())
		}
		a.text += "\x00"
		a.events = append(a.events, framed(0)...)
		a.ends = append(a.ends, n+1)
	}
	checkNoInput(t, withMost(kindsPlan(1), 0), a.text)
}

// A frame may have Most bytes. One of more is refused at the first byte of its length, whether its bytes are there or not.
func TestFramesUpToTheLimit(t *testing.T) {
	for _, most := range []int{0, 1, 2, 3, 126, 127, 128, 129, 130, 131, 255, 256, 257, 1000, 1999, 2000} {
		p := withMost(kindsPlan(1), most)
		for _, n := range []int{0, 2, 3, 127, 128, 130, most - 1, most, most + 1, most + 2, most + 256, 2000, 3000} {
			if n == 1 || n < 0 {
				continue
			}
			body, events := textOfBytes(n)
			if n <= most {
				checkInput(t, p, nothing().plain(body, events...).done())
				checkInput(t, p, nothing().plain("").frame(4, body, events...).plain("").done())
				continue
			}
			for _, a := range []account{nothing(), nothing().plain("").frame(3, "")} {
				checkInput(t, p, a.fails(frameBytes(body), 7, 0))
				checkInput(t, p, a.fails(varintOf(uint64(n)), 7, 0))
				checkInput(t, p, a.fails(padded(uint64(n), 10), 7, 0))
				checkInput(t, p, a.fails(padded(uint64(n), 7)+body[:n-1], 7, 0))
			}
		}
		if most > 0 {
			checkInput(t, p, nothing().plain("").fails("\x01\x08", 9, 2, impl.Event{Kind: 1, Len: 1}))
			checkInput(t, p, nothing().plain("").cut("\x01", impl.Event{Kind: 1, Len: 1}))
		}
	}
}

// A length may be one that is no int, or only seems to be small.
func TestFramesThatAreTooLong(t *testing.T) {
	for _, u := range []uint64{
		2001, 1 << 16, 1<<16 + 2, 1 << 31, 1<<31 + 2, 1 << 32, 1<<32 + 2, 1<<48 + 2, 1<<56 + 2, 1<<62 + 2,
		1<<63 - 1, 1 << 63, 1<<63 + 2, math.MaxUint64 - 1, math.MaxUint64,
	} {
		for _, most := range []int{0, 2, 2000} {
			for n := len(varintOf(u)); n <= 10; n++ {
				checkInput(t, withMost(kindsPlan(1), most), nothing().fails(padded(u, n), 7, 0))
				checkInput(t, withMost(kindsPlan(1), most), nothing().plain("").fails(padded(u, n)+"\x08\x05\x00", 7, 0))
			}
		}
	}
}

func TestLengthsOfFrames(t *testing.T) {
	for _, a := range someStarts() {
		for _, n := range []int{0, 2, 3, 99, 100} {
			body, events := textOfBytes(n)
			for width := 1; width <= 10; width++ {
				checkInput(t, kindsPlan(2), a.frame(width, body, events...).done())
				if n < 5 {
					checkInput(t, kindsPlan(2), a.frame(width, body, events...).frame(width, body, events...).done())
				}
				for k := 1; k < width; k++ {
					checkInput(t, kindsPlan(2), a.cut(padded(uint64(n), width)[:k]))
				}
			}
		}
	}
}

// A length of nine bytes may have any ninth byte that ends it, and one of ten may end with 0 or 1, but then it is too large for a frame.
func TestLengthsOfNineAndTenBytes(t *testing.T) {
	high := strings.Repeat("\x80", 8)
	for _, most := range []int{0, 2, 2000} {
		p := withMost(kindsPlan(2), most)
		for _, a := range []account{nothing(), nothing().plain("").frame(9, "").frame(10, "")} {
			checkInput(t, p, a.frame(9, "").done())
			checkInput(t, p, a.cut(high))
			checkInput(t, p, a.cut(high+"\x80"))
			checkInput(t, p, a.cut(high+"\xff"))
			for b := 1; b < 128; b++ {
				checkInput(t, p, a.fails(high+string([]byte{byte(b)})+"\x00", 7, 0))
			}
			checkInput(t, p, a.frame(10, "").done())
			checkInput(t, p, a.fails(high+"\x80\x01", 7, 0))
			checkInput(t, p, a.fails(strings.Repeat("\xff", 9)+"\x00", 7, 0))
			checkInput(t, p, a.fails(strings.Repeat("\xff", 9)+"\x01\x00", 7, 0))
			checkInput(t, p, a.fails("\x82"+high+"\x01\x08\x05", 7, 0))
			for b := 2; b < 256; b++ {
				checkInput(t, p, a.fails(high+"\x80"+string([]byte{byte(b)}), 1, 9))
			}
			checkInput(t, p, a.fails(strings.Repeat("\xff", 9)+"\x02\x00\x00", 1, 9))
			checkInput(t, p, a.fails("\x82"+high+"\x02\x08\x05", 1, 9))
			checkInput(t, p, a.fails(strings.Repeat("\x80", 20), 1, 9))
			if most >= 2 {
				checkInput(t, p, a.frame(10, "\x08\x05", numOf(1, 5)).done())
			}
		}
	}
}

// The length of a frame may be larger than what is left of the input, and then what is there is told.
func TestFramesThatAreCutOff(t *testing.T) {
	p := kindsPlan(3)
	frame := func(n int, events ...impl.Event) []impl.Event {
		return append([]impl.Event{{Kind: 1, Len: n}}, events...)
	}
	for _, a := range someStarts() {
		for _, n := range []int{1, 2, 5, 99, 100} {
			start := varintOf(uint64(n))
			checkInput(t, p, a.cut(start, frame(n)...))
			checkInput(t, p, a.cut(padded(uint64(n), 5), frame(n)...))
		}
		checkInput(t, p, a.cut("\x03\x08", frame(3)...))
		checkInput(t, p, a.cut("\x03\x08\x05", frame(3, numOf(1, 5))...))
		checkInput(t, p, a.cut("\x64\x08\x05", frame(100, numOf(1, 5))...))
		checkInput(t, p, a.cut("\x04\x08\x05\x88", frame(4, numOf(1, 5))...))
		checkInput(t, p, a.cut("\x06\x32\x04ab", frame(6, openOf(6, 4), textPart("ab"))...))
		checkInput(t, p, a.cut("\x06\x32\x04", frame(6, openOf(6, 4))...))
		checkInput(t, p, a.cut("\x06\x4a\x04ab", frame(6)...))
		checkInput(t, p, a.cut("\x06\x42\x04\x08", frame(6, downOf(8, 4))...))
		checkInput(t, p, a.cut("\x06\x42\x02\x08\x05\x08", frame(6, nestOf(8, 2, numOf(1, 5))...)...))
		checkInput(t, p, a.cut("\x06\x42\x04\x42\x02\x08", frame(6, downOf(8, 4), downOf(8, 2))...))
		// What is there fails before it is known that more is missing.
		checkInput(t, p, a.fails("\x09\x08\x05\x00", 2, 3, frame(9, numOf(1, 5))...))
		checkInput(t, p, a.fails("\x09\x32\x04a\xff", 5, 4, frame(9, openOf(6, 4), textPart("a"))...))
		checkInput(t, p, a.fails("\x09\x32\x08", 8, 2, frame(9)...))
		checkInput(t, p, a.fails("\x03\x25", 9, 2, frame(3)...))
	}
}

// failedMessages are messages that fail in every way in which one can, each alone in its frame. They are too deep at the depth 3.
func failedMessages() []reading {
	one, up := numOf(1, 5), impl.Event{Kind: 7}
	over := strings.Repeat("\x80", 9) + "\x02"
	return []reading{
		failing(0, over, 1, 9), failing(0, "\x08"+over, 1, 10), failing(0, "\x08\x05\x4a"+over, 1, 12, one),
		failing(1, "\x0a\x0b\x05"+over, 1, 12, numOf(1, 5)), failing(0, "\x42\x0b\x08"+over, 1, 12, downOf(8, 11)),

		failing(0, "\x00", 2, 0), failing(0, "\x08\x05\x07", 2, 2, one),
		failing(0, "\x42\x01\x00", 2, 2, downOf(8, 1)), failing(0, "\x42\x00\x80\x00\x08", 2, 2, downOf(8, 0), up),

		failing(0, "\x0b", 3, 0), failing(0, "\x08\x05\x4c", 3, 2, one),
		failing(0, "\x42\x02\x08\x05\x8e\x00", 3, 4, downOf(8, 2), one, up),

		failing(0, "\x0d\x00\x00\x00\x00", 4, 0), failing(0, "\x08\x05\x30\x01", 4, 2, one),
		failing(0, "\x42\x04\x42\x02\x10\x01\x38\x07", 4, 6, downOf(8, 4), downOf(8, 2), numOf(2, 1), up, up),

		failing(0, "\x32\x02a\xff", 5, 3, openOf(6, 2), textPart("a")),
		failing(0, "\x08\x05\x32\x01\xc3", 5, 5, one, openOf(6, 1), textPart("\xc3")),
		failing(0, "\x42\x03\x32\x01\x80\x08\x05", 5, 4, downOf(8, 3), openOf(6, 1)),
		failing(0, "\x32\x01\xe2\x82\xac", 5, 3, openOf(6, 1), textPart("\xe2")),

		failing(0, "\x42\x04\x42\x02\x42\x00", 6, 5, downOf(8, 4), downOf(8, 2)),
		failing(0, "\x08\x05\x42\x07\x42\x05\x08\x05\x42\x80\x00", 6, 9, one, downOf(8, 7), downOf(8, 5), one),

		failing(0, "\x32\x01", 8, 1), failing(0, "\x08\x05\x4a\x05abcd", 8, 3, one),
		failing(0, "\x42\x82\x00\x08", 8, 1), failing(0, "\x42\x02\x3a\x01a", 8, 3, downOf(8, 2)),
		failing(0, "\x08\x05\x42\x06\x42\x04\x42\x82\x00\x08", 8, 7, one, downOf(8, 6), downOf(8, 4)),

		failing(0, "\x08", 9, 1), failing(0, "\x08\x80", 9, 2), failing(0, "\x4a", 9, 1),
		failing(0, "\x08\x05\x25\x01\x02\x03", 9, 3, one), failing(1, "\x08\x05\x0a\x02\x06\x80", 9, 6, one, numOf(1, 6)),
		failing(0, "\x42\x01\x08\x05", 9, 3, downOf(8, 1)), failing(0, "\x29\x01\x02\x03\x04\x05\x06\x07", 9, 1),
	}
}

// A failure ends everything, whatever comes behind it, and is counted from the start of the input.
func TestMessagesThatFailInTheirFrames(t *testing.T) {
	codes := map[int]int{}
	for _, r := range failedMessages() {
		p := kindsPlan(3)
		p.Root = r.shape
		for _, a := range someStarts() {
			for _, width := range []int{1, 2, 10} {
				start := padded(uint64(r.end), width)
				failed := a.fails(start+r.text, r.code, width+r.at, append([]impl.Event{{Kind: 1, Len: r.end}}, r.events...)...)
				checkInput(t, p, failed)
				checkInput(t, p, failed.followed("\x00"))
				checkInput(t, p, failed.followed("\x02\x08\x05\x00"))
				checkInput(t, p, failed.followed("\x80\x80\x80\x80\x80\x80\x80\x80\x80\x80\x80"))
			}
		}
		codes[r.code]++
	}
	checkCodes(t, codes, 2, 0, 7, 10)
}

// A failure in a frame is the first that there is: those behind it, of another code, are not told.
func TestTheFirstFailureOfAnInput(t *testing.T) {
	for _, first := range failedMessages() {
		for _, second := range failedMessages() {
			if first.shape != 0 || second.shape != 0 {
				continue
			}
			a := nothing().fails(frameBytes(first.text), first.code, 1+first.at, append([]impl.Event{{Kind: 1, Len: first.end}}, first.events...)...)
			a = a.followed(frameBytes(second.text))
			if events := impl.Whole(kindsPlan(3), a.text); !slices.Equal(events, a.events) {
				t.Errorf("Whole of %q is %v, not %v", a.text, events, a.events)
			}
		}
	}
}

// The bytes that one frame has too few are not taken from the next one.
func TestFramesEndWhereTheirLengthSays(t *testing.T) {
	p := kindsPlan(3)
	frame := impl.Event{Kind: 1, Len: 2}
	for _, next := range []string{"", "\x00", "\x05", "\x02\x08\x05", "\x80"} {
		checkInput(t, p, nothing().fails("\x01\x08", 9, 2, impl.Event{Kind: 1, Len: 1}).followed(next))
		checkInput(t, p, nothing().fails("\x02\x08\x85", 9, 3, frame).followed(next))
		checkInput(t, p, nothing().fails("\x02\x32\x01", 8, 2, frame).followed(next))
		checkInput(t, p, nothing().fails("\x02\x4a\x05", 8, 2, frame).followed(next))
		checkInput(t, p, nothing().fails("\x02\x25\x05", 9, 2, frame).followed(next))
		checkInput(t, p, nothing().fails("\x02\x88\x80", 9, 3, frame).followed(next))
		checkInput(t, p, nothing().plain("\x08\x05", numOf(1, 5)).fails("\x02\x42\x01", 8, 2, frame).followed(next))
	}
	// A frame that ends early leaves bytes, which are then read as another.
	eight := impl.Event{Kind: 1, Len: 8}
	checkInput(t, p, nothing().plain("\x08\x05", numOf(1, 5)).cut("\x08\x08\x06", eight, numOf(1, 6)))
	checkInput(t, p, nothing().plain("\x08\x05", numOf(1, 5)).fails("\x08\x06\x08", 2, 1, eight))
	checkInput(t, p, nothing().plain("").plain("\x08\x05", numOf(1, 5)).cut("\x08", eight))
}

// Each frame begins at the depth 1 again.
func TestDepthOfFrames(t *testing.T) {
	for deep := 1; deep <= 8; deep++ {
		p := kindsPlan(deep)
		s, events := tower(deep-1, "\x08\x05", numOf(1, 5))
		a := nothing().plain(s, events...).plain(s+s, slices.Concat(events, events)...).plain(s, events...)
		checkInput(t, p, a.done())
		over, downs := tower(deep, "\x08\x05")
		failed := append([]impl.Event{{Kind: 1, Len: len(over)}}, downs[:deep-1]...)
		checkInput(t, p, nothing().fails(frameBytes(over), 6, 2*deep, failed...))
		checkInput(t, p, a.fails(frameBytes(over), 6, 2*deep, failed...).followed(a.text))
	}
}

// The messages of all frames have the shape Root.
func TestRootOfFrames(t *testing.T) {
	s := schema(shape(3, compiledField(1, 1), reference(2, 1)), shape(5, compiledField(1, 6), reference(2, 2)), shape(9, compiledField(1, 4)))
	bodies := []string{"\x08\x05", "\x0a\x01a", "\x0d\x05\x00\x00\x00"}
	events := [][]impl.Event{numsOf(1, 5), textOf(1, "a"), numsOf(1, 5)}
	for root := range 3 {
		p := planOf(s, root, 3, 50)
		a := nothing()
		for at, body := range bodies[root:] {
			inside, told := body, events[root+at]
			for range at {
				told = nestOf(2, len(inside), told...)
				inside = longOf(2, inside)
			}
			a = a.plain(inside, told...)
			checkInput(t, p, a.done())
		}
		for other, body := range bodies {
			if other != root {
				checkInput(t, p, a.fails(frameBytes(body), 4, 1, impl.Event{Kind: 1, Len: len(body)}))
			}
		}
	}
}

func TestShortInputs(t *testing.T) {
	codes := map[int]int{}
	eachText("\x00\x01\x02\x03\x04\x05\x08\x0a\x25\x32\x42\x4a\x80\xa9\xc3", 4, func(s string) {
		codes[compareInput(t, withMost(kindsPlan(1), 3), s).Code]++
		if len(s) < 4 {
			checkPrefixes(t, withMost(kindsPlan(2), 4), s)
		}
	})
	eachText("\x00\x01\x02\x08\x80\x81", 6, func(s string) { codes[compareInput(t, withMost(kindsPlan(2), 2), s).Code]++ })
	checkCodes(t, codes, 3, 1)
}

// randomInput composes frames of messages, up to about so many bytes of them.
func randomInput(source *rand.Rand, p impl.Plan, most int) account {
	c := composer{source, p.Schema}
	a := nothing()
	for range source.Intn(6) {
		body, events := c.message(p.Root, p.Deep-1)
		width := len(varintOf(uint64(len(body))))
		if source.Intn(4) == 0 {
			width += source.Intn(11 - width)
		}
		if len(a.text)+len(body) <= most && len(body) <= p.Most {
			a = a.frame(width, body, events...)
		}
	}
	return a
}

// An input that is composed is read as what it was composed of, and cut off anywhere as the beginning of that.
func TestComposedInputs(t *testing.T) {
	source := rand.New(rand.NewSource(130))
	frames, kinds := map[int]int{}, map[int]int{}
	for range 700 {
		p := randomPlan(source)
		if source.Intn(3) > 0 {
			p.Most = 2000
		}
		a := randomInput(source, p, 250).done()
		checkInput(t, p, a)
		frames[len(a.ends)-1]++
		for _, e := range a.events {
			kinds[e.Kind]++
		}
	}
	for n := range 6 {
		if frames[n] < 20 {
			t.Errorf("%d inputs had %d frames", frames[n], n)
		}
	}
	for k := 1; k <= 9; k++ {
		if kinds[k] < 100 {
			t.Errorf("there were %d events of the kind %d", kinds[k], k)
		}
	}
}

func TestEditedInputs(t *testing.T) {
	source := rand.New(rand.NewSource(131))
	codes := map[int]int{}
	for i := range 3000 {
		p := randomPlan(source)
		wider := withMost(p, 2000)
		wider.Deep = min(8, p.Deep+source.Intn(2))
		a := randomInput(source, wider, 300)
		codes[compareInput(t, p, a.text).Code]++
		for range 3 {
			s := edited(source, a.text)
			codes[compareInput(t, p, s).Code]++
			codes[compareInput(t, wider, s).Code]++
			if i%20 == 0 {
				checkPrefixes(t, p, s)
				checkPrefixes(t, wider, s)
			}
		}
	}
	checkCodes(t, codes, 10)
}

func TestInputsOfAnyBytes(t *testing.T) {
	source := rand.New(rand.NewSource(132))
	for i := range 20000 {
		s := longRuns(source, 20)
		if i%2 == 0 {
			s = strings.Repeat("\x05\x08\x01\x32\x01a", source.Intn(4)) + frameBytes(s) + longRuns(source, 3)
		}
		p := withMost(kindsPlan(1+source.Intn(3)), oneOf(source, 0, 2, 10, 100, 2000))
		p.Root = source.Intn(3)
		compareInput(t, p, s)
	}
}

func checkFrame(t *testing.T, body string, length string) {
	t.Helper()
	if got := impl.FrameOf(body); got != length+body {
		t.Errorf("FrameOf of %d bytes begins with %q, not with %q", len(body), got[:min(10, len(got))], length)
	}
}

func TestFrameOf(t *testing.T) {
	checkFrame(t, "", "\x00")
	checkFrame(t, "\x08\x05", "\x02")
	checkFrame(t, "\x02\x08\x05", "\x03")
	checkFrame(t, strings.Repeat("a", 127), "\x7f")
	checkFrame(t, strings.Repeat("a", 128), "\x80\x01")
	checkFrame(t, strings.Repeat("\xff", 2000), "\xd0\x0f")
	checkFrame(t, strings.Repeat("\xff", 2001), "\xd1\x0f")
	checkFrame(t, strings.Repeat("\x00", 16383), "\xff\x7f")
	checkFrame(t, strings.Repeat("\x00", 16384), "\x80\x80\x01")
	checkFrame(t, strings.Repeat("é", 1<<20), "\x80\x80\x80\x01")
	for n := range 600 {
		checkFrame(t, strings.Repeat("\x80", n), varintOf(uint64(n)))
	}
	for _, s := range stringsOfUpToTwoBytes() {
		checkFrame(t, s, string([]byte{byte(len(s))}))
	}
}

// The frames of bodies are read as the bodies' events, and the frame of a frame is no exception.
func TestFramesOfBodies(t *testing.T) {
	source := rand.New(rand.NewSource(133))
	for range 500 {
		p := withMost(randomPlan(source), 2000)
		text, a := "", nothing()
		for range source.Intn(4) {
			body, events := composer{source, p.Schema}.message(p.Root, p.Deep-1)
			if len(body) <= 900 {
				text, a = text+impl.FrameOf(body), a.plain(body, events...)
			}
		}
		if a = a.done(); text != a.text || !slices.Equal(impl.Whole(p, text), a.events) || !slices.Equal(impl.Boundaries(p, text), a.ends) {
			t.Errorf("Whole(%v, %q) = %v, not %v", p, text, impl.Whole(p, text), a.events)
		}
	}
	for _, n := range []int{0, 2, 3, 127, 128, 129, 1999, 2000} {
		body, events := textOfBytes(n)
		want := append(framed(n, events...), doneOf(n+len(varintOf(uint64(n)))))
		if got := impl.Whole(withMost(kindsPlan(1), 2000), impl.FrameOf(body)); !slices.Equal(got, want) {
			t.Errorf("the frame of %d bytes is read as %v", n, got)
		}
	}
	twice := impl.FrameOf(impl.FrameOf("\x08\x05"))
	checkInput(t, kindsPlan(1), nothing().fails(twice, 2, 1, impl.Event{Kind: 1, Len: 3}))
}

// What is beyond the length of a slice is no part of a plan.
func TestInputsOfPlansWithRoom(t *testing.T) {
	p := roomyPlan(kindsPlan(3))
	for _, a := range someStarts() {
		for root := range 3 {
			p.Root = root
			checkInput(t, p, a.plain(longOf(77, "\xff")).plain("\x08\x05", numOf(1, 5)).done())
		}
		p.Root = 3
		checkNoInput(t, p, a.text)
	}
}

// someInputs has frames of valid messages, and others.
func someInputs(source *rand.Rand, p impl.Plan) []string {
	var list []string
	text := ""
	for _, body := range someMessages(source, p) {
		list = append(list, frameBytes(body), body)
		text += frameBytes(body)
	}
	return append(list, "", text, "\x00\x00", "\x00"+text, text+"\x80", strings.Repeat("\x00", 40), strings.Repeat("\x00", 4001), "\x82\x00\x08\x05")
}

func TestReadingInputsChangesNothing(t *testing.T) {
	source := rand.New(rand.NewSource(134))
	for _, plan := range somePlans() {
		p := roomyPlan(plan)
		was, lengths := whollySchema(p.Schema), schemaNumbers(p.Schema)
		for _, s := range someInputs(source, plan) {
			bytes := []byte(s)
			impl.Whole(p, s)
			impl.FramesIn(p, s)
			impl.Boundaries(p, s)
			impl.FrameOf(s)
			if s != string(bytes) {
				t.Errorf("%q was changed to %q", bytes, s)
			}
		}
		if !reflect.DeepEqual(whollySchema(p.Schema), was) || !slices.Equal(schemaNumbers(p.Schema), lengths) {
			t.Errorf("%v was changed to %v", was, whollySchema(p.Schema))
		}
	}
}

// spoilOffsets changes the list in all its memory.
func spoilOffsets(list []int) {
	list = list[:cap(list)]
	for i := range list {
		list[i] = -7
	}
}

// A result keeps its value when the plan changes, and the plan and later results when a result changes.
func TestInputsShareNoMemory(t *testing.T) {
	source := rand.New(rand.NewSource(135))
	for _, plan := range somePlans() {
		p := roomyPlan(plan)
		was := whollySchema(p.Schema)
		for _, s := range someInputs(source, plan) {
			first, ends := impl.Whole(p, s), impl.Boundaries(p, s)
			second, others := impl.Whole(p, s), impl.Boundaries(p, s)
			want, offsets := eventLines(first), slices.Clone(ends)
			spoilEvents(first)
			spoilOffsets(ends)
			if !slices.Equal(eventLines(second), want) || !slices.Equal(others, offsets) || !reflect.DeepEqual(whollySchema(p.Schema), was) {
				t.Fatalf("the results of %q in %v share memory", s, plan)
			}
			spoilEvents(second)
			spoilOffsets(others)
			third, last := impl.Whole(p, s), impl.Boundaries(p, s)
			if !slices.Equal(eventLines(third), want) || !slices.Equal(last, offsets) || impl.FramesIn(p, s) != max(0, len(offsets)-1) {
				t.Fatalf("the later results of %q in %v are %v and %v, not %v and %v", s, plan, eventLines(third), last, want, offsets)
			}
			spoiled := roomyPlan(plan)
			third, last = impl.Whole(spoiled, s), impl.Boundaries(spoiled, s)
			spoilSchema(spoiled.Schema)
			if !slices.Equal(eventLines(third), want) || !slices.Equal(last, offsets) {
				t.Fatalf("the results of %q in %v were changed through the plan", s, plan)
			}
		}
	}
}

// The results do not depend on the calls before.
func TestInputsAreReadTheSameEachTime(t *testing.T) {
	for range 20 {
		for _, a := range someStarts() {
			checkInput(t, kindsPlan(3), a.done())
			impl.Whole(kindsPlan(3), a.text+"\x05\x42")
			impl.Whole(kindsPlan(1), a.text)
			impl.Boundaries(kindsPlan(2), "\x02\x08\x05\x80")
			impl.FramesIn(withMost(kindsPlan(2), 0), a.text)
			impl.FrameOf(a.text)
			impl.Whole(impl.Plan{}, a.text)
		}
	}
}
