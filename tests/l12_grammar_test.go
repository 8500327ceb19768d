package tests

import (
	"encoding/binary"
	"fmt"
	"math"
	"math/rand"
	"reflect"
	"slices"
	"strings"
	"testing"
	"unicode/utf8"

	"loop.example/g00498/impl"
)

// The codes and kinds here are the document's numbers, not the program's constants.

func planOf(s impl.Schema, root int, deep int, most int) impl.Plan {
	return impl.Plan{Schema: s, Root: root, Deep: deep, Most: most}
}

// kindsPlan has three shapes, in each of which the field k has the kind k, and the field 8 refers to the shape itself.
// The fields of the first are single, those of the second are repeated, and packed if they can be, and those of the third repeated.
func kindsPlan(deep int) impl.Plan {
	var s impl.Schema
	for i := range 3 {
		one := shape(i + 1)
		for k := 1; k <= 7; k++ {
			one.Fields = append(one.Fields, impl.Field{Number: k, Kind: k, Repeated: i > 0, Packed: i == 1 && k <= 5, Msg: -1})
		}
		one.Fields = append(one.Fields, impl.Field{Number: 8, Kind: 8, Repeated: i > 0, Msg: i})
		s.Shapes = append(s.Shapes, one)
	}
	return planOf(s, 0, deep, 100)
}

// roomyPlan is the same plan in arrays with room for more, which is filled.
func roomyPlan(p impl.Plan) impl.Plan { return planOf(roomySchema(p.Schema), p.Root, p.Deep, p.Most) }

func failOf(code int, at int) impl.Event {
	if code == 0 {
		return impl.Event{}
	}
	return impl.Event{Kind: 10, Code: code, At: at}
}

func numOf(field int, bits uint64) impl.Event { return impl.Event{Kind: 2, Field: field, Bits: bits} }

// numsOf has one number for each value.
func numsOf(field int, values ...uint64) []impl.Event {
	var list []impl.Event
	for _, u := range values {
		list = append(list, numOf(field, u))
	}
	return list
}

func openOf(field int, n int) impl.Event { return impl.Event{Kind: 3, Field: field, Len: n} }

// textOf are the events of a complete text.
func textOf(field int, s string) []impl.Event {
	list := []impl.Event{openOf(field, len(s))}
	if s != "" {
		list = append(list, textPart(s))
	}
	return append(list, impl.Event{Kind: 5})
}

func downOf(field int, n int) impl.Event { return impl.Event{Kind: 6, Field: field, Len: n} }

// nestOf are the events of a complete nested message of n bytes.
func nestOf(field int, n int, events ...impl.Event) []impl.Event {
	return slices.Concat([]impl.Event{downOf(field, n)}, events, []impl.Event{{Kind: 7}})
}

func varintOf(u uint64) string { return string(binary.AppendUvarint(nil, u)) }

func tagBytes(number int, wire int) string { return varintOf(tagged(number, wire)) }

// longOf is a field with the wire type WrLong.
func longOf(number int, body string) string {
	return tagBytes(number, 2) + varintOf(uint64(len(body))) + body
}

// valueBytes is a value of a numeric kind without its tag.
func valueBytes(k int, u uint64) string {
	switch rowOf(k).wire {
	case 5:
		return littleEndian(u, 4)
	case 1:
		return littleEndian(u, 8)
	}
	return varintOf(u)
}

// A modelLevel is an open message and the number of its bytes to come.
type modelLevel struct{ shape, left int }

// A model is a decoder that takes a message byte by byte, after chapters 14 to 18 of the document, in which the grammar is not used.
// What it has told when the bytes end has to be what the grammar says of them.
type model struct {
	plan        impl.Plan
	around, at  int
	levels      []modelLevel
	mode        string
	start, want int
	held, char  []byte
	field       impl.Field
	wire        int
	events      []impl.Event
	fail        impl.Event
}

func (m *model) stop(code int, at int) { m.fail = failOf(code, at) }

func (m *model) over() bool { return m.fail.Kind != 0 || len(m.levels) == 0 }

func (m *model) tell(list ...impl.Event) { m.events = append(m.events, list...) }

func (m *model) last() *modelLevel { return &m.levels[len(m.levels)-1] }

func (m *model) known() bool { return m.field.Number != 0 }

func modelWidth(wire int) int { return map[int]int{1: 8, 5: 4}[wire] }

func (m *model) modelRuns() bool { return m.field.Repeated && rowOf(m.field.Kind).bits > 0 }

// settle closes what is complete.
func (m *model) settle() {
	if m.mode == "text" && m.want == 0 {
		if len(m.char) > 0 {
			m.stop(5, m.at)
			return
		}
		m.mode = "tag"
		m.tell(impl.Event{Kind: 5})
	}
	if (m.mode == "skip" || m.mode == "run") && m.want == 0 && len(m.held) == 0 {
		m.mode = "tag"
	}
	for m.mode == "tag" && len(m.held) == 0 && len(m.levels) > 0 && m.last().left == 0 {
		m.levels = m.levels[:len(m.levels)-1]
		if len(m.levels) > 0 {
			m.tell(impl.Event{Kind: 7})
		}
	}
}

func (m *model) take(b byte) {
	m.at++
	m.last().left--
	m.want--
	switch {
	case m.mode == "skip":
		m.settle()
	case m.mode == "text":
		m.takeText(b)
	case m.mode == "fix" || m.mode == "run" && modelWidth(rowOf(m.field.Kind).wire) > 0:
		m.takeFixed(b)
	default:
		m.takeVarint(b)
	}
}

func (m *model) takeText(b byte) {
	if m.field.Kind == 6 {
		m.char = append(m.char, b)
		if utf8.FullRune(m.char) {
			if !utf8.Valid(m.char) {
				m.stop(5, m.at-1)
				return
			}
			m.char = nil
		}
	}
	m.tell(textPart(string([]byte{b})))
	m.settle()
}

func (m *model) takeFixed(b byte) {
	wire := m.wire
	if m.mode == "run" {
		wire = rowOf(m.field.Kind).wire
	}
	m.held = append(m.held, b)
	width := modelWidth(wire)
	if len(m.held) < width {
		return
	}
	m.number(binary.LittleEndian.Uint64(append(m.held, 0, 0, 0, 0)))
	if m.mode == "run" && m.want > 0 && m.want < width {
		m.stop(9, m.at)
		return
	}
	m.settle()
}

// number tells a complete number.
func (m *model) number(u uint64) {
	m.held = nil
	if m.field.Kind == 3 && u > 1 {
		u = 1
	}
	if m.known() {
		m.tell(numOf(m.field.Number, u))
	}
	if m.mode != "run" {
		m.mode = "tag"
	}
}

func (m *model) takeVarint(b byte) {
	if len(m.held) == 0 && m.mode != "run" && m.mode != "var" {
		m.start = m.at - 1
	}
	m.held = append(m.held, b)
	switch {
	case len(m.held) == 10 && b > 1:
		m.stop(1, m.at-1)
		return
	case b >= 128 && (m.last().left == 0 || m.mode == "run" && m.want == 0):
		m.stop(9, m.at)
		return
	case b >= 128:
		return
	}
	u, _ := binary.Uvarint(m.held)
	switch m.mode {
	case "tag":
		m.takeTag(u)
	case "len":
		m.takeLength(u)
	default:
		m.number(u)
		m.settle()
	}
}

func (m *model) takeTag(u uint64) {
	m.held = nil
	m.field, m.wire = impl.Field{}, int(u%8)
	for _, f := range m.plan.Schema.Shapes[m.last().shape].Fields {
		if uint64(f.Number) == u/8 {
			m.field = f
		}
	}
	mode := map[int]string{0: "var", 1: "fix", 2: "len", 5: "fix"}[m.wire]
	switch {
	case u/8 < 1 || u/8 > 536870911:
		m.stop(2, m.start)
	case mode == "":
		m.stop(3, m.start)
	case m.known() && m.wire != rowOf(m.field.Kind).wire && !(m.wire == 2 && m.modelRuns()):
		m.stop(4, m.start)
	case m.last().left < max(1, modelWidth(m.wire)):
		m.stop(9, m.at)
	}
	m.mode = mode
}

func (m *model) takeLength(u uint64) {
	m.held = nil
	if u > uint64(m.last().left) {
		m.stop(8, m.start)
		return
	}
	m.want = int(u)
	switch width := modelWidth(rowOf(m.field.Kind).wire); {
	case !m.known():
		m.mode = "skip"
	case m.field.Kind == 8 && m.around+len(m.levels) == m.plan.Deep:
		m.stop(6, m.start)
		return
	case m.field.Kind == 8:
		m.tell(downOf(m.field.Number, m.want))
		m.last().left -= m.want
		m.levels = append(m.levels, modelLevel{m.field.Msg, m.want})
		m.mode = "tag"
	case m.field.Kind >= 6:
		m.tell(openOf(m.field.Number, m.want))
		m.mode = "text"
	case m.want > 0 && m.want < width:
		m.stop(9, m.at)
		return
	default:
		m.mode = "run"
	}
	m.settle()
}

// modelRead also returns how many bytes of s it took to know this, or more than there are if s was not enough.
func modelRead(p impl.Plan, shape int, s string, at int, end int, deep int) ([]impl.Event, impl.Event, int) {
	m := model{plan: p, around: deep - 1, at: at, levels: []modelLevel{{shape, end - at}}, mode: "tag"}
	m.settle()
	for !m.over() && m.at < len(s) {
		m.take(s[m.at])
	}
	used := m.at
	if !m.over() {
		m.stop(10, m.at)
		used = len(s) + 1
	}
	return modelMerged(m.events), m.fail, used
}

// checkCuts holds promise 12 against the message: what is told of its first bytes is the beginning of what is told of all of them.
func checkCuts(t *testing.T, p impl.Plan, shape int, s string, at int, end int, deep int) {
	t.Helper()
	all, fail := impl.ReadMsg(p, shape, s, at, end, deep)
	want, failure, used := modelRead(p, shape, s, at, end, deep)
	if !slices.Equal(all, want) || fail != failure {
		t.Errorf("ReadMsg(%v, %d, %q, %d, %d, %d) = %v, %v, not %v, %v", p, shape, s, at, end, deep, all, fail, want, failure)
	}
	var before []impl.Event
	for k := at; k <= len(s); k++ {
		events, cut := impl.ReadMsg(p, shape, s[:k], at, end, deep)
		if !impl.PrefixOf(events, all) || !modelPrefixOf(events, all) || !modelPrefixOf(before, events) {
			t.Errorf("ReadMsg(%v, %d, %q, %d, %d, %d) tells %v, which does not begin %v", p, shape, s[:k], at, end, deep, events, all)
		}
		if k >= used && (cut != fail || !slices.Equal(events, all)) || k < used && cut != failOf(10, k) {
			t.Errorf("ReadMsg(%v, %d, %q, %d, %d, %d) = %v, %v, but that of %q is %v, %v", p, shape, s[:k], at, end, deep, events, cut, s, all, fail)
		}
		before = events
	}
}

// A reading is a message of end bytes, of which text has the first, and what is to be told of it. The code 0 is no failure.
type reading struct {
	shape  int
	text   string
	end    int
	events []impl.Event
	code   int
	at     int
}

// whole is a message that is read without failure.
func whole(shape int, text string, events ...impl.Event) reading {
	return reading{shape, text, len(text), events, 0, 0}
}

// failing is a message of which all bytes are there, but cannot be read.
func failing(shape int, text string, code int, at int, events ...impl.Event) reading {
	return reading{shape, text, len(text), events, code, at}
}

// cutOff is a message of which the last bytes are not there.
func cutOff(shape int, text string, missing int, events ...impl.Event) reading {
	return reading{shape, text, len(text) + missing, events, 10, len(text)}
}

func checkRead(t *testing.T, p impl.Plan, r reading, at int, deep int) {
	t.Helper()
	events, fail := impl.ReadMsg(p, r.shape, r.text, at, r.end, deep)
	if !slices.Equal(events, r.events) || fail != failOf(r.code, r.at) {
		t.Errorf("ReadMsg(%v, %d, %q, %d, %d, %d) = %v, %v, not %v, %v",
			p, r.shape, r.text, at, r.end, deep, events, fail, r.events, failOf(r.code, r.at))
	}
	checkCuts(t, p, r.shape, r.text, at, r.end, deep)
}

// after is the same message behind other bytes. These are not part of it.
func (r reading) after(start string) reading {
	r.text, r.end = start+r.text, r.end+len(start)
	if r.code != 0 {
		r.at += len(start)
	}
	return r
}

// behind is a message that begins with these bytes, of which these events are told.
func (r reading) behind(start string, events ...impl.Event) reading {
	r = r.after(start)
	r.events = slices.Concat(events, r.events)
	return r
}

// nested is a message of kindsPlan that ends with r as a nested message.
func (r reading) nested() reading {
	events := nestOf(8, r.end, r.events...)
	r = r.after(tagBytes(8, 2) + varintOf(uint64(r.end)))
	r.events = events
	if r.code != 0 {
		r.events = events[:len(events)-1]
	}
	return r
}

// followed is the same message before other bytes, which are not part of it. All its own bytes have to be there.
func (r reading) followed(rest string) reading {
	r.text += rest
	return r
}

// checkReading reads a message of kindsPlan alone and among other bytes, fields and messages.
func checkReading(t *testing.T, r reading) {
	t.Helper()
	p, deeper := kindsPlan(4), kindsPlan(5)
	checkRead(t, p, r, 0, 1)
	for _, start := range []string{"\x80", "\x32\x7f"} {
		checkRead(t, p, r.after(start), len(start), 1)
	}
	if r.end == len(r.text) {
		for _, rest := range []string{"\x00", "\x80\x01", "\xac\xa9"} {
			checkRead(t, p, r.followed(rest), 0, 1)
		}
		checkRead(t, p, r.followed("\x01").after("\x07\x80"), 2, 1)
	}
	bools := tagBytes(3, 0) + "\x02" + tagBytes(9, 0) + "\x05" + longOf(6, "é")
	before := slices.Concat(numsOf(3, 1), textOf(6, "é"))
	checkRead(t, p, r.behind(bools, before...), 0, 1)
	if r.code != 6 {
		checkRead(t, deeper, r.nested(), 0, 1)
		checkRead(t, deeper, r.behind(bools, before...).nested().behind(bools, before...), 0, 1)
	}
}

func TestInputLimits(t *testing.T) {
	if impl.MaxDeep != 8 || impl.MaxFrame != 2000 || impl.MaxInput != 4000 {
		t.Error(impl.MaxDeep, impl.MaxFrame, impl.MaxInput)
	}
}

func checkPlan(t *testing.T, p impl.Plan, want bool) {
	t.Helper()
	if got := impl.PlanOk(p); got != want {
		t.Errorf("PlanOk(%v) = %v", p, got)
	}
}

// The root has to be one of the shapes, so there has to be one.
func TestRootsOfPlans(t *testing.T) {
	checkPlan(t, impl.Plan{}, false)
	checkPlan(t, impl.Plan{Deep: 1}, false)
	for n := range 7 {
		s := impl.Schema{Shapes: make([]impl.Shape, n, 9)}
		for i := range s.Shapes[:9] {
			s.Shapes[:9][i] = shape(i + 1)
		}
		for _, root := range append(intSamples(), -1, 0, n-1, n, n+1, 1<<32, 1<<32+1) {
			checkPlan(t, planOf(s, root, 1, 0), root >= 0 && root < n)
			checkPlan(t, planOf(s, root, 8, 2000), root >= 0 && root < n)
		}
	}
}

func TestDepthsOfPlans(t *testing.T) {
	for _, deep := range append(intSamples(), -1, 0, 1, 2, 7, 8, 9, 1<<32+1) {
		checkPlan(t, planOf(sixShapes(), 5, deep, 0), deep >= 1 && deep <= 8)
		checkPlan(t, planOf(schema(shape(1)), 0, deep, 2000), deep >= 1 && deep <= 8)
	}
}

func TestFrameLimitsOfPlans(t *testing.T) {
	for _, most := range append(intSamples(), -1, 0, 1, 1999, 2000, 2001, 4000, 1<<32, 1<<32+1) {
		checkPlan(t, planOf(sixShapes(), 5, 1, most), most >= 0 && most <= 2000)
		checkPlan(t, planOf(schema(shape(1)), 0, 8, most), most >= 0 && most <= 2000)
	}
}

// Nothing makes up for anything else.
func TestPlans(t *testing.T) {
	schemas := append(someSchemas(), sixShapes(), sampleSchema(), impl.Schema{}, kindsPlan(1).Schema)
	for _, s := range schemas {
		ok := len(schemaFaults(s)) == 0
		for _, root := range []int{-1, 0, 2, 5, 6} {
			for _, deep := range []int{0, 1, 8, 9} {
				for _, most := range []int{-1, 0, 2000, 2001} {
					want := ok && root >= 0 && root < len(s.Shapes) && deep > 0 && deep < 9 && most > -1 && most < 2001
					checkPlan(t, planOf(s, root, deep, most), want)
				}
			}
		}
	}
}

func TestPlansWithOneFaultInTheSchema(t *testing.T) {
	for at := range 6 {
		for i := range 5 {
			for _, spoil := range fieldSpoils() {
				s := sixShapes()
				checkPlan(t, planOf(s, at, 3, 100), true)
				spoil(&s.Shapes[at].Fields[i])
				checkPlan(t, planOf(s, at, 3, 100), false)
				checkPlan(t, planOf(s, (at+1)%6, 3, 100), false)
			}
		}
	}
}

func checkWithin(t *testing.T, s string, at int, end int, value uint64, next int, code int) {
	t.Helper()
	if u, n, c := impl.VarWithin(s, at, end); u != value || n != next || c != code {
		t.Errorf("VarWithin(%q, %d, %d) = %d, %d, %d, not %d, %d, %d", s, at, end, u, n, c, value, next, code)
	}
	if u, n, c := modelWithin(s, at, end); u != value || n != next || c != code {
		t.Errorf("VarWithin(%q, %d, %d) is %d, %d, %d by the model, not %d, %d, %d", s, at, end, u, n, c, value, next, code)
	}
}

// modelWithin looks for the last byte of the varint before it reads it.
func modelWithin(s string, at int, end int) (uint64, int, int) {
	if at < 0 || at > len(s) {
		return 0, len(s), 10
	}
	for n := range 10 {
		switch {
		case at+n >= end:
			return 0, end, 9
		case at+n >= len(s):
			return 0, len(s), 10
		case n == 9 && s[at+n] > 1:
			return 0, at + n, 1
		case s[at+n] < 128:
			u, _ := binary.Uvarint([]byte(s[at : at+n+1]))
			return u, at + n + 1, 0
		}
	}
	return 0, 0, -1
}

func compareWithin(t *testing.T, s string, at int, end int) int {
	t.Helper()
	u, n, c := impl.VarWithin(s, at, end)
	if value, next, code := modelWithin(s, at, end); u != value || n != next || c != code {
		t.Errorf("VarWithin(%q, %d, %d) = %d, %d, %d, not %d, %d, %d", s, at, end, u, n, c, value, next, code)
	}
	return c
}

func TestVarWithin(t *testing.T) {
	checkWithin(t, "\x05", 0, 1, 5, 1, 0)
	checkWithin(t, "\xac\x02", 0, 2, 300, 2, 0)
	checkWithin(t, "\xac\x02", 0, 3, 300, 2, 0)
	checkWithin(t, "\xac\x02", 0, math.MaxInt, 300, 2, 0)
	checkWithin(t, "x\xac\x02y", 1, 3, 300, 3, 0)
	checkWithin(t, "x\xac\x02y", 1, 4, 300, 3, 0)
	checkWithin(t, "x\xac\x02y", 2, 4, 2, 3, 0)
	checkWithin(t, "\x80\x80\x00", 0, 3, 0, 3, 0)
	// It would end after the end.
	checkWithin(t, "\xac\x02", 0, 1, 0, 1, 9)
	checkWithin(t, "x\xac\x02y", 1, 2, 0, 2, 9)
	checkWithin(t, "\x80\x80\x00", 0, 2, 0, 2, 9)
	// There is no byte before the end.
	checkWithin(t, "\xac\x02", 0, 0, 0, 0, 9)
	checkWithin(t, "\xac\x02", 1, 1, 0, 1, 9)
	checkWithin(t, "\xac\x02", 2, 2, 0, 2, 9)
	checkWithin(t, "", 0, 0, 0, 0, 9)
	checkWithin(t, "\xac\x02", 1, 0, 0, 0, 9)
	checkWithin(t, "\xac\x02", 0, -1, 0, -1, 9)
	checkWithin(t, "\xac\x02", 2, -7, 0, -7, 9)
	checkWithin(t, "", 0, math.MinInt, 0, math.MinInt, 9)
	// The text ends first.
	checkWithin(t, "\xac", 0, 2, 0, 1, 10)
	checkWithin(t, "", 0, 1, 0, 0, 10)
	checkWithin(t, "\x05", 1, 2, 0, 1, 10)
	checkWithin(t, "\xac\x82", 0, 3, 0, 2, 10)
	checkWithin(t, "\xac\x82", 0, math.MaxInt, 0, 2, 10)
	// Both end at the same place.
	checkWithin(t, "\xac\x82", 0, 2, 0, 2, 9)
}

// An offset that is none is found first, whatever the end is.
func TestVarWithinAtWrongOffsets(t *testing.T) {
	for _, s := range []string{"", "\x05", "\xac\x02", strings.Repeat("\x80", 12)} {
		for _, end := range []int{math.MinInt, -2, -1, 0, 1, len(s), len(s) + 1, len(s) + 2, math.MaxInt} {
			for _, at := range []int{math.MinInt, math.MinInt + 1, -1 << 32, -2, -1, len(s) + 1, len(s) + 2, 1 << 32, math.MaxInt} {
				checkWithin(t, s, at, end, 0, len(s), 10)
			}
		}
	}
}

// Ten bytes are the most, and the tenth is 0 or 1.
func TestVarWithinOfTenBytes(t *testing.T) {
	nine, ten := strings.Repeat("\x80", 9), strings.Repeat("\xff", 9)
	checkWithin(t, nine+"\x00", 0, 10, 0, 10, 0)
	checkWithin(t, nine+"\x01", 0, 10, 1<<63, 10, 0)
	checkWithin(t, nine+"\x02", 0, 10, 0, 9, 1)
	checkWithin(t, ten+"\x00", 0, 10, math.MaxUint64>>1, 10, 0)
	checkWithin(t, ten+"\x01", 0, 10, math.MaxUint64, 10, 0)
	checkWithin(t, ten+"\x02", 0, 10, 0, 9, 1)
	checkWithin(t, ten[:8]+"\x7f", 0, 9, math.MaxUint64>>1, 9, 0)
	checkWithin(t, nine[:8]+"\x01", 0, 9, 1<<56, 9, 0)
	for b := 2; b < 256; b++ {
		s := "ab" + nine + string([]byte{byte(b)}) + "\x00"
		checkWithin(t, s, 2, 12, 0, 11, 1)
		checkWithin(t, s, 2, 11, 0, 11, 9)
		checkWithin(t, s[:11], 2, 12, 0, 11, 10)
		checkWithin(t, s, 2, 10, 0, 10, 9)
		checkWithin(t, s[:10], 2, 11, 0, 10, 10)
	}
	for _, s := range []string{nine, ten} {
		checkWithin(t, s, 0, 9, 0, 9, 9)
		checkWithin(t, s, 0, 10, 0, 9, 10)
		checkWithin(t, s+"\x00", 0, 9, 0, 9, 9)
		checkWithin(t, s+"\x81", 0, math.MaxInt, 0, 9, 1)
	}
}

// Every value, in every length, before every end and cut off everywhere.
func TestVarWithinOfValues(t *testing.T) {
	for _, u := range append(sampleValues(), fewValues()...) {
		for n := len(varintOf(u)); n <= 10; n++ {
			s := padded(u, n)
			checkWithin(t, s, 0, n, u, n, 0)
			checkWithin(t, "\x80"+s+"\x80", 1, n+1, u, n+1, 0)
			checkWithin(t, s, 0, n+1, u, n, 0)
			for k := range n {
				checkWithin(t, s, 0, k, 0, k, 9)
				checkWithin(t, s[:k], 0, k, 0, k, 9)
				checkWithin(t, s[:k], 0, k+1, 0, k, 10)
				checkWithin(t, s[:k], 0, n, 0, k, 10)
			}
		}
	}
}

func TestVarWithinEverywhere(t *testing.T) {
	codes := map[int]int{}
	source := rand.New(rand.NewSource(120))
	texts := stringsOfUpToTwoBytes()
	for range 4000 {
		texts = append(texts, longRuns(source, 14))
	}
	for i, s := range texts {
		if i%7 != 0 && len(s) == 2 {
			continue
		}
		for at := -1; at <= len(s)+1; at++ {
			for end := -1; end <= len(s)+2; end++ {
				codes[compareWithin(t, s, at, end)]++
			}
			codes[compareWithin(t, s, at, math.MaxInt)]++
			codes[compareWithin(t, s, at, math.MinInt)]++
		}
	}
	for _, code := range []int{0, 1, 9, 10} {
		if codes[code] < 1000 {
			t.Errorf("the code %d was returned %d times", code, codes[code])
		}
	}
}

// Without an end before that of the text, it is GetVar.
func TestVarWithinIsGetVar(t *testing.T) {
	source := rand.New(rand.NewSource(121))
	for range 20000 {
		s := longRuns(source, 14)
		at := source.Intn(len(s) + 1)
		u, next, code := impl.GetVar(s, at)
		checkWithin(t, s, at, len(s)+1+source.Intn(3), u, next, map[int]int{0: 0, 1: 10, 2: 1}[code])
	}
}

// A wire type that is none is that of a kind that is none: WireOf returns -1 for it.
func TestAllowed(t *testing.T) {
	wires := []int{math.MinInt, -2, -1, 0, 1, 2, 3, 4, 5, 6, 7, 8, 10, 13, 1 << 32, 1<<32 + 2, math.MaxInt}
	for _, k := range manyKinds() {
		for set := range 4 {
			for _, number := range []int{0, 1, 536870911} {
				f := impl.Field{Number: number, Kind: k, Repeated: set&1 != 0, Packed: set&2 != 0, Msg: number - 1}
				for _, wire := range wires {
					want := wire == rowOf(k).wire || wire == 2 && f.Repeated && rowOf(k).bits > 0
					if got := impl.Allowed(f, wire); got != want {
						t.Errorf("Allowed(%v, %d) = %v", f, wire, got)
					}
				}
			}
		}
	}
}

// The same in full, for the kinds and the wire types alone.
func TestAllowedWireTypes(t *testing.T) {
	for k, want := range map[int][2]string{
		1: {"0", "02"}, 2: {"0", "02"}, 3: {"0", "02"}, 4: {"5", "25"}, 5: {"1", "12"}, 6: {"2", "2"}, 7: {"2", "2"}, 8: {"2", "2"},
	} {
		for i, repeated := range []bool{false, true} {
			got := ""
			for wire := range 8 {
				if impl.Allowed(impl.Field{Number: 1, Kind: k, Repeated: repeated, Msg: truth(k == 8) - 1}, wire) {
					got += fmt.Sprint(wire)
				}
			}
			if got != want[i] {
				t.Errorf("the kind %d may have the wire types %s, not %s", k, got, want[i])
			}
		}
	}
}

func TestNumEvent(t *testing.T) {
	for k := 1; k <= 5; k++ {
		for _, number := range []int{1, 2, 15, 16, 18999, 20000, 536870911} {
			for set := range 4 {
				f := impl.Field{Number: number, Kind: k, Repeated: set&1 != 0, Packed: set&2 != 0, Msg: -1}
				for _, u := range append(bitSamples(), 0, 1, 2, math.MaxUint32, math.MaxUint64) {
					want := numOf(number, u)
					if k == 3 && u > 0 {
						want.Bits = 1
					}
					got := impl.NumEvent(f, u)
					if got != want || !impl.EventOk(got) {
						t.Errorf("NumEvent(%v, %d) = %v, not %v", f, u, got, want)
					}
				}
			}
		}
	}
}

// Nothing is said against fields that are not valid or not numeric.
func TestNumEventOfAnyField(t *testing.T) {
	for _, k := range manyKinds() {
		for _, number := range []int{math.MinInt, -1, 0, 1, 19000, 536870912, math.MaxInt} {
			f := impl.Field{Number: number, Kind: k, Msg: 7}
			for _, u := range []uint64{0, 1, 2, math.MaxUint64} {
				want := numOf(number, u)
				if k == 3 {
					want.Bits = min(u, 1)
				}
				if got := impl.NumEvent(f, u); got != want {
					t.Errorf("NumEvent(%v, %d) = %v, not %v", f, u, got, want)
				}
			}
		}
	}
}

// checkNothing is for arguments with which nothing is read, not even to a failure.
func checkNothing(t *testing.T, p impl.Plan, shape int, s string, at int, end int, deep int) {
	t.Helper()
	if events, fail := impl.ReadMsg(p, shape, s, at, end, deep); len(events) != 0 || fail != (impl.Event{}) {
		t.Errorf("ReadMsg(%v, %d, %q, %d, %d, %d) = %v, %v", p, shape, s, at, end, deep, events, fail)
	}
}

func TestReadMsgWithWrongArguments(t *testing.T) {
	p := kindsPlan(3)
	for _, s := range []string{"", "\x08\x05", "\x08", "\x00", "\x32\x01\xff", "\x42\x02\x42\x00", "\x08\x05\x08\x06"} {
		n := len(s)
		for _, shape := range []int{math.MinInt, -2, -1, 3, 4, 1 << 32, math.MaxInt} {
			checkNothing(t, p, shape, s, 0, n, 1)
			checkNothing(t, roomyPlan(p), shape, s, 0, n, 1)
		}
		for _, at := range []int{math.MinInt, -2, -1, n + 1, n + 2, 1 << 32, math.MaxInt} {
			for _, end := range []int{at, n, n + 1, n + 2, n + 9, 1 << 32, math.MaxInt} {
				checkNothing(t, p, 0, s, at, end, 1)
			}
		}
		for at := range n + 1 {
			for _, end := range []int{at - 1, at - 2, -1, -n - 1, math.MinInt} {
				checkNothing(t, p, 0, s, at, end, 1)
			}
		}
		for _, deep := range []int{math.MinInt, -1, 0, 4, 5, 8, 9, 1<<32 + 1, math.MaxInt} {
			checkNothing(t, p, 0, s, 0, n, deep)
			checkNothing(t, p, 0, s, 0, n+1, deep)
		}
		for _, wrong := range wrongPlans() {
			checkNothing(t, wrong, 0, s, 0, n, 1)
			checkNothing(t, wrong, 0, s, 0, n+1, 1)
		}
	}
}

// wrongPlans are kindsPlan with one fault. Most of the faults are beside what a short message needs.
func wrongPlans() []impl.Plan {
	p := kindsPlan(3)
	list := []impl.Plan{
		{}, planOf(p.Schema, -1, 3, 100), planOf(p.Schema, 3, 3, 100), planOf(p.Schema, 0, 0, 100), planOf(p.Schema, 0, -1, 100),
		planOf(p.Schema, 0, 9, 100), planOf(p.Schema, 0, 3, -1), planOf(p.Schema, 0, 3, 2001), planOf(impl.Schema{}, 0, 3, 100),
	}
	for at := range 3 {
		for i := range 8 {
			wrong := kindsPlan(3)
			wrong.Schema.Shapes[at].Fields[i].Number = 19000
			list = append(list, wrong)
		}
		wrong := kindsPlan(3)
		wrong.Schema.Shapes[at].Id = 100
		list = append(list, wrong)
	}
	return list
}

// At the limits the arguments are not wrong.
func TestReadMsgWithOutermostArguments(t *testing.T) {
	for _, limits := range []impl.Plan{
		planOf(kindsPlan(1).Schema, 0, 1, 0), planOf(kindsPlan(1).Schema, 2, 8, 2000), planOf(kindsPlan(1).Schema, 2, 8, 0),
	} {
		for shape := range 3 {
			for deep := 1; deep <= limits.Deep; deep++ {
				checkRead(t, limits, whole(shape, "\x08\x05", numOf(1, 5)), 0, deep)
				checkRead(t, limits, whole(shape, "\x08\x05"), 2, deep)
				checkRead(t, limits, cutOff(shape, "\x08\x05", 1), 2, deep)
				checkRead(t, limits, cutOff(shape, "", 1), 0, deep)
				checkRead(t, limits, cutOff(shape, "\x08\x05\x10", math.MaxInt-3, numOf(1, 5)), 0, deep)
				checkRead(t, limits, whole(shape, "\x08\x05\x10\x06", numOf(2, 6)), 2, deep)
			}
		}
	}
}

// A message may be longer than a frame: the limits of frames and of inputs are those of other chapters.
func TestReadMsgHasNoLimitOfItsOwn(t *testing.T) {
	for _, n := range []int{2000, 2001, 4000, 4001, 50000} {
		text := strings.Repeat("é", n)
		s := longOf(7, text)
		events, fail := impl.ReadMsg(kindsPlan(1), 0, s, 0, len(s), 1)
		if !slices.Equal(events, textOf(7, text)) || fail != (impl.Event{}) {
			t.Errorf("a text of %d bytes is not read", 2*n)
		}
		s = strings.Repeat("\x08\x05", n)
		events, fail = impl.ReadMsg(kindsPlan(1), 0, s, 0, len(s), 1)
		if !slices.Equal(events, slices.Repeat(numsOf(1, 5), n)) || fail != (impl.Event{}) {
			t.Errorf("%d fields are not read", n)
		}
	}
}

func TestEmptyMessages(t *testing.T) {
	for shape := range 3 {
		checkReading(t, whole(shape, ""))
		checkReading(t, cutOff(shape, "", 1))
		checkReading(t, cutOff(shape, "", 2))
		checkReading(t, cutOff(shape, "", 1000))
	}
}

// eachWire has a value of every wire type.
func eachWire() map[int]string {
	return map[int]string{0: "\xac\x02", 1: "\x01\x02\x03\x04\x05\x06\x07\x88", 2: "\x03abc", 5: "\x01\x02\x03\x84"}
}

func TestKnownFields(t *testing.T) {
	values := eachWire()
	for shape := range 3 {
		for _, k := range []int{1, 2} {
			checkReading(t, whole(shape, tagBytes(k, 0)+values[0], numOf(k, 300)))
		}
		checkReading(t, whole(shape, tagBytes(3, 0)+values[0], numOf(3, 1)))
		checkReading(t, whole(shape, tagBytes(4, 5)+values[5], numOf(4, 0x84030201)))
		checkReading(t, whole(shape, tagBytes(5, 1)+values[1], numOf(5, 0x8807060504030201)))
		checkReading(t, whole(shape, tagBytes(6, 2)+values[2], textOf(6, "abc")...))
		checkReading(t, whole(shape, tagBytes(7, 2)+values[2], textOf(7, "abc")...))
		checkReading(t, whole(shape, tagBytes(8, 2)+"\x02\x08\x05", nestOf(8, 2, numOf(1, 5))...))
	}
}

// All values of a kind, in every length that they can have.
func TestValuesOfNumericKinds(t *testing.T) {
	p := kindsPlan(1)
	for k := 1; k <= 5; k++ {
		wire := rowOf(k).wire
		for _, u := range append(fewValues(), 2, 3, 127, 128, 1<<31, 1<<63, math.MaxUint32, math.MaxUint64) {
			bits := u
			if k == 3 {
				bits = min(u, 1)
			}
			switch {
			case k <= 3:
				for n := len(varintOf(u)); n <= 10; n++ {
					checkRead(t, p, whole(0, tagBytes(k, wire)+padded(u, n), numOf(k, bits)), 0, 1)
				}
			case k == 5 || u <= math.MaxUint32:
				checkRead(t, p, whole(0, tagBytes(k, wire)+valueBytes(k, u), numOf(k, u)), 0, 1)
			}
		}
	}
}

// unknownNumbers are not in kindsPlan. Some of them may not be in any schema, but in a tag they may be.
func unknownNumbers() []int {
	return []int{9, 10, 15, 16, 300, 18999, 19000, 19500, 19999, 20000, 536870910, 536870911}
}

func TestUnknownFields(t *testing.T) {
	for shape := range 3 {
		for _, number := range unknownNumbers() {
			for wire, value := range eachWire() {
				s := tagBytes(number, wire) + value
				checkReading(t, whole(shape, s))
				checkReading(t, whole(shape, "\x08\x05"+s+s+"\x08\x06", numsOf(1, 5, 6)...))
			}
			checkReading(t, whole(shape, tagBytes(number, 2)+"\x00"))
			checkReading(t, whole(shape, tagBytes(number, 2)+"\x82\x00\xff\xff\x08\x05", numOf(1, 5)))
		}
	}
}

// The value of an unknown field is parsed like that of a known one.
func TestFailuresOfUnknownFields(t *testing.T) {
	for _, number := range unknownNumbers() {
		for _, wire := range []int{0, 2} {
			s := tagBytes(number, wire)
			checkReading(t, failing(0, s, 9, len(s)))
			checkReading(t, cutOff(0, s, 1))
			checkReading(t, failing(0, s+"\x80", 9, len(s)+1))
			checkReading(t, cutOff(0, s+"\x80", 1))
			checkReading(t, failing(0, s+strings.Repeat("\x80", 9)+"\x02", 1, len(s)+9))
		}
		for wire, width := range map[int]int{1: 8, 5: 4} {
			checkFixed(t, 0, tagBytes(number, wire), width)
		}
		s := tagBytes(number, 2)
		checkReading(t, failing(0, s+"\x01", 8, len(s)))
		checkReading(t, failing(0, s+"\x82\x00a", 8, len(s)))
		checkReading(t, failing(0, s+varintOf(math.MaxUint64)+"abc", 8, len(s)))
		checkReading(t, cutOff(0, s+"\x01", 1))
		checkReading(t, cutOff(0, s+"\x03a", 2))
		checkReading(t, cutOff(0, s+"\x03\xff\x00", 5))
	}
}

// checkFixed reads a field with this tag and a value of this width, of which some bytes are beyond the end, or not there.
func checkFixed(t *testing.T, shape int, tag string, width int) {
	t.Helper()
	value := "\x81\x82\x83\x84\x85\x86\x87\x88"[:width]
	for n := range width {
		checkReading(t, failing(shape, tag+value[:n], 9, len(tag)))
		for missing := 1; missing < width-n; missing++ {
			r := cutOff(shape, tag+value[:n], missing)
			r.code, r.at = 9, len(tag)
			checkReading(t, r)
		}
		checkReading(t, cutOff(shape, tag+value[:n], width-n))
		checkReading(t, cutOff(shape, tag+value[:n], width-n+1))
	}
}

func TestFixedValuesThatAreCutOff(t *testing.T) {
	for shape := range 3 {
		checkFixed(t, shape, tagBytes(4, 5), 4)
		checkFixed(t, shape, tagBytes(5, 1), 8)
		checkFixed(t, shape, padded(tagged(4, 5), 3), 4)
	}
}

func TestVarintsThatAreCutOff(t *testing.T) {
	for k := 1; k <= 3; k++ {
		tag := tagBytes(k, 0)
		for n := range 10 {
			s := tag + strings.Repeat("\x80", n)
			checkReading(t, failing(0, s, 9, len(s)))
			checkReading(t, cutOff(0, s, 1))
			checkReading(t, cutOff(0, s, 2))
		}
		for _, b := range []string{"\x02", "\x7f", "\x80", "\x81", "\xff"} {
			s := tag + strings.Repeat("\x80", 9) + b
			checkReading(t, failing(0, s, 1, 10))
			checkReading(t, reading{0, s, len(s) + 5, nil, 1, 10})
		}
		checkReading(t, whole(0, tag+strings.Repeat("\x80", 9)+"\x00", numOf(k, 0)))
	}
}

// A tag is itself a varint, of any length.
func TestTagsThatAreCutOff(t *testing.T) {
	for n := 1; n <= 10; n++ {
		s := padded(tagged(1, 0), n)
		checkReading(t, whole(0, s+"\x05", numOf(1, 5)))
		checkReading(t, failing(0, s, 9, n))
		checkReading(t, cutOff(0, s, 1))
		for k := 1; k < n; k++ {
			checkReading(t, failing(0, s[:k], 9, k))
			checkReading(t, cutOff(0, s[:k], 1))
		}
	}
	for _, b := range []string{"\x02", "\x7f", "\x80", "\xff"} {
		checkReading(t, failing(0, strings.Repeat("\x88", 9)+b, 1, 9))
		checkReading(t, failing(0, strings.Repeat("\x80", 9)+b+"\x00", 1, 9))
	}
}

// Whatever is wrong with a tag is reported at its first byte, but only once its last byte is there.
func TestIntegersThatAreNoTags(t *testing.T) {
	for _, u := range []uint64{
		0, 1, 2, 3, 4, 5, 6, 7, 1 << 32, 1<<32 + 1, 1<<32 + 2, 1<<32 + 3, 1<<32 + 8, 1<<35 + 8, 1 << 62, 1 << 63, 1<<63 + 8, math.MaxUint64, math.MaxUint64 - 7,
	} {
		for n := len(varintOf(u)); n <= 10; n++ {
			s := padded(u, n)
			checkReading(t, failing(0, s, 2, 0))
			checkReading(t, failing(1, s+"\x01", 2, 0))
			checkReading(t, reading{2, s, n + 3, nil, 2, 0})
			checkReading(t, cutOff(0, s[:n-1], 1))
		}
	}
}

func TestWireTypesThatAreNone(t *testing.T) {
	for _, wire := range []int{3, 4, 6, 7} {
		for _, number := range append(unknownNumbers(), 1, 2, 3, 4, 5, 6, 7, 8) {
			for shape := range 3 {
				s := tagBytes(number, wire)
				checkReading(t, failing(shape, s, 3, 0))
				checkReading(t, failing(shape, s+"\x00\x00", 3, 0))
				checkReading(t, reading{shape, s, len(s) + 1, nil, 3, 0})
				checkReading(t, failing(shape, padded(tagged(number, wire), 7), 3, 0))
			}
		}
	}
}

func TestKindsWithAnotherWireType(t *testing.T) {
	for shape := range 3 {
		for k := 1; k <= 8; k++ {
			for _, wire := range []int{0, 1, 2, 5} {
				if wire == rowOf(k).wire || wire == 2 && shape > 0 {
					continue
				}
				s := tagBytes(k, wire)
				checkReading(t, failing(shape, s+eachWire()[wire], 4, 0))
				checkReading(t, failing(shape, s, 4, 0))
				checkReading(t, reading{shape, s, 2, nil, 4, 0})
				checkReading(t, failing(shape, padded(tagged(k, wire), 4), 4, 0))
			}
		}
	}
}

// The length is compared with what is left of the message, not of the text.
func TestLengthsThatAreTooLarge(t *testing.T) {
	for shape := range 3 {
		for k := 1; k <= 9; k++ {
			if k <= 5 && shape == 0 {
				continue
			}
			s := tagBytes(k, 2)
			for _, n := range []uint64{1, 2, 4, 8, 127, 128, 1 << 31, 1 << 32, 1<<32 + 1, 1<<63 - 1, 1 << 63, 1<<63 + 1, math.MaxUint64 - 1, math.MaxUint64} {
				checkReading(t, failing(shape, s+varintOf(n), 8, 1))
				checkReading(t, failing(shape, s+padded(n, 10), 8, 1))
				checkReading(t, reading{shape, s + varintOf(n), len(s+varintOf(n)) + int(min(n-1, 7)), nil, 8, 1})
			}
			checkReading(t, failing(shape, s+"\x04\x01\x01\x01", 8, 1))
			checkReading(t, failing(shape, s+"\x84\x00\x01\x01\x01", 8, 1))
			// The length is no varint.
			checkReading(t, failing(shape, s, 9, 1))
			checkReading(t, cutOff(shape, s, 1))
			checkReading(t, failing(shape, s+"\x80", 9, 2))
			checkReading(t, cutOff(shape, s+"\x80", 1))
			checkReading(t, failing(shape, s+strings.Repeat("\x80", 9)+"\x02\x00", 1, 10))
		}
	}
}

// A nested message has its own end, however much is left around it.
func TestEndOfANestedMessage(t *testing.T) {
	down := func(n int, events ...impl.Event) []impl.Event { return append([]impl.Event{downOf(8, n)}, events...) }
	checkReading(t, failing(0, "\x42\x01\x08\x05", 9, 3, down(1)...))
	checkReading(t, failing(0, "\x42\x01\x88\x00\x05", 9, 3, down(1)...))
	checkReading(t, failing(0, "\x42\x03\x08\x05\x08\x06", 9, 5, down(3, numOf(1, 5))...))
	checkReading(t, failing(0, "\x42\x02\x32\x01a", 8, 3, down(2)...))
	checkReading(t, failing(0, "\x42\x04\x25\x01\x02\x03\x04", 9, 3, down(4)...))
	checkReading(t, failing(0, "\x42\x02\x42\x01\x00", 8, 3, down(2)...))
	checkReading(t, failing(0, "\x42\x02\x4a\x01\x00", 8, 3, down(2)...))
	checkReading(t, failing(0, "\x42\x04\x42\x02\x08\x80\x01", 9, 6, down(4, downOf(8, 2))...))
	checkReading(t, cutOff(0, "\x42\x02\x08", 1, down(2)...))
	checkReading(t, cutOff(0, "\x42\x02", 2, down(2)...))
	checkReading(t, cutOff(0, "\x42\x02\x08\x05", 1, nestOf(8, 2, numOf(1, 5))...))
}

func TestNestedMessages(t *testing.T) {
	for shape := range 3 {
		checkReading(t, whole(shape, "\x42\x00", nestOf(8, 0)...))
		checkReading(t, whole(shape, "\x42\x00\x42\x80\x00", slices.Concat(nestOf(8, 0), nestOf(8, 0))...))
		checkReading(t, whole(shape, "\x42\x02\x42\x00", nestOf(8, 2, nestOf(8, 0)...)...))
		checkReading(t, whole(shape, "\x42\x04\x42\x02\x08\x05\x08\x06",
			append(nestOf(8, 4, nestOf(8, 2, numOf(1, 5))...), numOf(1, 6))...))
		checkReading(t, whole(shape, "\x42\x06\x08\x01\x42\x00\x08\x02", nestOf(8, 6, slices.Concat(numsOf(1, 1), nestOf(8, 0), numsOf(1, 2))...)...))
		checkReading(t, whole(shape, "\x42\x02\x50\x07"+"\x42\x03\x52\x01\xff", slices.Concat(nestOf(8, 2), nestOf(8, 3))...))
	}
}

// The fields of a nested message are those of its own shape.
func TestShapesOfNestedMessages(t *testing.T) {
	s := schema(
		shape(1, compiledField(1, 1), reference(2, 1), reference(3, 2)),
		shape(2, compiledField(1, 6), reference(2, 2), reference(3, 0)),
		shape(3, compiledField(1, 4), reference(2, 0), compiledField(3, 3)),
	)
	p := planOf(s, 1, 4, 10)
	one, text, four := "\x08\x05", "\x0a\x01a", "\x0d\x05\x00\x00\x00"
	events := [][]impl.Event{numsOf(1, 5), textOf(1, "a"), numsOf(1, 5)}
	for at, own := range []string{one, text, four} {
		checkRead(t, p, whole(at, own, events[at]...), 0, 1)
		for to, other := range []string{one, text, four} {
			if to != at {
				checkRead(t, p, failing(at, other, 4, 0), 0, 1)
			}
			for _, number := range []int{2, 3} {
				f, _ := impl.FieldAt(s, at, number)
				if f.Kind != 8 {
					continue
				}
				n := len(other)
				inside := own + tagBytes(number, 2) + varintOf(uint64(n)) + other
				want := slices.Concat(events[at], nestOf(number, n, events[to]...))
				if f.Msg == to {
					checkRead(t, p, whole(at, inside+own, slices.Concat(want, events[at])...), 0, 1)
				} else {
					checkRead(t, p, failing(at, inside+own, 4, len(own)+2, append(slices.Clone(events[at]), downOf(number, n))...), 0, 1)
				}
			}
		}
	}
	checkRead(t, p, failing(2, "\x1a\x00", 4, 0), 0, 1)
	checkRead(t, p, whole(2, "\x18\x09", numOf(3, 1)), 0, 1)
}

// tower is a message in n others, each in the next, and what is told of it if this is told of the innermost one.
func tower(n int, inside string, events ...impl.Event) (string, []impl.Event) {
	for range n {
		size := len(inside)
		inside, events = longOf(8, inside), nestOf(8, size, events...)
	}
	return inside, events
}

// The innermost message may be at the depth Deep. One deeper is reported at the first byte of its length, which is enough to know it.
func TestDepthOfNestedMessages(t *testing.T) {
	for most := 1; most <= 8; most++ {
		p := kindsPlan(most)
		for deep := 1; deep <= most; deep++ {
			for _, values := range [][]uint64{nil, {5}} {
				s, events := tower(most-deep, strings.Repeat("\x08\x05", len(values)), numsOf(1, values...)...)
				checkRead(t, p, whole(1, s, events...), 0, deep)
				checkRead(t, p, whole(1, s+s+s, slices.Concat(events, events, events)...), 0, deep)
			}
			for _, inside := range []string{"", "\x08\x05", "\x00", "\x32\x05\xff\xff\xff\xff\xff"} {
				s, events := tower(most-deep+1, inside)
				at := 2*(most-deep) + 1
				checkRead(t, p, failing(1, s, 6, at, events[:most-deep]...), 0, deep)
				checkRead(t, p, reading{1, s[:at+1], len(s), events[:most-deep], 6, at}, 0, deep)
				checkRead(t, p, reading{1, s[:at], len(s), events[:most-deep], 10, at}, 0, deep)
			}
		}
	}
	p := kindsPlan(1)
	checkRead(t, p, failing(0, "\x08\x05\x42\x80\x00", 6, 3, numOf(1, 5)), 0, 1)
	checkRead(t, p, failing(0, "\x42\x82\x80\x00\x08\x05", 6, 1), 0, 1)
	checkRead(t, p, failing(0, "\x42\x01", 8, 1), 0, 1)
	checkRead(t, p, cutOff(0, "\x42\x80", 1), 0, 1)
	// An unknown field is skipped, and a text is no message, so neither is too deep.
	checkRead(t, p, whole(0, "\x4a\x02\x42\x00\x3a\x02\x42\x00", textOf(7, "\x42\x00")...), 0, 1)
}

func TestTexts(t *testing.T) {
	for _, s := range eventTexts() {
		for shape := range 3 {
			if len(s) > 100 {
				continue
			}
			checkReading(t, whole(shape, longOf(7, s), textOf(7, s)...))
			if utf8.ValidString(s) {
				checkReading(t, whole(shape, longOf(6, s), textOf(6, s)...))
			}
		}
	}
	checkReading(t, whole(0, "\x32\x00", textOf(6, "")...))
	checkReading(t, whole(0, "\x3a\x00", textOf(7, "")...))
	checkReading(t, whole(0, "\x32\x82\x00hi\x32\x00\x32\x01x", slices.Concat(textOf(6, "hi"), textOf(6, ""), textOf(6, "x"))...))
}

// textFails is a text with a rejected byte at this offset.
func textFails(s string, at int) reading {
	events := []impl.Event{openOf(6, len(s))}
	if at > 0 {
		events = append(events, textPart(s[:at]))
	}
	return failing(0, longOf(6, s), 5, at+2, events...)
}

func TestRejectedBytes(t *testing.T) {
	for _, bad := range []string{"\x80", "\xbf", "\xc0", "\xc1", "\xf5", "\xff"} {
		for _, row := range [][2]string{{"", ""}, {"", "abc"}, {"ab", "cd"}, {"abc", ""}, {"é", "é"}, {"\u20ac\U0010ffff", ""}, {"", "\xff"}} {
			r := textFails(row[0]+bad+row[1], len(row[0]))
			checkReading(t, r)
			// It takes no more than the bytes up to this one.
			checkReading(t, reading{0, r.text[:r.at+1], r.end, r.events, 5, r.at})
			checkReading(t, reading{0, r.text[:r.at], r.end, r.events, 10, r.at})
		}
	}
	// The byte that is rejected is not the first of its character, whose others have been accepted.
	for s, at := range map[string]int{
		"\xc3a": 1, "\xc3\xc3\xa9": 1, "\xe0\x9f\x80": 1, "\xe2\x82a": 2, "\xe2a": 1, "\xed\xa0\x80": 1, "\xf0\x8f\x80\x80": 1, "\xf0\x9f\x98a": 3,
		"\xf4\x90\x80\x80": 1, "ab\xe2\x82\xe2\x82\xac": 4, "\u20ac\xac": 3, "\xc3\xff": 1, "\xc3\x00": 1,
	} {
		checkReading(t, textFails(s, at))
		checkReading(t, textFails("xyz"+s, at+3))
		checkReading(t, textFails(s+"é", at))
		checkReading(t, whole(0, longOf(7, s), textOf(7, s)...))
	}
}

// All bytes are accepted, but the last of them do not end a character.
func TestTextsThatEndWithinACharacter(t *testing.T) {
	for _, character := range []string{"é", "\u07ff", "\u0800", "\u20ac", "\ud7ff", "\U00010000", "\U0010ffff"} {
		for n := 1; n < len(character); n++ {
			for _, before := range []string{"", "a", "é", "\u20ac\u20ac"} {
				s := before + character[:n]
				r := textFails(s, len(s))
				checkReading(t, r)
				checkReading(t, r.followed(character[n:]))
				checkReading(t, r.behind("\x32\x01a", textOf(6, "a")...))
				checkReading(t, whole(0, longOf(7, s), textOf(7, s)...))
				// If there were more bytes, the character could still end.
				events := []impl.Event{openOf(6, len(s)+1), textPart(s)}
				checkReading(t, cutOff(0, "\x32"+varintOf(uint64(len(s)+1))+s, 1, events...))
				checkReading(t, cutOff(0, "\x32"+varintOf(uint64(len(s)+1))+s, 4, events...))
			}
		}
	}
}

func TestTextsThatAreCutOff(t *testing.T) {
	for _, field := range []int{6, 7} {
		tag := tagBytes(field, 2)
		checkReading(t, cutOff(0, tag+"\x05", 5, openOf(field, 5)))
		checkReading(t, cutOff(0, tag+"\x05hi", 3, openOf(field, 5), textPart("hi")))
		checkReading(t, cutOff(0, tag+"\x05hell", 1, openOf(field, 5), textPart("hell")))
		checkReading(t, cutOff(0, tag+"\x05hello", 1, textOf(field, "hello")...))
		checkReading(t, cutOff(0, tag+"\x05", 300, openOf(field, 5)))
		checkReading(t, cutOff(0, tag+"\x00", 1, textOf(field, "")...))
		checkReading(t, cutOff(0, tag+"\x80", 1))
		checkReading(t, cutOff(0, tag, 1))
		checkReading(t, cutOff(0, tag+"\xff\x01hi", 125, openOf(field, 255), textPart("hi")).moreBy(128))
	}
	// A rejected byte is found before it is known that others are missing.
	checkReading(t, reading{0, "\x32\x05h\xff", 7, []impl.Event{openOf(6, 5), textPart("h")}, 5, 3})
	checkReading(t, reading{0, "\x32\x05\xff", 7, []impl.Event{openOf(6, 5)}, 5, 2})
	checkReading(t, cutOff(0, "\x3a\x05\xff", 4, openOf(7, 5), textPart("\xff")))
}

// moreBy is the same message with so many more bytes that are not there.
func (r reading) moreBy(n int) reading {
	r.end += n
	return r
}

func TestPackedRuns(t *testing.T) {
	for shape := 1; shape <= 2; shape++ {
		for k := 1; k <= 5; k++ {
			checkReading(t, whole(shape, longOf(k, "")))
			checkReading(t, whole(shape, tagBytes(k, 2)+"\x80\x80\x00"))
			for _, values := range [][]uint64{{0}, {1}, {5}, {0, 0}, {1, 0, 1}, {7, 300, 70000, 0, 1 << 31, math.MaxUint32}} {
				body, one, bits := "", "", slices.Clone(values)
				for i, u := range values {
					body += valueBytes(k, u)
					one += tagBytes(k, rowOf(k).wire) + valueBytes(k, u)
					if k == 3 {
						bits[i] = min(u, 1)
					}
				}
				events := numsOf(k, bits...)
				checkReading(t, whole(shape, longOf(k, body), events...))
				// The same values one by one, and both in one message.
				checkReading(t, whole(shape, one, events...))
				checkReading(t, whole(shape, longOf(k, body)+one+longOf(k, body), slices.Concat(events, events, events)...))
			}
			if k <= 3 {
				checkReading(t, whole(shape, longOf(k, padded(1, 10)+padded(0, 3)+"\x01"), numsOf(k, 1, 0, 1)...))
			}
		}
	}
}

// A value that does not fit is one of which some bytes are in the run.
func TestPackedRunsWhoseLastValueDoesNotFit(t *testing.T) {
	for shape := 1; shape <= 2; shape++ {
		for k := 1; k <= 3; k++ {
			checkReading(t, failing(shape, longOf(k, "\x80"), 9, 3))
			checkReading(t, failing(shape, longOf(k, "\x80\x80\x80"), 9, 5))
			checkReading(t, failing(shape, longOf(k, "\x01\x00\x80"), 9, 5, numsOf(k, 1, 0)...))
			checkReading(t, failing(shape, longOf(k, "\x01\x80")+"\x00\x08\x05", 9, 4, numOf(k, 1)))
			checkReading(t, reading{shape, longOf(k, "\x01\x80"), 9, numsOf(k, 1), 9, 4})
			over := strings.Repeat("\x80", 9) + "\x02"
			checkReading(t, failing(shape, longOf(k, over), 1, 11))
			checkReading(t, failing(shape, longOf(k, "\x01"+over+"\x01"), 1, 12, numOf(k, 1)))
			checkReading(t, failing(shape, longOf(k, over[:9]), 9, 11))
		}
		for k := 4; k <= 5; k++ {
			width := modelWidth(rowOf(k).wire)
			for count := range 3 {
				start := strings.Repeat(littleEndian(7, width), count)
				events := numsOf(k, []uint64{7, 7, 7}[:count]...)
				for n := 1; n < width; n++ {
					s := longOf(k, start+littleEndian(7, width)[:n])
					at := 2 + len(start)
					checkReading(t, failing(shape, s, 9, at, events...))
					checkReading(t, failing(shape, s+strings.Repeat("\x00", 9), 9, at, events...))
					// This is known from the length, so the value need not have begun.
					checkReading(t, reading{shape, s[:at], len(s), events, 9, at})
					checkReading(t, reading{shape, s[:at], len(s) + 9, events, 9, at})
				}
			}
		}
	}
}

func TestPackedRunsThatAreCutOff(t *testing.T) {
	for shape := 1; shape <= 2; shape++ {
		for k := 1; k <= 5; k++ {
			s := longOf(k, valueBytes(k, 1)+valueBytes(k, 0)+valueBytes(k, 1))
			size := (len(s) - 2) / 3
			for n := 2; n < len(s); n++ {
				events := numsOf(k, 1, 0, 1)[:(n-2)/size]
				checkReading(t, cutOff(shape, s[:n], len(s)-n, events...))
				checkReading(t, cutOff(shape, s[:n], len(s)-n+4, events...))
			}
			checkReading(t, cutOff(shape, s, 1, numsOf(k, 1, 0, 1)...))
			checkReading(t, cutOff(shape, tagBytes(k, 2)+"\x00", 1))
		}
		checkReading(t, cutOff(shape, "\x0a\x03\x01\x80", 1, numOf(1, 1)))
		checkReading(t, cutOff(shape, "\x0a\x03\x80\x80", 1))
	}
}

// In each of these, what comes first is told, whatever comes later.
func TestTheFirstFailure(t *testing.T) {
	one := numOf(1, 5)
	for _, r := range []reading{
		failing(0, "\x08\x05\x00\x03", 2, 2, one), failing(0, "\x08\x05\x03\x00", 2, 2, one), failing(0, "\x08\x05\x0b\x00", 3, 2, one),
		failing(0, "\x08\x05\x0a\x00\x00", 4, 2, one), failing(0, "\x08\x05\x32\x01\xff\x00", 5, 4, one, openOf(6, 1)),
		failing(0, "\x08\x05\x32\x02\xc3", 8, 3, one), failing(0, "\x08\x05\x25\x00", 9, 3, one), failing(0, "\x08\x05\x08\x80", 9, 4, one),
		failing(0, "\x08\x05\x4a\x01", 8, 3, one), failing(0, "\x08\x05\x4d\x00", 9, 3, one), failing(0, "\x08\x05\x48", 9, 3, one),
		failing(1, "\x08\x05\x0a\x02\x06\x80", 9, 6, one, numOf(1, 6)), failing(1, "\x08\x05\x22\x05\x06\x00\x00\x00\x07", 9, 8, one, numOf(4, 6)),
		failing(1, "\x08\x05\x42\x02\x08", 8, 3, one), failing(1, "\x08\x05\x42\x01\x08", 9, 5, one, downOf(8, 1)),
		failing(1, "\x08\x05\x42\x00\x07", 2, 4, one, downOf(8, 0), impl.Event{Kind: 7}),
		failing(1, "\x08\x05\x32\x01a\x07", 2, 5, slices.Concat(numsOf(1, 5), textOf(6, "a"))...),
		// The number is that of no field, and so is the wire type that of none.
		failing(0, "\x07", 2, 0), failing(0, "\x83\x80\x80\x80\x10", 2, 0), failing(0, "\x86\x80\x80\x80\x20", 2, 0),
		failing(0, "\x0f", 3, 0), failing(0, "\x4b", 3, 0), failing(0, "\xff\xff\xff\xff\x0f", 3, 0),
	} {
		checkReading(t, r)
	}
}

// eachText visits all texts of up to most of these bytes.
func eachText(bytes string, most int, visit func(s string)) {
	var grow func(s string)
	grow = func(s string) {
		visit(s)
		if len(s) == most {
			return
		}
		for i := range len(bytes) {
			grow(s + bytes[i:i+1])
		}
	}
	grow("")
}

func compareRead(t *testing.T, p impl.Plan, shape int, s string, at int, end int, deep int) impl.Event {
	t.Helper()
	events, fail := impl.ReadMsg(p, shape, s, at, end, deep)
	want, failure, _ := modelRead(p, shape, s, at, end, deep)
	if !slices.Equal(events, want) || fail != failure {
		t.Errorf("ReadMsg(%v, %d, %q, %d, %d, %d) = %v, %v, not %v, %v", p, shape, s, at, end, deep, events, fail, want, failure)
	}
	return fail
}

// checkCodes is for counts of the codes that were returned: each, 0 included, has to be at least this, but for those that cannot be.
func checkCodes(t *testing.T, codes map[int]int, least int, without ...int) {
	t.Helper()
	for code := range 11 {
		if (codes[code] < least) != slices.Contains(without, code) {
			t.Errorf("the code %d was returned %d times", code, codes[code])
		}
	}
}

func TestShortMessages(t *testing.T) {
	p := kindsPlan(2)
	codes := map[int]int{}
	for shape, bytes := range []string{
		"\x00\x01\x02\x03\x08\x0a\x18\x25\x32\x3a\x42\x48\x4a\x4d\x80\xa9\xc3\xff",
		"\x00\x01\x02\x04\x08\x0a\x1a\x22\x2a\x32\x42\x4a\x80\x8a\xc3\xff",
	} {
		eachText(bytes, 4, func(s string) {
			for more := range 3 {
				codes[compareRead(t, p, shape, s, 0, len(s)+more, 1).Code]++
			}
			if len(s) < 4 {
				checkCuts(t, p, shape, s, 0, len(s), 1)
				checkCuts(t, p, shape, s, 0, len(s)+1, 2)
			}
		})
	}
	checkCodes(t, codes, 10, 1, 7)
}

// A composer makes messages together with what is to be told of them.
type composer struct {
	source *rand.Rand
	schema impl.Schema
}

// varint has padding in one of four cases.
func (c composer) varint(u uint64) string {
	n := len(varintOf(u))
	if c.source.Intn(4) == 0 {
		n += c.source.Intn(11 - n)
	}
	return padded(u, n)
}

func (c composer) long(number int, body string) string {
	return c.varint(tagged(number, 2)) + c.varint(uint64(len(body))) + body
}

func (c composer) bits(k int) uint64 {
	u := c.source.Uint64() >> c.source.Intn(64)
	switch k {
	case 3:
		return u % 2
	case 4:
		return u % (1 << 32)
	}
	return u
}

// number is a value, and how it may be encoded: a bool may be any integer.
func (c composer) number(k int) (uint64, string) {
	u := c.bits(k)
	switch k {
	case 4, 5:
		return u, valueBytes(k, u)
	case 3:
		return u, c.varint(u * (1 + c.source.Uint64()>>1))
	}
	return u, c.varint(u)
}

// field has up to deep messages in each other, and none if that is 0.
func (c composer) field(f impl.Field, deep int) (string, []impl.Event) {
	switch {
	case f.Kind == 8 && deep == 0:
		return "", nil
	case f.Kind == 8:
		body, events := c.message(f.Msg, deep-1)
		return c.long(f.Number, body), nestOf(f.Number, len(body), events...)
	case f.Kind >= 6:
		s := joinedPoints(c.source, 4)
		if f.Kind == 7 {
			s = misspelt(c.source, s)
		}
		return c.long(f.Number, s), textOf(f.Number, s)
	case !f.Repeated || c.source.Intn(2) == 0:
		u, s := c.number(f.Kind)
		return c.varint(tagged(f.Number, rowOf(f.Kind).wire)) + s, numsOf(f.Number, u)
	}
	body, events := "", []impl.Event(nil)
	for range c.source.Intn(4) {
		u, s := c.number(f.Kind)
		body, events = body+s, append(events, numOf(f.Number, u))
	}
	return c.long(f.Number, body), events
}

// unknown is a field that the shape does not have, with any value.
func (c composer) unknown(number int) string {
	wire := oneOf(c.source, 0, 1, 2, 5)
	switch wire {
	case 0:
		return c.varint(tagged(number, wire)) + c.varint(c.bits(1))
	case 2:
		return c.long(number, misspelt(c.source, joinedPoints(c.source, 4)))
	}
	return c.varint(tagged(number, wire)) + littleEndian(c.source.Uint64(), modelWidth(wire))
}

func (c composer) message(shape int, deep int) (string, []impl.Event) {
	text, list := "", []impl.Event(nil)
	fields := c.schema.Shapes[shape].Fields
	for range c.source.Intn(5) {
		if len(fields) == 0 || c.source.Intn(6) == 0 {
			number := c.source.Intn(536870911) + 1
			if !slices.ContainsFunc(fields, func(f impl.Field) bool { return f.Number == number }) {
				text += c.unknown(number)
			}
			continue
		}
		s, events := c.field(fields[c.source.Intn(len(fields))], deep)
		text, list = text+s, append(list, events...)
	}
	return text, list
}

// randomPlan has at least one shape.
func randomPlan(source *rand.Rand) impl.Plan {
	if source.Intn(3) == 0 {
		return kindsPlan(1 + source.Intn(8))
	}
	s := laidOut(randomValid(source))
	if len(s.Shapes) == 0 {
		return planOf(schema(shape(99)), 0, 1, 0)
	}
	return planOf(s, source.Intn(len(s.Shapes)), 1+source.Intn(8), source.Intn(2001))
}

// A message that is composed is read as what it was composed of, and cut off anywhere as the beginning of that.
func TestComposedMessages(t *testing.T) {
	source := rand.New(rand.NewSource(122))
	kinds := map[int]int{}
	for range 3000 {
		p := randomPlan(source)
		at, deep := source.Intn(len(p.Schema.Shapes)), 1+source.Intn(p.Deep)
		s, events := composer{source, p.Schema}.message(at, p.Deep-deep)
		if len(s) > 400 {
			continue
		}
		checkRead(t, p, whole(at, s, events...), 0, deep)
		checkRead(t, p, whole(at, s, events...).followed("\x80\x01").after("abc"), 3, deep)
		for _, e := range events {
			kinds[e.Kind]++
		}
	}
	for _, k := range []int{2, 3, 4, 5, 6, 7} {
		if kinds[k] < 300 {
			t.Errorf("there were %d events of the kind %d", kinds[k], k)
		}
	}
}

// edited has up to two bytes left out, added, or changed.
func edited(source *rand.Rand, s string) string {
	for range 1 + source.Intn(2) {
		at := source.Intn(len(s) + 1)
		b := string([]byte{byte(oneOf(source, 0, 1, 2, 3, 4, 8, 10, 127, 128, 129, 255, source.Intn(256)))})
		switch next := min(at+1, len(s)); source.Intn(3) {
		case 0:
			s = s[:at] + s[next:]
		case 1:
			s = s[:at] + b + s[at:]
		default:
			s = s[:at] + b + s[next:]
		}
	}
	return s
}

func TestEditedMessages(t *testing.T) {
	source := rand.New(rand.NewSource(123))
	codes := map[int]int{}
	for i := range 6000 {
		p := randomPlan(source)
		at, deep := source.Intn(len(p.Schema.Shapes)), 1+source.Intn(p.Deep)
		// Now and then, the messages in it are one too many.
		s, _ := composer{source, p.Schema}.message(at, p.Deep-deep+source.Intn(2))
		if len(s) > 300 {
			continue
		}
		end := max(0, len(s)+oneOf(source, -2, -1, 0, 0, 0, 1, 2, 1<<40))
		codes[compareRead(t, p, at, s, 0, end, deep).Code]++
		for range 4 {
			other := edited(source, s)
			codes[compareRead(t, p, at, other, 0, end, deep).Code]++
			codes[compareRead(t, p, at, other, 0, len(other), deep).Code]++
			from := source.Intn(len(other) + 1)
			compareRead(t, p, at, other, from, max(from, end), deep)
			if i%8 == 0 {
				checkCuts(t, p, at, other, 0, len(other), deep)
				checkCuts(t, p, at, other, from, max(from, end), deep)
			}
		}
	}
	checkCodes(t, codes, 10, 7)
}

func TestMessagesOfAnyBytes(t *testing.T) {
	source := rand.New(rand.NewSource(124))
	for i := range 20000 {
		s := longRuns(source, 20)
		if i%2 == 0 {
			s = edited(source, strings.Repeat("\x42\x09\x0a\x03", source.Intn(4))) + s
		}
		p := kindsPlan(1 + source.Intn(3))
		compareRead(t, p, source.Intn(3), s, 0, len(s)+source.Intn(3), 1)
	}
}

// wellFormed tells whether the events are those of a message: each is valid, and each end is that of the last thing that is open.
func wellFormed(events []impl.Event, complete bool) bool {
	var open []int
	for _, e := range events {
		inText := len(open) > 0 && open[len(open)-1] == 3
		switch {
		case !impl.EventOk(e) || e.Kind == 1 || e.Kind >= 8:
			return false
		case inText != (e.Kind == 4 || e.Kind == 5):
			return false
		case e.Kind == 3 || e.Kind == 6:
			open = append(open, e.Kind)
		case e.Kind == 5 || e.Kind == 7:
			if len(open) == 0 {
				return false
			}
			open = open[:len(open)-1]
		}
	}
	return !complete || len(open) == 0
}

// Without a model: the events are well-formed, there is a failure or all is closed, and it is at a byte of the message or at its end.
func TestEventsAreWellFormed(t *testing.T) {
	source := rand.New(rand.NewSource(125))
	for range 5000 {
		p := randomPlan(source)
		at := source.Intn(len(p.Schema.Shapes))
		s, _ := composer{source, p.Schema}.message(at, p.Deep)
		s = edited(source, s)
		end := len(s) + source.Intn(3)
		events, fail := impl.ReadMsg(p, at, s, 0, end, 1)
		if !wellFormed(events, fail.Kind == 0) {
			t.Errorf("ReadMsg(%v, %d, %q, 0, %d, 1) = %v, %v", p, at, s, end, events, fail)
		}
		if fail != (impl.Event{}) && (!impl.EventOk(fail) || fail.Kind != 10 || fail.Code > 10 || fail.At > min(end, len(s))) {
			t.Errorf("ReadMsg(%v, %d, %q, 0, %d, 1) fails with %v", p, at, s, end, fail)
		}
		if fail.Code == 10 && fail.At != len(s) || fail == (impl.Event{}) && end > len(s) {
			t.Errorf("ReadMsg(%v, %d, %q, 0, %d, 1) ends with %v", p, at, s, end, fail)
		}
	}
}

// A long message is read in a moment only if nothing is read or copied again for each of its fields.
func TestLongMessages(t *testing.T) {
	for _, row := range []struct {
		shape int
		one   string
		all   []impl.Event
	}{
		{0, "\x08\x05", numsOf(1, 5)}, {0, "\x3a\x01a", textOf(7, "a")}, {0, "\x42\x02\x08\x05", nestOf(8, 2, numOf(1, 5))}, {0, "\x4a\x01\xff", nil},
		{1, "\x0a\x02\x05\x06", numsOf(1, 5, 6)}, {2, "\x22\x04\x01\x00\x00\x00", numsOf(4, 1)},
	} {
		s := strings.Repeat(row.one, 30000)
		events, fail := impl.ReadMsg(kindsPlan(8), row.shape, s, 0, len(s), 1)
		if !slices.Equal(events, slices.Repeat(row.all, 30000)) || fail != (impl.Event{}) {
			t.Errorf("%q is not read so many times", row.one)
		}
		n := len(s)
		events, fail = impl.ReadMsg(kindsPlan(8), row.shape, longOf(8, s), 0, n+1+len(varintOf(uint64(n))), 1)
		if !slices.Equal(events, nestOf(8, n, slices.Repeat(row.all, 30000)...)) || fail != (impl.Event{}) {
			t.Errorf("%q is not read so many times in a message", row.one)
		}
	}
	run := strings.Repeat("\x07", 100000)
	s := longOf(2, run)
	events, fail := impl.ReadMsg(kindsPlan(1), 2, s, 0, len(s), 1)
	if len(events) != 100000 || fail != (impl.Event{}) {
		t.Error("a long run is not read")
	}
}

// What is beyond the length of a slice is no part of a plan.
func TestWhatIsBeyondTheLengthIsNotInThePlan(t *testing.T) {
	p := roomyPlan(kindsPlan(3))
	for shape := range 3 {
		// The field 77 is there, but beyond the length, so it is unknown. Its kind would be KdBytes.
		checkRead(t, p, whole(shape, longOf(77, "\xff")+longOf(78, "")), 0, 1)
		checkRead(t, p, whole(shape, tagBytes(77, 0)+"\x05\x08\x05", numOf(1, 5)), 0, 1)
	}
	checkNothing(t, p, 3, "", 0, 0, 1)
	checkNothing(t, p, 3, longOf(77, "\xff"), 0, 5, 1)
	p.Root = 3
	checkPlan(t, p, false)
	checkPlan(t, planOf(impl.Schema{Shapes: p.Schema.Shapes[:0]}, 0, 1, 0), false)
}

// somePlans are valid and invalid plans.
func somePlans() []impl.Plan {
	list := append(wrongPlans(), kindsPlan(1), kindsPlan(8), planOf(sixShapes(), 5, 2, 2000), planOf(sampleSchema(), 0, 1, 0))
	source := rand.New(rand.NewSource(126))
	for i := range 150 {
		list = append(list, randomPlan(source), planOf(randomSchema(source, i%3), source.Intn(3), source.Intn(10), 5))
	}
	return list
}

// someMessages are for all plans; a plan's own messages are added.
func someMessages(source *rand.Rand, p impl.Plan) []string {
	list := []string{"", "\x08\x05", "\x08", "\x00", "\x42\x02\x08\x05\x32\x02hi", "\x32\x05hi", "\x32\x03h\xffi", "\x0a\x02\x01\x02"}
	for range 3 {
		if impl.PlanOk(p) {
			s, _ := composer{source, p.Schema}.message(p.Root, p.Deep-1)
			list = append(list, s, edited(source, s))
		}
	}
	return list
}

func TestReadingMessagesChangesNothing(t *testing.T) {
	source := rand.New(rand.NewSource(127))
	for _, plan := range somePlans() {
		p := roomyPlan(plan)
		was, lengths := whollySchema(p.Schema), schemaNumbers(p.Schema)
		impl.PlanOk(p)
		for _, s := range someMessages(source, plan) {
			bytes := []byte(s)
			for _, deep := range []int{0, 1, 2, p.Deep} {
				impl.ReadMsg(p, p.Root, s, 0, len(s), deep)
				impl.ReadMsg(p, p.Root, s, 0, len(s)+2, deep)
			}
			impl.VarWithin(s, 0, len(s))
			if s != string(bytes) {
				t.Errorf("%q was changed to %q", bytes, s)
			}
		}
		for _, one := range p.Schema.Shapes {
			for _, f := range one.Fields {
				impl.Allowed(f, 2)
				impl.NumEvent(f, 2)
			}
		}
		if !reflect.DeepEqual(whollySchema(p.Schema), was) || !slices.Equal(schemaNumbers(p.Schema), lengths) {
			t.Errorf("%v was changed to %v", was, whollySchema(p.Schema))
		}
	}
}

// A result keeps its value when the plan changes, and the plan and later results when a result changes.
func TestReadMsgSharesNoMemory(t *testing.T) {
	source := rand.New(rand.NewSource(128))
	for _, plan := range somePlans() {
		for _, s := range someMessages(source, plan) {
			for _, end := range []int{len(s), len(s) + 1} {
				p := roomyPlan(plan)
				was := whollySchema(p.Schema)
				first, fail := impl.ReadMsg(p, p.Root, s, 0, end, 1)
				second, _ := impl.ReadMsg(p, p.Root, s, 0, end, 1)
				want := eventLines(first)
				spoilEvents(first)
				if !slices.Equal(eventLines(second), want) || !reflect.DeepEqual(whollySchema(p.Schema), was) {
					t.Fatalf("the results of %q in %v share memory", s, plan)
				}
				spoilEvents(second)
				third, again := impl.ReadMsg(p, p.Root, s, 0, end, 1)
				if !slices.Equal(eventLines(third), want) || again != fail {
					t.Fatalf("the later result of %q in %v is %v, %v, not %v, %v", s, plan, eventLines(third), again, want, fail)
				}
				spoilSchema(p.Schema)
				if !slices.Equal(eventLines(third), want) {
					t.Fatalf("the result of %q in %v was changed to %v through the plan", s, plan, eventLines(third))
				}
			}
		}
	}
}

// The results do not depend on the calls before.
func TestMessagesAreReadTheSameEachTime(t *testing.T) {
	s, events := tower(3, "\x08\x05\x32\x02hi", slices.Concat(numsOf(1, 5), textOf(6, "hi"))...)
	for range 200 {
		checkRead(t, kindsPlan(4), whole(0, s, events...), 0, 1)
		impl.ReadMsg(kindsPlan(2), 1, "\x08\x80", 0, 2, 1)
		impl.ReadMsg(kindsPlan(2), 0, "\x32\x02\xc3", 0, 4, 1)
		impl.VarWithin("\x80\x80", 0, 9)
	}
}
