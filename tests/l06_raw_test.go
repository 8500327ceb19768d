package tests

import (
	"math"
	"math/rand"
	"reflect"
	"slices"
	"testing"

	"loop.example/g00498/impl"
)

// A kindRow is what the document says of a kind; bits is the number of bits of its integers, and 0 if its values are no integers.
type kindRow struct {
	word string
	wire int
	bits int
}

// kindRows has the kind k at k - 1. The numbers are the document's, not the program's constants.
func kindRows() []kindRow {
	return []kindRow{
		{"uint", 0, 64},
		{"sint", 0, 64},
		{"bool", 0, 1},
		{"four", 5, 32},
		{"eight", 1, 64},
		{"text", 2, 0},
		{"bytes", 2, 0},
		{"msg", 2, 0},
	}
}

// rowOf is what the document says of k, whether or not k is a kind.
func rowOf(k int) kindRow {
	if k < 1 || k > 8 {
		return kindRow{"", -1, 0}
	}
	return kindRows()[k-1]
}

// nearKinds are the kinds, the integers around them, and the outermost ones.
func nearKinds() []int {
	list := []int{math.MinInt, math.MaxInt}
	for k := -1; k <= 10; k++ {
		list = append(list, k)
	}
	return list
}

// manyKinds are these, other samples, and integers that become kinds when they are cut to fewer bits.
func manyKinds() []int {
	list := append(nearKinds(), intSamples()...)
	for k := 1; k <= 8; k++ {
		for shift := 8; shift < 64; shift++ {
			list = append(list, k+1<<shift, k-1<<shift, -k)
		}
	}
	return list
}

// bitSamples are values around the limits of the kinds and others.
func bitSamples() []uint64 {
	list := []uint64{0, 1, 2, 3, 255, 256, 4294967295, 4294967296, 9223372036854775807, 9223372036854775808, 18446744073709551615}
	for shift := 32; shift < 64; shift++ {
		list = append(list, 1<<shift, 1<<shift+1, 1<<shift-1)
	}
	return append(list, sampleValues()...)
}

// fits shifts u where the program compares it.
func fits(k int, u uint64) bool {
	bits := rowOf(k).bits
	return bits == 64 || bits > 0 && u>>bits == 0
}

func TestDescriptionLimits(t *testing.T) {
	if impl.MaxMsgs != 6 || impl.MaxFields != 8 || impl.MaxId != 99 {
		t.Error(impl.MaxMsgs, impl.MaxFields, impl.MaxId)
	}
}

func TestKindNumbers(t *testing.T) {
	kinds := []int{
		impl.KdUint, impl.KdSint, impl.KdBool, impl.KdFour, impl.KdEight, impl.KdText, impl.KdBytes, impl.KdMsg,
	}
	if !slices.Equal(kinds, []int{1, 2, 3, 4, 5, 6, 7, 8}) {
		t.Error(kinds)
	}
}

func TestKinds(t *testing.T) {
	for _, k := range manyKinds() {
		row := rowOf(k)
		if got := impl.KindWord(k); got != row.word {
			t.Errorf("KindWord(%d) = %q, not %q", k, got, row.word)
		}
		if got := impl.Numeric(k); got != (row.bits > 0) {
			t.Errorf("Numeric(%d) = %v", k, got)
		}
		if got := impl.WireOf(k); got != row.wire {
			t.Errorf("WireOf(%d) = %d, not %d", k, got, row.wire)
		}
	}
}

func TestEveryKindHasOneWord(t *testing.T) {
	kinds := map[string]int{}
	for k := 1; k <= 8; k++ {
		word := impl.KindWord(k)
		if other, seen := kinds[word]; seen || word == "" {
			t.Errorf("KindWord(%d) = %q, as is that of %d", k, word, other)
		}
		kinds[word] = k
	}
}

// A map is visited in another order each time.
func TestWordsDoNotChange(t *testing.T) {
	for range 500 {
		for k := 0; k <= 9; k++ {
			if got, want := impl.KindWord(k), rowOf(k).word; got != want {
				t.Fatalf("KindWord(%d) = %q, not %q", k, got, want)
			}
		}
	}
}

func TestOnlyKindsHaveAWordAndAWireType(t *testing.T) {
	for _, k := range manyKinds() {
		kind := k >= 1 && k <= 8
		if got := impl.KindWord(k) != ""; got != kind {
			t.Errorf("%d has a word: %v", k, got)
		}
		if got := impl.WireOk(impl.WireOf(k)); got != kind {
			t.Errorf("%d has a wire type: %v", k, got)
		}
	}
}

// Exactly the numeric kinds have values that are integers.
func TestNumericKindsHaveValues(t *testing.T) {
	for _, k := range manyKinds() {
		if got, numeric := impl.BitsFit(k, 0), impl.Numeric(k); got != numeric {
			t.Errorf("BitsFit(%d, 0) = %v, Numeric = %v", k, got, numeric)
		}
	}
}

func TestBitsFitAtTheLimits(t *testing.T) {
	values := []uint64{
		0, 1, 2, 4294967295, 4294967296, 9223372036854775807, 9223372036854775808, 18446744073709551615,
	}
	// For each kind, how many of the values fit, in order.
	fitting := map[int]int{1: 8, 2: 8, 3: 2, 4: 4, 5: 8}
	for _, k := range nearKinds() {
		for i, u := range values {
			if got, want := impl.BitsFit(k, u), i < fitting[k]; got != want {
				t.Errorf("BitsFit(%d, %d) = %v", k, u, got)
			}
		}
	}
}

func TestBitsFitOfSamples(t *testing.T) {
	for _, u := range bitSamples() {
		for k := -1; k <= 10; k++ {
			if got := impl.BitsFit(k, u); got != fits(k, u) {
				t.Errorf("BitsFit(%d, %d) = %v", k, u, got)
			}
		}
	}
	for _, k := range manyKinds() {
		for _, u := range fewValues() {
			if got := impl.BitsFit(k, u); got != fits(k, u) {
				t.Errorf("BitsFit(%d, %d) = %v", k, u, got)
			}
		}
	}
}

// written encodes u as the wire type of the kind says. It is "" where the wire type is not one of integers.
func written(k int, u uint64) string {
	wire := impl.WireOf(k)
	if wire == impl.WrVar {
		return impl.PutVar(u)
	}
	return impl.PutFix(u, impl.WidthOf(wire))
}

// read is the value at the start of s and the offset after it, or an offset of -1 if there is none.
func read(k int, s string) (uint64, int) {
	wire := impl.WireOf(k)
	if wire == impl.WrVar {
		u, next, code := impl.GetVar(s, 0)
		if code != 0 {
			return 0, -1
		}
		return u, next
	}
	u, ok := impl.GetFix(s, 0, impl.WidthOf(wire))
	if !ok {
		return 0, -1
	}
	return u, impl.WidthOf(wire)
}

func TestFittingValuesDecodeToThemselves(t *testing.T) {
	for _, u := range bitSamples() {
		for k := 1; k <= 8; k++ {
			s := written(k, u)
			if got, next := read(k, s+"\x01"); impl.BitsFit(k, u) && (got != u || next != len(s)) {
				t.Errorf("kind %d: %d is written as %q, read as %d up to %d", k, u, s, got, next)
			}
		}
	}
}

// Four bytes hold no other values than those that fit.
func TestOtherValuesDoNotDecodeToThemselves(t *testing.T) {
	for _, u := range bitSamples() {
		s := written(impl.KdFour, u)
		if got, _ := read(impl.KdFour, s); (got == u) != impl.BitsFit(impl.KdFour, u) {
			t.Errorf("%d is written as %q, read as %d", u, s, got)
		}
	}
}

// Values that are no integers, and only these, need a length before them.
func TestValuesThatAreBytesAreDelimited(t *testing.T) {
	for k := 1; k <= 8; k++ {
		if got := impl.WireOf(k) == impl.WrLong; got == impl.Numeric(k) {
			t.Errorf("kind %d is delimited: %v", k, got)
		}
	}
}

func TestTagsTellTheWireType(t *testing.T) {
	for k := 1; k <= 8; k++ {
		for _, number := range []int{1, 15, 16, 18999, 20000, 536870911} {
			n, wire, ok := impl.TagIn(impl.TagOf(number, impl.WireOf(k)))
			if n != number || wire != rowOf(k).wire || !ok {
				t.Errorf("kind %d: the tag of field %d is that of %d, %d, %v", k, number, n, wire, ok)
			}
		}
	}
}

func field(number int, kind int) impl.RawField { return impl.RawField{Number: number, Kind: kind} }

func message(id int, fields ...impl.RawField) impl.RawMsg { return impl.RawMsg{Id: id, Fields: fields} }

func description(msgs ...impl.RawMsg) impl.Raw { return impl.Raw{Msgs: msgs} }

// sampleRaw has three messages of three fields each, no two of which are the same.
func sampleRaw() impl.Raw {
	return description(
		message(1, field(1, 1), field(2, 6), impl.RawField{Number: 3, Kind: 8, Ref: 2}),
		message(2, impl.RawField{Number: 1, Kind: 3, Repeated: true}, field(7, 7), field(9, 4)),
		message(5, field(4, 5), impl.RawField{Number: 5, Kind: 2, Repeated: true, Packed: true}, field(6, 2)),
	)
}

// copied shares no memory with r and, unlike it, has no unused capacity.
func copied(r impl.Raw) impl.Raw {
	msgs := make([]impl.RawMsg, len(r.Msgs))
	for i, m := range r.Msgs {
		msgs[i] = impl.RawMsg{Id: m.Id, Fields: slices.Clip(slices.Clone(m.Fields))}
	}
	return impl.Raw{Msgs: msgs}
}

// plain writes a description as numbers, with the lengths, so that equal numbers mean equal descriptions.
func plain(r impl.Raw) []int {
	list := []int{len(r.Msgs)}
	for _, m := range r.Msgs {
		list = append(list, m.Id, len(m.Fields))
		for _, f := range m.Fields {
			list = append(list, f.Number, f.Kind, truth(f.Repeated), truth(f.Packed), f.Ref)
		}
	}
	return list
}

func truth(b bool) int {
	if b {
		return 1
	}
	return 0
}

func checkSame(t *testing.T, a impl.Raw, b impl.Raw, want bool) {
	t.Helper()
	if got := impl.SameRaw(a, b); got != want {
		t.Errorf("SameRaw(%v, %v) = %v", a, b, got)
	}
	if got := impl.SameRaw(b, a); got != want {
		t.Errorf("SameRaw(%v, %v) = %v", b, a, got)
	}
}

// fieldChanges each change one place of a field.
func fieldChanges() []func(f *impl.RawField) {
	return []func(f *impl.RawField){
		func(f *impl.RawField) { f.Number++ },
		func(f *impl.RawField) { f.Number += 1 << 32 },
		func(f *impl.RawField) { f.Number = -f.Number },
		func(f *impl.RawField) { f.Kind++ },
		func(f *impl.RawField) { f.Kind = 0 },
		func(f *impl.RawField) { f.Kind += 1 << 32 },
		func(f *impl.RawField) { f.Repeated = !f.Repeated },
		func(f *impl.RawField) { f.Packed = !f.Packed },
		func(f *impl.RawField) { f.Ref++ },
		func(f *impl.RawField) { f.Ref-- },
		func(f *impl.RawField) { f.Ref += 1 << 32 },
	}
}

// msgChanges each change one place of a message, which has three fields.
func msgChanges() []func(m *impl.RawMsg) {
	list := []func(m *impl.RawMsg){
		func(m *impl.RawMsg) { m.Id++ },
		func(m *impl.RawMsg) { m.Id = 0 },
		func(m *impl.RawMsg) { m.Id = -m.Id },
		func(m *impl.RawMsg) { m.Id += 1 << 32 },
		func(m *impl.RawMsg) { m.Fields = nil },
	}
	for at := range 3 {
		for _, change := range fieldChanges() {
			list = append(list, func(m *impl.RawMsg) { change(&m.Fields[at]) })
		}
		list = append(list, func(m *impl.RawMsg) { m.Fields = slices.Delete(m.Fields, at, at+1) })
	}
	for at := range 4 {
		list = append(list, func(m *impl.RawMsg) { m.Fields = slices.Insert(m.Fields, at, field(8, 1)) })
		list = append(list, func(m *impl.RawMsg) { m.Fields = slices.Insert(m.Fields, at, impl.RawField{}) })
	}
	return list
}

// changedRaws are descriptions that differ from the sample in one place: a message or a field more or less, or one part of one.
func changedRaws() []impl.Raw {
	list := []impl.Raw{{}}
	change := func(edit func(r *impl.Raw)) {
		r := copied(sampleRaw())
		edit(&r)
		list = append(list, r)
	}
	for at := range 3 {
		for _, edit := range msgChanges() {
			change(func(r *impl.Raw) { edit(&r.Msgs[at]) })
		}
		change(func(r *impl.Raw) { r.Msgs = slices.Delete(r.Msgs, at, at+1) })
	}
	for at := range 4 {
		change(func(r *impl.Raw) { r.Msgs = slices.Insert(r.Msgs, at, message(9, field(1, 1))) })
		change(func(r *impl.Raw) { r.Msgs = slices.Insert(r.Msgs, at, impl.RawMsg{}) })
	}
	return list
}

// orders are the six orders of three things.
func orders() [][]int {
	return [][]int{{0, 1, 2}, {0, 2, 1}, {1, 0, 2}, {1, 2, 0}, {2, 0, 1}, {2, 1, 0}}
}

// reordered are the sample with its messages, or the fields of one of its messages, in every order.
func reordered() []impl.Raw {
	var list []impl.Raw
	for _, order := range orders() {
		msgs := copied(sampleRaw())
		for i, from := range order {
			msgs.Msgs[i] = copied(sampleRaw()).Msgs[from]
		}
		list = append(list, msgs)
		for at := range 3 {
			fields := copied(sampleRaw())
			for i, from := range order {
				fields.Msgs[at].Fields[i] = sampleRaw().Msgs[at].Fields[from]
			}
			list = append(list, fields)
		}
	}
	return list
}

func TestSameDescriptions(t *testing.T) {
	r := sampleRaw()
	checkSame(t, r, r, true)
	checkSame(t, r, sampleRaw(), true)
	checkSame(t, r, copied(r), true)
	checkSame(t, impl.Raw{}, impl.Raw{}, true)
}

func TestDescriptionsThatDifferInOnePlace(t *testing.T) {
	for _, r := range changedRaws() {
		checkSame(t, sampleRaw(), r, false)
		checkSame(t, r, copied(r), true)
	}
}

func TestDescriptionsInAnotherOrder(t *testing.T) {
	for i, r := range reordered() {
		// The first four have the order of the sample.
		checkSame(t, sampleRaw(), r, i < 4)
	}
}

func TestSameRawOfPairs(t *testing.T) {
	list := append(changedRaws(), reordered()...)
	for _, a := range list {
		numbers := plain(a)
		for _, b := range list {
			checkSame(t, a, b, slices.Equal(numbers, plain(b)))
		}
	}
}

// Moving a field from one message to the next keeps the fields and their number.
func TestFieldsOfAnotherMessage(t *testing.T) {
	one, two := field(1, 1), field(2, 2)
	checkSame(t, description(message(1, one, two), message(2)), description(message(1, one), message(2, two)), false)
	checkSame(t, description(message(1, one), message(2, two)), description(message(1), message(2, one, two)), false)
	checkSame(t, description(message(1, one), message(1)), description(message(1), message(1, one)), false)
}

// Some of these fields have the same numbers in other places.
func TestPartsOfAFieldAreNotExchanged(t *testing.T) {
	fields := []impl.RawField{
		{Number: 1, Kind: 2, Ref: 3}, {Number: 2, Kind: 1, Ref: 3}, {Number: 3, Kind: 2, Ref: 1}, {Number: 1, Kind: 3, Ref: 2},
		{Number: 1, Kind: 2, Ref: 3, Repeated: true}, {Number: 1, Kind: 2, Ref: 3, Packed: true},
	}
	for i, f := range fields {
		for j, g := range fields {
			checkSame(t, description(message(4, f)), description(message(4, g)), i == j)
		}
	}
}

func TestNilAndEmptySlicesAreEqual(t *testing.T) {
	empty := impl.Raw{Msgs: []impl.RawMsg{}}
	checkSame(t, impl.Raw{}, empty, true)
	checkSame(t, empty, empty, true)
	checkSame(t, impl.Raw{}, impl.Raw{Msgs: make([]impl.RawMsg, 0, 3)}, true)
	for at := range 3 {
		a, b, c := sampleRaw(), sampleRaw(), sampleRaw()
		a.Msgs[at].Fields = nil
		b.Msgs[at].Fields = []impl.RawField{}
		c.Msgs[at].Fields = c.Msgs[at].Fields[:0]
		checkSame(t, a, b, true)
		checkSame(t, a, c, true)
		checkSame(t, b, c, true)
		checkSame(t, b, sampleRaw(), false)
	}
}

func TestEmptyDescriptionsAndMessages(t *testing.T) {
	checkSame(t, impl.Raw{}, description(impl.RawMsg{}), false)
	checkSame(t, description(impl.RawMsg{}), description(impl.RawMsg{}, impl.RawMsg{}), false)
	checkSame(t, description(impl.RawMsg{}), description(message(0, impl.RawField{})), false)
	checkSame(t, description(message(0, impl.RawField{})), description(message(0, impl.RawField{}, impl.RawField{})), false)
}

// A description need not be valid: the limits and ranges do not matter.
func TestSameRawOfInvalidDescriptions(t *testing.T) {
	wild := impl.RawField{Number: math.MinInt, Kind: math.MaxInt, Packed: true, Ref: math.MinInt}
	var a impl.Raw
	for i := range 20 {
		m := message(math.MaxInt - i/2)
		for range 20 {
			m.Fields = append(m.Fields, wild)
		}
		a.Msgs = append(a.Msgs, m)
	}
	checkSame(t, a, copied(a), true)
	for _, at := range []int{5, 6, 7, 8, 19} {
		id, number := copied(a), copied(a)
		id.Msgs[at].Id--
		number.Msgs[at].Fields[at].Number = math.MaxInt
		checkSame(t, a, id, false)
		checkSame(t, a, number, false)
		checkSame(t, id, number, false)
	}
}

// Two descriptions may use one array; what is beyond the length of either does not count.
func TestSameRawOfSharedArrays(t *testing.T) {
	r := sampleRaw()
	for i := range 4 {
		for j := range 4 {
			checkSame(t, impl.Raw{Msgs: r.Msgs[:i]}, impl.Raw{Msgs: r.Msgs[:j]}, i == j)
			fields := r.Msgs[0].Fields
			checkSame(t, description(message(1, fields[:i]...)), description(message(1, fields[:j]...)), i == j)
		}
	}
}

// randomRaw chooses from so few values that two such descriptions are often equal.
func randomRaw(source *rand.Rand) impl.Raw {
	var r impl.Raw
	for range source.Intn(3) {
		m := message(source.Intn(2))
		for range source.Intn(3) {
			m.Fields = append(m.Fields, impl.RawField{Number: source.Intn(2), Ref: source.Intn(2), Packed: source.Intn(2) == 0})
		}
		r.Msgs = append(r.Msgs, m)
	}
	return r
}

func TestSameRawOfRandomDescriptions(t *testing.T) {
	source := rand.New(rand.NewSource(6))
	for range 50000 {
		a, b := randomRaw(source), randomRaw(source)
		checkSame(t, a, b, slices.Equal(plain(a), plain(b)))
	}
}

// roomy has the messages and fields of r in arrays with room for more, which is filled.
func roomy(r impl.Raw) impl.Raw {
	var msgs []impl.RawMsg
	for _, m := range r.Msgs {
		fields := append(slices.Clone(m.Fields), field(77, 7), field(78, 7))
		msgs = append(msgs, impl.RawMsg{Id: m.Id, Fields: fields[:len(m.Fields)]})
	}
	msgs = append(msgs, message(77, field(77, 7)), message(78, field(77, 7)))
	return impl.Raw{Msgs: msgs[:len(r.Msgs)]}
}

// wholly is a copy of all messages and fields of r, including those beyond its lengths.
func wholly(r impl.Raw) []impl.RawMsg {
	var list []impl.RawMsg
	for _, m := range r.Msgs[:cap(r.Msgs)] {
		list = append(list, impl.RawMsg{Id: m.Id, Fields: slices.Clone(m.Fields[:cap(m.Fields)])})
	}
	return list
}

func TestSameRawChangesNothing(t *testing.T) {
	list := append(changedRaws(), reordered()...)
	for _, r := range list {
		a, b := roomy(sampleRaw()), roomy(r)
		wasA, wasB := wholly(a), wholly(b)
		lengths := append(plain(a), plain(b)...)
		checkSame(t, a, b, slices.Equal(plain(a), plain(b)))
		if !reflect.DeepEqual(wholly(a), wasA) || !reflect.DeepEqual(wholly(b), wasB) {
			t.Errorf("SameRaw changed %v or %v", wasA, wasB)
		}
		if !slices.Equal(append(plain(a), plain(b)...), lengths) {
			t.Errorf("SameRaw changed a length of %v or %v", a, b)
		}
	}
}
