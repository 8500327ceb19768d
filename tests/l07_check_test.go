package tests

import (
	"cmp"
	"math"
	"math/rand"
	"reflect"
	"slices"
	"strconv"
	"testing"

	"loop.example/g00498/impl"
)

func violation(code int, msg int, field int) impl.Violation {
	return impl.Violation{Code: code, Msg: msg, Field: field}
}

func checkMsgCode(t *testing.T, r impl.Raw, msg int, want int) {
	t.Helper()
	if got := impl.MsgCode(r, msg); got != want {
		t.Errorf("MsgCode(%v, %d) = %d, not %d", r, msg, got, want)
	}
}

func checkFieldCode(t *testing.T, r impl.Raw, msg int, field int, want int) {
	t.Helper()
	if got := impl.FieldCode(r, msg, field); got != want {
		t.Errorf("FieldCode(%v, %d, %d) = %d, not %d", r, msg, field, got, want)
	}
}

// checkFirst also checks that r is valid exactly if the first violation is none.
func checkFirst(t *testing.T, r impl.Raw, want impl.Violation) {
	t.Helper()
	if got := impl.FirstViolation(r); got != want {
		t.Errorf("FirstViolation(%v) = %v, not %v", r, got, want)
	}
	if got := impl.RawOk(r); got != (want == impl.Violation{}) {
		t.Errorf("RawOk(%v) = %v", r, got)
	}
}

func checkText(t *testing.T, v impl.Violation, want string) {
	t.Helper()
	if got := impl.ViolationText(v); got != want {
		t.Errorf("ViolationText(%v) = %q, not %q", v, got, want)
	}
}

// msgCodes are all codes that apply to a message, least first.
func msgCodes(r impl.Raw, msg int) []int {
	var codes []int
	m := r.Msgs[msg]
	if m.Id <= 0 || m.Id >= 100 {
		codes = append(codes, 2)
	}
	for other := range msg {
		if r.Msgs[other].Id == m.Id {
			codes = append(codes, 3)
			break
		}
	}
	if len(m.Fields) >= 9 {
		codes = append(codes, 4)
	}
	return codes
}

// fieldCodes are all codes that apply to a field, least first.
func fieldCodes(r impl.Raw, msg int, field int) []int {
	var codes []int
	f := r.Msgs[msg].Fields[field]
	if f.Number <= 0 || f.Number >= 19000 && f.Number < 20000 || f.Number >= 536870912 {
		codes = append(codes, 5)
	}
	for other := range field {
		if r.Msgs[msg].Fields[other].Number == f.Number {
			codes = append(codes, 6)
			break
		}
	}
	row := rowOf(f.Kind)
	if row.word == "" {
		codes = append(codes, 7)
	}
	if f.Packed && !f.Repeated || f.Packed && row.bits == 0 {
		codes = append(codes, 8)
	}
	described := 0
	for _, m := range r.Msgs {
		described += truth(m.Id == f.Ref)
	}
	if row.word == "msg" && described == 0 || row.word != "msg" && f.Ref != 0 {
		codes = append(codes, 9)
	}
	return codes
}

// violations are all violations of a description in any number of places, without the one of too many messages.
func violations(r impl.Raw) []impl.Violation {
	var list []impl.Violation
	for msg, m := range r.Msgs {
		for field := range m.Fields {
			for _, code := range fieldCodes(r, msg, field) {
				list = append(list, violation(code, msg, field))
			}
		}
		for _, code := range msgCodes(r, msg) {
			list = append(list, violation(code, msg, -1))
		}
	}
	return list
}

// least is the first violation by its place, where a message comes before its fields, and then by its code.
func least(r impl.Raw) impl.Violation {
	if len(r.Msgs) >= 7 {
		return violation(1, 6, -1)
	}
	list := violations(r)
	if len(list) == 0 {
		return impl.Violation{}
	}
	return slices.MinFunc(list, func(a impl.Violation, b impl.Violation) int {
		return cmp.Or(cmp.Compare(a.Msg, b.Msg), cmp.Compare(a.Field, b.Field), cmp.Compare(a.Code, b.Code))
	})
}

func firstOf(codes []int) int {
	if len(codes) == 0 {
		return 0
	}
	return codes[0]
}

// checkWhole compares everything that is said of r, also beyond its ends, with all its violations.
func checkWhole(t *testing.T, r impl.Raw) {
	t.Helper()
	for msg, m := range r.Msgs {
		checkMsgCode(t, r, msg, firstOf(msgCodes(r, msg)))
		for field := range m.Fields {
			checkFieldCode(t, r, msg, field, firstOf(fieldCodes(r, msg, field)))
		}
		checkFieldCode(t, r, msg, -1, 0)
		checkFieldCode(t, r, msg, len(m.Fields), 0)
	}
	for _, msg := range []int{-1, len(r.Msgs)} {
		checkMsgCode(t, r, msg, 0)
		checkFieldCode(t, r, msg, 0, 0)
	}
	checkFirst(t, r, least(r))
}

// plainFields are so many valid fields.
func plainFields(n int) []impl.RawField {
	var list []impl.RawField
	for i := range n {
		list = append(list, field(i+1, 1))
	}
	return list
}

// sixMsgs is valid. The messages have five fields each, and refer only to the first one, so that the others can be changed.
func sixMsgs() impl.Raw {
	var r impl.Raw
	for i := range 6 {
		r.Msgs = append(r.Msgs, message(10+i,
			field(20000, 6),
			impl.RawField{Number: 1, Kind: 4, Repeated: true, Packed: true},
			impl.RawField{Number: 18999, Kind: 8, Repeated: i%2 == 0, Ref: 10},
			impl.RawField{Number: 536870911, Kind: 7, Repeated: true},
			field(7, 3),
		))
	}
	return r
}

// msgFaults each make one message of sixMsgs invalid, by their codes. The first message cannot be a repeated one.
func msgFaults() map[int]func(r *impl.Raw, msg int) {
	return map[int]func(r *impl.Raw, msg int){
		2: func(r *impl.Raw, msg int) { r.Msgs[msg].Id = 100 + msg },
		3: func(r *impl.Raw, msg int) { r.Msgs[msg].Id = r.Msgs[0].Id },
		4: func(r *impl.Raw, msg int) {
			r.Msgs[msg].Fields = append(r.Msgs[msg].Fields, field(11, 1), field(12, 1), field(13, 1), field(14, 1))
		},
	}
}

// fieldFaults each make one field of a message invalid, by their codes. The first field cannot have a repeated number.
func fieldFaults() map[int]func(m *impl.RawMsg, at int) {
	return map[int]func(m *impl.RawMsg, at int){
		5: func(m *impl.RawMsg, at int) { m.Fields[at].Number = -at },
		6: func(m *impl.RawMsg, at int) { m.Fields[at].Number = m.Fields[0].Number },
		7: func(m *impl.RawMsg, at int) { m.Fields[at] = field(m.Fields[at].Number, 9) },
		8: func(m *impl.RawMsg, at int) { m.Fields[at].Packed, m.Fields[at].Repeated = true, false },
		9: func(m *impl.RawMsg, at int) { m.Fields[at].Ref = 50 },
	}
}

// faults each make one message of sixMsgs, or its field at the index 3, invalid, by their codes.
func faults() map[int]func(r *impl.Raw, msg int) {
	all := msgFaults()
	for code, spoil := range fieldFaults() {
		all[code] = func(r *impl.Raw, msg int) { spoil(&r.Msgs[msg], 3) }
	}
	return all
}

// placeOf is the violation that the fault with this code causes.
func placeOf(code int, msg int) impl.Violation {
	if code <= 4 {
		return violation(code, msg, -1)
	}
	return violation(code, msg, 3)
}

func TestViolationCodes(t *testing.T) {
	type own uint8
	codes := []own{
		impl.VlMsgs, impl.VlId, impl.VlTwice, impl.VlFields, impl.VlNumber, impl.VlSame, impl.VlKind, impl.VlPacked, impl.VlRef,
	}
	if !slices.Equal(codes, []own{1, 2, 3, 4, 5, 6, 7, 8, 9}) {
		t.Error(codes)
	}
}

func TestIds(t *testing.T) {
	for id, want := range map[int]int{
		math.MinInt: 2, -99: 2, -1: 2, 0: 2, 1: 0, 2: 0, 50: 0, 98: 0, 99: 0, 100: 2, 101: 2,
		1<<8 + 1: 2, 1<<32 + 1: 2, math.MaxInt: 2,
	} {
		checkMsgCode(t, description(message(id)), 0, want)
		checkMsgCode(t, description(message(51), message(id)), 1, want)
		checkMsgCode(t, description(message(id), message(51), message(0)), 0, want)
	}
	for _, id := range intSamples() {
		checkMsgCode(t, description(message(id)), 0, 2*truth(id < 1 || id > 99))
	}
}

// A message is repeated where an earlier one has its Id; a later one does not matter.
func TestRepeatedIds(t *testing.T) {
	for ids, codes := range map[[4]int][4]int{
		{5, 6, 7, 8}:         {0, 0, 0, 0},
		{5, 5, 6, 7}:         {0, 3, 0, 0},
		{5, 6, 5, 7}:         {0, 0, 3, 0},
		{5, 6, 7, 5}:         {0, 0, 0, 3},
		{6, 5, 7, 5}:         {0, 0, 0, 3},
		{6, 7, 5, 5}:         {0, 0, 0, 3},
		{5, 6, 5, 5}:         {0, 0, 3, 3},
		{5, 6, 6, 5}:         {0, 0, 3, 3},
		{5, 5, 5, 5}:         {0, 3, 3, 3},
		{5, 1<<32 + 5, 6, 7}: {0, 2, 0, 0},
		{5, -5, 5, -5}:       {0, 2, 3, 2},
	} {
		r := description(message(ids[0]), message(ids[1], field(1, 1)), message(ids[2]), message(ids[3]))
		for msg, want := range codes {
			checkMsgCode(t, r, msg, want)
		}
	}
}

// Only the number of the fields matters to a message, and not whether they are valid.
func TestNumberOfFields(t *testing.T) {
	for n := range 30 {
		want := 4 * truth(n > 8)
		checkMsgCode(t, description(message(1, plainFields(n)...)), 0, want)
		checkMsgCode(t, description(message(1, make([]impl.RawField, n)...)), 0, want)
		checkMsgCode(t, description(message(1), message(2, make([]impl.RawField, n)...), message(3)), 1, want)
	}
	// The fields of other messages are not counted.
	r := description(message(1, plainFields(8)...), message(2, plainFields(9)...), message(3, plainFields(8)...))
	checkMsgCode(t, r, 0, 0)
	checkMsgCode(t, r, 1, 4)
	checkMsgCode(t, r, 2, 0)
}

// indicesBeyond are integers that are no index of a list of this length.
func indicesBeyond(length int) []int {
	return []int{math.MinInt, math.MinInt + 1, -1 << 32, -length, -2, -1, length, length + 1, length + 100, 1 << 32, math.MaxInt}
}

func TestMsgCodeOutsideOfTheMessages(t *testing.T) {
	for n := 1; n <= 10; n++ {
		r := impl.Raw{Msgs: make([]impl.RawMsg, n)}
		for _, msg := range indicesBeyond(n) {
			checkMsgCode(t, r, msg, 0)
		}
		for msg := range n {
			checkMsgCode(t, r, msg, 2)
		}
	}
	for _, msg := range append(indicesBeyond(0), 0) {
		checkMsgCode(t, impl.Raw{}, msg, 0)
	}
}

func TestNumbersOfFields(t *testing.T) {
	for n, want := range map[int]int{
		math.MinInt: 5, -536870911: 5, -1: 5, 0: 5, 1: 0, 2: 0, 18999: 0, 19000: 5, 19001: 5, 19500: 5, 19999: 5, 20000: 0,
		536870910: 0, 536870911: 0, 536870912: 5, 1 << 32: 5, 1<<32 + 1: 5, math.MaxInt: 5,
	} {
		checkFieldCode(t, description(message(1, field(n, 1))), 0, 0, want)
		checkFieldCode(t, description(message(1), message(2, field(7, 1), field(n, 1), field(8, 1))), 1, 1, want)
	}
	for _, n := range intSamples() {
		wrong := n < 1 || n >= 19000 && n <= 19999 || n > 536870911
		checkFieldCode(t, description(message(1, field(n, 1))), 0, 0, 5*truth(wrong))
	}
}

// A field is repeated where an earlier one of its message has its number; a later one or another message's does not matter.
func TestRepeatedNumbers(t *testing.T) {
	for numbers, codes := range map[[4]int][4]int{
		{5, 6, 7, 8}:               {0, 0, 0, 0},
		{5, 5, 6, 7}:               {0, 6, 0, 0},
		{5, 6, 5, 7}:               {0, 0, 6, 0},
		{5, 6, 7, 5}:               {0, 0, 0, 6},
		{6, 5, 7, 5}:               {0, 0, 0, 6},
		{6, 7, 5, 5}:               {0, 0, 0, 6},
		{5, 6, 5, 5}:               {0, 0, 6, 6},
		{5, 6, 6, 5}:               {0, 0, 6, 6},
		{5, 5, 5, 5}:               {0, 6, 6, 6},
		{5, 1<<32 + 5, 5, -5}:      {0, 5, 6, 5},
		{536870911, 5, 20000, 5}:   {0, 0, 0, 6},
		{0, 0, 19999, 19999}:       {5, 5, 5, 5},
		{18999, 20000, 18999, 300}: {0, 0, 6, 0},
	} {
		m := message(2, field(numbers[0], 1), field(numbers[1], 6), field(numbers[2], 3), field(numbers[3], 1))
		r := description(message(1, field(8, 1), field(5, 1)), m, message(3, field(6, 1), field(7, 1)))
		for at, want := range codes {
			checkFieldCode(t, r, 1, at, want)
		}
		for at := range 2 {
			checkFieldCode(t, r, 0, at, 0)
			checkFieldCode(t, r, 2, at, 0)
		}
	}
}

func TestKindsOfFields(t *testing.T) {
	for k, want := range map[int]int{
		math.MinInt: 7, -8: 7, -1: 7, 0: 7, 1: 0, 2: 0, 3: 0, 4: 0, 5: 0, 6: 0, 7: 0, 8: 0, 9: 7, 10: 7, 1<<32 + 1: 7, math.MaxInt: 7,
	} {
		f := impl.RawField{Number: 1, Kind: k, Ref: 4 * truth(k == 8)}
		checkFieldCode(t, description(message(4, f)), 0, 0, want)
		f.Repeated = true
		checkFieldCode(t, description(message(4, f)), 0, 0, want)
	}
	for _, k := range manyKinds() {
		f := impl.RawField{Number: 1, Kind: k, Ref: 4 * truth(k == 8)}
		checkFieldCode(t, description(message(4, f)), 0, 0, 7*truth(k < 1 || k > 8))
	}
}

func TestPackedFields(t *testing.T) {
	for k := 1; k <= 8; k++ {
		f := impl.RawField{Number: 1, Kind: k, Ref: 4 * truth(k == 8)}
		checkFieldCode(t, description(message(4, f)), 0, 0, 0)
		f.Repeated = true
		checkFieldCode(t, description(message(4, f)), 0, 0, 0)
		f.Packed = true
		checkFieldCode(t, description(message(4, f)), 0, 0, 8*truth(k > 5))
		f.Repeated = false
		checkFieldCode(t, description(message(4, f)), 0, 0, 8)
	}
}

// The messages have the Ids 10, 20 and 30, and the field is one of the second.
func referring(k int, ref int) impl.Raw {
	return description(message(10), message(20, impl.RawField{Number: 1, Kind: k, Ref: ref}), message(30))
}

func TestReferencesOfMessages(t *testing.T) {
	for ref, want := range map[int]int{
		10: 0, 20: 0, 30: 0,
		0: 9, 1: 9, 2: 9, 3: 9, 9: 9, 11: 9, 19: 9, 21: 9, 31: 9, 99: 9, 100: 9, -10: 9, -1: 9,
		1<<8 + 10: 9, 1<<32 + 10: 9, math.MinInt: 9, math.MaxInt: 9,
	} {
		checkFieldCode(t, referring(8, ref), 1, 0, want)
		checkFirst(t, referring(8, ref), violation(want, truth(want != 0), 0))
	}
	for _, ref := range intSamples() {
		checkFieldCode(t, referring(8, ref), 1, 0, 9*truth(ref != 10 && ref != 20 && ref != 30))
	}
}

func TestReferencesOfOtherKinds(t *testing.T) {
	for k := 1; k <= 7; k++ {
		checkFieldCode(t, referring(k, 0), 1, 0, 0)
		for _, ref := range []int{math.MinInt, -1 << 32, -20, -1, 1, 2, 10, 20, 30, 40, 100, 1 << 32, math.MaxInt} {
			checkFieldCode(t, referring(k, ref), 1, 0, 9)
		}
	}
}

// A reference leads to a message whether or not its Id is valid, or the only one.
func TestReferencesToInvalidMessages(t *testing.T) {
	for _, id := range []int{math.MinInt, -1, 0, 100, math.MaxInt, 7} {
		f := impl.RawField{Number: 1, Kind: 8, Ref: id}
		checkFieldCode(t, description(message(7, f), message(id), message(id)), 0, 0, 0)
		checkFieldCode(t, description(message(id, f)), 0, 0, 0)
	}
	checkFieldCode(t, description(message(0, field(1, 1))), 0, 0, 0)
	checkFieldCode(t, description(message(0, field(1, 8))), 0, 0, 0)
	checkFieldCode(t, description(message(1, field(1, 8))), 0, 0, 9)
}

// More messages than there may be, and messages with more fields than they may have, can be referred to and checked, too.
func TestCodesBeyondTheLimits(t *testing.T) {
	var r impl.Raw
	for i := range 20 {
		r.Msgs = append(r.Msgs, message(i+1, make([]impl.RawField, 20)...))
	}
	for msg := range 20 {
		for at := range 20 {
			checkFieldCode(t, r, msg, at, 5)
			r.Msgs[msg].Fields[at] = impl.RawField{Number: at + 1, Kind: 8, Ref: 20 - at}
			checkFieldCode(t, r, msg, at, 0)
		}
		checkMsgCode(t, r, msg, 4)
		r.Msgs[msg].Fields[19].Number = 1
		checkFieldCode(t, r, msg, 19, 6)
	}
	r.Msgs[19].Id = 1
	checkMsgCode(t, r, 19, 3)
	checkFieldCode(t, r, 3, 0, 9)
	checkFieldCode(t, r, 3, 1, 0)
}

func TestFieldCodeOutsideOfTheFields(t *testing.T) {
	for n := 1; n <= 10; n++ {
		r := description(message(1), message(2, make([]impl.RawField, n)...), message(3, make([]impl.RawField, n+1)...))
		for _, at := range indicesBeyond(n) {
			checkFieldCode(t, r, 1, at, 0)
		}
		for at := range n {
			checkFieldCode(t, r, 1, at, 5)
		}
		for _, msg := range indicesBeyond(3) {
			for _, at := range append(indicesBeyond(n), 0, n-1) {
				checkFieldCode(t, r, msg, at, 0)
			}
		}
		for _, at := range append(indicesBeyond(n), 0, n-1) {
			checkFieldCode(t, r, 0, at, 0)
			checkFieldCode(t, impl.Raw{}, 0, at, 0)
		}
	}
}

func TestSixMsgsAreValid(t *testing.T) {
	for n := range 7 {
		r := impl.Raw{Msgs: sixMsgs().Msgs[:n]}
		checkFirst(t, r, impl.Violation{})
		checkWhole(t, r)
	}
	checkFirst(t, sampleRaw(), impl.Violation{})
	checkFirst(t, impl.Raw{Msgs: []impl.RawMsg{}}, impl.Violation{})
}

// Each fault is reported where it was made, in every message and field.
func TestOneFault(t *testing.T) {
	for msg := range 6 {
		for code, spoil := range msgFaults() {
			if msg == 0 && code == 3 {
				continue
			}
			r := sixMsgs()
			// Fields that refer to no message but their own leave the Id free.
			for i := range r.Msgs {
				r.Msgs[i].Fields[2].Ref = r.Msgs[i].Id * truth(i != msg)
				r.Msgs[i].Fields[2].Kind -= truth(i == msg)
			}
			checkFirst(t, r, impl.Violation{})
			spoil(&r, msg)
			checkFirst(t, r, violation(code, msg, -1))
			checkWhole(t, r)
		}
		for code, spoil := range fieldFaults() {
			for at := truth(code == 6); at < 5; at++ {
				r := sixMsgs()
				spoil(&r.Msgs[msg], at)
				checkFirst(t, r, violation(code, msg, at))
				checkWhole(t, r)
			}
		}
	}
}

// Of two faults in different messages, the one in the earlier message is reported.
func TestMessagesInOrder(t *testing.T) {
	for early, spoilEarly := range faults() {
		for late, spoilLate := range faults() {
			for msg := 1; msg < 5; msg++ {
				r := sixMsgs()
				spoilLate(&r, msg+1)
				checkFirst(t, r, placeOf(late, msg+1))
				spoilEarly(&r, msg)
				checkFirst(t, r, placeOf(early, msg))
				checkWhole(t, r)
			}
		}
	}
}

// A fault of a message is reported before one of its fields.
func TestMessageBeforeItsFields(t *testing.T) {
	for first, spoilMsg := range msgFaults() {
		for code, spoilField := range fieldFaults() {
			for at := truth(code == 6); at < 5; at++ {
				r := sixMsgs()
				spoilField(&r.Msgs[2], at)
				checkFirst(t, r, violation(code, 2, at))
				spoilMsg(&r, 2)
				checkFirst(t, r, violation(first, 2, -1))
				checkFieldCode(t, r, 2, at, code)
				checkWhole(t, r)
			}
		}
	}
}

// A field's fault is reported before the next message's, although messages are named before fields.
func TestFieldsBeforeTheNextMessage(t *testing.T) {
	for code, spoilField := range fieldFaults() {
		for late, spoilMsg := range msgFaults() {
			r := sixMsgs()
			spoilMsg(&r, 4)
			spoilField(&r.Msgs[3], 4)
			checkFirst(t, r, violation(code, 3, 4))
			checkMsgCode(t, r, 4, late)
		}
	}
}

// Of two faults in different fields, the one in the earlier field is reported.
func TestFieldsInOrder(t *testing.T) {
	for early, spoilEarly := range fieldFaults() {
		for late, spoilLate := range fieldFaults() {
			for at := 1; at < 4; at++ {
				r := sixMsgs()
				spoilLate(&r.Msgs[5], at+1)
				checkFirst(t, r, violation(late, 5, at+1))
				spoilEarly(&r.Msgs[5], at)
				checkFirst(t, r, violation(early, 5, at))
				checkWhole(t, r)
			}
		}
	}
}

// faultyMsg has at the index 1 a message to which the chosen ones of the codes 2, 3 and 4 apply.
func faultyMsg(chosen [3]bool) impl.Raw {
	id, other, fields := 2, 1, 8
	if chosen[0] {
		id = 100
	}
	if chosen[1] {
		other = id
	}
	if chosen[2] {
		fields = 9
	}
	return description(message(other), message(id, plainFields(fields)...))
}

func TestCodesOfOneMessageInOrder(t *testing.T) {
	for set := range 8 {
		chosen := [3]bool{set&1 != 0, set&2 != 0, set&4 != 0}
		want := 0
		for code := 4; code >= 2; code-- {
			if chosen[code-2] {
				want = code
			}
		}
		r := faultyMsg(chosen)
		checkMsgCode(t, r, 1, want)
		checkWhole(t, r)
		if chosen[0] && chosen[1] {
			// The Id is as wrong in the earlier message, which is then the first one.
			checkFirst(t, r, violation(2, 0, -1))
		} else if set != 0 {
			checkFirst(t, r, violation(want, 1, -1))
		}
	}
}

// faultyField has at the index 1 a field to which the chosen ones of the codes 5 to 9 apply; two ways to be packed are tried.
func faultyField(chosen [5]bool, repeated bool) impl.Raw {
	f, other := impl.RawField{Number: 2, Kind: 6, Repeated: repeated}, 1
	if chosen[0] {
		f.Number = 19500
	}
	if chosen[1] {
		other = f.Number
	}
	if chosen[2] {
		f.Kind = 9
	}
	f.Packed = chosen[3]
	if chosen[4] {
		f.Ref = 3
	}
	return description(message(3, field(other, 1), f))
}

func TestCodesOfOneFieldInOrder(t *testing.T) {
	for set := range 64 {
		chosen := [5]bool{set&1 != 0, set&2 != 0, set&4 != 0, set&8 != 0, set&16 != 0}
		want := 0
		for code := 9; code >= 5; code-- {
			if chosen[code-5] {
				want = code
			}
		}
		r := faultyField(chosen, set&32 != 0)
		checkFieldCode(t, r, 0, 1, want)
		checkWhole(t, r)
		if chosen[0] && chosen[1] {
			checkFirst(t, r, violation(5, 0, 0))
		} else if want != 0 {
			checkFirst(t, r, violation(want, 0, 1))
		}
	}
}

// A field of kind KdMsg has other ways to be wrong than the one of faultyField.
func TestCodesOfOneReferenceInOrder(t *testing.T) {
	for _, repeated := range []bool{false, true} {
		f := impl.RawField{Number: 2, Kind: 8, Repeated: repeated, Packed: true, Ref: 77}
		checkFieldCode(t, description(message(3, field(1, 1), f)), 0, 1, 8)
		f.Number = 1
		checkFieldCode(t, description(message(3, field(1, 1), f)), 0, 1, 6)
		f.Number = 0
		checkFieldCode(t, description(message(3, field(1, 1), f)), 0, 1, 5)
		f.Number, f.Packed = 2, false
		checkFieldCode(t, description(message(3, field(1, 1), f)), 0, 1, 9)
		f.Ref = 3
		checkFieldCode(t, description(message(3, field(1, 1), f)), 0, 1, 0)
	}
}

// Removing or renaming a message makes the references to it wrong, and these may come before it.
func TestReferencesBeforeTheirMessages(t *testing.T) {
	f := impl.RawField{Number: 1, Kind: 8, Ref: 2}
	checkFirst(t, description(message(1, f), message(2)), impl.Violation{})
	checkFirst(t, description(message(1, f)), violation(9, 0, 0))
	checkFirst(t, description(message(1, f), message(1)), violation(9, 0, 0))
	checkFirst(t, description(message(1, f), message(0)), violation(9, 0, 0))
	checkFirst(t, description(message(1, f), message(2), message(2)), violation(3, 2, -1))
	checkFirst(t, description(message(2), message(1, f)), impl.Violation{})
	checkFirst(t, description(message(0), message(1, f)), violation(2, 0, -1))
	checkFirst(t, description(message(2, f)), impl.Violation{})
}

func TestNumberOfMessages(t *testing.T) {
	for n := range 100 {
		var r impl.Raw
		for i := range n {
			r.Msgs = append(r.Msgs, message(i%99+1))
		}
		want := impl.Violation{}
		if n > 6 {
			want = violation(1, 6, -1)
		}
		checkFirst(t, r, want)
		for msg := range r.Msgs {
			checkMsgCode(t, r, msg, 0)
		}
	}
}

// Too many messages are reported before any other fault, wherever it is.
func TestTooManyMessagesComeFirst(t *testing.T) {
	for more := 1; more <= 3; more++ {
		for code, spoil := range faults() {
			for msg := 1; msg < 6+more; msg++ {
				r := sixMsgs()
				for i := range more {
					m := copied(sixMsgs()).Msgs[5]
					m.Id = 60 + i
					r.Msgs = append(r.Msgs, m)
				}
				spoil(&r, msg)
				checkFirst(t, r, violation(1, 6, -1))
				checkWhole(t, r)
				if msg < 6 {
					checkFirst(t, impl.Raw{Msgs: r.Msgs[:6]}, placeOf(code, msg))
				}
			}
		}
	}
	checkFirst(t, impl.Raw{Msgs: make([]impl.RawMsg, 6)}, violation(2, 0, -1))
	checkFirst(t, impl.Raw{Msgs: make([]impl.RawMsg, 7)}, violation(1, 6, -1))
}

// Every kind, packed or not, in every message and field up to the limits.
func TestLargestDescriptions(t *testing.T) {
	for shift := range 8 {
		var r impl.Raw
		for msg := range 6 {
			m := message(99 - 19*msg)
			for at := range 8 {
				k := (at+shift)%8 + 1
				m.Fields = append(m.Fields, impl.RawField{
					Number: 536870911 - at*msg*40000 - at, Kind: k, Repeated: at > 3 || k < 6, Packed: k < 6, Ref: truth(k == 8) * (99 - 19*((msg+shift)%6)),
				})
			}
			r.Msgs = append(r.Msgs, m)
		}
		checkFirst(t, r, impl.Violation{})
		checkWhole(t, r)
		r.Msgs[5].Fields = append(r.Msgs[5].Fields, field(1, 1))
		checkFirst(t, r, violation(4, 5, -1))
	}
}

func TestHugeDescriptions(t *testing.T) {
	msgs := impl.Raw{Msgs: make([]impl.RawMsg, 100000)}
	for i := range msgs.Msgs {
		msgs.Msgs[i].Id = i + 1
	}
	msgs.Msgs[99999].Id = 99
	if got := impl.FirstViolation(msgs); got != violation(1, 6, -1) || impl.RawOk(msgs) {
		t.Error(got)
	}
	if impl.MsgCode(msgs, 98) != 0 || impl.MsgCode(msgs, 99) != 2 || impl.MsgCode(msgs, 99999) != 3 || impl.MsgCode(msgs, 100000) != 0 {
		t.Error("codes of many messages")
	}
	fields := description(message(1, plainFields(15000)...))
	fields.Msgs[0].Fields[14999] = field(7, 9)
	if got := impl.FirstViolation(fields); got != violation(4, 0, -1) || impl.RawOk(fields) {
		t.Error(got)
	}
	if impl.FieldCode(fields, 0, 14998) != 0 || impl.FieldCode(fields, 0, 14999) != 6 || impl.FieldCode(fields, 0, 15000) != 0 {
		t.Error("codes of many fields")
	}
}

func oneOf(source *rand.Rand, list ...int) int { return list[source.Intn(len(list))] }

// loose makes fields whose parts are chosen independently of each other.
func loose(source *rand.Rand) impl.RawField {
	return impl.RawField{
		Number:   oneOf(source, -1, 0, 1, 2, 3, 4, 5, 6, 18999, 19000, 19999, 20000, 536870911, 536870912),
		Kind:     source.Intn(11) - 1,
		Repeated: source.Intn(2) == 0,
		Packed:   source.Intn(3) == 0,
		Ref:      oneOf(source, 0, 0, 0, 1, 2, 3, 4),
	}
}

// careful makes the field at this index of a valid message.
func careful(source *rand.Rand, at int) impl.RawField {
	f := impl.RawField{Number: 10*at + 1 + source.Intn(10), Kind: source.Intn(8) + 1, Repeated: source.Intn(2) == 0}
	f.Packed = f.Repeated && f.Kind <= 5 && source.Intn(2) == 0
	if f.Kind == 8 {
		f.Ref = 1
	}
	return f
}

// randomDescription is valid but for so many fields and Ids that are replaced by others.
func randomDescription(source *rand.Rand, replaced int) impl.Raw {
	var r impl.Raw
	for msg := range 1 + source.Intn(6) {
		m := message(msg + 1)
		for at := range source.Intn(9) {
			m.Fields = append(m.Fields, careful(source, at))
		}
		r.Msgs = append(r.Msgs, m)
	}
	for range replaced {
		m := &r.Msgs[source.Intn(len(r.Msgs))]
		switch at := source.Intn(10); {
		case at == 9:
			m.Id = oneOf(source, -1, 0, 1, 2, 3, 99, 100)
		case at == 8:
			m.Fields = append(m.Fields, loose(source))
		case at < len(m.Fields):
			m.Fields[at] = loose(source)
		}
	}
	return r
}

func TestRandomDescriptions(t *testing.T) {
	source := rand.New(rand.NewSource(7))
	seen := map[int]int{}
	for i := range 60000 {
		r := randomDescription(source, i%5)
		checkWhole(t, r)
		first := impl.FirstViolation(r)
		seen[first.Code]++
		if i%5 == 0 && first != (impl.Violation{}) {
			t.Errorf("%v is valid, but has %v", r, first)
		}
	}
	for _, code := range []int{0, 2, 3, 4, 5, 6, 7, 8, 9} {
		if seen[code] < 100 {
			t.Errorf("the code %d was first only %d times", code, seen[code])
		}
	}
}

// Here nearly every place is wrong in some way, and there may be too many messages.
func TestRandomFaults(t *testing.T) {
	source := rand.New(rand.NewSource(70))
	for range 20000 {
		var r impl.Raw
		for range source.Intn(9) {
			m := message(oneOf(source, 0, 1, 2, 3, 4, 5, 6, 99, 100))
			for range source.Intn(11) {
				m.Fields = append(m.Fields, loose(source))
			}
			r.Msgs = append(r.Msgs, m)
		}
		checkWhole(t, r)
	}
}

// The results of each description are the same whichever were checked before it.
func TestEarlierChecksDoNotMatter(t *testing.T) {
	var list []impl.Raw
	for _, spoil := range faults() {
		r := sixMsgs()
		spoil(&r, 3)
		list = append(list, r, sixMsgs(), impl.Raw{}, impl.Raw{Msgs: make([]impl.RawMsg, 7)})
	}
	for _, a := range list {
		for _, b := range list {
			checkFirst(t, a, least(a))
			checkFirst(t, b, least(b))
		}
	}
}

func TestCheckingChangesNothing(t *testing.T) {
	list := append(changedRaws(), reordered()...)
	for _, spoil := range faults() {
		r := sixMsgs()
		spoil(&r, 2)
		list = append(list, r)
	}
	list = append(list, sixMsgs(), impl.Raw{Msgs: make([]impl.RawMsg, 9)})
	for _, r := range list {
		spare := roomy(r)
		was, lengths := wholly(spare), plain(spare)
		checkWhole(t, spare)
		if !reflect.DeepEqual(wholly(spare), was) || !slices.Equal(plain(spare), lengths) {
			t.Errorf("%v was changed to %v", was, wholly(spare))
		}
	}
}

// The unused capacity of roomy has messages with the Ids 77 and 78 and fields with these numbers.
func TestWhatIsBeyondTheLengthsDoesNotCount(t *testing.T) {
	r := sixMsgs()
	r.Msgs = r.Msgs[:4]
	r.Msgs[1].Fields[4] = field(77, 1)
	r.Msgs[2].Id = 77
	checkFirst(t, roomy(r), impl.Violation{})
	for _, ref := range []int{77, 78} {
		last := sixMsgs()
		last.Msgs[5].Fields[2].Ref = ref
		checkFirst(t, roomy(last), violation(9, 5, 2))
		checkFieldCode(t, roomy(last), 5, 2, 9)
	}
	for _, at := range []int{5, 6} {
		checkFieldCode(t, roomy(sixMsgs()), 0, at, 0)
	}
	for _, msg := range []int{6, 7} {
		spare := roomy(description(sixMsgs().Msgs...))
		spare.Msgs[:cap(spare.Msgs)][msg].Id = 0
		checkMsgCode(t, spare, msg, 0)
		checkFieldCode(t, spare, msg, 0, 0)
		checkFirst(t, spare, impl.Violation{})
	}
	eight := roomy(description(message(1, plainFields(8)...)))
	checkFirst(t, eight, impl.Violation{})
}

func indexSamples() []int {
	return []int{math.MinInt, -12, -1, 0, 1, 2, 12, 112, 121, 211, 999999999, 1000000000, math.MaxInt}
}

func TestViolationText(t *testing.T) {
	for v, want := range map[impl.Violation]string{
		{}:                                           "ok",
		violation(1, 6, -1):                          "msgs 6 -1",
		violation(2, 0, -1):                          "id 0 -1",
		violation(3, 1, -1):                          "twice 1 -1",
		violation(4, 5, -1):                          "fields 5 -1",
		violation(5, 0, 0):                           "number 0 0",
		violation(6, 0, 1):                           "same 0 1",
		violation(7, 2, 7):                           "kind 2 7",
		violation(8, 12, 12):                         "packed 12 12",
		violation(9, 0, 2):                           "ref 0 2",
		violation(10, 0, 2):                          "? 0 2",
		violation(-1, 0, -1):                         "? 0 -1",
		violation(9, math.MinInt, math.MaxInt):       "ref -9223372036854775808 9223372036854775807",
		violation(math.MaxInt, math.MaxInt, 0):       "? 9223372036854775807 0",
		violation(math.MinInt, -1, math.MinInt):      "? -1 -9223372036854775808",
		violation(0, 12, 3):                          "ok",
		violation(0, -1, 0):                          "ok",
		violation(0, 0, -1):                          "ok",
		violation(0, math.MinInt, math.MaxInt):       "ok",
		violation(1<<8, 1, 2):                        "? 1 2",
		violation(1<<32, 1, 2):                       "? 1 2",
		violation(1<<32+9, 1, 2):                     "? 1 2",
		violation(-9, 1, 2):                          "? 1 2",
		violation(math.MinInt+1, math.MaxInt, -1000): "? 9223372036854775807 -1000",
	} {
		checkText(t, v, want)
	}
}

func TestViolationTextOfEveryCode(t *testing.T) {
	words := map[int]string{
		1: "msgs", 2: "id", 3: "twice", 4: "fields", 5: "number", 6: "same", 7: "kind", 8: "packed", 9: "ref",
		-1: "?", 10: "?", 11: "?", math.MaxInt: "?", math.MinInt: "?",
	}
	for _, msg := range indexSamples() {
		for _, at := range indexSamples() {
			checkText(t, violation(0, msg, at), "ok")
			for code, word := range words {
				checkText(t, violation(code, msg, at), word+" "+strconv.Itoa(msg)+" "+strconv.Itoa(at))
			}
		}
	}
	for _, code := range intSamples() {
		if words[code] == "" && code != 0 {
			checkText(t, violation(code, 3, 4), "? 3 4")
		}
	}
}

func TestDifferentViolationsHaveDifferentTexts(t *testing.T) {
	indices := indexSamples()
	for i := range 130 {
		indices = append(indices, i+3)
	}
	texts := map[string]impl.Violation{}
	for code := 1; code <= 9; code++ {
		for _, msg := range indices {
			for _, at := range indices {
				v := violation(code, msg, at)
				text := impl.ViolationText(v)
				if other, seen := texts[text]; seen && other != v || text == "ok" {
					t.Errorf("ViolationText(%v) = %q, as is that of %v", v, text, other)
				}
				texts[text] = v
			}
		}
	}
}

// The text of a description's first violation tells whether it is valid.
func TestTextsOfFirstViolations(t *testing.T) {
	source := rand.New(rand.NewSource(77))
	for i := range 5000 {
		r := randomDescription(source, i%4)
		if got := impl.ViolationText(impl.FirstViolation(r)) == "ok"; got != impl.RawOk(r) {
			t.Errorf("the violation of %v is ok: %v", r, got)
		}
	}
}
