package tests

import (
	"cmp"
	"math"
	"math/rand"
	"reflect"
	"slices"
	"testing"

	"loop.example/g00498/impl"
)

func compiledField(number int, kind int) impl.Field {
	return impl.Field{Number: number, Kind: kind, Msg: -1}
}

// reference is a field whose values are messages of the shape with this index.
func reference(number int, msg int) impl.Field {
	return impl.Field{Number: number, Kind: 8, Msg: msg}
}

func shape(id int, fields ...impl.Field) impl.Shape { return impl.Shape{Id: id, Fields: fields} }

func schema(shapes ...impl.Shape) impl.Schema { return impl.Schema{Shapes: shapes} }

// sampleSchema is what sampleRaw compiles to. It has three shapes of three fields each, no two of which are the same.
func sampleSchema() impl.Schema {
	return schema(
		shape(1, compiledField(1, 1), compiledField(2, 6), reference(3, 1)),
		shape(2, impl.Field{Number: 1, Kind: 3, Repeated: true, Msg: -1}, compiledField(7, 7), compiledField(9, 4)),
		shape(5, compiledField(4, 5), impl.Field{Number: 5, Kind: 2, Repeated: true, Packed: true, Msg: -1}, compiledField(6, 2)),
	)
}

// sixShapes is valid, with five fields in each shape, one of which refers to the next shape or to the first.
func sixShapes() impl.Schema {
	var s impl.Schema
	for i := range 6 {
		s.Shapes = append(s.Shapes, shape(10+10*i,
			compiledField(1, 6),
			impl.Field{Number: 16, Kind: 4, Repeated: true, Packed: true, Msg: -1},
			impl.Field{Number: 18999, Kind: 8, Repeated: i%2 == 0, Msg: (i + 1) % 6},
			impl.Field{Number: 20000, Kind: 7, Repeated: true, Msg: -1},
			compiledField(536870911, 3),
		))
	}
	return s
}

// plainCompiled are so many valid fields, which are those of plainFields compiled.
func plainCompiled(n int) []impl.Field {
	var list []impl.Field
	for i := range n {
		list = append(list, compiledField(i+1, 1))
	}
	return list
}

// schemaNumbers writes a schema as numbers, with the lengths, so that equal numbers mean equal schemas.
func schemaNumbers(s impl.Schema) []int {
	list := []int{len(s.Shapes)}
	for _, one := range s.Shapes {
		list = append(list, one.Id, len(one.Fields))
		for _, f := range one.Fields {
			list = append(list, f.Number, f.Kind, truth(f.Repeated), truth(f.Packed), f.Msg)
		}
	}
	return list
}

// schemaCopy shares no memory with s and has no unused capacity.
func schemaCopy(s impl.Schema) impl.Schema {
	shapes := make([]impl.Shape, len(s.Shapes))
	for i, one := range s.Shapes {
		shapes[i] = shape(one.Id, slices.Clip(slices.Clone(one.Fields))...)
	}
	return impl.Schema{Shapes: shapes}
}

// smallerIds is the number of the Ids that are smaller, which is the place of this one among them.
func smallerIds(r impl.Raw, id int) int {
	n := 0
	for _, m := range r.Msgs {
		n += truth(m.Id < id)
	}
	return n
}

func smallerNumbers(m impl.RawMsg, number int) int {
	n := 0
	for _, f := range m.Fields {
		n += truth(f.Number < number)
	}
	return n
}

// laidOut is the schema of a valid description. Unlike the program, it sorts nothing, but counts what comes before.
func laidOut(r impl.Raw) impl.Schema {
	s := impl.Schema{Shapes: make([]impl.Shape, len(r.Msgs))}
	for _, m := range r.Msgs {
		fields := make([]impl.Field, len(m.Fields))
		for _, f := range m.Fields {
			msg := -1
			if f.Kind == 8 {
				msg = smallerIds(r, f.Ref)
			}
			fields[smallerNumbers(m, f.Number)] = impl.Field{
				Number: f.Number, Kind: f.Kind, Repeated: f.Repeated, Packed: f.Packed, Msg: msg,
			}
		}
		s.Shapes[smallerIds(r, m.Id)] = shape(m.Id, fields...)
	}
	return s
}

// described is the description of a valid schema.
func described(s impl.Schema) impl.Raw {
	var r impl.Raw
	for _, one := range s.Shapes {
		m := message(one.Id)
		for _, f := range one.Fields {
			ref := 0
			if f.Msg >= 0 {
				ref = s.Shapes[f.Msg].Id
			}
			m.Fields = append(m.Fields, impl.RawField{
				Number: f.Number, Kind: f.Kind, Repeated: f.Repeated, Packed: f.Packed, Ref: ref,
			})
		}
		r.Msgs = append(r.Msgs, m)
	}
	return r
}

// fieldFault tells what is wrong with a field of a schema with so many shapes.
func fieldFault(f impl.Field, shapes int) string {
	row := rowOf(f.Kind)
	switch {
	case f.Number <= 0 || f.Number >= 536870912 || f.Number/1000 == 19:
		return "number"
	case row.word == "":
		return "kind"
	case f.Packed && !f.Repeated || f.Packed && row.bits == 0:
		return "packed"
	case row.word == "msg" && (f.Msg < 0 || f.Msg >= shapes), row.word != "msg" && f.Msg != -1:
		return "msg"
	}
	return ""
}

// schemaFaults tells everything that is wrong with a schema.
func schemaFaults(s impl.Schema) []string {
	var list []string
	note := func(wrong bool, what string) {
		if wrong {
			list = append(list, what)
		}
	}
	note(len(s.Shapes) >= 7, "shapes")
	for i, one := range s.Shapes {
		note(one.Id <= 0 || one.Id >= 100, "id")
		note(len(one.Fields) >= 9, "fields")
		for _, earlier := range s.Shapes[:i] {
			note(earlier.Id >= one.Id, "order of shapes")
		}
		for j, f := range one.Fields {
			what := fieldFault(f, len(s.Shapes))
			note(what != "", what)
			for _, earlier := range one.Fields[:j] {
				note(earlier.Number >= f.Number, "order of fields")
			}
		}
	}
	return list
}

func checkSameSchema(t *testing.T, a impl.Schema, b impl.Schema, want bool) {
	t.Helper()
	if got := impl.SameSchema(a, b); got != want {
		t.Errorf("SameSchema(%v, %v) = %v", a, b, got)
	}
	if got := impl.SameSchema(b, a); got != want {
		t.Errorf("SameSchema(%v, %v) = %v", b, a, got)
	}
}

// checkCompile compares the result with the numbers of the schema wanted, because SameSchema is under test, too.
func checkCompile(t *testing.T, r impl.Raw, want impl.Schema, v impl.Violation) {
	t.Helper()
	got, found := impl.Compile(r)
	if !slices.Equal(schemaNumbers(got), schemaNumbers(want)) || found != v {
		t.Errorf("Compile(%v) = %v, %v, not %v, %v", r, got, found, want, v)
	}
}

// checkSchema also checks the description of s: that of a valid schema compiles to s, and that of an invalid one is empty.
func checkSchema(t *testing.T, s impl.Schema, want bool) {
	t.Helper()
	if got := impl.SchemaOk(s); got != want {
		t.Errorf("SchemaOk(%v) = %v", s, got)
	}
	r := impl.RawFrom(s)
	if !want {
		if len(r.Msgs) != 0 {
			t.Errorf("RawFrom(%v) = %v", s, r)
		}
		return
	}
	if !slices.Equal(plain(r), plain(described(s))) {
		t.Errorf("RawFrom(%v) = %v", s, r)
	}
	checkFirst(t, r, impl.Violation{})
	checkCompile(t, r, s, impl.Violation{})
	if again, _ := impl.Compile(r); !impl.SameSchema(again, s) {
		t.Errorf("%v is not the same as %v", again, s)
	}
}

// checkCompiled checks what is said of r: its schema if it is valid, and otherwise only the first violation.
func checkCompiled(t *testing.T, r impl.Raw) {
	t.Helper()
	first := least(r)
	if first != (impl.Violation{}) {
		checkCompile(t, r, impl.Schema{}, first)
		return
	}
	want := laidOut(r)
	checkCompile(t, r, want, impl.Violation{})
	got, _ := impl.Compile(r)
	checkSchema(t, got, true)
	checkSameSchema(t, got, want, true)
}

func TestNumberOfShapes(t *testing.T) {
	checkSchema(t, impl.Schema{}, true)
	checkSchema(t, impl.Schema{Shapes: []impl.Shape{}}, true)
	for n := range 120 {
		var s impl.Schema
		for i := range n {
			s.Shapes = append(s.Shapes, shape(i+1))
		}
		checkSchema(t, s, n <= 6)
	}
	for n := range 7 {
		s := impl.Schema{Shapes: sixShapes().Shapes[:n]}
		for i := range n {
			s.Shapes[i].Fields[2].Msg = i
		}
		checkSchema(t, s, true)
	}
	seven := sixShapes()
	seven.Shapes = append(seven.Shapes, shape(70))
	checkSchema(t, seven, false)
}

func TestIdsOfShapes(t *testing.T) {
	for id, want := range map[int]bool{
		math.MinInt: false, -99: false, -1: false, 0: false, 1: true, 2: true, 50: true, 98: true, 99: true, 100: false, 101: false,
		1<<8 + 1: false, 1<<32 + 1: false, math.MaxInt: false,
	} {
		checkSchema(t, schema(shape(id)), want)
		checkSchema(t, schema(shape(id, plainCompiled(3)...)), want)
		// The Id is not the first, nor the only one.
		checkSchema(t, schema(shape(1), shape(id), shape(99)), want && id != 1 && id != 99)
	}
	for _, id := range intSamples() {
		checkSchema(t, schema(shape(id)), id >= 1 && id <= 99)
		checkSchema(t, schema(shape(3), shape(id)), id >= 4 && id <= 99)
		checkSchema(t, schema(shape(id), shape(97)), id >= 1 && id <= 96)
	}
}

func TestOrderOfShapes(t *testing.T) {
	for ids, want := range map[[4]int]bool{
		{1, 2, 3, 4}:    true,
		{5, 50, 98, 99}: true,
		{4, 3, 2, 1}:    false,
		{2, 1, 3, 4}:    false,
		{1, 3, 2, 4}:    false,
		{1, 2, 4, 3}:    false,
		{4, 1, 2, 3}:    false,
		{2, 3, 4, 1}:    false,
		{1, 1, 2, 3}:    false,
		{1, 2, 2, 3}:    false,
		{1, 2, 3, 3}:    false,
		{5, 5, 5, 5}:    false,
		{1, 2, 1, 2}:    false,
		{99, 1, 2, 3}:   false,
		{0, 1, 2, 3}:    false,
		{97, 98, 99, 1}: false,
	} {
		checkSchema(t, schema(shape(ids[0]), shape(ids[1], compiledField(1, 1)), shape(ids[2]), shape(ids[3])), want)
	}
	for at := range 5 {
		swapped, equal := sixShapes(), sixShapes()
		swapped.Shapes[at], swapped.Shapes[at+1] = swapped.Shapes[at+1], swapped.Shapes[at]
		equal.Shapes[at+1].Id = equal.Shapes[at].Id
		checkSchema(t, swapped, false)
		checkSchema(t, equal, false)
	}
}

func TestNumberOfFieldsOfAShape(t *testing.T) {
	for n := range 40 {
		checkSchema(t, schema(shape(1, plainCompiled(n)...)), n <= 8)
		for at := range 6 {
			s := sixShapes()
			s.Shapes[at].Fields = plainCompiled(n)
			checkSchema(t, s, n <= 8)
		}
	}
}

func TestOrderOfFields(t *testing.T) {
	for numbers, want := range map[[4]int]bool{
		{1, 2, 3, 4}:                            true,
		{18998, 18999, 20000, 20001}:            true,
		{1, 300, 536870910, 536870911}:          true,
		{4, 3, 2, 1}:                            false,
		{2, 1, 3, 4}:                            false,
		{1, 3, 2, 4}:                            false,
		{1, 2, 4, 3}:                            false,
		{4, 1, 2, 3}:                            false,
		{2, 3, 4, 1}:                            false,
		{1, 1, 2, 3}:                            false,
		{1, 2, 2, 3}:                            false,
		{1, 2, 3, 3}:                            false,
		{5, 5, 5, 5}:                            false,
		{536870911, 1, 2, 3}:                    false,
		{0, 1, 2, 3}:                            false,
		{1, 2, 3, 536870912}:                    false,
		{18999, 19000, 20000, 20001}:            false,
		{1, 2, 1, 2}:                            false,
		{20000, 18999, 536870911, 536870911}:    false,
		{536870910, 536870911, 1, 2}:            false,
		{math.MinInt, -1, 1, 2}:                 false,
		{536870910, 536870911, math.MaxInt, -1}: false,
	} {
		fields := []impl.Field{
			compiledField(numbers[0], 6), compiledField(numbers[1], 1), compiledField(numbers[2], 3), compiledField(numbers[3], 7),
		}
		checkSchema(t, schema(shape(2, fields...)), want)
		checkSchema(t, schema(shape(2), shape(3, fields...), shape(4, compiledField(1, 1))), want)
	}
	// The numbers of another shape do not matter.
	checkSchema(t, schema(shape(1, compiledField(8, 1)), shape(2, compiledField(8, 1)), shape(3, compiledField(5, 1))), true)
	for at := range 6 {
		for i := range 4 {
			swapped, equal := sixShapes(), sixShapes()
			fields := swapped.Shapes[at].Fields
			fields[i], fields[i+1] = fields[i+1], fields[i]
			equal.Shapes[at].Fields[i+1].Number = equal.Shapes[at].Fields[i].Number
			checkSchema(t, swapped, false)
			checkSchema(t, equal, false)
		}
	}
}

func TestNumbersOfCompiledFields(t *testing.T) {
	for n, want := range map[int]bool{
		math.MinInt: false, -536870911: false, -1: false, 0: false, 1: true, 2: true, 15: true, 16: true, 18999: true,
		19000: false, 19001: false, 19500: false, 19999: false, 20000: true, 536870910: true, 536870911: true, 536870912: false,
		1 << 32: false, 1<<32 + 1: false, math.MaxInt: false,
	} {
		checkSchema(t, schema(shape(1, compiledField(n, 1))), want)
		checkSchema(t, schema(shape(1), shape(2, compiledField(1, 1), compiledField(n, 1))), want && n != 1)
		checkSchema(t, schema(shape(1, compiledField(n, 1), compiledField(536870911, 1)), shape(2)), want && n != 536870911)
	}
	for _, n := range numberSamples() {
		checkSchema(t, schema(shape(1, compiledField(n, 1))), n >= 1 && n <= 18999 || n >= 20000 && n <= 536870911)
	}
}

func TestKindsOfCompiledFields(t *testing.T) {
	for _, k := range manyKinds() {
		want := k >= 1 && k <= 8
		f := impl.Field{Number: 1, Kind: k, Msg: truth(k == 8) - 1}
		checkSchema(t, schema(shape(4, f)), want)
		f.Repeated = true
		checkSchema(t, schema(shape(4, f)), want)
		// No Msg makes up for an invalid kind.
		f.Msg = -truth(k == 8)
		checkSchema(t, schema(shape(4, f)), false)
	}
	for at := range 6 {
		for i := range 5 {
			for k := 0; k <= 9; k++ {
				s := sixShapes()
				s.Shapes[at].Fields[i].Kind = k
				s.Shapes[at].Fields[i].Packed = false
				s.Shapes[at].Fields[i].Msg = truth(k == 8) - 1
				checkSchema(t, s, k >= 1 && k <= 8)
			}
		}
	}
}

func TestPackedCompiledFields(t *testing.T) {
	for k := 0; k <= 9; k++ {
		for set := range 4 {
			f := impl.Field{Number: 7, Kind: k, Repeated: set&1 != 0, Packed: set&2 != 0, Msg: truth(k == 8) - 1}
			want := k >= 1 && k <= 8 && (!f.Packed || f.Repeated && k <= 5)
			checkSchema(t, schema(shape(4, f)), want)
			checkSchema(t, schema(shape(1), shape(4, compiledField(6, 1), f, compiledField(8, 6))), want)
		}
	}
}

// pointing has n shapes. A field in the middle of the one at this index has this kind and this Msg.
func pointing(n int, at int, kind int, msg int) impl.Schema {
	var s impl.Schema
	for i := range n {
		s.Shapes = append(s.Shapes, shape(7*i+1, compiledField(3, 1)))
	}
	s.Shapes[at].Fields = append(s.Shapes[at].Fields, impl.Field{Number: 4, Kind: kind, Msg: msg}, compiledField(5, 6))
	return s
}

func TestShapesOfReferences(t *testing.T) {
	for n := 1; n <= 6; n++ {
		for at := range n {
			for _, msg := range append(indicesBeyond(n), indicesBeyond(6)...) {
				checkSchema(t, pointing(n, at, 8, msg), msg >= 0 && msg < n)
			}
			for msg := range n {
				checkSchema(t, pointing(n, at, 8, msg), true)
			}
			checkSchema(t, pointing(n, at, 8, n), false)
		}
	}
}

func TestOtherKindsHaveNoShape(t *testing.T) {
	for k := 1; k <= 7; k++ {
		for at := range 3 {
			checkSchema(t, pointing(3, at, k, -1), true)
			for _, msg := range []int{math.MinInt, -1 << 32, -4, -3, -2, 0, 1, 2, 3, 4, 1 << 32, 1<<32 - 1, math.MaxInt} {
				checkSchema(t, pointing(3, at, k, msg), false)
			}
		}
	}
}

// fieldSpoils each make any field of sixShapes invalid.
func fieldSpoils() []func(f *impl.Field) {
	return []func(f *impl.Field){
		func(f *impl.Field) { f.Number = 0 },
		func(f *impl.Field) { f.Number = -f.Number },
		func(f *impl.Field) { f.Number = 19000 },
		func(f *impl.Field) { f.Number = 536870912 },
		func(f *impl.Field) { f.Kind = 0 },
		func(f *impl.Field) { f.Kind = 9 },
		func(f *impl.Field) { f.Kind = -1 },
		func(f *impl.Field) { f.Repeated, f.Packed = false, true },
		func(f *impl.Field) { f.Kind, f.Msg, f.Repeated, f.Packed = 8, 0, true, true },
		func(f *impl.Field) { f.Kind, f.Msg = 8, -1 },
		func(f *impl.Field) { f.Kind, f.Msg = 8, 6 },
		func(f *impl.Field) { f.Kind, f.Msg, f.Packed = 1, 0, false },
		func(f *impl.Field) { f.Kind, f.Msg, f.Packed = 7, 5, false },
		func(f *impl.Field) { f.Msg = -2 },
		func(f *impl.Field) { f.Msg = 6 },
	}
}

// Each fault makes the schema invalid in every shape and field.
func TestOneFaultOfASchema(t *testing.T) {
	checkSchema(t, sixShapes(), true)
	checkSchema(t, sampleSchema(), true)
	for at := range 6 {
		for _, id := range []int{-1, 0, 100} {
			s := sixShapes()
			s.Shapes[at].Id = id
			checkSchema(t, s, false)
		}
		for i := range 5 {
			for _, spoil := range fieldSpoils() {
				s := sixShapes()
				spoil(&s.Shapes[at].Fields[i])
				checkSchema(t, s, false)
			}
		}
	}
}

func TestHugeSchemas(t *testing.T) {
	many := impl.Schema{Shapes: make([]impl.Shape, 100000)}
	for i := range many.Shapes {
		many.Shapes[i].Id = i + 1
	}
	checkSchema(t, many, false)
	checkSchema(t, schema(shape(1, plainCompiled(18999)...)), false)
	if impl.ShapeAt(many, 100000) != 99999 || impl.ShapeAt(many, 100001) != -1 {
		t.Error("the last of many shapes")
	}
	checkSameSchema(t, many, schemaCopy(many), true)
	if _, ok := impl.FieldAt(schema(shape(1, plainCompiled(18999)...)), 0, 18999); !ok {
		t.Error("the last of many fields")
	}
}

func TestCompileWithoutMessages(t *testing.T) {
	checkCompile(t, impl.Raw{}, impl.Schema{}, impl.Violation{})
	checkCompile(t, impl.Raw{Msgs: []impl.RawMsg{}}, impl.Schema{}, impl.Violation{})
	checkCompiled(t, impl.Raw{})
}

func TestCompileMessagesWithoutFields(t *testing.T) {
	checkCompile(t, description(message(7)), schema(shape(7)), impl.Violation{})
	checkCompile(t, description(impl.RawMsg{Id: 7, Fields: []impl.RawField{}}), schema(shape(7)), impl.Violation{})
	checkCompile(t, description(message(7), message(3)), schema(shape(3), shape(7)), impl.Violation{})
	one := impl.RawField{Number: 4, Kind: 8, Ref: 7}
	checkCompile(t, description(message(7), message(3, one)), schema(shape(3, reference(4, 1)), shape(7)), impl.Violation{})
	checkCompile(t, description(message(99), message(1)), schema(shape(1), shape(99)), impl.Violation{})
}

// The index is that of the shape, and neither the Id nor the index of the message.
func TestReferencesBecomeIndices(t *testing.T) {
	field := func(number int, ref int) impl.RawField { return impl.RawField{Number: number, Kind: 8, Ref: ref} }
	checkCompile(t, description(message(40, field(1, 40))), schema(shape(40, reference(1, 0))), impl.Violation{})
	all := []impl.RawField{field(1, 60), field(2, 20), field(3, 40)}
	compiled := []impl.Field{reference(1, 2), reference(2, 0), reference(3, 1)}
	for _, order := range orders() {
		ids := []int{20, 40, 60}
		r := description(message(ids[order[0]], all...), message(ids[order[1]], all...), message(ids[order[2]], all...))
		checkCompile(t, r, schema(shape(20, compiled...), shape(40, compiled...), shape(60, compiled...)), impl.Violation{})
		checkCompiled(t, r)
	}
}

// Every message refers to every other and to itself, in every order of the six.
func TestReferencesInEveryOrder(t *testing.T) {
	ids := []int{1, 2, 5, 50, 98, 99}
	var m impl.RawMsg
	for i, id := range ids {
		m.Fields = append(m.Fields, impl.RawField{Number: 6 - i, Kind: 8, Repeated: i%2 == 0, Ref: id})
	}
	eachOrder(ids, func(order []int) {
		var r impl.Raw
		for _, id := range order {
			r.Msgs = append(r.Msgs, message(id, m.Fields...))
		}
		checkCompile(t, r, laidOut(r), impl.Violation{})
	})
}

// eachOrder visits all orders of the list.
func eachOrder(list []int, visit func(order []int)) {
	if len(list) == 0 {
		visit(nil)
	}
	for at := range list {
		rest := slices.Delete(slices.Clone(list), at, at+1)
		eachOrder(rest, func(order []int) { visit(append([]int{list[at]}, order...)) })
	}
}

func TestNumbersInEveryOrder(t *testing.T) {
	numbers := []int{1, 2, 300, 18999, 20000, 536870911}
	eachOrder(numbers, func(order []int) {
		m, want := message(7), shape(7)
		for _, n := range order {
			m.Fields = append(m.Fields, field(n, n%7+1))
		}
		for _, n := range numbers {
			want.Fields = append(want.Fields, compiledField(n, n%7+1))
		}
		checkCompile(t, description(m), schema(want), impl.Violation{})
	})
}

// The sample has other messages and fields at every place, and a reference.
func TestCompileInEveryOrderOfThree(t *testing.T) {
	checkCompile(t, sampleRaw(), sampleSchema(), impl.Violation{})
	for _, r := range reordered() {
		checkCompile(t, r, sampleSchema(), impl.Violation{})
		checkCompiled(t, r)
	}
	for _, msgs := range orders() {
		for _, fields := range orders() {
			var r impl.Raw
			for _, from := range msgs {
				m := sampleRaw().Msgs[from]
				r.Msgs = append(r.Msgs, message(m.Id, m.Fields[fields[0]], m.Fields[fields[1]], m.Fields[fields[2]]))
			}
			checkCompile(t, r, sampleSchema(), impl.Violation{})
		}
	}
}

// Every part of a field is kept for every kind.
func TestPartsOfFieldsAreKept(t *testing.T) {
	for k := 1; k <= 8; k++ {
		for set := range 4 {
			f := impl.RawField{Number: 9, Kind: k, Repeated: set&1 != 0, Packed: set&2 != 0, Ref: 30 * truth(k == 8)}
			g := impl.Field{Number: 9, Kind: k, Repeated: f.Repeated, Packed: f.Packed, Msg: 3*truth(k == 8) - 1}
			r := description(message(30, field(1, 1)), message(20, f), message(10))
			if f.Packed && (!f.Repeated || k > 5) {
				checkCompile(t, r, impl.Schema{}, violation(8, 1, 0))
				continue
			}
			// The Id 30 is the largest, so the shape referred to is the last one.
			checkCompile(t, r, schema(shape(10), shape(20, g), shape(30, compiledField(1, 1))), impl.Violation{})
		}
	}
}

// The limits of Ids, of Numbers and of how many there are.
func TestCompileAtTheLimits(t *testing.T) {
	checkCompiled(t, sixMsgs())
	for _, id := range []int{0, 1, 99, 100} {
		checkCompiled(t, description(message(50), message(id, field(1, 1))))
	}
	for _, n := range numberSamples() {
		checkCompiled(t, description(message(1, field(n, 1), field(7, 1))))
	}
	for n := range 12 {
		checkCompiled(t, description(message(2), message(1, plainFields(n)...)))
		var r impl.Raw
		for i := range n {
			r.Msgs = append(r.Msgs, message(90-i, plainFields(8)...))
		}
		checkCompiled(t, r)
	}
}

func TestInvalidDescriptionsHaveNoSchema(t *testing.T) {
	for code, spoil := range faults() {
		for msg := truth(code == 3); msg < 6; msg++ {
			r := sixMsgs()
			spoil(&r, msg)
			checkCompiled(t, r)
			if s, v := impl.Compile(r); v.Code == 0 || v != impl.FirstViolation(r) || len(s.Shapes) != 0 {
				t.Errorf("Compile(%v) = %v, %v", r, s, v)
			}
		}
	}
	checkCompile(t, impl.Raw{Msgs: make([]impl.RawMsg, 7)}, impl.Schema{}, violation(1, 6, -1))
	checkCompile(t, description(message(1), message(0)), impl.Schema{}, violation(2, 1, -1))
	checkCompile(t, description(message(1), message(1)), impl.Schema{}, violation(3, 1, -1))
	checkCompile(t, description(message(1, plainFields(9)...)), impl.Schema{}, violation(4, 0, -1))
	checkCompile(t, description(message(1, impl.RawField{Number: 1, Kind: 8, Ref: 2})), impl.Schema{}, violation(9, 0, 0))
}

func TestCompileRandomDescriptions(t *testing.T) {
	source := rand.New(rand.NewSource(8))
	valid := 0
	for i := range 20000 {
		r := randomDescription(source, i%5)
		checkCompiled(t, r)
		valid += truth(impl.RawOk(r))
	}
	if valid < 5000 || valid > 15000 {
		t.Errorf("%d descriptions were valid", valid)
	}
}

// randomValid has any Ids and Numbers, in any order, and references to any message.
func randomValid(source *rand.Rand) impl.Raw {
	ids := source.Perm(99)[:source.Intn(7)]
	var r impl.Raw
	for _, id := range ids {
		m := message(id + 1)
		first := oneOf(source, 1, 2, 100, 18990, 20000, 536870902)
		for _, at := range source.Perm(10)[:source.Intn(9)] {
			f := careful(source, 0)
			f.Number = first + at
			if f.Kind == 8 {
				f.Ref = ids[source.Intn(len(ids))] + 1
			}
			m.Fields = append(m.Fields, f)
		}
		r.Msgs = append(r.Msgs, m)
	}
	return r
}

// shuffled is the same description in another order.
func shuffled(source *rand.Rand, r impl.Raw) impl.Raw {
	other := copied(r)
	source.Shuffle(len(other.Msgs), func(i int, j int) { other.Msgs[i], other.Msgs[j] = other.Msgs[j], other.Msgs[i] })
	for _, m := range other.Msgs {
		source.Shuffle(len(m.Fields), func(i int, j int) { m.Fields[i], m.Fields[j] = m.Fields[j], m.Fields[i] })
	}
	return other
}

// sorted is the same description in the order of its Ids and Numbers.
func sorted(r impl.Raw) impl.Raw {
	other := copied(r)
	slices.SortFunc(other.Msgs, func(a impl.RawMsg, b impl.RawMsg) int { return cmp.Compare(a.Id, b.Id) })
	for _, m := range other.Msgs {
		slices.SortFunc(m.Fields, func(a impl.RawField, b impl.RawField) int { return cmp.Compare(a.Number, b.Number) })
	}
	return other
}

func TestOrderOfTheDescriptionDoesNotMatter(t *testing.T) {
	source := rand.New(rand.NewSource(88))
	for range 5000 {
		r := randomValid(source)
		checkCompiled(t, r)
		s, _ := impl.Compile(r)
		for range 3 {
			checkCompile(t, shuffled(source, r), s, impl.Violation{})
		}
		if got := impl.RawFrom(s); !slices.Equal(plain(got), plain(sorted(r))) || !impl.SameRaw(got, sorted(r)) {
			t.Errorf("%v is %v again", r, got)
		}
	}
}

// Different descriptions, but for their order, have different schemas.
func TestNothingIsLost(t *testing.T) {
	list := []impl.Raw{sampleRaw()}
	for _, r := range changedRaws() {
		if impl.RawOk(r) {
			list = append(list, r)
		}
	}
	if len(list) < 20 {
		t.Errorf("only %d descriptions are valid", len(list))
	}
	for _, a := range list {
		for _, b := range list {
			x, _ := impl.Compile(a)
			y, _ := impl.Compile(b)
			checkSameSchema(t, x, y, slices.Equal(plain(sorted(a)), plain(sorted(b))))
		}
	}
}

// A map is visited in another order each time.
func TestCompileIsTheSameEachTime(t *testing.T) {
	r := sixMsgs()
	slices.Reverse(r.Msgs)
	want := laidOut(r)
	for range 1000 {
		checkCompile(t, r, want, impl.Violation{})
		checkCompile(t, impl.Raw{}, impl.Schema{}, impl.Violation{})
		checkCompile(t, sampleRaw(), sampleSchema(), impl.Violation{})
	}
}

// randomSchema is valid but for so many parts that are replaced by others.
func randomSchema(source *rand.Rand, replaced int) impl.Schema {
	s := laidOut(randomValid(source))
	for range replaced {
		if len(s.Shapes) == 0 {
			return schema(shape(source.Intn(3)), shape(source.Intn(3)))
		}
		one := &s.Shapes[source.Intn(len(s.Shapes))]
		at := source.Intn(9)
		if at >= len(one.Fields) {
			one.Id = oneOf(source, -1, 0, 1, 2, 3, 50, 98, 99, 100)
			continue
		}
		f := &one.Fields[at]
		switch source.Intn(5) {
		case 0:
			f.Number = oneOf(source, 0, 1, 2, 3, 103, 18999, 19000, 19999, 20000, 536870911, 536870912)
		case 1:
			f.Kind = source.Intn(10)
		case 2:
			f.Repeated = !f.Repeated
		case 3:
			f.Packed = !f.Packed
		case 4:
			f.Msg = source.Intn(8) - 1
		}
	}
	return s
}

func TestRandomSchemas(t *testing.T) {
	source := rand.New(rand.NewSource(888))
	valid := map[bool]int{}
	for i := range 40000 {
		s := randomSchema(source, i%4)
		want := len(schemaFaults(s)) == 0
		checkSchema(t, s, want)
		valid[want]++
	}
	if valid[true] < 10000 || valid[false] < 10000 {
		t.Error(valid)
	}
}

// compiledChanges each change one part of a field.
func compiledChanges() []func(f *impl.Field) {
	return []func(f *impl.Field){
		func(f *impl.Field) { f.Number++ },
		func(f *impl.Field) { f.Number += 1 << 32 },
		func(f *impl.Field) { f.Number = -f.Number },
		func(f *impl.Field) { f.Kind++ },
		func(f *impl.Field) { f.Kind = 0 },
		func(f *impl.Field) { f.Kind += 1 << 32 },
		func(f *impl.Field) { f.Repeated = !f.Repeated },
		func(f *impl.Field) { f.Packed = !f.Packed },
		func(f *impl.Field) { f.Msg++ },
		func(f *impl.Field) { f.Msg-- },
		func(f *impl.Field) { f.Msg += 1 << 32 },
	}
}

// shapeChanges each change one place of a shape, which has three fields.
func shapeChanges() []func(one *impl.Shape) {
	list := []func(one *impl.Shape){
		func(one *impl.Shape) { one.Id++ },
		func(one *impl.Shape) { one.Id = 0 },
		func(one *impl.Shape) { one.Id = -one.Id },
		func(one *impl.Shape) { one.Id += 1 << 32 },
		func(one *impl.Shape) { one.Fields = nil },
	}
	for at := range 3 {
		for _, change := range compiledChanges() {
			list = append(list, func(one *impl.Shape) { change(&one.Fields[at]) })
		}
		list = append(list, func(one *impl.Shape) { one.Fields = slices.Delete(one.Fields, at, at+1) })
	}
	for at := range 4 {
		list = append(list, func(one *impl.Shape) { one.Fields = slices.Insert(one.Fields, at, compiledField(8, 1)) })
		list = append(list, func(one *impl.Shape) { one.Fields = slices.Insert(one.Fields, at, impl.Field{}) })
	}
	return list
}

// changedSchemas differ from the sample in one place: a shape or a field more or less, or one part of one.
func changedSchemas() []impl.Schema {
	list := []impl.Schema{{}}
	change := func(edit func(s *impl.Schema)) {
		s := sampleSchema()
		edit(&s)
		list = append(list, s)
	}
	for at := range 3 {
		for _, edit := range shapeChanges() {
			change(func(s *impl.Schema) { edit(&s.Shapes[at]) })
		}
		change(func(s *impl.Schema) { s.Shapes = slices.Delete(s.Shapes, at, at+1) })
	}
	for at := range 4 {
		change(func(s *impl.Schema) { s.Shapes = slices.Insert(s.Shapes, at, shape(9, compiledField(1, 1))) })
		change(func(s *impl.Schema) { s.Shapes = slices.Insert(s.Shapes, at, impl.Shape{}) })
	}
	return list
}

// turnedSchemas are the sample with its shapes, or the fields of one of them, in the orders other than its own.
func turnedSchemas() []impl.Schema {
	var list []impl.Schema
	for _, order := range orders()[1:] {
		var shapes impl.Schema
		for _, from := range order {
			shapes.Shapes = append(shapes.Shapes, sampleSchema().Shapes[from])
		}
		list = append(list, shapes)
		for at := range 3 {
			fields := sampleSchema()
			for i, from := range order {
				fields.Shapes[at].Fields[i] = sampleSchema().Shapes[at].Fields[from]
			}
			list = append(list, fields)
		}
	}
	return list
}

func TestSameSchemas(t *testing.T) {
	s := sampleSchema()
	checkSameSchema(t, s, s, true)
	checkSameSchema(t, s, sampleSchema(), true)
	checkSameSchema(t, s, schemaCopy(s), true)
	checkSameSchema(t, sixShapes(), sixShapes(), true)
	checkSameSchema(t, s, sixShapes(), false)
	checkSameSchema(t, impl.Schema{}, impl.Schema{}, true)
	checkSameSchema(t, s, impl.Schema{}, false)
}

func TestSchemasThatDifferInOnePlace(t *testing.T) {
	for _, s := range append(changedSchemas(), turnedSchemas()...) {
		checkSameSchema(t, sampleSchema(), s, false)
		checkSameSchema(t, s, schemaCopy(s), true)
		checkSchema(t, s, len(schemaFaults(s)) == 0)
	}
}

func TestSameSchemaOfPairs(t *testing.T) {
	list := append(changedSchemas(), turnedSchemas()...)
	for _, a := range list {
		numbers := schemaNumbers(a)
		for _, b := range list {
			checkSameSchema(t, a, b, slices.Equal(numbers, schemaNumbers(b)))
		}
	}
}

// Moving a field from one shape to the next keeps the fields and their number.
func TestFieldsOfAnotherShape(t *testing.T) {
	one, two := compiledField(1, 1), compiledField(2, 2)
	checkSameSchema(t, schema(shape(1, one, two), shape(2)), schema(shape(1, one), shape(2, two)), false)
	checkSameSchema(t, schema(shape(1, one), shape(2, two)), schema(shape(1), shape(2, one, two)), false)
	checkSameSchema(t, schema(shape(1, one), shape(1)), schema(shape(1), shape(1, one)), false)
}

func TestNilAndEmptySlicesOfSchemas(t *testing.T) {
	empty := impl.Schema{Shapes: []impl.Shape{}}
	checkSameSchema(t, impl.Schema{}, empty, true)
	checkSameSchema(t, empty, empty, true)
	checkSameSchema(t, impl.Schema{}, impl.Schema{Shapes: make([]impl.Shape, 0, 3)}, true)
	checkSameSchema(t, impl.Schema{}, schema(impl.Shape{}), false)
	checkSameSchema(t, schema(impl.Shape{}), schema(impl.Shape{}, impl.Shape{}), false)
	checkSameSchema(t, schema(impl.Shape{}), schema(shape(0, impl.Field{})), false)
	for at := range 3 {
		a, b, c := sampleSchema(), sampleSchema(), sampleSchema()
		a.Shapes[at].Fields = nil
		b.Shapes[at].Fields = []impl.Field{}
		c.Shapes[at].Fields = c.Shapes[at].Fields[:0]
		checkSameSchema(t, a, b, true)
		checkSameSchema(t, a, c, true)
		checkSameSchema(t, b, c, true)
		checkSameSchema(t, b, sampleSchema(), false)
		checkSchema(t, a, true)
		checkSchema(t, b, true)
	}
}

// Schemas need not be valid to be the same, and two may use one array.
func TestSameSchemaOfInvalidSchemas(t *testing.T) {
	wild := impl.Field{Number: math.MinInt, Kind: math.MaxInt, Packed: true, Msg: math.MinInt}
	var a impl.Schema
	for i := range 20 {
		a.Shapes = append(a.Shapes, shape(math.MaxInt-i/2, slices.Repeat([]impl.Field{wild}, 20)...))
	}
	checkSameSchema(t, a, schemaCopy(a), true)
	for _, at := range []int{0, 5, 6, 7, 8, 19} {
		id, msg := schemaCopy(a), schemaCopy(a)
		id.Shapes[at].Id--
		msg.Shapes[at].Fields[at].Msg = math.MaxInt
		checkSameSchema(t, a, id, false)
		checkSameSchema(t, a, msg, false)
		checkSameSchema(t, id, msg, false)
	}
	for i := range 20 {
		for j := range 20 {
			checkSameSchema(t, impl.Schema{Shapes: a.Shapes[:i]}, impl.Schema{Shapes: a.Shapes[:j]}, i == j)
			fields := a.Shapes[0].Fields
			checkSameSchema(t, schema(shape(1, fields[:i]...)), schema(shape(1, fields[:j]...)), i == j)
		}
	}
}

func checkShapeAt(t *testing.T, s impl.Schema, id int, want int) {
	t.Helper()
	if got := impl.ShapeAt(s, id); got != want {
		t.Errorf("ShapeAt(%v, %d) = %d, not %d", s, id, got, want)
	}
}

func checkFieldAt(t *testing.T, s impl.Schema, at int, number int, want impl.Field, ok bool) {
	t.Helper()
	if got, found := impl.FieldAt(s, at, number); got != want || found != ok {
		t.Errorf("FieldAt(%v, %d, %d) = %v, %v, not %v, %v", s, at, number, got, found, want, ok)
	}
}

func TestShapeAt(t *testing.T) {
	for i, one := range sixShapes().Shapes {
		checkShapeAt(t, sixShapes(), one.Id, i)
	}
	for _, id := range intSamples() {
		if id < 10 || id > 60 || id%10 != 0 {
			checkShapeAt(t, sixShapes(), id, -1)
		}
		checkShapeAt(t, impl.Schema{}, id, -1)
		checkShapeAt(t, schema(shape(id)), id, 0)
		checkShapeAt(t, schema(shape(id)), id-1, -1)
		checkShapeAt(t, schema(shape(id)), id+1<<32, -1)
	}
	for id := -1; id <= 101; id++ {
		want := -1
		if id%10 == 0 && id >= 10 && id <= 60 {
			want = id/10 - 1
		}
		checkShapeAt(t, sixShapes(), id, want)
	}
}

// Neither function needs a valid schema, and neither finds what only its order would have led to.
func TestFirstOfEqualShapes(t *testing.T) {
	s := schema(shape(7), shape(5), shape(7), shape(0), shape(5), shape(-3), shape(0), shape(100))
	for id, want := range map[int]int{7: 0, 5: 1, 0: 3, -3: 5, 100: 7, 6: -1, 1: -1, -1: -1, 8: -1} {
		checkShapeAt(t, s, id, want)
	}
	descending := sixShapes()
	slices.Reverse(descending.Shapes)
	for i, one := range descending.Shapes {
		checkShapeAt(t, descending, one.Id, i)
	}
}

func TestFieldAt(t *testing.T) {
	for _, s := range []impl.Schema{sixShapes(), sampleSchema()} {
		for at, one := range s.Shapes {
			for _, f := range one.Fields {
				checkFieldAt(t, s, at, f.Number, f, true)
				checkFieldAt(t, s, -1, f.Number, impl.Field{}, false)
				checkFieldAt(t, s, len(s.Shapes), f.Number, impl.Field{}, false)
			}
			for _, n := range numberSamples() {
				if !slices.ContainsFunc(one.Fields, func(f impl.Field) bool { return f.Number == n }) {
					checkFieldAt(t, s, at, n, impl.Field{}, false)
				}
			}
		}
	}
}

// The same number leads to another field in each shape.
func TestFieldsOfEachShape(t *testing.T) {
	s := schema(
		shape(1, compiledField(3, 1), compiledField(4, 2)),
		shape(2, compiledField(3, 6)),
		shape(3),
		shape(4, compiledField(2, 1), impl.Field{Number: 3, Kind: 4, Repeated: true, Packed: true, Msg: -1}),
		shape(5, reference(3, 2)),
	)
	checkFieldAt(t, s, 0, 3, compiledField(3, 1), true)
	checkFieldAt(t, s, 0, 4, compiledField(4, 2), true)
	checkFieldAt(t, s, 0, 2, impl.Field{}, false)
	checkFieldAt(t, s, 1, 3, compiledField(3, 6), true)
	checkFieldAt(t, s, 1, 4, impl.Field{}, false)
	checkFieldAt(t, s, 2, 3, impl.Field{}, false)
	checkFieldAt(t, s, 3, 3, impl.Field{Number: 3, Kind: 4, Repeated: true, Packed: true, Msg: -1}, true)
	checkFieldAt(t, s, 4, 3, reference(3, 2), true)
	for _, at := range indicesBeyond(5) {
		for n := range 5 {
			checkFieldAt(t, s, at, n, impl.Field{}, false)
			checkFieldAt(t, impl.Schema{}, at, n, impl.Field{}, false)
		}
	}
	checkFieldAt(t, impl.Schema{}, 0, 0, impl.Field{}, false)
}

func TestFirstOfEqualFields(t *testing.T) {
	wild := impl.Field{Number: math.MinInt, Kind: 99, Packed: true, Msg: 77}
	s := schema(shape(0), shape(-1,
		compiledField(9, 1), compiledField(4, 2), compiledField(9, 3), compiledField(0, 4), wild, compiledField(4, 5),
		compiledField(0, 6), impl.Field{Number: 536870912},
	))
	checkFieldAt(t, s, 1, 9, compiledField(9, 1), true)
	checkFieldAt(t, s, 1, 4, compiledField(4, 2), true)
	checkFieldAt(t, s, 1, 0, compiledField(0, 4), true)
	checkFieldAt(t, s, 1, math.MinInt, wild, true)
	checkFieldAt(t, s, 1, 536870912, impl.Field{Number: 536870912}, true)
	for _, n := range []int{-1, 1, 3, 5, 8, 10, 1<<32 + 9, 1 << 32, math.MaxInt} {
		checkFieldAt(t, s, 1, n, impl.Field{}, false)
	}
	for _, n := range []int{9, 4, 0} {
		checkFieldAt(t, s, 0, n, impl.Field{}, false)
	}
}

// What a description says of a field is found in its schema under the same Id and Number.
func TestFieldsAreFoundByIdAndNumber(t *testing.T) {
	source := rand.New(rand.NewSource(8888))
	for range 2000 {
		r := randomValid(source)
		s, _ := impl.Compile(r)
		for _, m := range r.Msgs {
			at := impl.ShapeAt(s, m.Id)
			for _, f := range m.Fields {
				want := impl.Field{Number: f.Number, Kind: f.Kind, Repeated: f.Repeated, Packed: f.Packed, Msg: -1}
				if f.Kind == 8 {
					want.Msg = impl.ShapeAt(s, f.Ref)
				}
				checkFieldAt(t, s, at, f.Number, want, true)
			}
		}
	}
}

func checkRuns(t *testing.T, f impl.Field, want bool) {
	t.Helper()
	if got := impl.Runs(f); got != want {
		t.Errorf("Runs(%v) = %v", f, got)
	}
}

// Whether a field is packed does not matter, nor whether it is valid.
func TestRuns(t *testing.T) {
	for _, k := range manyKinds() {
		for _, packed := range []bool{false, true} {
			for _, other := range []int{math.MinInt, -1, 0, 1, 19500, math.MaxInt} {
				once := impl.Field{Number: other, Kind: k, Packed: packed, Msg: other}
				checkRuns(t, once, false)
				once.Repeated = true
				checkRuns(t, once, k >= 1 && k <= 5)
			}
		}
	}
	for k, want := range map[int]bool{
		0: false, 1: true, 2: true, 3: true, 4: true, 5: true, 6: false, 7: false, 8: false, 9: false,
	} {
		checkRuns(t, impl.Field{Number: 1, Kind: k, Repeated: true, Msg: -1}, want)
		checkRuns(t, compiledField(1, k), false)
	}
}

// roomySchema has the shapes and fields of s in arrays with room for more, which is filled.
func roomySchema(s impl.Schema) impl.Schema {
	var shapes []impl.Shape
	for _, one := range s.Shapes {
		fields := append(slices.Clone(one.Fields), compiledField(77, 7), compiledField(78, 7))
		shapes = append(shapes, shape(one.Id, fields[:len(one.Fields)]...))
	}
	shapes = append(shapes, shape(77, compiledField(77, 7)), shape(78, compiledField(77, 7)))
	return impl.Schema{Shapes: shapes[:len(s.Shapes)]}
}

// whollySchema is a copy of all shapes and fields of s, including those beyond its lengths.
func whollySchema(s impl.Schema) []impl.Shape {
	var list []impl.Shape
	for _, one := range s.Shapes[:cap(s.Shapes)] {
		list = append(list, shape(one.Id, slices.Clone(one.Fields[:cap(one.Fields)])...))
	}
	return list
}

// spoilSchema overwrites everything that s can reach.
func spoilSchema(s impl.Schema) {
	shapes := s.Shapes[:cap(s.Shapes)]
	for i := range shapes {
		fields := shapes[i].Fields[:cap(shapes[i].Fields)]
		for j := range fields {
			fields[j] = impl.Field{Number: -9, Kind: -9, Repeated: true, Packed: true, Msg: -9}
		}
		shapes[i] = impl.Shape{Id: -9}
	}
}

// spoilRaw overwrites everything that r can reach.
func spoilRaw(r impl.Raw) {
	msgs := r.Msgs[:cap(r.Msgs)]
	for i := range msgs {
		fields := msgs[i].Fields[:cap(msgs[i].Fields)]
		for j := range fields {
			fields[j] = impl.RawField{Number: -9, Kind: -9, Repeated: true, Packed: true, Ref: -9}
		}
		msgs[i] = impl.RawMsg{Id: -9}
	}
}

// someRaws are valid and invalid descriptions.
func someRaws() []impl.Raw {
	list := append(changedRaws(), reordered()...)
	for _, spoil := range faults() {
		r := sixMsgs()
		spoil(&r, 2)
		list = append(list, r)
	}
	source := rand.New(rand.NewSource(80))
	for range 200 {
		list = append(list, randomValid(source))
	}
	return append(list, sixMsgs(), impl.Raw{}, impl.Raw{Msgs: make([]impl.RawMsg, 9)})
}

// someSchemas are valid and invalid schemas.
func someSchemas() []impl.Schema {
	list := append(changedSchemas(), turnedSchemas()...)
	source := rand.New(rand.NewSource(81))
	for i := range 400 {
		list = append(list, randomSchema(source, i%3))
	}
	return append(list, sixShapes(), sampleSchema(), impl.Schema{Shapes: make([]impl.Shape, 9)})
}

func TestCompileChangesNothing(t *testing.T) {
	for _, r := range someRaws() {
		spare := roomy(r)
		was, lengths := wholly(spare), plain(spare)
		checkCompile(t, spare, laidOutOrNone(r), least(r))
		if !reflect.DeepEqual(wholly(spare), was) || !slices.Equal(plain(spare), lengths) {
			t.Errorf("%v was changed to %v", was, wholly(spare))
		}
	}
}

func laidOutOrNone(r impl.Raw) impl.Schema {
	if least(r) != (impl.Violation{}) {
		return impl.Schema{}
	}
	return laidOut(r)
}

// A result keeps its value when the argument changes, and the argument and later results when a result changes.
func TestCompileSharesNoMemory(t *testing.T) {
	for _, r := range someRaws() {
		spare := roomy(r)
		was, want := wholly(spare), laidOutOrNone(r)
		first, _ := impl.Compile(spare)
		second, _ := impl.Compile(spare)
		spoilSchema(first)
		if !reflect.DeepEqual(wholly(spare), was) {
			t.Errorf("changing the schema changed %v to %v", was, wholly(spare))
		}
		if !slices.Equal(schemaNumbers(second), schemaNumbers(want)) {
			t.Errorf("changing a schema changed another one to %v", second)
		}
		checkCompile(t, spare, want, least(r))
		spoilRaw(spare)
		if !slices.Equal(schemaNumbers(second), schemaNumbers(want)) {
			t.Errorf("changing the description changed the schema to %v", second)
		}
	}
}

func TestRawFromSharesNoMemory(t *testing.T) {
	for _, s := range someSchemas() {
		spare := roomySchema(s)
		was := whollySchema(spare)
		first, second := impl.RawFrom(spare), impl.RawFrom(spare)
		want := plain(second)
		spoilRaw(first)
		if !reflect.DeepEqual(whollySchema(spare), was) {
			t.Errorf("changing the description changed %v to %v", was, whollySchema(spare))
		}
		if !slices.Equal(plain(second), want) || !slices.Equal(plain(impl.RawFrom(spare)), want) {
			t.Errorf("changing a description changed another one to %v", second)
		}
		spoilSchema(spare)
		if !slices.Equal(plain(second), want) {
			t.Errorf("changing the schema changed the description to %v", second)
		}
	}
}

// Adding to the fields of one shape or message must not change those of another.
func TestSlicesOfAResultShareNoMemory(t *testing.T) {
	for _, r := range []impl.Raw{sampleRaw(), sixMsgs()} {
		s, _ := impl.Compile(r)
		back := impl.RawFrom(s)
		for at := range s.Shapes {
			one, m := s.Shapes[at], back.Msgs[at]
			for range 9 {
				one.Fields = append(one.Fields, compiledField(-9, -9))
				m.Fields = append(m.Fields, field(-9, -9))
			}
		}
		if !slices.Equal(schemaNumbers(s), schemaNumbers(laidOut(r))) {
			t.Errorf("adding fields changed the schema to %v", s)
		}
		if !slices.Equal(plain(back), plain(described(s))) {
			t.Errorf("adding fields changed the description to %v", back)
		}
		for at := range s.Shapes {
			s, _ := impl.Compile(r)
			back := impl.RawFrom(s)
			spoilSchema(schema(s.Shapes[at]))
			spoilRaw(description(back.Msgs[at]))
			want := laidOut(r)
			was := described(want)
			s.Shapes[at], back.Msgs[at] = want.Shapes[at], was.Msgs[at]
			if !slices.Equal(schemaNumbers(s), schemaNumbers(want)) || !slices.Equal(plain(back), plain(was)) {
				t.Errorf("changing the fields of the shape %d changed others", at)
			}
		}
	}
}

func TestReadingASchemaChangesNothing(t *testing.T) {
	list := someSchemas()
	for i, s := range list {
		a, b := roomySchema(s), roomySchema(list[len(list)-1-i])
		wasA, wasB := whollySchema(a), whollySchema(b)
		lengths := append(schemaNumbers(a), schemaNumbers(b)...)
		checkSchema(t, a, len(schemaFaults(a)) == 0)
		checkSameSchema(t, a, b, slices.Equal(schemaNumbers(a), schemaNumbers(b)))
		for id := range 100 {
			impl.ShapeAt(a, id)
			f, _ := impl.FieldAt(a, id%7, id%10)
			impl.Runs(f)
		}
		if !reflect.DeepEqual(whollySchema(a), wasA) || !reflect.DeepEqual(whollySchema(b), wasB) {
			t.Errorf("%v or %v was changed", wasA, wasB)
		}
		if !slices.Equal(append(schemaNumbers(a), schemaNumbers(b)...), lengths) {
			t.Errorf("a length of %v or %v was changed", a, b)
		}
	}
}

// The unused capacity of roomy and of roomySchema has shapes with the Ids 77 and 78 and fields with these numbers.
func TestWhatIsBeyondTheLengthsOfASchemaDoesNotCount(t *testing.T) {
	s := roomySchema(sixShapes())
	checkSchema(t, s, true)
	checkSameSchema(t, s, sixShapes(), true)
	for _, id := range []int{77, 78} {
		checkShapeAt(t, s, id, -1)
		for at := range 6 {
			checkFieldAt(t, s, at, id, impl.Field{}, false)
		}
		for _, at := range []int{6, 7} {
			checkFieldAt(t, s, at, id, impl.Field{}, false)
		}
		beyond := sixShapes()
		beyond.Shapes[3].Fields[2].Msg = id - 71
		checkSchema(t, roomySchema(beyond), false)
	}
	checkCompile(t, roomy(sixMsgs()), laidOut(sixMsgs()), impl.Violation{})
	eight := schema(shape(1, plainCompiled(8)...))
	checkSchema(t, roomySchema(eight), true)
}
