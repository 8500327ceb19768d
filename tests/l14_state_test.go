package tests

import (
	"fmt"
	"math"
	"math/rand"
	"reflect"
	"slices"
	"testing"

	"loop.example/g00498/impl"
)

// The modes, kinds and wire types here are the document's numbers, not the program's constants.

var statesOfUtf = utfStates()

// kindField is the field of the kind k in the shape of kindsPlan with this index.
func kindField(at int, k int) impl.Field { return kindsPlan(1).Schema.Shapes[at].Fields[k-1] }

func scanOf(bits uint64, have int) impl.Scan { return impl.Scan{Bits: bits, Have: have} }

func level(msg int, left int) impl.Level { return impl.Level{Msg: msg, Left: left} }

// decIn is a valid decoder in this mode. Parts that need not be zero in it are not, but for the Field of a payload that is skipped.
func decIn(mode int) impl.Dec {
	d := impl.Dec{Plan: kindsPlan(3), Mode: mode, Start: 30, At: 40, Field: kindField(0, 6), Wire: 2, Utf: anyNext(1)}
	d.Stack = []impl.Level{level(0, 50), level(2, 0), level(1, 20)}
	d.Scan = scanOf(0x2155, 2)
	switch mode {
	case 1:
		d.Stack = nil
	case 3:
		d.Field, d.Wire = kindField(0, 1), 0
	case 4:
		d.Field = kindField(2, 4)
	case 5:
		d.Field, d.Wire, d.Scan = kindField(1, 5), 1, scanOf(0x830201, 3)
	case 6:
		d.Want, d.Scan = 7, impl.Scan{}
	case 7:
		d.Want, d.Scan, d.Field = 7, impl.Scan{}, impl.Field{}
	case 8:
		d.Want, d.Field = 7, kindField(1, 1)
	case 9:
		d.Scan, d.End = impl.Scan{}, failOf(8, 30)
	}
	return d
}

// changedDec is a valid decoder in this mode to which changes are made.
func changedDec(mode int, changes ...func(d *impl.Dec)) impl.Dec {
	d := decIn(mode)
	for _, change := range changes {
		change(&d)
	}
	return d
}

// openDec has one open message with so many bytes left, and a field. All else is zero.
func openDec(left int, f impl.Field, wire int, want int) impl.Dec {
	return impl.Dec{Plan: kindsPlan(3), Stack: []impl.Level{level(0, left)}, Field: f, Wire: wire, Want: want}
}

// copyOfDec shares no memory with d.
func copyOfDec(d impl.Dec) impl.Dec {
	d.Plan.Schema = schemaCopy(d.Plan.Schema)
	d.Stack = slices.Clone(d.Stack)
	return d
}

// A faultList collects what is wrong with a decoder.
type faultList []string

func (list *faultList) note(wrong bool, what string) {
	if wrong {
		*list = append(*list, what)
	}
}

// decFaults tells everything that is wrong with a decoder, after the lists of chapter 14.
func decFaults(d impl.Dec) []string {
	var list faultList
	p := d.Plan
	list.note(len(schemaFaults(p.Schema)) > 0, "schema")
	list.note(p.Root < 0 || p.Root >= len(p.Schema.Shapes) || p.Deep < 1 || p.Deep > 8 || p.Most < 0 || p.Most > 2000, "plan")
	list.note(d.Mode <= 0 || d.Mode >= 10, "mode")
	list.note(d.At < 0 || d.At > 1000000000, "at")
	list.note(d.Start < 0 || d.Start > d.At, "start")
	_, valid := statesOfUtf[d.Utf]
	list.note(!valid, "utf")
	list.note(!slices.Contains([]int{0, 1, 2, 5}, d.Wire), "wire")
	list.note(d.Field != impl.Field{} && !inSomeShape(p.Schema, d.Field), "field")
	if d.Mode == 9 {
		list.note(len(eventFaults(d.End)) > 0 || d.End.Kind < 9, "end")
	} else {
		list.note(d.End != impl.Event{}, "end")
	}
	stackFaults(d, &list)
	valueFaults(d, &list)
	scanFaults(d, &list)
	return list
}

// The schema's numbers are different in each shape, so the first field with the number is the only one.
func inSomeShape(s impl.Schema, f impl.Field) bool {
	return slices.ContainsFunc(s.Shapes, func(one impl.Shape) bool { return slices.Contains(one.Fields, f) })
}

// leftOf is the Left of the last level, or -1 if there is none.
func leftOf(d impl.Dec) int {
	if len(d.Stack) == 0 {
		return -1
	}
	return d.Stack[len(d.Stack)-1].Left
}

func stackFaults(d impl.Dec, list *faultList) {
	most := d.Plan.Deep
	if d.Mode == 1 {
		most = 0
	}
	list.note(len(d.Stack) > most, "levels")
	list.note(d.Mode != 1 && d.Mode != 9 && leftOf(d) < 1, "last level")
	for _, one := range d.Stack {
		list.note(one.Msg < 0 || one.Msg >= len(d.Plan.Schema.Shapes), "msg")
		list.note(one.Left < 0 || one.Left > 2000, "left")
	}
}

func valueFaults(d impl.Dec, list *faultList) {
	if d.Mode >= 6 && d.Mode <= 8 {
		list.note(d.Want < 1 || d.Want > leftOf(d), "want")
	} else {
		list.note(d.Want != 0, "want")
	}
	row := rowOf(d.Field.Kind)
	runs := d.Field.Repeated && row.bits > 0
	mayHave := d.Field == impl.Field{} || d.Wire == row.wire || d.Wire == 2 && runs
	switch d.Mode {
	case 3:
		list.note(d.Wire != 0 || !mayHave, "wire of a number")
	case 4:
		list.note(d.Wire != 2 || !mayHave, "wire of a length")
	case 5:
		list.note(modelWidth(d.Wire) == 0 || !mayHave, "wire of a width")
	case 6:
		list.note(row.word != "text" && row.word != "bytes", "field of a text")
	case 8:
		list.note(!runs, "field of a run")
	}
}

func scanFaults(d impl.Dec, list *faultList) {
	width, room := 0, leftOf(d)
	switch d.Mode {
	case 5:
		width = modelWidth(d.Wire)
	case 6, 7, 9:
		list.note(d.Scan != impl.Scan{}, "scan in a payload")
		return
	case 8:
		width, room = modelWidth(rowOf(d.Field.Kind).wire), d.Want
	}
	if width == 0 {
		list.note(!scanValid(d.Scan), "scan")
		return
	}
	have := d.Scan.Have
	list.note(have < 0 || have >= width, "bytes")
	list.note(have >= 0 && have < width && long(d.Scan.Bits).Cmp(power(8*have)) >= 0, "bits")
	list.note(have >= 0 && have < width && have+room < width, "room")
}

func checkDec(t *testing.T, d impl.Dec, want bool) {
	t.Helper()
	if got := impl.DecOk(d); got != want {
		t.Errorf("DecOk is %v: %s", got, decLine(d))
	}
	if faults := decFaults(d); (len(faults) == 0) != want {
		t.Errorf("the faults are %v: %s", faults, decLine(d))
	}
	sum := 0
	for _, one := range d.Stack {
		sum += one.Left * truth(want)
	}
	if got := impl.LeftIn(d); got != sum {
		t.Errorf("LeftIn is %d, not %d: %s", got, sum, decLine(d))
	}
	if got := impl.Retained(d); got != d.Scan.Have {
		t.Errorf("Retained is %d: %s", got, decLine(d))
	}
}

func compareDec(t *testing.T, d impl.Dec) bool {
	t.Helper()
	want := len(decFaults(d)) == 0
	checkDec(t, d, want)
	return want
}

// checkModes gives the decoder all modes, of which it is valid in these only.
func checkModes(t *testing.T, d impl.Dec, modes ...int) {
	t.Helper()
	for _, mode := range nearModes() {
		d.Mode = mode
		checkDec(t, d, slices.Contains(modes, mode))
	}
}

// nearModes are the modes and numbers that are none.
func nearModes() []int {
	return []int{math.MinInt, -9, -1, 0, 1, 2, 3, 4, 5, 6, 7, 8, 9, 10, 11, 18, 256, 257, 1 << 32, 1<<32 + 1, 1<<32 + 9, math.MaxInt}
}

// decLine writes a decoder with all its parts, so that equal decoders have equal lines.
func decLine(d impl.Dec) string {
	p := d.Plan
	return fmt.Sprintf("mode %d, levels %v, scan %v, offsets %d and %d, field %v, wire type %d, want %d, utf %v, %#v, plan %v %d %d %d",
		d.Mode, d.Stack, d.Scan, d.Start, d.At, d.Field, d.Wire, d.Want, d.Utf, d.End, schemaNumbers(p.Schema), p.Root, p.Deep, p.Most)
}

func TestModeNumbers(t *testing.T) {
	modes := []int{
		impl.MdFrame, impl.MdTag, impl.MdVar, impl.MdLen, impl.MdFix, impl.MdText, impl.MdSkip, impl.MdRun, impl.MdStop,
	}
	if !slices.Equal(modes, []int{1, 2, 3, 4, 5, 6, 7, 8, 9}) || impl.MaxAt != 1000000000 {
		t.Error(modes, impl.MaxAt)
	}
}

func TestModeWord(t *testing.T) {
	words := []string{"frame", "tag", "var", "len", "fix", "text", "skip", "run", "stop"}
	for _, m := range append(intSamples(), nearModes()...) {
		want := ""
		if m >= 1 && m <= 9 {
			want = words[m-1]
		}
		if got := impl.ModeWord(m); got != want {
			t.Errorf("ModeWord(%d) = %q, not %q", m, got, want)
		}
	}
	if impl.ModeWord(impl.MdFrame) != "frame" || impl.ModeWord(impl.MdStop) != "stop" || impl.ModeWord(0) != "" || impl.ModeWord(10) != "" {
		t.Error("the words are not those of the modes")
	}
}

// checkNew holds promise 14 against the plan.
func checkNew(t *testing.T, p impl.Plan, want bool) {
	t.Helper()
	d, ok := impl.DecNew(p)
	if ok != want {
		t.Errorf("DecNew(%v) is %v", p, ok)
	}
	if !want {
		if !reflect.DeepEqual(d, impl.Dec{}) {
			t.Errorf("DecNew(%v), whose plan is not valid, is %s", p, decLine(d))
		}
		checkDec(t, d, false)
		return
	}
	line := decLine(impl.Dec{Plan: p, Mode: 1})
	if decLine(d) != line || !impl.SameDec(d, impl.Dec{Plan: p, Mode: impl.MdFrame}) {
		t.Errorf("DecNew(%v) is %s", p, decLine(d))
	}
	if impl.ModeWord(d.Mode) != "frame" || impl.Retained(d) != 0 || impl.LeftIn(d) != 0 {
		t.Errorf("a new decoder is %s", decLine(d))
	}
	checkDec(t, d, true)
	checkModes(t, d, 1)
}

func TestNewDecoders(t *testing.T) {
	valid := map[bool]int{}
	for _, p := range somePlans() {
		want := impl.PlanOk(p)
		checkNew(t, p, want)
		checkNew(t, roomyPlan(p), want)
		valid[want]++
	}
	if valid[true] < 100 || valid[false] < 50 {
		t.Errorf("the plans are valid or not %v times", valid)
	}
	checkNew(t, impl.Plan{}, false)
	checkNew(t, impl.Plan{Deep: 1, Most: 100}, false)
	checkNew(t, planOf(schema(shape(1)), 0, 1, 0), true)
	for _, one := range someSchemas() {
		checkNew(t, planOf(one, 0, 1, 0), len(schemaFaults(one)) == 0 && len(one.Shapes) > 0)
	}
}

func TestNewDecodersAtTheLimitsOfPlans(t *testing.T) {
	s := sixShapes()
	for _, root := range []int{math.MinInt, -1, 0, 1, 5, 6, 7, 1 << 32, math.MaxInt} {
		checkNew(t, planOf(s, root, 2, 100), root >= 0 && root < 6)
	}
	for _, deep := range []int{math.MinInt, -1, 0, 1, 2, 7, 8, 9, 1<<32 + 1, math.MaxInt} {
		checkNew(t, planOf(s, 0, deep, 100), deep >= 1 && deep <= 8)
	}
	for _, most := range []int{math.MinInt, -1, 0, 1, 1999, 2000, 2001, 1 << 32, math.MaxInt} {
		checkNew(t, planOf(s, 0, 2, most), most >= 0 && most <= 2000)
	}
}

func TestValidDecoders(t *testing.T) {
	for mode := 1; mode <= 9; mode++ {
		checkDec(t, decIn(mode), true)
		for _, other := range []int{math.MinInt, -mode, -1, 0, 10, 11, mode + 256, mode + 1<<32, math.MaxInt} {
			checkDec(t, changedDec(mode, func(d *impl.Dec) { d.Mode = other }), false)
		}
		for other := 1; other <= 9; other++ {
			compareDec(t, changedDec(mode, func(d *impl.Dec) { d.Mode = other }))
		}
	}
	checkDec(t, impl.Dec{}, false)
	checkModes(t, impl.Dec{})
}

// The modes in which decoders are valid that differ in a few parts.
func TestPartsThatOccurTogether(t *testing.T) {
	none := impl.Field{}
	checkModes(t, impl.Dec{Plan: kindsPlan(3)}, 1)
	checkModes(t, openDec(8, none, 0, 0), 2, 3)
	checkModes(t, openDec(8, none, 2, 0), 2, 4)
	checkModes(t, openDec(8, none, 1, 0), 2, 5)
	checkModes(t, openDec(7, none, 1, 0), 2)
	checkModes(t, openDec(4, none, 5, 0), 2, 5)
	checkModes(t, openDec(3, none, 5, 0), 2)
	checkModes(t, openDec(8, none, 3, 0))
	checkModes(t, openDec(0, none, 0, 0))
	checkModes(t, openDec(8, none, 2, 8), 7)
	checkModes(t, openDec(8, none, 2, 9))
	checkModes(t, openDec(8, kindField(0, 1), 0, 0), 2, 3)
	checkModes(t, openDec(8, kindField(0, 1), 2, 0), 2)
	checkModes(t, openDec(8, kindField(0, 1), 2, 1), 7)
	checkModes(t, openDec(8, kindField(1, 1), 2, 0), 2, 4)
	checkModes(t, openDec(8, kindField(2, 1), 0, 0), 2, 3)
	checkModes(t, openDec(8, kindField(2, 1), 2, 1), 7, 8)
	checkModes(t, openDec(8, kindField(1, 4), 5, 0), 2, 5)
	checkModes(t, openDec(8, kindField(1, 4), 1, 0), 2)
	checkModes(t, openDec(8, kindField(1, 4), 2, 4), 7, 8)
	checkModes(t, openDec(8, kindField(1, 4), 2, 3), 7)
	checkModes(t, openDec(8, kindField(2, 5), 2, 8), 7, 8)
	checkModes(t, openDec(8, kindField(2, 5), 2, 7), 7)
	checkModes(t, openDec(8, kindField(0, 6), 2, 0), 2, 4)
	checkModes(t, openDec(8, kindField(0, 6), 2, 8), 6, 7)
	checkModes(t, openDec(8, kindField(1, 7), 2, 1), 6, 7)
	checkModes(t, openDec(8, kindField(0, 8), 2, 0), 2, 4)
	checkModes(t, openDec(8, kindField(0, 8), 2, 1), 7)
	for _, end := range []impl.Event{doneOf(0), doneOf(7), failOf(1, 0), failOf(20, 9)} {
		for _, d := range []impl.Dec{
			{Plan: kindsPlan(3)}, openDec(8, none, 0, 0), openDec(8, none, 2, 0), openDec(0, kindField(0, 6), 5, 0), openDec(2000, kindField(1, 8), 1, 0),
		} {
			d.End = end
			checkModes(t, d, 9)
			d.Want = 1
			checkModes(t, d)
		}
	}
}

// A payload's field has to be known, but its wire type may be any: only the three modes of values check it.
func TestWiresOfPayloads(t *testing.T) {
	for _, wire := range append(intSamples(), -1, 0, 1, 2, 3, 4, 5, 6, 7, 8, 1<<32) {
		valid := wire == 0 || wire == 1 || wire == 2 || wire == 5
		for _, mode := range []int{1, 2, 6, 7, 8, 9} {
			checkDec(t, changedDec(mode, func(d *impl.Dec) { d.Wire = wire }), valid)
		}
	}
}

func TestOffsetsOfDecoders(t *testing.T) {
	offsets := []int{
		math.MinInt, math.MinInt + 1, -1 << 32, -30, -2, -1, 0, 1, 2, 29, 30, 31, 39, 40, 41, 4000, 999999998, 999999999, 1000000000,
		1000000001, 1<<31 - 1, 1 << 31, 1 << 32, 1<<32 + 1, math.MaxInt - 1, math.MaxInt,
	}
	for mode := 1; mode <= 9; mode++ {
		for _, at := range offsets {
			starts := append(slices.Clone(offsets), at)
			if at > math.MinInt && at < math.MaxInt {
				starts = append(starts, at-1, at+1)
			}
			for _, start := range starts {
				d := changedDec(mode, func(d *impl.Dec) { d.Start, d.At = start, at })
				checkDec(t, d, at >= 0 && at <= 1000000000 && start >= 0 && start <= at)
			}
		}
	}
	for _, at := range append(intSamples(), 0, impl.MaxAt, impl.MaxAt+1, -1) {
		checkDec(t, changedDec(1, func(d *impl.Dec) { d.Start, d.At = 0, at }), at >= 0 && at <= impl.MaxAt)
		checkDec(t, changedDec(1, func(d *impl.Dec) { d.Start, d.At = at, impl.MaxAt }), at >= 0 && at <= impl.MaxAt)
	}
}

// Left is the same in all levels but the last one.
func levelsOf(n int, left int, last int) []impl.Level {
	var list []impl.Level
	for i := range n {
		list = append(list, level(i%3, left))
	}
	if n > 0 {
		list[n-1].Left = last
	}
	return list
}

func TestNumbersOfLevels(t *testing.T) {
	for mode := 1; mode <= 9; mode++ {
		for deep := 1; deep <= 8; deep++ {
			for n := range 12 {
				for _, left := range []int{0, 20, 2000} {
					d := changedDec(mode, func(d *impl.Dec) { d.Plan.Deep, d.Stack = deep, levelsOf(n, left, 20) })
					switch mode {
					case 1:
						checkDec(t, d, n == 0)
					case 9:
						checkDec(t, d, n <= deep)
					default:
						checkDec(t, d, n >= 1 && n <= deep)
					}
				}
			}
			for n := 1; n <= deep; n++ {
				d := changedDec(mode, func(d *impl.Dec) { d.Plan.Deep, d.Stack = deep, levelsOf(n, 20, 0) })
				checkDec(t, d, mode == 9)
			}
		}
		checkDec(t, changedDec(mode, func(d *impl.Dec) { d.Stack = []impl.Level{} }), mode == 1 || mode == 9)
		checkDec(t, changedDec(mode, func(d *impl.Dec) { d.Stack = levelsOf(5, 2, 20)[:0] }), mode == 1 || mode == 9)
		checkDec(t, changedDec(mode, func(d *impl.Dec) { d.Stack = levelsOf(100, 2, 20) }), false)
	}
}

func TestShapesOfLevels(t *testing.T) {
	for mode := 2; mode <= 9; mode++ {
		for at := range 3 {
			for _, msg := range []int{math.MinInt, -1 << 32, -3, -2, -1, 0, 1, 2, 3, 4, 5, 1 << 32, 1<<32 + 1, math.MaxInt} {
				d := changedDec(mode, func(d *impl.Dec) { d.Stack[at].Msg = msg })
				checkDec(t, d, msg >= 0 && msg <= 2)
			}
		}
	}
	for n := 1; n <= 6; n++ {
		s := schema(sixShapes().Shapes[:n]...)
		for i := range s.Shapes {
			s.Shapes[i].Fields = nil
		}
		for _, msg := range []int{-1, 0, n - 1, n, n + 1} {
			d := impl.Dec{Plan: planOf(s, 0, 2, 0), Mode: 2, Stack: []impl.Level{level(0, 1), level(msg, 1)}}
			checkDec(t, d, msg >= 0 && msg < n)
			slices.Reverse(d.Stack)
			checkDec(t, d, msg >= 0 && msg < n)
		}
	}
}

// leastLeft is the smallest Left of the last level with which decIn is valid in the mode: what it needs of the message's bytes.
func leastLeft(mode int) int {
	switch mode {
	case 5:
		return 5
	case 6, 7, 8:
		return 7
	case 9:
		return 0
	}
	return 1
}

func TestBytesLeftInLevels(t *testing.T) {
	lefts := []int{
		math.MinInt, -2000, -1, 0, 1, 2, 4, 5, 6, 7, 8, 20, 1000, 1999, 2000, 2001, 4000, 1 << 31, 1 << 32, 1<<32 + 20, math.MaxInt,
	}
	for mode := 2; mode <= 9; mode++ {
		for at := range 3 {
			for _, left := range lefts {
				d := changedDec(mode, func(d *impl.Dec) { d.Stack[at].Left = left })
				checkDec(t, d, left <= 2000 && left >= 0 && (at < 2 || left >= leastLeft(mode)))
			}
		}
		// The bytes of one level do not make up for those of another.
		for _, one := range lefts {
			for _, other := range lefts {
				compareDec(t, changedDec(mode, func(d *impl.Dec) { d.Stack[0].Left, d.Stack[2].Left = one, other }))
				compareDec(t, changedDec(mode, func(d *impl.Dec) { d.Stack[0].Left, d.Stack[1].Left = one, other }))
			}
		}
	}
}

// A frame may be longer than Most in a decoder, because MaxFrame alone limits Left.
func TestBytesLeftBeyondMost(t *testing.T) {
	for mode := 2; mode <= 9; mode++ {
		for _, most := range []int{0, 1, 19, 20, 2000} {
			d := changedDec(mode, func(d *impl.Dec) { d.Plan.Most = most })
			checkDec(t, d, true)
			d.Stack[0].Left, d.Stack[1].Left = 2000, 2000
			checkDec(t, d, true)
		}
	}
}

// In a payload, Want is a part of the bytes left to the last level, and to no other one.
func TestWantsOfDecoders(t *testing.T) {
	for _, left := range []int{1, 2, 3, 7, 8, 255, 256, 1999, 2000} {
		wants := []int{
			math.MinInt, -left, -1, 0, 1, 2, left - 1, left, left + 1, left + 2, 2*left + 1, 2000, 2001, 1 << 32, 1<<32 + 1, math.MaxInt,
		}
		for _, want := range wants {
			for mode := 1; mode <= 9; mode++ {
				for _, before := range []int{0, left, 2000} {
					d := changedDec(mode, func(d *impl.Dec) { d.Scan, d.Want = impl.Scan{}, want })
					if mode == 5 {
						d.Field, d.Wire, d.Scan = kindField(0, 4), 5, scanOf(0x030201, 3)
					}
					if mode > 1 {
						d.Stack = []impl.Level{level(0, before), level(0, left)}
					}
					payload := mode == 6 || mode == 7 || mode == 8
					checkDec(t, d, payload && want >= 1 && want <= left || !payload && want == 0)
				}
			}
		}
	}
}

// otherFields are not in kindsPlan: their numbers are there, but with other parts, or no shape has them.
func otherFields() []impl.Field {
	list := []impl.Field{
		compiledField(9, 1), compiledField(0, 1), compiledField(77, 7), {Number: 1}, {Kind: 1}, {Msg: -1}, {Repeated: true}, {Packed: true}, {Msg: 1},
		compiledField(-1, 1), compiledField(1<<32+1, 1), compiledField(536870911, 6), compiledField(19000, 6), {Number: 1, Kind: 1},
	}
	for at := range 3 {
		for k := 1; k <= 8; k++ {
			for _, change := range compiledChanges() {
				f := kindField(at, k)
				change(&f)
				list = append(list, f)
			}
			for other := -1; other <= 9; other++ {
				f := kindField(at, k)
				f.Kind = other
				list = append(list, f)
				f.Number = other
				list = append(list, f)
			}
		}
	}
	return slices.DeleteFunc(list, func(f impl.Field) bool { return f == impl.Field{} || inSomeShape(kindsPlan(1).Schema, f) })
}

// bareValue is valid in the mode with any field of which the mode has values, and has the bytes that each of them needs.
func bareValue(mode int, f impl.Field, wire int) impl.Dec {
	d := openDec(20, f, wire, 0)
	d.Mode = mode
	switch mode {
	case 1:
		d.Stack = nil
	case 6, 7, 8:
		d.Want = 8
	case 9:
		d.End = doneOf(3)
	}
	return d
}

// wiresIn are the wire types that a decoder of kindsPlan may have in the mode with a field of the kind k, or 0 if it is unknown.
func wiresIn(mode int, k int, repeated bool) []int {
	all := []int{0, 1, 2, 5}
	runs := k >= 1 && k <= 5 && repeated
	switch {
	case mode == 3 && k <= 3:
		return []int{0}
	case mode == 4 && (k == 0 || k >= 6 || runs):
		return []int{2}
	case mode == 5 && k == 0:
		return []int{1, 5}
	case mode == 5 && k == 4:
		return []int{5}
	case mode == 5 && k == 5:
		return []int{1}
	case mode == 6 && (k == 6 || k == 7), mode == 8 && runs, mode == 1, mode == 2, mode == 7, mode == 9:
		return all
	}
	return nil
}

func TestFieldsOfDecoders(t *testing.T) {
	others := otherFields()
	if len(others) < 300 {
		t.Fatalf("%d other fields", len(others))
	}
	for mode := 1; mode <= 9; mode++ {
		for _, wire := range []int{math.MinInt, -1, 0, 1, 2, 3, 4, 5, 6, 7, 8, 1 << 32, 1<<32 + 2} {
			checkDec(t, bareValue(mode, impl.Field{}, wire), slices.Contains(wiresIn(mode, 0, false), wire))
			for at := range 3 {
				for k := 1; k <= 8; k++ {
					d := bareValue(mode, kindField(at, k), wire)
					checkDec(t, d, slices.Contains(wiresIn(mode, k, at > 0), wire))
				}
			}
			for _, f := range others {
				checkDec(t, bareValue(mode, f, wire), false)
			}
		}
	}
}

// A field is one of any shape, not only of the last level's.
func TestFieldsOfOtherShapes(t *testing.T) {
	s := schema(shape(3, compiledField(1, 1)), shape(5, compiledField(2, 2)), shape(9, compiledField(3, 3), compiledField(1, 2)))
	slices.Reverse(s.Shapes[2].Fields)
	for at := range 3 {
		for _, f := range []impl.Field{compiledField(1, 1), compiledField(2, 2), compiledField(1, 2), compiledField(3, 3)} {
			d := impl.Dec{Plan: planOf(s, at, 1, 0), Mode: 3, Stack: []impl.Level{level(at, 1)}, Field: f}
			checkDec(t, d, true)
		}
		for _, f := range []impl.Field{compiledField(2, 1), compiledField(3, 1), compiledField(1, 3), compiledField(4, 1), {Number: 1, Kind: 1}} {
			d := impl.Dec{Plan: planOf(s, at, 1, 0), Mode: 3, Stack: []impl.Level{level(at, 1)}, Field: f}
			checkDec(t, d, false)
		}
	}
	// Beyond the lengths of its slices, a schema has no fields.
	d := decIn(6)
	d.Plan = roomyPlan(d.Plan)
	checkDec(t, d, true)
	d.Field = compiledField(77, 7)
	checkDec(t, d, false)
	d.Plan.Schema.Shapes[2].Fields = d.Plan.Schema.Shapes[2].Fields[:9]
	checkDec(t, d, false)
	d.Plan.Schema.Shapes[2].Fields = []impl.Field{d.Field}
	checkDec(t, d, true)
}

// Every kind in a text and in a run, repeated and not, packed and not.
func TestKindsOfPayloads(t *testing.T) {
	for k := 1; k <= 8; k++ {
		for _, repeated := range []bool{false, true} {
			for _, packed := range []bool{false, true} {
				f := impl.Field{Number: 5, Kind: k, Repeated: repeated, Packed: packed, Msg: truth(k == 8) - 1}
				valid := !packed || repeated && k <= 5
				p := planOf(schema(shape(1, compiledField(1, 6), f)), 0, 1, 0)
				d := impl.Dec{Plan: p, Stack: []impl.Level{level(0, 9)}, Field: f, Wire: 2, Want: 8, Mode: 6}
				checkDec(t, d, valid && (k == 6 || k == 7))
				d.Mode = 8
				checkDec(t, d, valid && repeated && k <= 5)
				d.Mode = 7
				checkDec(t, d, valid)
			}
		}
	}
}

// terminalEvents has events that are terminal, and whether they are valid.
func terminalEvents() map[impl.Event]bool {
	return map[impl.Event]bool{
		doneOf(0): true, doneOf(1): true, doneOf(40): true, doneOf(41): true, doneOf(1000000001): true, doneOf(-1): false,
		failOf(1, 0): true, failOf(10, 40): true, failOf(11, 3): true, failOf(20, 1): true, failOf(math.MaxInt, math.MaxInt): true,
		failOf(-1, 3): false, failOf(1, -1): false, failOf(math.MinInt, 0): false, {Kind: 10}: false, {Kind: 10, At: 3}: false,
		{Kind: 9, Code: 1}: false, {Kind: 9, Len: 1}: false, {Kind: 9, Text: "a"}: false, {Kind: 9, Field: 1}: false, {Kind: 9, Bits: 1}: false,
		{Kind: 10, Code: 1, Len: 1}: false, {Kind: 10, Code: 1, Text: "a"}: false, {Kind: 10, Code: 1, Field: 1}: false, {Kind: 10, Code: 1, Bits: 1}: false,
	}
}

func TestEndsOfDecoders(t *testing.T) {
	for mode := 1; mode <= 9; mode++ {
		end := func(e impl.Event) impl.Dec { return changedDec(mode, func(d *impl.Dec) { d.End = e }) }
		checkDec(t, end(impl.Event{}), mode != 9)
		for e, valid := range terminalEvents() {
			checkDec(t, end(e), mode == 9 && valid)
		}
		for _, e := range append(sampleEvents(), fullEvents()...) {
			checkDec(t, end(e), mode == 9 && (e == doneOf(13) || e == failOf(6, 14)))
		}
		for _, value := range partValues() {
			var e impl.Event
			value.set(&e)
			checkDec(t, end(e), false)
		}
		for _, k := range []int{math.MinInt, -1, 1, 5, 7, 8, 9, 10, 11, 1<<32 + 9, math.MaxInt} {
			checkDec(t, end(impl.Event{Kind: k}), mode == 9 && k == 9)
		}
	}
}

// The state of the validator may be any in each mode, but not one that is none.
func TestUtfOfDecoders(t *testing.T) {
	wrong := wrongUtfStates()
	for mode := 1; mode <= 9; mode++ {
		for u := range statesOfUtf {
			checkDec(t, changedDec(mode, func(d *impl.Dec) { d.Utf = u }), true)
		}
		for i, u := range wrong {
			if (i+mode)%9 == 0 {
				checkDec(t, changedDec(mode, func(d *impl.Dec) { d.Utf = u }), false)
			}
		}
		for _, u := range []impl.Utf{utf(0, 128, 191), utf(0, 0, 191), utf(1, 160, 191), utf(4, 128, 191), utf(-1, 128, 191), utf(1, 0, 0)} {
			checkDec(t, changedDec(mode, func(d *impl.Dec) { d.Utf = u }), false)
		}
	}
}

// scanSamples are states of varints and of integers of fixed widths, with and without bits that they cannot have.
func scanSamples() []impl.Scan {
	var list []impl.Scan
	for _, have := range haveSamples() {
		bits := []uint64{0, 1, 1 << 63, math.MaxUint64}
		for _, group := range []int{7, 8} {
			if have >= 0 && have <= 10 {
				limit := uint64(1) << (group * have)
				bits = append(bits, limit, limit-1, limit+1, limit>>1)
			}
		}
		for _, u := range bits {
			list = append(list, scanOf(u, have))
		}
	}
	return list
}

func TestScansOfDecoders(t *testing.T) {
	for _, s := range scanSamples() {
		for mode := 1; mode <= 9; mode++ {
			d := changedDec(mode, func(d *impl.Dec) { d.Scan = s })
			switch mode {
			case 1, 2, 3, 4, 8:
				checkDec(t, d, scanValid(s))
			case 6, 7, 9:
				checkDec(t, d, s == impl.Scan{})
			default:
				compareDec(t, d)
			}
		}
		for k := 1; k <= 3; k++ {
			for at := 1; at <= 2; at++ {
				d := openDec(20, kindField(at, k), 2, 3)
				d.Mode, d.Scan = 8, s
				checkDec(t, d, scanValid(s))
			}
		}
	}
}

// A varint need not have room for all the bytes that it could have.
func TestVarintsInSmallRooms(t *testing.T) {
	for have := range 10 {
		for _, mode := range []int{2, 3, 4, 8} {
			d := changedDec(mode, func(d *impl.Dec) { d.Scan, d.Stack[2].Left, d.Want = scanOf(0, have), 1, truth(mode == 8) })
			checkDec(t, d, true)
			d.Scan.Bits = 1 << (7 * have)
			checkDec(t, d, false)
		}
	}
}

// checkFix gives the decoder every number of bytes of an integer of this width, with room for what is missing, one more and one fewer.
func checkFix(t *testing.T, d impl.Dec, width int, setRoom func(d *impl.Dec, room int)) {
	t.Helper()
	for have := -1; have <= 10; have++ {
		inside := have >= 0 && have < width
		for _, room := range []int{1, 2, 3, width - have - 1, width - have, width - have + 1, 4, 8, 9, 20} {
			if room < 1 {
				continue
			}
			setRoom(&d, room)
			fits := inside && room >= width-have
			d.Scan = scanOf(0, have)
			checkDec(t, d, fits)
			d.Scan.Bits = 1
			checkDec(t, d, fits && have > 0)
			if inside {
				d.Scan.Bits = 1<<(8*have) - 1
				checkDec(t, d, fits)
				d.Scan.Bits = 1 << (8 * have)
				checkDec(t, d, false)
				d.Scan.Bits = 1 << 63
				checkDec(t, d, false)
				d.Scan.Bits = math.MaxUint64
				checkDec(t, d, false)
			}
		}
	}
	for _, have := range haveSamples() {
		if have < 0 || have >= width {
			setRoom(&d, 20)
			d.Scan = scanOf(0, have)
			checkDec(t, d, false)
			d.Scan.Bits = math.MaxUint64
			checkDec(t, d, false)
		}
	}
}

func TestFixedIntegersOfDecoders(t *testing.T) {
	for wire, width := range map[int]int{1: 8, 5: 4} {
		fields := []impl.Field{{}}
		for at := range 3 {
			fields = append(fields, kindField(at, map[int]int{1: 5, 5: 4}[wire]))
		}
		for _, f := range fields {
			d := changedDec(5, func(d *impl.Dec) { d.Field, d.Wire = f, wire })
			checkFix(t, d, width, func(d *impl.Dec, room int) { d.Stack = []impl.Level{level(0, 2000), level(1, room)} })
			checkFix(t, d, width, func(d *impl.Dec, room int) { d.Stack = []impl.Level{level(0, room)} })
			checkFix(t, d, width, func(d *impl.Dec, room int) { d.Stack = []impl.Level{level(2, 0), level(0, room)} })
		}
	}
}

// In a run, the wire type is that of the length, so the kind tells the width.
func TestFixedIntegersOfRuns(t *testing.T) {
	for k, width := range map[int]int{4: 4, 5: 8} {
		for at := 1; at <= 2; at++ {
			for _, wire := range []int{0, 1, 2, 5} {
				d := changedDec(8, func(d *impl.Dec) { d.Field, d.Wire = kindField(at, k), wire })
				checkFix(t, d, width, func(d *impl.Dec, room int) { d.Want, d.Stack = room, []impl.Level{level(0, 2000), level(1, room)} })
				checkFix(t, d, width, func(d *impl.Dec, room int) { d.Want, d.Stack = room, []impl.Level{level(0, 2000)} })
				checkFix(t, d, width, func(d *impl.Dec, room int) { d.Want, d.Stack = room, []impl.Level{level(0, 0), level(1, room+1)} })
				d.Scan = impl.Scan{}
				for want := range 12 {
					d.Want, d.Stack = want, []impl.Level{level(0, 2000), level(1, 10)}
					checkDec(t, d, want >= width && want <= 10)
				}
			}
		}
	}
}

// Decoders are not valid if their plans are not, whatever the mode.
func TestDecodersOfInvalidPlans(t *testing.T) {
	for mode := 1; mode <= 9; mode++ {
		for _, p := range wrongPlans() {
			checkDec(t, changedDec(mode, func(d *impl.Dec) { d.Plan = p }), false)
		}
		for _, root := range []int{math.MinInt, -1, 3, 1 << 32} {
			checkDec(t, changedDec(mode, func(d *impl.Dec) { d.Plan.Root = root }), false)
		}
		for _, most := range []int{math.MinInt, -1, 2001, math.MaxInt} {
			checkDec(t, changedDec(mode, func(d *impl.Dec) { d.Plan.Most = most }), false)
		}
		for _, deep := range []int{math.MinInt, -1, 0, 9, math.MaxInt} {
			checkDec(t, changedDec(mode, func(d *impl.Dec) { d.Plan.Deep = deep }), false)
		}
	}
	for _, p := range somePlans() {
		for mode := 1; mode <= 9; mode++ {
			compareDec(t, changedDec(mode, func(d *impl.Dec) { d.Plan = p }))
		}
	}
}

// decEdits each give parts of a decoder values at or near their limits.
func decEdits(source *rand.Rand) []func(d *impl.Dec) {
	pick := func(list ...int) int { return oneOf(source, list...) }
	scans := scanSamples()
	return []func(d *impl.Dec){
		func(d *impl.Dec) { d.Mode = pick(-1, 0, 1, 2, 3, 4, 5, 6, 7, 8, 9, 10) },
		func(d *impl.Dec) { d.Start = pick(-1, 0, 1, d.At-1, d.At, d.At+1) },
		func(d *impl.Dec) { d.At = pick(-1, 0, d.Start-1, d.Start, 1000000000, 1000000001) },
		func(d *impl.Dec) { d.Wire = pick(-1, 0, 1, 2, 3, 4, 5, 6) },
		func(d *impl.Dec) { d.Want = pick(-1, 0, 1, 4, 8, leftOf(*d)-1, leftOf(*d), leftOf(*d)+1) },
		func(d *impl.Dec) { d.Field = impl.Field{} },
		func(d *impl.Dec) { d.Field = kindField(source.Intn(3), 1+source.Intn(8)) },
		func(d *impl.Dec) { compiledChanges()[source.Intn(11)](&d.Field) },
		func(d *impl.Dec) { d.Scan = impl.Scan{} },
		func(d *impl.Dec) { d.Scan = scans[source.Intn(len(scans))] },
		func(d *impl.Dec) { d.Scan.Have += pick(-1, 1) },
		func(d *impl.Dec) { d.Scan.Bits = source.Uint64() >> source.Intn(64) },
		func(d *impl.Dec) { d.Utf = utf(pick(0, 1, 2, 3, 4), pick(0, 128, 144, 160), pick(0, 143, 159, 191)) },
		func(d *impl.Dec) { d.End = impl.Event{} },
		func(d *impl.Dec) { d.End = rowsOfEvents[source.Intn(10)].sample },
		func(d *impl.Dec) { d.Stack = nil },
		func(d *impl.Dec) { d.Stack = append(slices.Clone(d.Stack), level(0, pick(0, 1, 4, 8))) },
		func(d *impl.Dec) { d.Stack = slices.Clone(d.Stack[:len(d.Stack)/2]) },
		func(d *impl.Dec) { editLevel(source, d, func(one *impl.Level) { one.Msg = pick(-1, 0, 1, 2, 3, 6) }) },
		func(d *impl.Dec) {
			editLevel(source, d, func(one *impl.Level) { one.Left = pick(-1, 0, 1, 3, 4, 7, 8, 2000, 2001) })
		},
		func(d *impl.Dec) { d.Plan.Deep = pick(0, 1, len(d.Stack)-1, len(d.Stack), len(d.Stack)+1, 8, 9) },
		func(d *impl.Dec) { d.Plan.Root = pick(-1, 0, len(d.Plan.Schema.Shapes)-1, len(d.Plan.Schema.Shapes)) },
		func(d *impl.Dec) { d.Plan.Most = pick(-1, 0, 2000, 2001) },
		func(d *impl.Dec) { d.Plan = randomPlan(source) },
	}
}

// editLevel changes one of the levels, if there are any.
func editLevel(source *rand.Rand, d *impl.Dec, edit func(one *impl.Level)) {
	if len(d.Stack) > 0 {
		d.Stack = slices.Clone(d.Stack)
		edit(&d.Stack[source.Intn(len(d.Stack))])
	}
}

// fieldsOf are the fields of all shapes.
func fieldsOf(s impl.Schema) []impl.Field {
	var list []impl.Field
	for _, one := range s.Shapes {
		list = append(list, one.Fields...)
	}
	return list
}

// randomDec composes a decoder that is valid, in a random mode.
func randomDec(source *rand.Rand) impl.Dec {
	d := impl.Dec{Plan: randomPlan(source), Mode: 1 + source.Intn(9), At: source.Intn(1000000001), Wire: oneOf(source, 0, 1, 2, 5)}
	d.Start = source.Intn(d.At + 1)
	d.Utf = utfStarts()[choose(source, "", "\xc2", "\xe1", "\xf1", "\xe0", "\xed", "\xf0", "\xf4")]
	if fields := fieldsOf(d.Plan.Schema); len(fields) > 0 && source.Intn(4) > 0 {
		d.Field = fields[source.Intn(len(fields))]
	}
	n := 1 + source.Intn(d.Plan.Deep)
	for range n {
		d.Stack = append(d.Stack, level(source.Intn(len(d.Plan.Schema.Shapes)), source.Intn(2001)))
	}
	last := &d.Stack[n-1]
	last.Left = max(last.Left, 1)
	randomScan(source, &d)
	switch d.Mode {
	case 1:
		d.Stack = nil
	case 3:
		d.Wire = 0
	case 4:
		d.Wire = 2
	case 6, 7, 8:
		d.Want = 1 + source.Intn(last.Left)
	case 9:
		d.Stack, d.End = d.Stack[:source.Intn(n+1)], failOf(1+source.Intn(30), source.Intn(100))
		last.Left = source.Intn(2001)
	}
	if mayBe(d.Field, d.Mode, d.Wire) {
		return fixedDec(source, d)
	}
	return randomDec(source)
}

// mayBe tells whether the field, or none, can be decoded in this mode after this wire type.
func mayBe(f impl.Field, mode int, wire int) bool {
	return slices.Contains(wiresIn(mode, f.Kind, f.Repeated), wire)
}

func randomScan(source *rand.Rand, d *impl.Dec) {
	if d.Mode < 6 || d.Mode == 8 {
		d.Scan.Have = source.Intn(10)
		d.Scan.Bits = source.Uint64() & (1<<(7*d.Scan.Have) - 1)
	}
}

// fixedDec has a part of an integer of fixed width instead, if one is decoded, with room for the rest.
func fixedDec(source *rand.Rand, d impl.Dec) impl.Dec {
	width := 0
	switch d.Mode {
	case 5:
		width = modelWidth(d.Wire)
	case 8:
		width = modelWidth(rowOf(d.Field.Kind).wire)
	}
	if width == 0 {
		return d
	}
	d.Scan.Have = source.Intn(width)
	d.Scan.Bits = source.Uint64() & (1<<(8*d.Scan.Have) - 1)
	last := &d.Stack[len(d.Stack)-1]
	last.Left = width - d.Scan.Have + source.Intn(3)
	if d.Mode == 8 {
		d.Want = width - d.Scan.Have + source.Intn(last.Left-width+d.Scan.Have+1)
	}
	return d
}

func TestRandomDecoders(t *testing.T) {
	source := rand.New(rand.NewSource(140))
	edits := decEdits(source)
	modes, valid := map[int]int{}, map[bool]int{}
	for range 30000 {
		d := randomDec(source)
		checkDec(t, d, true)
		modes[d.Mode]++
		for range 1 + source.Intn(3) {
			edits[source.Intn(len(edits))](&d)
			valid[compareDec(t, d)]++
		}
	}
	for mode := 1; mode <= 9; mode++ {
		if modes[mode] < 500 {
			t.Errorf("%d decoders are in the mode %d", modes[mode], mode)
		}
	}
	if valid[true] < 10000 || valid[false] < 10000 {
		t.Errorf("the decoders are valid or not %v times", valid)
	}
}

// Every combination of a few values of the parts that depend on each other.
func TestDecodersAtAllLimits(t *testing.T) {
	fields := []impl.Field{{}, kindField(0, 1), kindField(1, 3), kindField(1, 4), kindField(0, 5), kindField(2, 5), kindField(0, 6), kindField(2, 8)}
	stacks := [][]impl.Level{nil, {level(0, 0)}, {level(0, 1)}, {level(2, 0), level(1, 4)}, {level(0, 9), level(0, 8)}, {level(0, 9), level(0, 8), level(0, 8)}}
	scans := []impl.Scan{{}, scanOf(1, 0), scanOf(127, 1), scanOf(128, 1), scanOf(255, 4), scanOf(0, 7)}
	count := map[int]int{}
	for mode := range 11 {
		for _, f := range fields {
			for _, wire := range []int{0, 1, 2, 5} {
				for _, stack := range stacks {
					for _, s := range scans {
						for _, want := range []int{0, 1, 4, 8} {
							for _, end := range []impl.Event{{}, doneOf(0)} {
								d := impl.Dec{Plan: kindsPlan(2), Mode: mode, Stack: stack, Scan: s, Field: f, Wire: wire, Want: want, End: end}
								count[mode] += truth(compareDec(t, d))
							}
						}
					}
				}
			}
		}
	}
	// In the order of the factors: fields, wire types, stacks, scans, wants and ends.
	want := map[int]int{
		1: 8 * 4 * 1 * 4, 2: 8 * 4 * 3 * 4, 3: 3 * 1 * 3 * 4, 4: 6 * 1 * 3 * 4, 6: 1 * 4 * 6, 7: 8 * 4 * 6, 9: 8 * 4 * 5,
	}
	for mode, n := range want {
		if count[mode] != n {
			t.Errorf("%d decoders in the mode %d are valid, not %d", count[mode], mode, n)
		}
	}
	if count[0] != 0 || count[10] != 0 || count[5] == 0 || count[8] == 0 {
		t.Error(count)
	}
}

func checkSameDec(t *testing.T, a impl.Dec, b impl.Dec, want bool) {
	t.Helper()
	if got := impl.SameDec(a, b); got != want {
		t.Errorf("SameDec is %v: %s and %s", got, decLine(a), decLine(b))
	}
	if got := impl.SameDec(b, a); got != want {
		t.Errorf("SameDec is %v: %s and %s", got, decLine(b), decLine(a))
	}
}

// fullDec has no part that is zero, and no two that are equal, so it is not valid.
func fullDec() impl.Dec {
	return impl.Dec{
		Plan: planOf(sampleSchema(), 2, 7, 90), Mode: 8, Stack: []impl.Level{level(11, 12), level(13, 14), level(15, 16)}, Scan: scanOf(17, 18),
		Start: 19, At: 21, Field: impl.Field{Number: 22, Kind: 23, Repeated: true, Msg: 24}, Wire: 25, Want: 26, Utf: utf(27, 28, 29),
		End: impl.Event{Kind: 31, Field: 32, Bits: 33, Len: 34, Text: "abz", Code: 35, At: 36},
	}
}

// numbersOfDec are the integers of a decoder with three levels, outside of its schema, its Field and its End.
func numbersOfDec(d *impl.Dec) []*int {
	list := []*int{
		&d.Plan.Root, &d.Plan.Deep, &d.Plan.Most, &d.Mode, &d.Scan.Have, &d.Start, &d.At, &d.Wire, &d.Want, &d.Utf.Want, &d.Utf.Low, &d.Utf.High,
	}
	for i := range d.Stack {
		list = append(list, &d.Stack[i].Msg, &d.Stack[i].Left)
	}
	return list
}

// changedDecs differ from fullDec in one part each.
func changedDecs() []impl.Dec {
	var list []impl.Dec
	change := func(edit func(d *impl.Dec)) {
		d := copyOfDec(fullDec())
		edit(&d)
		list = append(list, d)
	}
	d := fullDec()
	for i := range numbersOfDec(&d) {
		for _, edit := range []func(n *int){
			func(n *int) { *n++ }, func(n *int) { *n-- }, func(n *int) { *n = -*n }, func(n *int) { *n += 1 << 32 }, func(n *int) { *n = 0 },
		} {
			change(func(d *impl.Dec) { edit(numbersOfDec(d)[i]) })
		}
	}
	for _, bits := range []uint64{0, 16, 18, 17 + 1<<32, 17 + 1<<63, math.MaxUint64} {
		change(func(d *impl.Dec) { d.Scan.Bits = bits })
	}
	for _, edit := range compiledChanges() {
		change(func(d *impl.Dec) { edit(&d.Field) })
	}
	for _, edit := range eventChanges() {
		change(func(d *impl.Dec) { edit(&d.End) })
	}
	for _, s := range append(changedSchemas(), turnedSchemas()...) {
		change(func(d *impl.Dec) { d.Plan.Schema = s })
	}
	for at := range 4 {
		change(func(d *impl.Dec) { d.Stack = slices.Insert(d.Stack, at, level(0, 0)) })
	}
	for at := range 3 {
		change(func(d *impl.Dec) { d.Stack = slices.Delete(d.Stack, at, at+1) })
		change(func(d *impl.Dec) { d.Stack[at].Msg, d.Stack[at].Left = d.Stack[at].Left, d.Stack[at].Msg })
		change(func(d *impl.Dec) { d.Stack[at], d.Stack[(at+1)%3] = d.Stack[(at+1)%3], d.Stack[at] })
	}
	change(func(d *impl.Dec) { d.Stack = nil })
	change(func(d *impl.Dec) { slices.Reverse(d.Stack[1:]) })
	change(func(d *impl.Dec) { d.Scan = impl.Scan{} })
	change(func(d *impl.Dec) { d.Field = impl.Field{} })
	change(func(d *impl.Dec) { d.End = impl.Event{} })
	change(func(d *impl.Dec) { d.Utf = impl.Utf{} })
	return list
}

func TestSameDecoders(t *testing.T) {
	list := []impl.Dec{{}, fullDec()}
	for mode := 1; mode <= 9; mode++ {
		list = append(list, decIn(mode))
	}
	for i, a := range list {
		checkSameDec(t, a, a, true)
		checkSameDec(t, a, copyOfDec(a), true)
		for _, b := range list[:i] {
			checkSameDec(t, a, b, false)
		}
	}
}

func TestDecodersThatDifferInOnePart(t *testing.T) {
	changed := changedDecs()
	if len(changed) < 250 {
		t.Fatalf("%d decoders", len(changed))
	}
	lines := make([]string, len(changed))
	for i, d := range changed {
		lines[i] = decLine(d)
		checkSameDec(t, fullDec(), d, false)
		checkSameDec(t, d, copyOfDec(d), true)
	}
	for i, a := range changed {
		for j, b := range changed[:i] {
			checkSameDec(t, a, b, lines[i] == lines[j])
		}
	}
}

// Two parts that have each other's values do not make up for it, nor does one that is equal to the other decoder's.
func TestDecodersWithExchangedParts(t *testing.T) {
	d := fullDec()
	n := len(numbersOfDec(&d))
	for i := range n {
		for j := range i {
			other := copyOfDec(fullDec())
			a, b := numbersOfDec(&other)[i], numbersOfDec(&other)[j]
			*a, *b = *b, *a
			checkSameDec(t, fullDec(), other, decLine(other) == decLine(fullDec()))
			*b = *a
			checkSameDec(t, fullDec(), other, decLine(other) == decLine(fullDec()))
		}
	}
}

func TestRandomSameDecoders(t *testing.T) {
	source := rand.New(rand.NewSource(141))
	edits := decEdits(source)
	same := map[bool]int{}
	for range 20000 {
		a := randomDec(source)
		b := copyOfDec(a)
		for range source.Intn(3) {
			edits[source.Intn(len(edits))](&b)
		}
		want := decLine(a) == decLine(b)
		checkSameDec(t, a, b, want)
		same[want]++
	}
	if same[true] < 5000 || same[false] < 5000 {
		t.Error(same)
	}
}

// emptyDecs are fullDec with an edit that leaves a slice nil, and with the same that leaves it empty.
func emptyDecs(edit func(d *impl.Dec, empty bool)) []impl.Dec {
	var list []impl.Dec
	for _, empty := range []bool{false, true} {
		d := fullDec()
		edit(&d, empty)
		list = append(list, d)
	}
	return list
}

func TestNilAndEmptySlicesOfDecoders(t *testing.T) {
	pairs := [][]impl.Dec{
		emptyDecs(func(d *impl.Dec, empty bool) {
			d.Stack = nil
			if empty {
				d.Stack = levelsOf(3, 1, 2)[:0]
			}
		}),
		emptyDecs(func(d *impl.Dec, empty bool) {
			d.Plan.Schema.Shapes = nil
			if empty {
				d.Plan.Schema.Shapes = sixShapes().Shapes[2:2]
			}
		}),
		emptyDecs(func(d *impl.Dec, empty bool) {
			d.Plan.Schema.Shapes[1].Fields = nil
			if empty {
				d.Plan.Schema.Shapes[1].Fields = []impl.Field{}
			}
		}),
	}
	for i, one := range pairs {
		checkSameDec(t, one[0], one[1], true)
		checkSameDec(t, one[0], fullDec(), false)
		checkSameDec(t, one[1], fullDec(), false)
		for _, other := range pairs[:i] {
			checkSameDec(t, one[0], other[1], false)
			checkSameDec(t, one[1], other[0], false)
		}
	}
	checkSameDec(t, impl.Dec{Stack: []impl.Level{}}, impl.Dec{}, true)
	checkSameDec(t, impl.Dec{Stack: []impl.Level{{}}}, impl.Dec{}, false)
	for _, stack := range [][]impl.Level{nil, {}, levelsOf(3, 1, 2)[:0]} {
		checkDec(t, changedDec(1, func(d *impl.Dec) { d.Stack = stack }), true)
		checkDec(t, changedDec(9, func(d *impl.Dec) { d.Stack = stack }), true)
		checkDec(t, changedDec(2, func(d *impl.Dec) { d.Stack = stack }), false)
	}
}

// Retained does not ask whether the decoder is valid.
func TestRetained(t *testing.T) {
	for _, have := range append(intSamples(), 0, 9, 10) {
		for _, mode := range nearModes() {
			for _, d := range []impl.Dec{{Mode: mode, Scan: scanOf(5, have)}, {Plan: kindsPlan(2), Mode: mode, Scan: scanOf(0, have), Want: 7}} {
				if got := impl.Retained(d); got != have {
					t.Errorf("Retained is %d: %s", got, decLine(d))
				}
			}
		}
	}
	for _, have := range []int{0, 1, 9} {
		d := changedDec(1, func(d *impl.Dec) { d.Scan = scanOf(0, have) })
		checkDec(t, d, true)
		if got := impl.Retained(d); got != have {
			t.Errorf("Retained is %d: %s", got, decLine(d))
		}
	}
}

func TestLeftIn(t *testing.T) {
	check := func(mode int, lefts []int, want int) {
		t.Helper()
		d := changedDec(mode, func(d *impl.Dec) {
			d.Plan.Deep, d.Stack = 8, nil
			for i, left := range lefts {
				d.Stack = append(d.Stack, level(i%3, left))
			}
		})
		checkDec(t, d, want > 0 || len(lefts) == 0 || mode == 9)
		if got := impl.LeftIn(d); got != want {
			t.Errorf("LeftIn is %d, not %d: %s", got, want, decLine(d))
		}
	}
	check(1, nil, 0)
	check(9, nil, 0)
	check(9, []int{0}, 0)
	check(9, []int{0, 3, 0}, 3)
	check(2, []int{1}, 1)
	check(3, []int{0, 0, 1}, 1)
	check(4, []int{2000, 1999}, 3999)
	check(5, []int{100, 20, 5}, 125)
	check(6, []int{7, 7, 7, 7, 7, 7, 7, 7}, 56)
	check(8, []int{2000, 2000, 2000, 2000, 2000, 2000, 2000, 2000}, 16000)
	check(2, []int{1, 2, 4, 8, 16, 32, 64, 128}, 255)
	// In a decoder that is not valid, no bytes are left.
	check(1, []int{5}, 0)
	check(2, []int{5, 0}, 0)
	check(2, []int{-1, 5}, 0)
	check(6, []int{50, 6}, 0)
	check(7, []int{2001, 50}, 0)
	check(0, []int{50}, 0)
	check(10, []int{50}, 0)
	check(2, []int{1, 1, 1, 1, 1, 1, 1, 1, 1}, 0)
}

// roomyDec is the same decoder in arrays with room for more, which is filled.
func roomyDec(d impl.Dec) impl.Dec {
	d.Plan = roomyPlan(d.Plan)
	d.Stack = append(slices.Clone(d.Stack), level(77, 78), level(-79, -80))[:len(d.Stack)]
	return d
}

// whollyDec writes a decoder and everything that is beyond its lengths.
func whollyDec(d impl.Dec) string {
	return fmt.Sprint(decLine(d), whollySchema(d.Plan.Schema), d.Stack[:cap(d.Stack)])
}

// spoilDec overwrites everything that d can reach.
func spoilDec(d impl.Dec) {
	spoilSchema(d.Plan.Schema)
	stack := d.Stack[:cap(d.Stack)]
	for i := range stack {
		stack[i] = level(-9, -9)
	}
}

// someDecs are valid and invalid decoders.
func someDecs() []impl.Dec {
	list := []impl.Dec{{}, fullDec()}
	for mode := 1; mode <= 9; mode++ {
		list = append(list, decIn(mode))
	}
	source := rand.New(rand.NewSource(142))
	edits := decEdits(source)
	for range 300 {
		d := randomDec(source)
		list = append(list, copyOfDec(d))
		edits[source.Intn(len(edits))](&d)
		list = append(list, d)
	}
	return list
}

func TestReadingDecodersChangesNothing(t *testing.T) {
	list := someDecs()
	for i, one := range list {
		a, b := roomyDec(one), roomyDec(list[(i*7+1)%len(list)])
		wasA, wasB := whollyDec(a), whollyDec(b)
		checkDec(t, a, len(decFaults(one)) == 0)
		checkSameDec(t, a, b, decLine(one) == decLine(b))
		checkSameDec(t, a, one, true)
		impl.ModeWord(a.Mode)
		impl.DecNew(a.Plan)
		if whollyDec(a) != wasA || whollyDec(b) != wasB {
			t.Errorf("%s and %s were changed to %s and %s", wasA, wasB, whollyDec(a), whollyDec(b))
		}
	}
}

// Unused capacity is no part of a decoder.
func TestWhatIsBeyondTheLengthsOfADecoderDoesNotCount(t *testing.T) {
	for _, d := range someDecs() {
		spare := roomyDec(d)
		checkDec(t, spare, len(decFaults(d)) == 0)
		checkSameDec(t, spare, copyOfDec(d), true)
		longer := spare
		longer.Stack = spare.Stack[:len(d.Stack)+1]
		checkSameDec(t, longer, d, false)
		checkDec(t, longer, false)
		longer = spare
		longer.Plan.Schema.Shapes = spare.Plan.Schema.Shapes[:len(d.Plan.Schema.Shapes)+1]
		checkSameDec(t, longer, d, false)
	}
}

// A decoder keeps its plan when the plan that was given changes, and that and later decoders when a decoder changes.
func TestNewDecodersShareNoMemory(t *testing.T) {
	for _, plan := range somePlans() {
		p := roomyPlan(plan)
		was := whollySchema(p.Schema)
		first, ok := impl.DecNew(p)
		second, _ := impl.DecNew(p)
		want := decLine(second)
		spoilDec(first)
		if !reflect.DeepEqual(whollySchema(p.Schema), was) {
			t.Fatalf("changing the decoder of %v changed the plan", plan)
		}
		if decLine(second) != want {
			t.Fatalf("changing a decoder of %v changed another one to %s", plan, decLine(second))
		}
		checkNew(t, p, ok)
		spoilSchema(p.Schema)
		if decLine(second) != want || impl.DecOk(second) != ok {
			t.Fatalf("changing the plan %v changed its decoder to %s", plan, decLine(second))
		}
	}
}

// The shapes of a plan may have their fields in one array, but those of a decoder do not.
func TestShapesOfNewDecodersShareNoMemory(t *testing.T) {
	fields := []impl.Field{compiledField(1, 1), compiledField(2, 6), compiledField(3, 4)}
	p := planOf(schema(shape(1, fields...), shape(2, fields...), shape(3, fields[:2]...), shape(4, fields[1:]...)), 0, 1, 0)
	for at := range 4 {
		d, ok := impl.DecNew(p)
		if !ok {
			t.Fatal("the plan is not valid")
		}
		spoilSchema(schema(d.Plan.Schema.Shapes[at]))
		want := planOf(schemaCopy(p.Schema), 0, 1, 0)
		want.Schema.Shapes[at].Fields = d.Plan.Schema.Shapes[at].Fields
		if decLine(d) != decLine(impl.Dec{Plan: want, Mode: 1}) {
			t.Errorf("changing the shape %d changed others: %s", at, decLine(d))
		}
	}
}

// The results do not depend on the calls before.
func TestDecodersAreTheSameEachTime(t *testing.T) {
	bad := changedDec(6, func(d *impl.Dec) { d.Want = 0 })
	for range 20 {
		for mode := 1; mode <= 9; mode++ {
			checkDec(t, bad, false)
			checkDec(t, decIn(mode), true)
			checkNew(t, impl.Plan{}, false)
			checkNew(t, kindsPlan(2), true)
			checkSameDec(t, bad, decIn(mode), false)
			checkSameDec(t, decIn(mode), decIn(mode), true)
		}
	}
}
