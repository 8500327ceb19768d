package tests

import (
	"encoding/binary"
	"math"
	"math/big"
	"math/rand"
	"testing"

	"loop.example/g00498/impl"
)

// intSamples are the integers around zero, around the limits of chapter 4, around every power of two and its negative, and some others.
func intSamples() []int {
	list := []int{math.MinInt, math.MinInt + 1, math.MaxInt - 1, math.MaxInt}
	for n := -300; n <= 300; n++ {
		list = append(list, n, 19000+n, 19999+n, 536870911+n)
	}
	for shift := 1; shift < 63; shift++ {
		for _, n := range []int{1<<shift - 1, 1 << shift, 1<<shift + 1} {
			list = append(list, n, -n)
		}
	}
	source := rand.New(rand.NewSource(4))
	for range 2000 {
		list = append(list, int(source.Uint64())>>source.Intn(64))
	}
	return list
}

// numberSamples are numbers that a tag has room for.
func numberSamples() []int {
	var list []int
	for n := 1; n <= 3000; n++ {
		list = append(list, n)
	}
	for _, n := range intSamples() {
		if n > 3000 && n <= 536870911 {
			list = append(list, n)
		}
	}
	return list
}

func checkTagIn(t *testing.T, u uint64, number int, wire int, ok bool) {
	t.Helper()
	if n, w, o := impl.TagIn(u); n != number || w != wire || o != ok {
		t.Errorf("TagIn(%d) = %d, %d, %v, not %d, %d, %v", u, n, w, o, number, wire, ok)
	}
}

func checkZig(t *testing.T, n int, u uint64) {
	t.Helper()
	if got := impl.Zig(n); got != u {
		t.Errorf("Zig(%d) = %d, not %d", n, got, u)
	}
	if got := impl.Unzig(u); got != n {
		t.Errorf("Unzig(%d) = %d, not %d", u, got, n)
	}
}

// The constants have no type, so they can be assigned to a type that only this test has.
func TestWireTypesAndLargestNumber(t *testing.T) {
	type own uint32
	var eight, four, long, varint, largest own = impl.WrEight, impl.WrFour, impl.WrLong, impl.WrVar, impl.MaxNumber
	if varint != 0 || eight != 1 || long != 2 || four != 5 || largest != 536870911 {
		t.Errorf("WrVar = %d, WrEight = %d, WrLong = %d, WrFour = %d, MaxNumber = %d", varint, eight, long, four, largest)
	}
}

func TestNumberOkAtTheLimits(t *testing.T) {
	for n, want := range map[int]bool{
		math.MinInt: false, -536870911: false, -19999: false, -1: false, 0: false, 1: true, 2: true,
		18998: true, 18999: true, 19000: false, 19001: false, 19500: false, 19998: false, 19999: false, 20000: true, 20001: true,
		536870910: true, 536870911: true, 536870912: false, 536870913: false,
		1 << 31: false, 1 << 32: false, 1<<32 + 1: false, math.MaxInt - 1: false, math.MaxInt: false,
	} {
		if got := impl.NumberOk(n); got != want {
			t.Errorf("NumberOk(%d) = %v", n, got)
		}
	}
}

func TestNumberOk(t *testing.T) {
	for n := -100; n <= 40000; n++ {
		if got := impl.NumberOk(n); got != (n >= 1 && n <= 18999 || n >= 20000) {
			t.Errorf("NumberOk(%d) = %v", n, got)
		}
	}
	for _, n := range intSamples() {
		want := n >= 1 && n <= 18999 || n >= 20000 && n <= 536870911
		if got := impl.NumberOk(n); got != want {
			t.Errorf("NumberOk(%d) = %v", n, got)
		}
	}
}

func TestWireOk(t *testing.T) {
	valid := map[int]bool{0: true, 1: true, 2: true, 5: true}
	for w := -1; w <= 8; w++ {
		if got := impl.WireOk(w); got != valid[w] {
			t.Errorf("WireOk(%d) = %v", w, got)
		}
	}
	for _, w := range intSamples() {
		if got := impl.WireOk(w); got != valid[w] {
			t.Errorf("WireOk(%d) = %v", w, got)
		}
	}
}

func TestWidthOf(t *testing.T) {
	widths := map[int]int{1: 8, 5: 4}
	for w := -1; w <= 8; w++ {
		if got := impl.WidthOf(w); got != widths[w] {
			t.Errorf("WidthOf(%d) = %d", w, got)
		}
	}
	for _, w := range intSamples() {
		if got := impl.WidthOf(w); got != widths[w] {
			t.Errorf("WidthOf(%d) = %d", w, got)
		}
	}
}

// The width of a wire type is that of its integers: they can be encoded in it, and a zero width in none.
func TestWidthsAreThoseOfFixedIntegers(t *testing.T) {
	for w := -1; w <= 8; w++ {
		width := impl.WidthOf(w)
		if got := impl.PutFix(1, width); len(got) != width {
			t.Errorf("PutFix(1, WidthOf(%d)) = %q", w, got)
		}
	}
}

func TestTagOf(t *testing.T) {
	for _, c := range []struct {
		number, wire int
		want         uint64
	}{
		{1, 0, 8}, {1, 7, 15}, {2, 0, 16}, {3, 2, 26}, {15, 5, 125}, {16, 1, 129},
		// The number need not be valid, nor the wire type.
		{1, 3, 11}, {1, 4, 12}, {1, 6, 14}, {18999, 2, 151994}, {19000, 2, 152002}, {19999, 2, 159994}, {19999, 7, 159999}, {20000, 0, 160000},
		{536870911, 0, 4294967288}, {536870911, 5, 4294967293}, {536870911, 7, 4294967295}, {536870910, 7, 4294967287},
		// One of the two is just outside its range.
		{0, 0, 0}, {0, 2, 0}, {0, 7, 0}, {-1, 0, 0}, {-1, 7, 0}, {536870912, 0, 0}, {536870912, 7, 0},
		{1, -1, 0}, {1, 8, 0}, {536870911, -1, 0}, {536870911, 8, 0}, {3, -1, 0}, {3, 8, 0},
		// Both are.
		{0, -1, 0}, {0, 8, 0}, {536870912, -1, 0}, {536870912, 8, 0},
		// Far outside, where the sum would wrap around to a tag.
		{math.MinInt, 0, 0}, {math.MinInt, 7, 0}, {math.MaxInt, 0, 0}, {math.MaxInt, 7, 0}, {1<<61 + 1, 2, 0}, {-1<<61 + 3, 2, 0},
		{1, math.MinInt, 0}, {1, math.MaxInt, 0}, {1, 1 << 32, 0}, {2, -8, 0}, {2, 16, 0},
		{math.MinInt, math.MinInt, 0}, {math.MaxInt, math.MaxInt, 0}, {math.MinInt, math.MaxInt, 0}, {math.MaxInt, math.MinInt, 0},
	} {
		if got := impl.TagOf(c.number, c.wire); got != c.want {
			t.Errorf("TagOf(%d, %d) = %d, not %d", c.number, c.wire, got, c.want)
		}
	}
}

// tagged says what the document says of TagOf, in big integers.
func tagged(number int, wire int) uint64 {
	if number < 1 || number > 536870911 || wire < 0 || wire > 7 {
		return 0
	}
	tag := new(big.Int).Mul(big.NewInt(8), big.NewInt(int64(number)))
	return tag.Add(tag, big.NewInt(int64(wire))).Uint64()
}

func TestTagOfSamples(t *testing.T) {
	wires := []int{math.MinInt, math.MinInt + 1, -1 << 32, -1 << 31, 1 << 31, 1 << 32, 1<<32 + 2, math.MaxInt - 1, math.MaxInt}
	for w := -20; w <= 20; w++ {
		wires = append(wires, w)
	}
	for _, number := range intSamples() {
		for _, wire := range wires {
			if got, want := impl.TagOf(number, wire), tagged(number, wire); got != want {
				t.Errorf("TagOf(%d, %d) = %d, not %d", number, wire, got, want)
			}
		}
	}
}

func TestTagInAtTheLimits(t *testing.T) {
	for u := range uint64(8) {
		checkTagIn(t, u, 0, 0, false)
	}
	checkTagIn(t, 8, 1, 0, true)
	checkTagIn(t, 9, 1, 1, true)
	checkTagIn(t, 15, 1, 7, true)
	checkTagIn(t, 16, 2, 0, true)
	checkTagIn(t, 26, 3, 2, true)
	checkTagIn(t, 152000, 19000, 0, true)
	checkTagIn(t, 159999, 19999, 7, true)
	checkTagIn(t, 1<<31-1, 268435455, 7, true)
	checkTagIn(t, 1<<31, 268435456, 0, true)
	checkTagIn(t, 4294967287, 536870910, 7, true)
	checkTagIn(t, 4294967288, 536870911, 0, true)
	checkTagIn(t, 4294967295, 536870911, 7, true)
	for _, u := range []uint64{
		4294967296, 4294967297, 4294967303, 4294967304, 4294967304 + 18, 1 << 33, 1<<61 + 8, 1<<62 + 26,
		1<<63 - 1, 1 << 63, 1<<63 + 8, 1<<63 + 26, math.MaxUint64 - 8, math.MaxUint64 - 7, math.MaxUint64 - 1, math.MaxUint64,
	} {
		checkTagIn(t, u, 0, 0, false)
	}
}

func TestTagInGivesBackEveryTag(t *testing.T) {
	for _, number := range numberSamples() {
		for wire := range 8 {
			checkTagIn(t, impl.TagOf(number, wire), number, wire, true)
		}
	}
}

// checkTagInTurnsBack compares what TagIn tells of u with what TagOf makes of it.
func checkTagInTurnsBack(t *testing.T, u uint64) {
	t.Helper()
	number, wire, ok := impl.TagIn(u)
	switch {
	case ok != (u >= 8 && u <= 4294967295):
		t.Errorf("TagIn(%d) = %d, %d, %v", u, number, wire, ok)
	case ok && impl.TagOf(number, wire) != u:
		t.Errorf("TagOf(TagIn(%d)) = %d", u, impl.TagOf(number, wire))
	case !ok && (number != 0 || wire != 0):
		t.Errorf("TagIn(%d) = %d, %d, %v", u, number, wire, ok)
	}
}

func TestTagInRefusesWhatIsNoTag(t *testing.T) {
	for u := range uint64(200000) {
		checkTagInTurnsBack(t, u)
		checkTagInTurnsBack(t, 4294967295-100000+u)
		checkTagInTurnsBack(t, math.MaxUint64-u)
	}
	for _, u := range sampleValues() {
		checkTagInTurnsBack(t, u)
		// The same tag with bits above it, as after a conversion to fewer bits.
		checkTagInTurnsBack(t, u%(1<<32)+1<<32)
		checkTagInTurnsBack(t, u%(1<<32)+1<<61)
		checkTagInTurnsBack(t, u%(1<<32)+1<<63)
	}
}

func TestDifferentComponentsHaveDifferentTags(t *testing.T) {
	type parts struct{ number, wire int }
	made := map[uint64]parts{}
	for _, number := range numberSamples() {
		for wire := range 8 {
			this, tag := parts{number, wire}, impl.TagOf(number, wire)
			other, known := made[tag]
			if known && other != this {
				t.Errorf("TagOf(%d, %d) = TagOf(%d, %d) = %d", number, wire, other.number, other.wire, tag)
			}
			// None of them is the zero of the invalid arguments either.
			if tag == 0 {
				t.Errorf("TagOf(%d, %d) = 0", number, wire)
			}
			made[tag] = this
		}
	}
}

func TestZig(t *testing.T) {
	checkZig(t, 0, 0)
	checkZig(t, -1, 1)
	checkZig(t, 1, 2)
	checkZig(t, -2, 3)
	checkZig(t, 2, 4)
	checkZig(t, -64, 127)
	checkZig(t, 64, 128)
	checkZig(t, 1<<31-1, 1<<32-2)
	checkZig(t, -1<<31, 1<<32-1)
	checkZig(t, 1<<31, 1<<32)
	checkZig(t, 1<<62-1, 1<<63-2)
	checkZig(t, -1<<62, 1<<63-1)
	checkZig(t, 1<<62, 1<<63)
	checkZig(t, -1<<62-1, 1<<63+1)
	checkZig(t, math.MaxInt-1, math.MaxUint64-3)
	checkZig(t, math.MinInt+1, math.MaxUint64-2)
	checkZig(t, math.MaxInt, math.MaxUint64-1)
	checkZig(t, math.MinInt, math.MaxUint64)
}

// zigged says what the document says of Zig, in big integers.
func zigged(n int) uint64 {
	double := new(big.Int).Mul(big.NewInt(2), big.NewInt(int64(n)))
	if n >= 0 {
		return double.Uint64()
	}
	return double.Neg(double).Sub(double, big.NewInt(1)).Uint64()
}

func TestZigOfSamples(t *testing.T) {
	for _, n := range intSamples() {
		checkZig(t, n, zigged(n))
		if got, want := impl.PutVar(impl.Zig(n)), string(binary.AppendVarint(nil, int64(n))); got != want {
			t.Errorf("PutVar(Zig(%d)) = %q, not %q", n, got, want)
		}
	}
}

func TestZigInvertsUnzig(t *testing.T) {
	for u := range uint64(1000) {
		for _, v := range []uint64{u, 1<<63 - 500 + u, math.MaxUint64 - u} {
			if got := impl.Zig(impl.Unzig(v)); got != v {
				t.Errorf("Zig(Unzig(%d)) = %d", v, got)
			}
		}
	}
	for _, u := range sampleValues() {
		if got := impl.Zig(impl.Unzig(u)); got != u {
			t.Errorf("Zig(Unzig(%d)) = %d", u, got)
		}
	}
}

// The integers from -m to m - 1 have the encodings from 0 to 2m - 1, so no integer of a larger magnitude has one of them.
func TestSmallMagnitudesHaveSmallEncodings(t *testing.T) {
	const m = 2000
	seen := [2 * m]bool{}
	for n := -m; n < m; n++ {
		u := impl.Zig(n)
		if u >= 2*m || seen[u] {
			t.Fatalf("Zig(%d) = %d", n, u)
		}
		seen[u] = true
	}
}

func TestEncodingsGrowWithTheMagnitude(t *testing.T) {
	for _, n := range intSamples() {
		if n < 0 || n == math.MaxInt {
			continue
		}
		// In the order of their encodings: n, -n - 1, n + 1.
		if a, b, c := impl.Zig(n), impl.Zig(-n-1), impl.Zig(n+1); a >= b || b >= c {
			t.Errorf("Zig(%d) = %d, Zig(%d) = %d, Zig(%d) = %d", n, a, -n-1, b, n+1, c)
		}
	}
	// n bytes of a varint hold the integers of 7n - 1 bits and a sign.
	for n := 1; n <= 9; n++ {
		limit := 1 << (7*n - 1)
		for _, c := range []struct{ value, want int }{{limit - 1, n}, {-limit, n}, {limit, n + 1}, {-limit - 1, n + 1}} {
			if got := impl.VarLen(impl.Zig(c.value)); got != c.want {
				t.Errorf("VarLen(Zig(%d)) = %d, not %d", c.value, got, c.want)
			}
		}
	}
}
