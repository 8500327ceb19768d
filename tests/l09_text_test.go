package tests

import (
	"math"
	"math/rand"
	"reflect"
	"regexp"
	"slices"
	"strconv"
	"strings"
	"testing"

	"loop.example/g00498/impl"
)

// The patterns are anchored by \z, since a line end at the end of a text is one byte too many.
const (
	fieldPattern = `[1-9][0-9]{0,8} (?:uint|sint|bool|four|eight|text|bytes|msg [1-9][0-9]?)(?: repeated)?(?: packed)?`
	msgPattern   = `[1-9][0-9]?:(?:` + fieldPattern + `(?:,` + fieldPattern + `)*)?`
	rawPattern   = msgPattern + `(?:;` + msgPattern + `)*`
)

var (
	wholeField = regexp.MustCompile(`\A` + fieldPattern + `\z`)
	wholeRaw   = regexp.MustCompile(`\A(?:` + rawPattern + `)?\z`)
	eachMsg    = regexp.MustCompile(msgPattern)
	eachField  = regexp.MustCompile(fieldPattern)
)

// modelField is the text of a field as the document describes it, part by part.
func modelField(f impl.RawField) string {
	row := rowOf(f.Kind)
	text := strconv.Itoa(f.Number) + " " + row.word
	switch {
	case row.word == "" || f.Number <= 0 || f.Number >= 536870912:
		return ""
	case row.word != "msg" && f.Ref != 0, row.word == "msg" && (f.Ref <= 0 || f.Ref >= 100):
		return ""
	case row.word == "msg":
		text += " " + strconv.Itoa(f.Ref)
	}
	return text + []string{"", " repeated"}[truth(f.Repeated)] + []string{"", " packed"}[truth(f.Packed)]
}

// looseText is written without asking whether r is valid.
func looseText(r impl.Raw) string {
	text := ""
	for i, m := range r.Msgs {
		text += []string{"", ";"}[truth(i > 0)] + strconv.Itoa(m.Id) + ":"
		for j, f := range m.Fields {
			text += []string{"", ","}[truth(j > 0)] + modelField(f)
		}
	}
	return text
}

// modelRaw lists all violations of r before it writes anything.
func modelRaw(r impl.Raw) string {
	if least(r) != (impl.Violation{}) {
		return ""
	}
	return looseText(r)
}

// fieldOf reads a text that a pattern has accepted. A word that is there at all is at its place.
func fieldOf(s string) impl.RawField {
	words := strings.Fields(s)
	f := impl.RawField{Repeated: slices.Contains(words, "repeated"), Packed: slices.Contains(words, "packed")}
	f.Number, _ = strconv.Atoi(words[0])
	for k := 1; k <= 8; k++ {
		f.Kind += k * truth(rowOf(k).word == words[1])
	}
	if words[1] == "msg" {
		f.Ref, _ = strconv.Atoi(words[2])
	}
	return f
}

func modelReadField(s string) (impl.RawField, bool) {
	if !wholeField.MatchString(s) || fieldOf(s).Number >= 536870912 {
		return impl.RawField{}, false
	}
	return fieldOf(s), true
}

// looseRead reads a text of the form of a description, whether or not that is valid.
func looseRead(s string) (impl.Raw, bool) {
	if !wholeRaw.MatchString(s) {
		return impl.Raw{}, false
	}
	var r impl.Raw
	for _, text := range eachMsg.FindAllString(s, -1) {
		id, rest, _ := strings.Cut(text, ":")
		n, _ := strconv.Atoi(id)
		m := message(n)
		for _, one := range eachField.FindAllString(rest, -1) {
			m.Fields = append(m.Fields, fieldOf(one))
		}
		r.Msgs = append(r.Msgs, m)
	}
	return r, true
}

func modelReadRaw(s string) (impl.Raw, bool) {
	r, ok := looseRead(s)
	if !ok || least(r) != (impl.Violation{}) {
		return impl.Raw{}, false
	}
	return r, true
}

func checkReadField(t *testing.T, s string, want impl.RawField, ok bool) {
	t.Helper()
	if got, read := impl.ReadField(s); got != want || read != ok {
		t.Errorf("ReadField(%q) = %v, %v, not %v, %v", s, got, read, want, ok)
	}
	if got := impl.FieldText(want); ok && got != s {
		t.Errorf("FieldText(%v) = %q, not %q", want, got, s)
	}
}

func noField(t *testing.T, s string) {
	t.Helper()
	checkReadField(t, s, impl.RawField{}, false)
}

// checkFieldText also checks that the text, if there is one, is read as the field.
func checkFieldText(t *testing.T, f impl.RawField, want string) {
	t.Helper()
	if got := impl.FieldText(f); got != want {
		t.Errorf("FieldText(%v) = %q, not %q", f, got, want)
	}
	if want != "" {
		checkReadField(t, want, f, true)
	}
}

// checkReadRaw compares the numbers of the descriptions, with which the zero value is one without messages.
func checkReadRaw(t *testing.T, s string, want impl.Raw, ok bool) {
	t.Helper()
	got, read := impl.ReadRaw(s)
	if !slices.Equal(plain(got), plain(want)) || read != ok {
		t.Errorf("ReadRaw(%q) = %v, %v, not %v, %v", s, got, read, want, ok)
	}
	if text := impl.RawText(want); ok && text != s {
		t.Errorf("RawText(%v) = %q, not %q", want, text, s)
	}
	if ok && !impl.RawOk(got) {
		t.Errorf("ReadRaw(%q) = %v, which is not valid", s, got)
	}
}

func noRaw(t *testing.T, s string) {
	t.Helper()
	checkReadRaw(t, s, impl.Raw{}, false)
}

// checkRawText also checks that the text, if there is one, is read as the description.
func checkRawText(t *testing.T, r impl.Raw, want string) {
	t.Helper()
	if got := impl.RawText(r); got != want {
		t.Errorf("RawText(%v) = %q, not %q", r, got, want)
	}
	if want != "" || len(r.Msgs) == 0 {
		checkReadRaw(t, want, r, true)
	}
}

// compareField and compareRaw check what is read from s, which need not be a text, against the patterns.
func compareField(t *testing.T, s string) bool {
	t.Helper()
	want, ok := modelReadField(s)
	checkReadField(t, s, want, ok)
	return ok
}

func compareRaw(t *testing.T, s string) bool {
	t.Helper()
	want, ok := modelReadRaw(s)
	checkReadRaw(t, s, want, ok)
	return ok
}

// flags is f in the four combinations of Repeated and Packed.
func flags(f impl.RawField) []impl.RawField {
	list := []impl.RawField{f, f, f, f}
	for i := range list {
		list[i].Repeated, list[i].Packed = i%2 == 1, i >= 2
	}
	return list
}

// fieldTexts has the text of every kind, and of the limits.
func fieldTexts() map[string]impl.RawField {
	return map[string]impl.RawField{
		"1 uint":                           field(1, 1),
		"2 sint repeated":                  {Number: 2, Kind: 2, Repeated: true},
		"30 bool packed":                   {Number: 30, Kind: 3, Packed: true},
		"4 four repeated packed":           {Number: 4, Kind: 4, Repeated: true, Packed: true},
		"500 eight":                        field(500, 5),
		"6 text":                           field(6, 6),
		"7 bytes repeated packed":          {Number: 7, Kind: 7, Repeated: true, Packed: true},
		"8 msg 1":                          {Number: 8, Kind: 8, Ref: 1},
		"9 msg 10 repeated":                {Number: 9, Kind: 8, Repeated: true, Ref: 10},
		"10 msg 99 packed":                 {Number: 10, Kind: 8, Packed: true, Ref: 99},
		"536870911 msg 8 repeated packed":  {Number: 536870911, Kind: 8, Repeated: true, Packed: true, Ref: 8},
		"19000 uint":                       field(19000, 1),
		"19999 bytes packed":               {Number: 19999, Kind: 7, Packed: true},
		"1000 msg 50":                      {Number: 1000, Kind: 8, Ref: 50},
		"100000000 eight repeated":         {Number: 100000000, Kind: 5, Repeated: true},
		"536870911 bytes repeated packed":  {Number: 536870911, Kind: 7, Repeated: true, Packed: true},
		"536870911 msg 99 repeated packed": {Number: 536870911, Kind: 8, Repeated: true, Packed: true, Ref: 99},
	}
}

func TestFieldTexts(t *testing.T) {
	for s, f := range fieldTexts() {
		checkFieldText(t, f, s)
		if got := modelField(f); got != s {
			t.Errorf("the text of %v is %q, not %q", f, got, s)
		}
		if got, ok := modelReadField(s); got != f || !ok {
			t.Errorf("the pattern reads %q as %v, %v", s, got, ok)
		}
	}
	checkFieldText(t, impl.RawField{}, "")
	checkFieldText(t, impl.RawField{Number: -1, Kind: -1, Repeated: true, Packed: true, Ref: -1}, "")
}

// Reserved Numbers have a text, although no valid description has one.
func TestFieldTextOfNumbers(t *testing.T) {
	for n, want := range map[int]string{
		math.MinInt: "", -536870911: "", -1: "", 0: "", 1: "1 text", 9: "9 text", 10: "10 text", 18999: "18999 text", 19000: "19000 text",
		19500: "19500 text", 19999: "19999 text", 20000: "20000 text", 536870910: "536870910 text", 536870911: "536870911 text",
		536870912: "", 999999999: "", 1000000000: "", 1 << 32: "", 1<<32 + 1: "", math.MaxInt: "",
	} {
		checkFieldText(t, field(n, 6), want)
	}
	for _, n := range append(intSamples(), numberSamples()...) {
		for _, f := range flags(field(n, 1)) {
			checkFieldText(t, f, modelField(f))
		}
		checkFieldText(t, impl.RawField{Number: n, Kind: 8, Ref: 7}, modelField(impl.RawField{Number: n, Kind: 8, Ref: 7}))
		noField(t, "-"+strconv.Itoa(n)+" uint")
	}
}

func TestFieldTextOfKinds(t *testing.T) {
	for k, want := range map[int]string{
		math.MinInt: "", -1: "", 0: "", 1: "5 uint", 2: "5 sint", 3: "5 bool", 4: "5 four", 5: "5 eight", 6: "5 text", 7: "5 bytes",
		8: "5 msg 6", 9: "", 10: "", 1<<32 + 1: "", math.MaxInt: "",
	} {
		checkFieldText(t, impl.RawField{Number: 5, Kind: k, Ref: 6 * truth(k == 8)}, want)
	}
	for _, k := range manyKinds() {
		for _, ref := range []int{0, 1} {
			for _, f := range flags(impl.RawField{Number: 5, Kind: k, Ref: ref}) {
				checkFieldText(t, f, modelField(f))
			}
		}
	}
}

func TestFieldTextOfReferences(t *testing.T) {
	for ref, want := range map[int]string{
		math.MinInt: "", -99: "", -1: "", 0: "", 1: "3 msg 1", 9: "3 msg 9", 10: "3 msg 10", 98: "3 msg 98", 99: "3 msg 99",
		100: "", 101: "", 1<<8 + 1: "", 1 << 32: "", 1<<32 + 1: "", math.MaxInt: "",
	} {
		checkFieldText(t, impl.RawField{Number: 3, Kind: 8, Ref: ref}, want)
	}
	for _, ref := range intSamples() {
		for k := 0; k <= 9; k++ {
			f := impl.RawField{Number: 3, Kind: k, Ref: ref}
			checkFieldText(t, f, modelField(f))
		}
	}
}

// A kind without references has no text with one, not even with one that a message has.
func TestFieldTextOfOtherReferences(t *testing.T) {
	for k := 1; k <= 7; k++ {
		checkFieldText(t, field(3, k), "3 "+rowOf(k).word)
		for _, ref := range []int{math.MinInt, -100, -1, 1, 2, 99, 100, 1 << 32, math.MaxInt} {
			for _, f := range flags(impl.RawField{Number: 3, Kind: k, Ref: ref}) {
				checkFieldText(t, f, "")
			}
		}
	}
}

// Whether a field may be packed does not matter to its text.
func TestFieldTextOfFlags(t *testing.T) {
	suffixes := []string{"", " repeated", " packed", " repeated packed"}
	for k := 1; k <= 8; k++ {
		text := "3 " + rowOf(k).word + []string{"", " 4"}[truth(k == 8)]
		for i, f := range flags(impl.RawField{Number: 3, Kind: k, Ref: 4 * truth(k == 8)}) {
			checkFieldText(t, f, text+suffixes[i])
		}
	}
	for _, f := range flags(impl.RawField{}) {
		checkFieldText(t, f, "")
		f.Number = 1
		checkFieldText(t, f, "")
		f.Number, f.Kind = 0, 1
		checkFieldText(t, f, "")
		f.Number, f.Kind = 1, 8
		checkFieldText(t, f, "")
	}
}

// Every combination of the limits: a field has a text exactly if it can be read again.
func TestFieldsAtAllLimits(t *testing.T) {
	texts := map[string]impl.RawField{}
	for _, n := range []int{-1, 0, 1, 2, 12, 18999, 19000, 536870911, 536870912} {
		for k := -1; k <= 10; k++ {
			for _, ref := range []int{-1, 0, 1, 2, 12, 99, 100} {
				for _, f := range flags(impl.RawField{Number: n, Kind: k, Ref: ref}) {
					want := modelField(f)
					checkFieldText(t, f, want)
					if other, seen := texts[want]; seen && want != "" {
						t.Errorf("%q is the text of %v and %v", want, f, other)
					}
					texts[want] = f
				}
			}
		}
	}
	if len(texts) != 6*4*(7+4)+1 {
		t.Errorf("there are %d texts", len(texts))
	}
}

// Each is nearly a text, and is not one for the reason that the group names.
func TestNoFieldTexts(t *testing.T) {
	for reason, list := range map[string][]string{
		"no words": {"", " ", "  ", "   ", "\x00"},
		"one left out": {
			"2", "uint", "2 ", " uint", "2 repeated", "2 packed", "2 repeated packed", "uint repeated", "msg 1", "2 1", "2 msg",
			"2 msg repeated",
		},
		"order": {
			"uint 2", "repeated 2 uint", "2 repeated uint", "2 packed uint", "2 uint packed repeated", "packed repeated 2 uint", "msg 1 2",
			"2 1 msg", "1 msg repeated 2", "1 msg packed 2", "1 msg repeated 2 packed", "1 msg 2 packed repeated", "repeated uint 2",
		},
		"twice": {
			"2 2 uint", "2 uint uint", "2 uint repeated repeated", "2 uint packed packed", "2 uint repeated packed packed",
			"2 uint repeated packed repeated", "2 uint repeated repeated packed", "2 msg 1 1", "2 msg msg 1", "2 msg 1 msg 1", "1 uint 1 uint",
			"2 uint packed repeated packed",
		},
		"a word too many": {
			"2 uint x", "2 uint repeated x", "2 uint repeated packed x", "2 uint x repeated", "2 uint repeated x packed", "x 2 uint",
			"2 x uint", "2 msg 1 x", "2 msg 1 repeated packed 1", "2 uint text", "2 uint repeated text",
		},
		"spaces": {
			" 2 uint", "2 uint ", "2  uint", "2 uint  repeated", "2 uint repeated ", "2 uint repeated  packed", "2 uint repeated packed ",
			"2 msg  1", "2 msg 1 ", "2 msg ", "  2 uint", "2 uint  ", "2 msg 1  repeated", "2 uint packed ",
		},
		"other spaces": {
			"2\tuint", "2\nuint", "2uint", "2 uint\n", "\n2 uint", "2 uint\r", "2 uint\x00", "2\u00a0uint", "2 uint\trepeated", "2_uint",
			"2 uintrepeated", "2 uint repeatedpacked", "2 msg1", "2 uint+repeated",
		},
		"capitals": {
			"2 Uint", "2 UINT", "2 uinT", "2 uint Repeated", "2 uint REPEATED", "2 uint repeated Packed", "2 uint packeD", "2 Msg 1",
			"2 bYtes",
		},
		"other words": {
			"2 int", "2 uint8", "2 unit", "2 uin", "2 uints", "2 string", "2 message 1", "2 uint repeat", "2 uint repeate", "2 uint repeateds",
			"2 uint pack", "2 uint packedd", "2 1", "2 8", "2 byte", "2 ok", "2 \"uint\"", "2 uint,", "2 uint;", "2 uint:",
		},
		"numbers": {
			"02 uint", "002 uint", "0 uint", "00 uint", "-2 uint", "+2 uint", "- uint", "+ uint", "x uint", "2x uint", "x2 uint", "2.0 uint",
			"2, uint", "0x2 uint", "1e1 uint", "1_0 uint", "536870912 uint", "999999999 uint", "1000000000 uint", "0536870911 uint",
			"4294967298 uint", "18446744073709551618 uint", "\u0662 uint", "-1 uint", "536870911536870911 uint",
		},
		"references": {
			"2 msg 0", "2 msg 00", "2 msg 01", "2 msg 001", "2 msg 010", "2 msg 099", "2 msg 100", "2 msg 101", "2 msg 999", "2 msg -1",
			"2 msg +1", "2 msg -", "2 msg x", "2 msg 1x", "2 msg 257", "2 msg 4294967297", "2 msg 999999999", "2 msg 1000000000",
			"2 msg 18446744073709551617", "2 msg \u0661", "2 msg 0 repeated", "2 msg 100 repeated packed", "2 msg uint", "2 msg 1.0",
		},
		"a reference": {
			"2 uint 0", "2 uint 1", "2 sint 1", "2 bool 1", "2 four 1", "2 eight 1", "2 text 1", "2 bytes 1", "2 text 0", "2 uint 1 repeated",
			"2 uint repeated 1", "2 bytes 99 packed", "2 uint 100", "2 uint 01",
		},
		"a description": {"1:2 uint", "2 uint,3 uint", "2 uint,", ",2 uint", "2 uint;", "1:", "2 uint;3:", ":2 uint"},
		"bytes":         {"2 uint\xff", "\xff2 uint", "2 \xffuint", "2 u\xefint", "2 uint \x80", "\xff", "2 uint\u200b", "\ufeff2 uint"},
	} {
		for _, s := range list {
			if _, ok := modelReadField(s); ok {
				t.Errorf("the pattern accepts %q (%s)", s, reason)
			}
			noField(t, s)
			if s != "" && reason != "a description" {
				noRaw(t, "1:"+s+";2:")
			}
		}
	}
}

// Spellings of numbers that other parsers may accept.
func TestNumeralsOfFields(t *testing.T) {
	for _, s := range slices.Concat(malformedNumerals(), twentyDigits()) {
		noField(t, s+" uint")
		noField(t, s+" msg 1")
		noField(t, "1 msg "+s)
		noField(t, "1 msg "+s+" repeated")
		noRaw(t, s+":")
		noRaw(t, "1:;"+s+":1 uint")
	}
	for n := range 1200 {
		s := strconv.Itoa(n)
		checkReadField(t, s+" four", impl.RawField{Number: n * truth(n > 0), Kind: 4 * truth(n > 0)}, n > 0)
		noField(t, "0"+s+" four")
		noField(t, "1 msg 0"+s)
		noRaw(t, "0"+s+":")
		if n >= 1 && n <= 99 {
			checkReadField(t, "1 msg "+s, impl.RawField{Number: 1, Kind: 8, Ref: n}, true)
			checkReadRaw(t, s+":", description(message(n)), true)
			continue
		}
		noField(t, "1 msg "+s)
		noRaw(t, s+":")
	}
}

// someWords are those of field texts, and others that are nearly such words.
func someWords() []string {
	return []string{"1", "99", "100", "0", "01", "536870911", "uint", "bytes", "msg", "repeated", "packed", "", "Uint", "packe"}
}

// eachWords visits the lists of so many words, and of fewer.
func eachWords(words []string, most int, visit func(list []string)) {
	visit(words)
	if most == 0 {
		return
	}
	for _, word := range someWords() {
		eachWords(append(slices.Clip(words), word), most-1, visit)
	}
}

func TestAllOrdersOfWords(t *testing.T) {
	accepted := 0
	eachWords(nil, 5, func(list []string) { accepted += truth(compareField(t, strings.Join(list, " "))) })
	// Four Numbers, with two kinds or with one of two references.
	if want := 4 * 4 * 4; accepted != want {
		t.Errorf("%d texts were read, not %d", accepted, want)
	}
}

// The words of a text with all five, in every order, and each left out or there twice.
func TestWordsOfALongText(t *testing.T) {
	words := []string{"7", "msg", "4", "repeated", "packed"}
	accepted := 0
	eachOrder([]int{0, 1, 2, 3, 4}, func(order []int) {
		for n := range len(order) + 1 {
			var list []string
			for _, at := range order[:n] {
				list = append(list, words[at])
			}
			accepted += truth(compareField(t, strings.Join(list, " ")))
			for at := range list {
				noField(t, strings.Join(slices.Insert(slices.Clone(list), at, list[at]), " "))
			}
		}
	})
	if accepted == 0 {
		t.Error("no text was read")
	}
	long := "7 msg 4 repeated packed"
	checkReadField(t, long, impl.RawField{Number: 7, Kind: 8, Repeated: true, Packed: true, Ref: 4}, true)
	for at := range words {
		without := strings.Join(slices.Delete(slices.Clone(words), at, at+1), " ")
		if at < 3 {
			noField(t, without)
		} else {
			compareField(t, without)
		}
		noField(t, strings.Join(slices.Insert(slices.Clone(words), at, ""), " "))
		noField(t, strings.Join(slices.Insert(slices.Clone(words), at, "x"), " "))
	}
}

// nearBytes are the bytes of texts and some others.
func nearBytes() []byte {
	return []byte("0123456789 :,;abcdefghiklmnoprstuxyABU-+\t\n\x00\x7f\x80\xa0\xff")
}

// nearStrings are s with one byte left out, changed or added, with two neighbours exchanged, and cut short at either end.
func nearStrings(s string) []string {
	var list []string
	for at := range len(s) + 1 {
		before, after := s[:at], s[at:]
		list = append(list, before, after)
		for _, b := range nearBytes() {
			list = append(list, before+string([]byte{b})+after)
		}
		if after == "" {
			continue
		}
		list = append(list, before+after[1:], before+after[:1]+after)
		for b := range 256 {
			list = append(list, before+string([]byte{byte(b)})+after[1:])
		}
		if len(after) > 1 {
			list = append(list, before+after[1:2]+after[:1]+after[2:])
		}
	}
	return list
}

func TestTextsNearFieldTexts(t *testing.T) {
	for s := range fieldTexts() {
		for _, near := range nearStrings(s) {
			compareField(t, near)
		}
	}
}

// Texts are read from their start to their end, whatever else is in them.
func TestTextsOfTwoFields(t *testing.T) {
	for s := range fieldTexts() {
		for other := range fieldTexts() {
			for _, between := range []string{"", " ", ",", ";", ":", "\n"} {
				noField(t, s+between+other)
			}
		}
	}
}

// rawTexts has descriptions without messages, without fields, and with several of both.
func rawTexts() map[string]impl.Raw {
	return map[string]impl.Raw{
		"":            {},
		"1:":          description(message(1)),
		"99:":         description(message(99)),
		"1:;2:":       description(message(1), message(2)),
		"30:;2:;1:":   description(message(30), message(2), message(1)),
		"5:7 bytes":   description(message(5, field(7, 7))),
		"7:1 msg 7":   description(message(7, impl.RawField{Number: 1, Kind: 8, Ref: 7})),
		"2:;1:1 bool": description(message(2), message(1, field(1, 3))),
		"2:3 bool;1:": description(message(2, field(3, 3)), message(1)),
		"1:1 uint,2 msg 2 repeated;2:1 text": description(
			message(1, field(1, 1), impl.RawField{Number: 2, Kind: 8, Repeated: true, Ref: 2}), message(2, field(1, 6))),
		"7:3 msg 1 repeated,1 bool;1:": description(
			message(7, impl.RawField{Number: 3, Kind: 8, Repeated: true, Ref: 1}, field(1, 3)), message(1)),
		"1:1 uint,2 text,3 msg 2;2:1 bool repeated,7 bytes,9 four;5:4 eight,5 sint repeated packed,6 sint": sampleRaw(),
		"1:;2:;3:;4:;5:;6:": description(message(1), message(2), message(3), message(4), message(5), message(6)),
		"8:8 uint,7 uint,6 uint,5 uint,4 uint,3 uint,2 uint,1 uint": description(message(8,
			field(8, 1), field(7, 1), field(6, 1), field(5, 1), field(4, 1), field(3, 1), field(2, 1), field(1, 1))),
	}
}

func TestRawTexts(t *testing.T) {
	for s, r := range rawTexts() {
		checkRawText(t, r, s)
		if got := modelRaw(r); got != s {
			t.Errorf("the text of %v is %q, not %q", r, got, s)
		}
		if got, ok := modelReadRaw(s); !slices.Equal(plain(got), plain(r)) || !ok {
			t.Errorf("the pattern reads %q as %v, %v", s, got, ok)
		}
	}
	checkRawText(t, sixMsgs(), looseText(sixMsgs()))
}

// An empty slice has the same text as a nil one.
func TestRawTextOfEmptySlices(t *testing.T) {
	checkRawText(t, impl.Raw{Msgs: []impl.RawMsg{}}, "")
	checkRawText(t, description(impl.RawMsg{Id: 3, Fields: []impl.RawField{}}), "3:")
	checkRawText(t, description(impl.RawMsg{Id: 3, Fields: []impl.RawField{}}, message(4)), "3:;4:")
	r := sampleRaw()
	r.Msgs[1].Fields = r.Msgs[1].Fields[:0]
	checkRawText(t, r, "1:1 uint,2 text,3 msg 2;2:;5:4 eight,5 sint repeated packed,6 sint")
}

// The order of messages and of fields is kept, and is part of the text.
func TestRawTextInEveryOrder(t *testing.T) {
	for _, r := range reordered() {
		checkRawText(t, r, looseText(r))
	}
	texts := map[string]bool{}
	eachOrder([]int{1, 2, 3, 4, 5, 6}, func(order []int) {
		var r impl.Raw
		var fields impl.RawMsg
		fields.Id = 9
		for _, n := range order {
			r.Msgs = append(r.Msgs, message(n, impl.RawField{Number: 7 - n, Kind: 8, Ref: 7 - n}))
			fields.Fields = append(fields.Fields, field(n, n))
		}
		checkRawText(t, r, looseText(r))
		checkRawText(t, description(fields), looseText(description(fields)))
		texts[impl.RawText(r)] = true
	})
	if len(texts) != 720 {
		t.Errorf("%d texts of 720 orders", len(texts))
	}
}

func TestRawTextOfInvalidDescriptions(t *testing.T) {
	for code, spoil := range faults() {
		for msg := truth(code == 3); msg < 6; msg++ {
			r := sixMsgs()
			spoil(&r, msg)
			checkRawText(t, r, "")
			noRaw(t, looseText(r))
		}
	}
	checkRawText(t, impl.Raw{Msgs: make([]impl.RawMsg, 1)}, "")
	checkRawText(t, impl.Raw{Msgs: make([]impl.RawMsg, 7)}, "")
	for _, n := range []int{19000, 19500, 19999} {
		checkRawText(t, description(message(1, field(n, 1))), "")
	}
	checkRawText(t, description(message(1, impl.RawField{Number: 1, Kind: 1, Ref: 1})), "")
	checkRawText(t, description(message(1, field(1, 8))), "")
}

// Every kind in every message and field up to the limits, with the longest words.
func TestTextOfTheLargestDescriptions(t *testing.T) {
	for shift := range 8 {
		var r impl.Raw
		for msg := range 6 {
			m := message(99 - msg)
			for at := range 8 {
				k := (at+shift)%8 + 1
				m.Fields = append(m.Fields, impl.RawField{
					Number: 536870911 - at, Kind: k, Repeated: at != 5 || k < 6, Packed: k < 6, Ref: truth(k == 8) * (94 + (msg+at)%6),
				})
			}
			r.Msgs = append(r.Msgs, m)
		}
		checkRawText(t, r, looseText(r))
		more := looseText(r) + ";1:"
		noRaw(t, more)
		noRaw(t, looseText(r)+",1 uint")
	}
	var longest []string
	for msg := range 6 {
		var fields []string
		for at := range 8 {
			fields = append(fields, strconv.Itoa(536870911-at)+" eight repeated packed")
		}
		longest = append(longest, strconv.Itoa(94+msg)+":"+strings.Join(fields, ","))
	}
	if !compareRaw(t, strings.Join(longest, ";")) {
		t.Error("the longest text is not read")
	}
}

// Each is nearly the text of a description, and is not one for the reason that the group names.
func TestNoRawTexts(t *testing.T) {
	for reason, list := range map[string][]string{
		"colons": {
			":", "::", "1", "1::", ":1:", "1:1:", "1:1 uint:", "1:1:uint", "1:2:1 uint", ":1 uint", "1 1 uint", "1:1 uint;2", "1:;2", "2;1:",
			"1:1 uint;:", "1:;:2 uint", "1:1 uint2:1 uint", "1: :",
		},
		"commas": {
			",", "1,", ",1:", "1:,", "1:,,", "1:,1 uint", "1:1 uint,", "1:1 uint,,2 uint", "1:1 uint,2 uint,", "1:1 uint,,", "1,2:",
			"1:1 uint,2:1 uint", "1:,;2:", "1:;2:,", "1:1 uint,;2:", "1:1,uint", "1:1 uint2 uint", "1:1 uint 2 uint",
		},
		"semicolons": {
			";", ";;", "1:;", ";1:", ";1:;", "1:;;2:", "1:;;", "1:1 uint;", ";1:1 uint", "1:1 uint;;2:", "1:1 uint;2 uint", "1;", "1:1 uint,;",
			"1;2:", "1:1;uint", "1:2:", "1:;2:;",
		},
		"ids": {
			"0:", "00:", "01:", "09:", "099:", "100:", "101:", "999:", "-1:", "+1:", "-:", "x:", "1x:", "x1:", " 1:", "1 :", "257:",
			"4294967297:", "999999999:", "1000000000:", "18446744073709551617:", "1:;0:", "1:;100:", "1:;02:", "0:1 uint", "100:1 uint",
			"\u0661:", "0:;1:", "1:;2 :",
		},
		"spaces": {
			" ", "1: ", " 1:", "1:1 uint ", "1: 1 uint", "1:1 uint, 2 uint", "1:1 uint ,2 uint", "1:; 2:", "1: ;2:", "1:;2: ", "1:1 uint; 2:",
			"1:1  uint", "1:\n", "\n", "1:\n2:", "1:;\n2:", "1:1 uint\n", "1:\x00", "\x00",
		},
		"fields": {
			"1:1", "1:uint", "1:1 Uint", "1:01 uint", "1:0 uint", "1:536870912 uint", "1:1 uint packed repeated", "1:1 msg", "1:1 msg 0",
			"1:1 msg 01", "1:1 msg 100", "1:1 uint 1", "1:1 uint,x", "1:x,1 uint", "1:1 uint,2 text 0", "1:;2:x", "1:x;2:", "1:1 uint,2",
			"1:1 9", "1:1 kind",
		},
		"bytes": {"\xff", "1:\xff", "\xff1:", "1\xff:", "1:1 uint\xff", "\ufeff1:", "1:1 uint\u037e2:", "1\uff1a"},
	} {
		for _, s := range list {
			if _, ok := modelReadRaw(s); ok {
				t.Errorf("the pattern accepts %q (%s)", s, reason)
			}
			noRaw(t, s)
		}
	}
}

func TestReadRawOfNothing(t *testing.T) {
	if r, ok := impl.ReadRaw(""); !ok || len(r.Msgs) != 0 {
		t.Errorf("ReadRaw of the empty string is %v, %v", r, ok)
	}
	noField(t, "")
}

// violating are texts of which each field can be read, with the violation of what they describe.
// There is none with the code of an unknown kind, because every kind with a word is known.
func violating() map[string]impl.Violation {
	nine := "1:1 uint,2 uint,3 uint,4 uint,5 uint,6 uint,7 uint,8 uint,9 uint"
	return map[string]impl.Violation{
		"1:;2:;3:;4:;5:;6:;7:":            violation(1, 6, -1),
		"1:;1:;1:;1:;1:;1:;1:":            violation(1, 6, -1),
		"1:;2:;3:;4:;5:;6:;7:;8:1 uint":   violation(1, 6, -1),
		"1:;1:":                           violation(3, 1, -1),
		"1:1 uint;2:;1:2 uint":            violation(3, 2, -1),
		"99:;98:;99:":                     violation(3, 2, -1),
		nine:                              violation(4, 0, -1),
		"2:;" + nine:                      violation(4, 1, -1),
		"1:19000 uint":                    violation(5, 0, 0),
		"1:18999 uint,19999 uint":         violation(5, 0, 1),
		"1:;2:19500 msg 1":                violation(5, 1, 0),
		"1:1 uint,1 uint":                 violation(6, 0, 1),
		"1:1 uint,2 uint,1 text":          violation(6, 0, 2),
		"1:1 uint;2:7 uint,8 bool,7 uint": violation(6, 1, 2),
		"1:1 uint packed":                 violation(8, 0, 0),
		"1:1 text packed":                 violation(8, 0, 0),
		"1:1 text repeated packed":        violation(8, 0, 0),
		"1:1 bytes repeated packed":       violation(8, 0, 0),
		"1:2 uint,1 msg 1 packed":         violation(8, 0, 1),
		"1:1 msg 1 repeated packed":       violation(8, 0, 0),
		"1:1 msg 2":                       violation(9, 0, 0),
		"1:1 msg 1;2:3 msg 3":             violation(9, 1, 0),
		"1:1 msg 99":                      violation(9, 0, 0),
		"19:1 msg 1,2 msg 9":              violation(9, 0, 0),
	}
}

func TestReadableButNotValid(t *testing.T) {
	seen := map[int]bool{}
	for s, v := range violating() {
		r, ok := looseRead(s)
		if !ok || looseText(r) != s {
			t.Errorf("%q is not of the form of a description", s)
		}
		for _, m := range r.Msgs {
			for _, f := range m.Fields {
				checkReadField(t, modelField(f), f, true)
			}
		}
		checkFirst(t, r, v)
		checkRawText(t, r, "")
		noRaw(t, s)
		seen[v.Code] = true
	}
	for _, id := range []int{0, 100} {
		checkFirst(t, description(message(id)), violation(2, 0, -1))
		noRaw(t, strconv.Itoa(id)+":")
		noRaw(t, "1:;"+strconv.Itoa(id)+":1 uint")
	}
	checkFirst(t, description(message(1, field(1, 9))), violation(7, 0, 0))
	noRaw(t, "1:1 "+impl.KindWord(9))
	if len(seen) != 7 {
		t.Errorf("only the codes %v", seen)
	}
}

// What the violations above lack or have too much is what they are rejected for.
func TestReadableAndValid(t *testing.T) {
	for _, s := range []string{
		"1:;2:;3:;4:;5:;6:", "1:;2:", "1:1 uint;2:;3:2 uint", "99:;98:;97:", "1:1 uint,2 uint,3 uint,4 uint,5 uint,6 uint,7 uint,8 uint",
		"1:20000 uint", "1:18999 uint,20000 uint", "1:1 uint,2 uint", "1:1 uint;2:1 uint,8 bool,7 uint", "1:1 uint repeated packed",
		"1:1 text", "1:1 text repeated", "1:2 uint,1 msg 1", "1:1 msg 1 repeated", "1:1 msg 2;2:", "1:1 msg 1;2:3 msg 3;3:", "99:1 msg 99",
		"1:1 msg 9,2 msg 1;9:", "1:536870911 bytes", "9:1 sint repeated packed,2 bool repeated packed,3 four repeated packed,4 eight repeated packed",
	} {
		if !compareRaw(t, s) {
			t.Errorf("%q is not read", s)
		}
	}
}

func TestTextsNearRawTexts(t *testing.T) {
	for s := range rawTexts() {
		for _, near := range nearStrings(s) {
			compareRaw(t, near)
		}
	}
	for s := range violating() {
		for at := range len(s) {
			compareRaw(t, s[:at]+s[at+1:])
			compareRaw(t, s[:at])
			compareRaw(t, s[at:])
		}
	}
}

// Every string of up to five of these parts, with and without the parts around it that make it a description.
func TestPartsOfRawTextsInEveryOrder(t *testing.T) {
	parts := []string{"1", "2", ":", ",", ";", "3 uint", "4 msg 1", " "}
	accepted := 0
	var visit func(s string, most int)
	visit = func(s string, most int) {
		accepted += truth(compareRaw(t, s))
		if most == 0 {
			return
		}
		for _, part := range parts {
			visit(s+part, most-1)
		}
	}
	visit("", 6)
	visit("1:3 uint", 4)
	if accepted < 100 {
		t.Errorf("only %d strings were read", accepted)
	}
}

func choose(source *rand.Rand, list ...string) string { return list[source.Intn(len(list))] }

func randomFieldText(source *rand.Rand) string {
	return choose(source, "1", "2", "3", "4", "5", "6", "7", "18999", "19000", "536870911", "536870912", "07") + " " +
		choose(source, "uint", "sint", "bool", "four", "eight", "text", "bytes", "msg 1", "msg 2", "msg 10", "msg 100", "msg", "uint 1") +
		choose(source, "", "", "", " repeated", " repeated", " packed", " repeated packed", " packed repeated", " ")
}

// randomText joins texts of fields and Ids, most of the time as they belong together.
func randomText(source *rand.Rand) string {
	var msgs []string
	for range source.Intn(4) {
		var fields []string
		for range source.Intn(3) {
			fields = append(fields, randomFieldText(source))
		}
		id := choose(source, "1", "1", "2", "2", "3", "4", "10", "10", "99", "100", "0", "05", "")
		colon := choose(source, ":", ":", ":", ":", ":", ":", ":", "", "::", ";")
		msgs = append(msgs, id+colon+strings.Join(fields, choose(source, ",", ",", ",", ",", ",", ";", "", ", ")))
	}
	return strings.Join(msgs, choose(source, ";", ";", ";", ";", ";", ";", ";", ",", "", "; "))
}

func TestReadRandomTexts(t *testing.T) {
	source := rand.New(rand.NewSource(9))
	accepted := 0
	for range 60000 {
		accepted += truth(compareRaw(t, randomText(source)))
	}
	if accepted < 6000 || accepted > 40000 {
		t.Errorf("%d texts were read", accepted)
	}
}

func TestTextsOfRandomDescriptions(t *testing.T) {
	source := rand.New(rand.NewSource(99))
	valid := 0
	for i := range 20000 {
		r := randomDescription(source, i%5)
		checkRawText(t, r, modelRaw(r))
		valid += truth(impl.RawText(r) != "")
	}
	if valid < 5000 || valid > 15000 {
		t.Errorf("%d descriptions had a text", valid)
	}
	for range 5000 {
		r := randomValid(source)
		checkRawText(t, r, looseText(r))
		for _, m := range r.Msgs {
			for _, f := range m.Fields {
				checkFieldText(t, f, modelField(f))
			}
		}
	}
}

func TestTextsOfRandomFields(t *testing.T) {
	source := rand.New(rand.NewSource(900))
	for range 20000 {
		f := loose(source)
		checkFieldText(t, f, modelField(f))
	}
}

// Descriptions that differ in one place have different texts.
func TestDifferentDescriptionsHaveDifferentTexts(t *testing.T) {
	texts := map[string]impl.Raw{}
	for _, r := range append(changedRaws(), sampleRaw()) {
		checkRawText(t, r, modelRaw(r))
		s := impl.RawText(r)
		if other, seen := texts[s]; seen && s != "" && !slices.Equal(plain(r), plain(other)) {
			t.Errorf("%q is the text of %v and %v", s, r, other)
		}
		texts[s] = r
	}
	if len(texts) < 20 {
		t.Errorf("only %d texts", len(texts))
	}
}

// A map is visited in another order each time.
func TestTextsAreTheSameEachTime(t *testing.T) {
	for range 300 {
		for s, f := range fieldTexts() {
			checkFieldText(t, f, s)
		}
		checkRawText(t, sixMsgs(), looseText(sixMsgs()))
		noRaw(t, "1:1 msg 2")
		checkRawText(t, impl.Raw{}, "")
	}
}

// Long texts end with an answer, too.
func TestHugeTexts(t *testing.T) {
	for _, s := range []string{" ", ":", ",", ";", "1:;", "1:1 uint,", "1 ", "repeated ", "0", "9", "1:,", "\xff", "1:1 msg 1;"} {
		long := strings.Repeat(s, 100000)
		noField(t, long)
		noField(t, "1 uint "+long)
		noField(t, "1 "+long)
		noRaw(t, long)
		noRaw(t, "1:"+long)
		noRaw(t, long+"1:")
		noRaw(t, "1:1 uint"+long)
		noRaw(t, long+"1:1 uint")
	}
	if got := impl.RawText(impl.Raw{Msgs: make([]impl.RawMsg, 100000)}); got != "" {
		t.Error("a text of many messages")
	}
	if got := impl.RawText(description(message(1, plainFields(15000)...))); got != "" {
		t.Error("a text of many fields")
	}
}

func TestWritingChangesNothing(t *testing.T) {
	for _, r := range someRaws() {
		spare := roomy(r)
		was, lengths := wholly(spare), plain(spare)
		want := modelRaw(r)
		checkRawText(t, spare, want)
		if !reflect.DeepEqual(wholly(spare), was) || !slices.Equal(plain(spare), lengths) {
			t.Errorf("%v was changed to %v", was, wholly(spare))
		}
		text := impl.RawText(spare)
		spoilRaw(spare)
		if text != want {
			t.Errorf("changing the description changed its text to %q", text)
		}
	}
}

// Changing what was read changes neither what is read later nor what was read before.
func TestReadDescriptionsShareNoMemory(t *testing.T) {
	for _, want := range someRaws() {
		s := modelRaw(want)
		if s == "" {
			continue
		}
		first, _ := impl.ReadRaw(s)
		second, _ := impl.ReadRaw(s)
		spoilRaw(first)
		if !slices.Equal(plain(second), plain(want)) {
			t.Errorf("changing a description changed another one to %v", second)
		}
		checkReadRaw(t, s, want, true)
		for at := range second.Msgs {
			m := second.Msgs[at]
			for range 9 {
				m.Fields = append(m.Fields, field(-9, -9))
			}
		}
		if !slices.Equal(plain(second), plain(want)) {
			t.Errorf("adding fields changed the description to %v", second)
		}
	}
}

func TestMessagesOfAResultShareNoMemory(t *testing.T) {
	s := looseText(sixMsgs())
	for at := range 6 {
		got, _ := impl.ReadRaw(s)
		spoilRaw(description(got.Msgs[at]))
		fields := got.Msgs[at].Fields[:cap(got.Msgs[at].Fields)]
		for i := range fields {
			fields[i] = field(-9, -9)
		}
		got.Msgs[at] = sixMsgs().Msgs[at]
		if !slices.Equal(plain(got), plain(sixMsgs())) {
			t.Errorf("changing the fields of the message %d changed others: %v", at, got)
		}
	}
}
