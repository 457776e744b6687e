package code_test

import (
	"bytes"
	"encoding/binary"
	"errors"
	"fmt"
	"math"
	"math/rand"
	"slices"
	"strings"
	"testing"

	"locket/api"
	"locket/code"
)

const (
	most     = 1 << 40
	mostText = 4096
)

// numbers are those at the bounds and about them, and some of which each byte is another one.
var numbers = []int{0, 1, 2, 255, 256, 257, 65535, 65536, 1<<24 - 1, 1 << 24, 1<<32 - 1, 1 << 32, 1<<32 + 1, 0x0102030405, 0xfffefdfcfb, most - 1, most}

// noNumbers are ints past both bounds; some of them would look right in six bytes.
var noNumbers = []int{-1, -2, -256, -most, math.MinInt32, math.MinInt, math.MinInt + 1, most + 1, most + 2, 2 * most, 1<<48 - 1, 1 << 48, 1<<48 + 5, 1 << 62, math.MaxInt - 1, math.MaxInt}

// lengths are those of texts.
var lengths = []int{0, 1, 2, 5, 6, 7, 127, 128, 254, 255, 256, 257, 511, 512, 4094, 4095, mostText}

// noLengths are those of which there is no text; some of them would look right in two bytes.
var noLengths = []int{mostText + 1, mostText + 2, 2 * mostText, 65535, 65536, 65537, 65536 + 5, 1 << 20}

type (
	ownInt   int
	ownText  string
	ownBytes []byte
	ownByte  byte
)

// noParts are of types that no part has.
func noParts() []any {
	n, s, b := 1, "a", []byte("a")
	return []any{
		nil, int8(1), int16(1), int32(1), int64(1), uint(1), byte(1), uint16(1), uint32(1), uint64(1), uintptr(1), 'a',
		1.0, float32(1), 1i, complex64(1), true, false,
		ownInt(1), ownText("a"), ownBytes("a"), ownByte(1), []ownByte("a"), api.OK, api.ErrKind,
		[]int{1}, []string{"a"}, [][]byte{b}, []any{1}, []rune("a"), []int8{1}, [1]byte{1}, [6]byte{}, []int(nil), []any(nil),
		&n, &s, &b, (*int)(nil), (*[]byte)(nil), &[2]byte{1, 2},
		struct{}{}, struct{ N int }{1}, map[string]int{"a": 1}, map[int]int(nil), make(chan int), func() int { return 1 }, (func())(nil),
		errors.New("a"), code.Read(nil), strings.NewReader("a"), bytes.NewBuffer(b),
	}
}

// pattern is n bytes that differ from place to place, and with the seed.
func pattern(n, seed int) []byte {
	b := make([]byte, n)
	for i := range b {
		b[i] = byte(i*7 + i/64*31 + seed)
	}
	return b
}

// roomy is the same bytes, with spare room behind them that holds more.
func roomy(b []byte) []byte {
	return slices.Concat(b, []byte("spare room"))[:len(b)]
}

// scribble changes all bytes, and those of the spare room.
func scribble(b []byte) {
	b = b[:cap(b)]
	for i := range b {
		b[i] ^= 0xa5
	}
}

// inSix is a number's bytes, by the library.
func inSix(n int) []byte {
	return binary.BigEndian.AppendUint64(nil, uint64(n))[2:]
}

// counted is a text's bytes, by the library.
func counted(text []byte) []byte {
	return append(binary.BigEndian.AppendUint16(nil, uint16(len(text))), text...)
}

// wantBytes are the bytes of parts as the document tells them.
func wantBytes(parts []any) []byte {
	var all []byte
	for _, part := range parts {
		switch p := part.(type) {
		case int:
			all = append(all, inSix(p)...)
		case []byte:
			all = append(all, counted(p)...)
		case string:
			all = append(all, counted([]byte(p))...)
		}
	}
	return all
}

// written wants that Put tells the bytes of the parts.
func written(t *testing.T, what string, parts ...any) []byte {
	t.Helper()
	got, e := code.Put(parts...)
	if want := wantBytes(parts); e != api.OK || !bytes.Equal(got, want) {
		t.Errorf("%s: got %x, error %d, want %x", what, got, e, want)
	}
	return got
}

// refused wants that Put tells an error, and no bytes beside it.
func refused(t *testing.T, what string, want api.Errno, parts ...any) {
	t.Helper()
	if got, e := code.Put(parts...); e != want || len(got) != 0 {
		t.Errorf("%s: %d bytes, error %d, want error %d alone", what, len(got), e, want)
	}
}

// state wants whether a reader is bad, and whether it is at its end.
func state(t *testing.T, what string, r *code.Reader, bad, end bool) {
	t.Helper()
	// Asked twice, as asking changes nothing.
	for range 2 {
		if r.Bad() != bad || r.End() != end {
			t.Errorf("%s: bad %v, end %v, want %v, %v", what, r.Bad(), r.End(), bad, end)
		}
	}
}

// readNumber wants the next number.
func readNumber(t *testing.T, what string, r *code.Reader, least, most, want int) {
	t.Helper()
	if got := r.Number(least, most); got != want || r.Bad() {
		t.Errorf("%s: number %d, bad %v, want %d", what, got, r.Bad(), want)
	}
}

// readText wants the next text.
func readText(t *testing.T, what string, r *code.Reader, least, most int, want []byte) {
	t.Helper()
	if got := r.Text(least, most); !bytes.Equal(got, want) || r.Bad() {
		t.Errorf("%s: text %x, bad %v, want %x", what, got, r.Bad(), want)
	}
}

// spoilt wants that a reader is bad and stays so, and that nothing more is read.
func spoilt(t *testing.T, what string, r *code.Reader) {
	t.Helper()
	state(t, what, r, true, false)
	for range 2 {
		for _, bounds := range [][2]int{{0, most}, {math.MinInt, math.MaxInt}, {0, 0}, {5, 5}, {9, 1}} {
			if n := r.Number(bounds[0], bounds[1]); n != 0 {
				t.Errorf("%s: number %d of a bad reader", what, n)
			}
			if b := r.Text(bounds[0], bounds[1]); len(b) != 0 {
				t.Errorf("%s: text %x of a bad reader", what, b)
			}
		}
		state(t, what, r, true, false)
	}
}

// noNumber wants that there is no number from least to most, and that the reader is bad from there on.
func noNumber(t *testing.T, what string, r *code.Reader, least, most int) {
	t.Helper()
	if got := r.Number(least, most); got != 0 {
		t.Errorf("%s: number %d, want 0", what, got)
	}
	spoilt(t, what, r)
}

// noText wants that there is no text of from least to most bytes, and that the reader is bad from there on.
func noText(t *testing.T, what string, r *code.Reader, least, most int) {
	t.Helper()
	if got := r.Text(least, most); len(got) != 0 {
		t.Errorf("%s: text %x, want nothing", what, got)
	}
	spoilt(t, what, r)
}

// readParts wants the parts, one behind the other, and nothing else of a reader.
func readParts(t *testing.T, what string, r *code.Reader, parts []any) {
	t.Helper()
	for i, part := range parts {
		state(t, fmt.Sprintf("%s, ahead of part %d", what, i), r, false, false)
		switch p := part.(type) {
		case int:
			readNumber(t, what, r, 0, most, p)
		case []byte:
			readText(t, what, r, 0, mostText, p)
		case string:
			readText(t, what, r, 0, mostText, []byte(p))
		}
	}
	state(t, what+", behind all", r, false, true)
}

// lists are some lists of right parts: none, one and several, of each sort and mixed.
func lists() map[string][]any {
	return map[string][]any{
		"none":          nil,
		"an empty list": {},
		"a number":      {7},
		"a text":        {"ab"},
		"some bytes":    {[]byte("ab")},
		"no bytes":      {""},
		"empty":         {[]byte{}},
		"nil bytes":     {[]byte(nil)},
		"numbers":       {0, 1, most, 0, 0x0102030405},
		"texts":         {"", "a", "", "abc", ""},
		"lists":         {[]byte(nil), []byte{0}, []byte{}, []byte{0, 0, 0}},
		"mixed":         {1, "ab", []byte{7}, 0, "", most, []byte(nil), 256},
		"mixed, text":   {"x", 1, []byte("y"), 2, "z"},
		"long":          {pattern(mostText, 1), most, string(pattern(mostText, 2)), 0},
		"any bytes":     {"\x00\xff\xc3\x28", []byte{0xff, 0, 0xff}, "äöü"},
	}
}

// P8.1: the document's example.
func TestExample(t *testing.T) {
	got, e := code.Put(1, "ab")
	if want := []byte{0, 0, 0, 0, 0, 1, 0, 2, 0x61, 0x62}; e != api.OK || !bytes.Equal(got, want) {
		t.Errorf("got %x, error %d, want %x", got, e, want)
	}
	r := code.Read(got)
	readNumber(t, "number", r, 0, most, 1)
	readText(t, "text", r, 0, mostText, []byte("ab"))
	state(t, "behind both", r, false, true)
}

// P8.1: all parts stand one behind the other. P8.2: what was written is read as it was.
func TestPutAndRead(t *testing.T) {
	for what, parts := range lists() {
		b := written(t, what, parts...)
		readParts(t, what, code.Read(b), parts)
		readParts(t, what+", with spare room", code.Read(roomy(b)), parts)
	}
}

// P8.1: no parts are no bytes.
func TestPutNone(t *testing.T) {
	if b, e := code.Put(); e != api.OK || len(b) != 0 {
		t.Errorf("no part: %x, error %d", b, e)
	}
	if b, e := code.Put([]any(nil)...); e != api.OK || len(b) != 0 {
		t.Errorf("a nil list: %x, error %d", b, e)
	}
}

// P8.1: a great many parts.
func TestPutMany(t *testing.T) {
	parts := make([]any, 0, 20000)
	for i := range 10000 {
		parts = append(parts, i, pattern(i%5, i))
	}
	readParts(t, "many", code.Read(written(t, "many", parts...)), parts)
	refused(t, "many, and one wrong", api.ErrKind, append(parts, nil)...)
}

// P8.1: a number is six bytes, from 0 to MaxNumber.
func TestPutNumbers(t *testing.T) {
	for _, n := range numbers {
		b := written(t, fmt.Sprint("number ", n), n)
		readParts(t, fmt.Sprint("number ", n), code.Read(b), []any{n})
	}
	for bit := range 41 {
		b := written(t, fmt.Sprint("bit ", bit), 1<<bit)
		readParts(t, fmt.Sprint("bit ", bit), code.Read(b), []any{1 << bit})
	}
}

// P8.1: a number past either bound is refused, wherever it stands.
func TestPutNumbersBeyond(t *testing.T) {
	for _, n := range noNumbers {
		what := fmt.Sprint("number ", n)
		refused(t, what, api.ErrRange, n)
		refused(t, what+", first", api.ErrRange, n, 1, "a", []byte("b"))
		refused(t, what+", between", api.ErrRange, 1, "a", n, []byte("b"))
		refused(t, what+", last", api.ErrRange, 1, "a", []byte("b"), n)
		refused(t, what+", twice", api.ErrRange, n, n)
	}
}

// P8.1: a text is its length in two bytes, and its bytes, be it a string or a []byte.
func TestPutTexts(t *testing.T) {
	for _, n := range lengths {
		what, text := fmt.Sprint("text of ", n), pattern(n, n)
		a := written(t, what, text)
		b := written(t, what+", string", string(text))
		if !bytes.Equal(a, b) {
			t.Errorf("%s: a string and a []byte are written unlike", what)
		}
		readParts(t, what, code.Read(a), []any{text})
	}
}

// P8.1: a text of more than MaxText bytes is refused, wherever it stands.
func TestPutTextsTooLong(t *testing.T) {
	for _, n := range noLengths {
		for _, text := range []any{make([]byte, n), pattern(n, 1), string(pattern(n, 1)), strings.Repeat("\x00", n)} {
			what := fmt.Sprintf("%T of %d", text, n)
			refused(t, what, api.ErrSize, text)
			refused(t, what+", first", api.ErrSize, text, 1, "a", []byte("b"))
			refused(t, what+", between", api.ErrSize, 1, "a", text, []byte("b"))
			refused(t, what+", last", api.ErrSize, 1, "a", []byte("b"), text)
			refused(t, what+", twice", api.ErrSize, text, text)
		}
	}
}

// P8.1: it is a text's bytes that count, not its runes, nor its spare room.
func TestPutLengthInBytes(t *testing.T) {
	written(t, "2048 runes of two bytes", strings.Repeat("ä", 2048))
	refused(t, "2049 runes of two bytes", api.ErrSize, strings.Repeat("ä", 2049))
	written(t, "spare room", make([]byte, mostText, 2*mostText), make([]byte, 0, 2*mostText), make([]byte, 3, 9))
}

// P8.1: a part of another type is refused, wherever it stands.
func TestPutOtherTypes(t *testing.T) {
	for i, part := range noParts() {
		what := fmt.Sprintf("part %d, %T", i, part)
		refused(t, what, api.ErrKind, part)
		refused(t, what+", first", api.ErrKind, part, 1, "a", []byte("b"))
		refused(t, what+", between", api.ErrKind, 1, "a", part, []byte("b"))
		refused(t, what+", last", api.ErrKind, 1, "a", []byte("b"), part)
		refused(t, what+", twice", api.ErrKind, part, part)
	}
}

// P8.1: of several wrong parts it is the first one's error, whichever sorts they are of.
func TestPutFirstWrong(t *testing.T) {
	wrong := []struct {
		part any
		want api.Errno
	}{
		{nil, api.ErrKind}, {int64(1), api.ErrKind}, {[]int{1}, api.ErrKind},
		{-1, api.ErrRange}, {most + 1, api.ErrRange},
		{make([]byte, mostText+1), api.ErrSize}, {strings.Repeat("a", mostText+1), api.ErrSize},
	}
	for i, a := range wrong {
		for j, b := range wrong {
			what := fmt.Sprintf("wrong parts %d, %d", i, j)
			refused(t, what, a.want, a.part, b.part)
			refused(t, what+", others about them", a.want, 1, "a", a.part, 0, b.part, []byte{})
			for _, c := range wrong {
				refused(t, what+", and a third", a.want, "", a.part, b.part, c.part)
			}
		}
	}
}

// Memory: Put changes and keeps nothing of what is handed in, and tells new memory.
func TestPutMemory(t *testing.T) {
	text, other := roomy([]byte("text")), roomy(nil)
	parts := []any{1, text, "ab", other, []any{}, -1}[:4]
	first := written(t, "first", parts...)
	second := written(t, "second", parts...)
	known := slices.Clone(first)
	if string(text[:14]) != "textspare room" || string(other[:10]) != "spare room" {
		t.Errorf("changed: %q, %q", text[:14], other[:10])
	}
	if all := parts[:6]; all[0] != 1 || &all[1].([]byte)[0] != &text[0] || all[2] != "ab" || all[4] == nil || all[5] != -1 {
		t.Errorf("the list of parts is changed: %v", all)
	}
	scribble(first)
	if !bytes.Equal(second, known) || string(text[:14]) != "textspare room" || string(other[:10]) != "spare room" {
		t.Error("an answer shares memory with another one, or with an argument")
	}
	scribble(text)
	scribble(other)
	parts[0], parts[2] = 9, "cd"
	if !bytes.Equal(second, known) {
		t.Error("an answer changes with its arguments")
	}
	refused(t, "wrong part behind", api.ErrRange, text, -1)
	one := roomy([]byte("one"))
	alone := written(t, "one part alone", one)
	scribble(alone)
	if string(one[:13]) != "onespare room" {
		t.Errorf("an argument changes with the answer: %q", one[:13])
	}
}

// P8.2: a reader of no bytes isn't bad, and is at its end.
func TestReadNothing(t *testing.T) {
	for what, b := range map[string][]byte{"nil": nil, "empty": {}, "spare room": roomy(nil)} {
		state(t, what, code.Read(b), false, true)
		noNumber(t, what, code.Read(b), 0, most)
		noNumber(t, what+", any number", code.Read(b), math.MinInt, math.MaxInt)
		noText(t, what, code.Read(b), 0, mostText)
		noText(t, what+", any text", code.Read(b), math.MinInt, math.MaxInt)
	}
}

// P8.2: bytes that are cut off at any place: all parts ahead of it are read, and the one that lacks some is bad.
func TestReadCutOff(t *testing.T) {
	for what, parts := range lists() {
		all := wantBytes(parts)
		for cut := range len(all) {
			if cut > 600 && cut < len(all)-600 && cut%97 != 0 {
				continue
			}
			// Once with nothing behind the cut, and once with the rest as spare room.
			for _, b := range [][]byte{slices.Clone(all[:cut]), all[:cut]} {
				readCut(t, fmt.Sprintf("%s, cut at %d", what, cut), code.Read(b), parts, cut)
			}
		}
	}
}

// readCut wants of a reader all parts that end at the cut or ahead of it, and that the next one is bad.
func readCut(t *testing.T, what string, r *code.Reader, parts []any, cut int) {
	t.Helper()
	at := 0
	for _, part := range parts {
		at += len(wantBytes([]any{part}))
		number, isNumber := part.(int)
		switch {
		case at > cut && isNumber:
			noNumber(t, what, r, 0, most)
			return
		case at > cut:
			noText(t, what, r, 0, mostText)
			return
		case isNumber:
			readNumber(t, what, r, number, number, number)
		default:
			want := wantBytes([]any{part})[2:]
			readText(t, what, r, len(want), len(want), want)
		}
		state(t, what, r, false, at == cut)
	}
	t.Errorf("%s: all parts were there", what)
}

// P8.2: with more behind, all parts are read, and the end isn't come to.
func TestReadMoreBehind(t *testing.T) {
	for what, parts := range lists() {
		for _, more := range [][]byte{{0}, {0xff}, {0, 0}, {0, 0, 0, 0, 0, 1}, pattern(300, 1)} {
			r := code.Read(slices.Concat(wantBytes(parts), more))
			for _, part := range parts {
				if n, ok := part.(int); ok {
					readNumber(t, what, r, 0, most, n)
				} else {
					readText(t, what, r, 0, mostText, wantBytes([]any{part})[2:])
				}
				state(t, what, r, false, false)
			}
			state(t, what, r, false, false)
		}
	}
}

// P8.2: a number is read at least and at most, and past both it is bad.
func TestNumberBounds(t *testing.T) {
	for _, n := range numbers {
		b := slices.Concat(inSix(n), inSix(3))
		for _, bounds := range [][2]int{{n, n}, {n - 1, n}, {n, n + 1}, {0, n}, {n, most}, {0, most}, {math.MinInt, n}, {n, math.MaxInt}, {math.MinInt, math.MaxInt}, {-5, most}} {
			what := fmt.Sprintf("%d from %d to %d", n, bounds[0], bounds[1])
			r := code.Read(b)
			readNumber(t, what, r, bounds[0], bounds[1], n)
			state(t, what, r, false, false)
			readNumber(t, what+", the next", r, 3, 3, 3)
			state(t, what, r, false, true)
		}
		for _, bounds := range [][2]int{{n + 1, most}, {n + 1, n + 1}, {n + 1, math.MaxInt}, {0, n - 1}, {n - 1, n - 1}, {math.MinInt, n - 1}, {math.MinInt, math.MinInt}, {math.MaxInt, math.MaxInt}} {
			noNumber(t, fmt.Sprintf("%d from %d to %d", n, bounds[0], bounds[1]), code.Read(b), bounds[0], bounds[1])
		}
	}
}

// P8.2: a text is read at least and at most, and past both it is bad.
func TestTextBounds(t *testing.T) {
	for _, n := range lengths {
		text := pattern(n, 5)
		b := slices.Concat(counted(text), counted([]byte("next")))
		for _, bounds := range [][2]int{{n, n}, {n - 1, n}, {n, n + 1}, {0, n}, {n, mostText}, {0, mostText}, {math.MinInt, n}, {n, math.MaxInt}, {math.MinInt, math.MaxInt}, {-5, mostText}} {
			what := fmt.Sprintf("text of %d, from %d to %d", n, bounds[0], bounds[1])
			r := code.Read(b)
			readText(t, what, r, bounds[0], bounds[1], text)
			state(t, what, r, false, false)
			readText(t, what+", the next", r, 4, 4, []byte("next"))
			state(t, what, r, false, true)
		}
		for _, bounds := range [][2]int{{n + 1, mostText}, {n + 1, n + 1}, {n + 1, math.MaxInt}, {0, n - 1}, {n - 1, n - 1}, {math.MinInt, n - 1}, {math.MinInt, math.MinInt}, {math.MaxInt, math.MaxInt}} {
			noText(t, fmt.Sprintf("text of %d, from %d to %d", n, bounds[0], bounds[1]), code.Read(b), bounds[0], bounds[1])
		}
	}
}

// P8.2: nothing is from a least that is above the most, be it between both, at one of them or beside.
func TestLeastAboveMost(t *testing.T) {
	for _, n := range []int{0, 1, 5, 6, 7, 300} {
		for _, bounds := range [][2]int{{n + 1, n - 1}, {n + 1, n}, {n, n - 1}, {mostText, 0}, {most, 0}, {1, 0}, {math.MaxInt, math.MinInt}, {0, -1}, {0, math.MinInt}, {math.MaxInt, 0}} {
			what := fmt.Sprintf("%d from %d to %d", n, bounds[0], bounds[1])
			noNumber(t, what, code.Read(inSix(n)), bounds[0], bounds[1])
			noText(t, what, code.Read(counted(pattern(n, 1))), bounds[0], bounds[1])
		}
	}
}

// P8.2: six bytes that hold more than MaxNumber, and two that hold more than MaxText: least and most alone say whether they are read.
func TestReadPastLimits(t *testing.T) {
	for _, n := range []int{most + 1, 2 * most, 1<<47 + 3, 1<<48 - 1} {
		what := fmt.Sprint("number ", n)
		noNumber(t, what, code.Read(inSix(n)), 0, most)
		noNumber(t, what, code.Read(inSix(n)), 0, n-1)
		r := code.Read(inSix(n))
		readNumber(t, what, r, 0, n, n)
		state(t, what, r, false, true)
	}
	for _, n := range []int{mostText + 1, 32768, 65535} {
		what, text := fmt.Sprint("text of ", n), pattern(n, 1)
		noText(t, what, code.Read(counted(text)), 0, mostText)
		noText(t, what, code.Read(counted(text)), 0, n-1)
		r := code.Read(counted(text))
		readText(t, what, r, 0, n, text)
		state(t, what, r, false, true)
	}
}

// P8.2: once a reader is bad, bytes that would be right are not read, and it is never at its end.
func TestReadOnceBad(t *testing.T) {
	b := wantBytes([]any{5, "abc", 7, "", 0})
	for what, spoil := range map[string]func(r *code.Reader){
		"number too small":    func(r *code.Reader) { r.Number(6, most) },
		"number too great":    func(r *code.Reader) { r.Number(0, 4) },
		"text too short":      func(r *code.Reader) { r.Number(5, 5); r.Text(4, mostText) },
		"text too long":       func(r *code.Reader) { r.Number(5, 5); r.Text(0, 2) },
		"text for a number":   func(r *code.Reader) { r.Text(1, mostText) },
		"number for a text":   func(r *code.Reader) { r.Number(5, 5); r.Number(0, 9) },
		"bytes that lack":     func(r *code.Reader) { r.Number(5, 5); r.Text(3, 3); r.Number(7, 7); r.Number(0, 0); r.Number(0, 0) },
		"past the end":        func(r *code.Reader) { readParts(t, "all", r, []any{5, "abc", 7, "", 0}); r.Number(0, most) },
		"a text past the end": func(r *code.Reader) { readParts(t, "all", r, []any{5, "abc", 7, "", 0}); r.Text(0, mostText) },
	} {
		r := code.Read(b)
		spoil(r)
		spoilt(t, what, r)
		// Another reader of the same bytes is not bad by it.
		readParts(t, what+", another reader", code.Read(b), []any{5, "abc", 7, "", 0})
	}
}

// P8.2: the end is neither ahead of the last part, though it be of no bytes, nor behind a read too many.
func TestEnd(t *testing.T) {
	r := code.Read(wantBytes([]any{1, "ab", "", 0}))
	state(t, "at first", r, false, false)
	readNumber(t, "number", r, 0, 1, 1)
	state(t, "behind the number", r, false, false)
	readText(t, "text", r, 0, 2, []byte("ab"))
	state(t, "behind the text", r, false, false)
	readText(t, "empty text", r, 0, 0, nil)
	state(t, "ahead of the last", r, false, false)
	readNumber(t, "last", r, 0, 0, 0)
	state(t, "at the last", r, false, true)
	noNumber(t, "behind the last", r, 0, most)
}

// Memory: bytes that were handed in are not changed, and changed later change nothing.
func TestReadKeepsNothing(t *testing.T) {
	parts := []any{5, "abc", most, []byte("defg"), ""}
	b := roomy(wantBytes(parts))
	r, other := code.Read(b), code.Read(b)
	readParts(t, "as handed in", code.Read(b), parts)
	if want := append(wantBytes(parts), "spare room"...); !bytes.Equal(b[:len(want)], want) {
		t.Errorf("the bytes are changed: %x", b[:len(want)])
	}
	readNumber(t, "number", other, 0, most, 5)
	abc := other.Text(3, 3)
	scribble(b)
	readParts(t, "changed at first", r, parts)
	if string(abc) != "abc" {
		t.Errorf("a text changes with the bytes that were handed in: %q", abc)
	}
	readParts(t, "changed in between", other, parts[2:])
}

// Memory: texts that were told and are changed, or gone on with in their spare room, change nothing.
func TestToldTexts(t *testing.T) {
	parts := []any{"abc", "", []byte("defg"), 9, "h", ""}
	b := wantBytes(parts)
	for what, change := range map[string]func(text []byte){
		"changed":    scribble,
		"gone on":    func(text []byte) { _ = append(text, "0123456789012345678901234567890"...) },
		"gone on 1":  func(text []byte) { _ = append(text, 0xff) },
		"spare room": func(text []byte) { clear(text[len(text):cap(text)]) },
	} {
		first, second := code.Read(b), code.Read(b)
		var told [][]byte
		for i, part := range parts {
			if n, ok := part.(int); ok {
				readNumber(t, what, first, 0, most, n)
				readNumber(t, what, second, 0, most, n)
				continue
			}
			want := wantBytes([]any{part})[2:]
			text := first.Text(0, mostText)
			if !bytes.Equal(text, want) || cap(text) != len(text) {
				t.Errorf("%s, part %d: %x with room for %d, want %x", what, i, text, cap(text), want)
			}
			change(text)
			kept := second.Text(0, mostText)
			if !bytes.Equal(kept, want) {
				t.Errorf("%s, part %d, the other reader: %x, want %x", what, i, kept, want)
			}
			told = append(told, kept)
		}
		state(t, what, first, false, true)
		state(t, what, second, false, true)
		readParts(t, what+", the bytes", code.Read(b), parts)
		toldApart(t, what, told)
	}
}

// toldApart wants that a change of one text is none of the others.
func toldApart(t *testing.T, what string, told [][]byte) {
	t.Helper()
	for i, text := range told {
		var before [][]byte
		for _, other := range told {
			before = append(before, slices.Clone(other))
		}
		scribble(text)
		for j, other := range told {
			if i != j && !bytes.Equal(other, before[j]) {
				t.Errorf("%s: texts %d and %d share memory", what, i, j)
			}
		}
	}
}

// model is a reader as the document tells it, by places in its bytes.
type model struct {
	b   string
	at  int
	bad bool
}

func (m *model) next(size int) (int, bool) {
	if m.bad || len(m.b)-m.at < size {
		return 0, false
	}
	n := 0
	for i := range size {
		n = n*256 + int(m.b[m.at+i])
	}
	return n, true
}

func (m *model) number(least, most int) int {
	n, ok := m.next(6)
	if !ok || n < least || n > most {
		m.bad = true
		return 0
	}
	m.at += 6
	return n
}

func (m *model) text(least, most int) string {
	n, ok := m.next(2)
	if !ok || m.at+2+n > len(m.b) || n < least || n > most {
		m.bad = true
		return ""
	}
	m.at += 2 + n
	return m.b[m.at-n : m.at]
}

// against reads any bytes by steps that a list of numbers says, and holds the reader against the model.
func against(t *testing.T, b []byte, steps []byte) {
	t.Helper()
	r, m := code.Read(b), &model{b: string(b)}
	for i, step := range steps {
		least, most := int(step>>2&7)-1, []int{3, 300, mostText, math.MaxInt}[step>>5&3]
		if step&1 == 0 {
			if got, want := r.Number(least, most), m.number(least, most); got != want {
				t.Fatalf("%x, step %d: number %d, want %d", b, i, got, want)
			}
		} else if got, want := r.Text(least, most), m.text(least, most); string(got) != want {
			t.Fatalf("%x, step %d: text %x, want %x", b, i, got, want)
		}
		if r.Bad() != m.bad || r.End() != (!m.bad && m.at == len(m.b)) {
			t.Fatalf("%x, step %d: bad %v, end %v", b, i, r.Bad(), r.End())
		}
	}
}

// P8.2: any bytes, read by any steps, held against the model.
func TestReadAgainstModel(t *testing.T) {
	random := rand.New(rand.NewSource(8))
	for range 50000 {
		b, steps := make([]byte, random.Intn(40)), make([]byte, random.Intn(8))
		for i := range b {
			// Small bytes make parts that are there.
			if random.Intn(3) == 0 {
				b[i] = byte(random.Intn(5))
			}
		}
		random.Read(steps)
		against(t, b, steps)
	}
}

func FuzzRead(f *testing.F) {
	f.Add([]byte{0, 0, 0, 0, 0, 1, 0, 2, 0x61, 0x62}, []byte{0x60, 0x61})
	f.Add([]byte{}, []byte{0, 1})
	f.Add([]byte{0xff, 0xff, 0xff, 0xff, 0xff, 0xff}, []byte{0x60, 0x60})
	f.Fuzz(against)
}

func FuzzPut(f *testing.F) {
	f.Add(1, []byte("ab"), "cd", -1)
	f.Add(most, []byte(nil), "", most+1)
	f.Fuzz(func(t *testing.T, n int, text []byte, word string, m int) {
		want := api.OK
		for _, wrong := range []struct {
			is bool
			e  api.Errno
		}{{m < 0 || m > most, api.ErrRange}, {len(word) > mostText, api.ErrSize}, {len(text) > mostText, api.ErrSize}, {n < 0 || n > most, api.ErrRange}} {
			// Gone through from the last part on, so that the first one's error stays.
			if wrong.is {
				want = wrong.e
			}
		}
		if want != api.OK {
			refused(t, "any parts", want, n, text, word, m)
			return
		}
		parts := []any{n, text, word, m}
		readParts(t, "any parts", code.Read(written(t, "any parts", parts...)), parts)
	})
}
