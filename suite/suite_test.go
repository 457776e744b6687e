package suite_test

import (
	"bytes"
	"crypto/hmac"
	"crypto/sha256"
	"encoding/binary"
	"fmt"
	"math/rand"
	"slices"
	"strings"
	"testing"

	"locket/aead"
	"locket/api"
	"locket/suite"
)

// lengths are those of texts and of other bytes.
var lengths = []int{0, 1, 2, 7, 8, 9, 15, 16, 17, 31, 32, 33, 63, 64, 65, 255, 256, 257, 4095, 4096, 4097}

// pattern is n bytes that differ from place to place, and with the seed.
func pattern(n, seed int) []byte {
	b := make([]byte, n)
	for i := range b {
		b[i] = byte(i*7 + i/64*31 + seed)
	}
	return b
}

// roomy is the same bytes, with spare room behind them that holds more.
func roomy(b []byte) []byte {
	return slices.Concat(b, []byte("spare room"))[:len(b)]
}

func scribble(b []byte) {
	b = b[:cap(b)]
	for i := range b {
		b[i] ^= 0xa5
	}
}

func check(t *testing.T, what string, got, want []byte) {
	t.Helper()
	if !bytes.Equal(got, want) {
		t.Errorf("%s: got %x, want %x", what, got, want)
	}
}

func counts(t *testing.T, what string, s *suite.Suite, want int) {
	t.Helper()
	if got := s.Count(); got != want {
		t.Errorf("%s: count %d, want %d", what, got, want)
	}
}

// inEight is a number in eight bytes, the highest first.
func inEight(n int) []byte {
	return binary.BigEndian.AppendUint64(nil, uint64(n))
}

// wantSign is the sign of a number as the document tells it.
func wantSign(sort byte, n int) []byte {
	return slices.Concat([]byte{0x53, sort}, make([]byte, 22), inEight(n))
}

// wantBox is the box of a text of so many bytes as the document tells it.
func wantBox(n, length int) []byte {
	return slices.Concat([]byte{0x42}, make([]byte, length+7), inEight(n))
}

// wantCode is the code of a message, by the library.
func wantCode(key, message []byte) []byte {
	h := hmac.New(sha256.New, key)
	h.Write(message)
	return h.Sum(nil)
}

func texts(parts ...string) [][]byte {
	var all [][]byte
	for _, p := range parts {
		all = append(all, []byte(p))
	}
	return all
}

func seal(t *testing.T, s *suite.Suite, key, nonce, other, text []byte) []byte {
	t.Helper()
	box, e := s.Seal(key, nonce, other, text)
	if e != api.OK {
		t.Fatalf("Seal of %d and %d bytes: error %d", len(other), len(text), e)
	}
	return box
}

// opens wants that Open tells the text.
func opens(t *testing.T, what string, s *suite.Suite, key, nonce, other, box, text []byte) {
	t.Helper()
	got, e := s.Open(key, nonce, other, box)
	if e != api.OK || !bytes.Equal(got, text) {
		t.Errorf("%s: %x, error %d, want %x", what, got, e, text)
	}
}

// closed wants that Open tells ErrOpen, and no bytes beside it.
func closed(t *testing.T, what string, s *suite.Suite, key, nonce, other, box []byte) {
	t.Helper()
	if text, e := s.Open(key, nonce, other, box); e != api.ErrOpen || len(text) != 0 {
		t.Errorf("%s: %d bytes, error %d, want ErrOpen alone", what, len(text), e)
	}
}

// refused wants that Seal and Open tell ErrSize, and no bytes beside it, and that nothing is counted.
func refused(t *testing.T, s *suite.Suite, key, nonce, other, text []byte) {
	t.Helper()
	what := fmt.Sprintf("key of %d, nonce of %d, %d and %d bytes", len(key), len(nonce), len(other), len(text))
	before := s.Count()
	if b, e := s.Seal(key, nonce, other, text); e != api.ErrSize || len(b) != 0 {
		t.Errorf("Seal, %s: %d bytes, error %d, want ErrSize alone", what, len(b), e)
	}
	if b, e := s.Open(key, nonce, other, text); e != api.ErrSize || len(b) != 0 {
		t.Errorf("Open, %s: %d bytes, error %d, want ErrSize alone", what, len(b), e)
	}
	counts(t, what, s, before)
}

// turnBits calls ask with each bit of b turned, one at a time.
func turnBits(b []byte, ask func(what string)) {
	for bit := range 8 * len(b) {
		b[bit/8] ^= 1 << (bit % 8)
		ask(fmt.Sprintf("bit %d of %d bytes", bit, len(b)))
		b[bit/8] ^= 1 << (bit % 8)
	}
}

// P7.1: the document's example.
func TestExample(t *testing.T) {
	s := suite.Signs()
	check(t, "a", s.Sum([]byte("a")), wantSign(0x48, 1))
	check(t, "a again", s.Sum([]byte("a")), wantSign(0x48, 1))
	check(t, "b", s.Sum([]byte("b")), wantSign(0x48, 2))
}

// cuts are the same bytes, cut in different places.
func cuts() map[string][][]byte {
	return map[string][][]byte{
		"one part":        texts("abcd"),
		"two parts":       texts("a", "bcd"),
		"two other parts": texts("abc", "d"),
		"four parts":      texts("a", "b", "c", "d"),
		"empty parts":     {{}, []byte("ab"), nil, []byte("cd"), {}},
		"nil ahead":       {nil, nil, []byte("abcd")},
		"spare room":      {roomy([]byte("ab")), roomy([]byte("cd"))},
	}
}

// nothings are no bytes, in different numbers of parts.
func nothings() map[string][][]byte {
	return map[string][][]byte{"no part": nil, "empty list": {}, "nil": {nil}, "empty": {{}}, "several": {nil, {}, nil}, "spare room": {roomy(nil)}}
}

// P7.1: of signs, sums and codes are of the parts one behind the other, wherever they are cut.
func TestSignParts(t *testing.T) {
	s := suite.Signs()
	s.Sum([]byte("abcd"))
	s.Code([]byte("key"), []byte("abcd"))
	s.Sum()
	s.Code([]byte("key"))
	for what, parts := range cuts() {
		check(t, "sum, "+what, s.Sum(parts...), wantSign(0x48, 1))
		check(t, "code, "+what, s.Code([]byte("key"), parts...), wantSign(0x4d, 2))
	}
	for what, parts := range nothings() {
		check(t, "sum, "+what, s.Sum(parts...), wantSign(0x48, 3))
		check(t, "code, "+what, s.Code([]byte("key"), parts...), wantSign(0x4d, 4))
	}
	check(t, "parts in another order", s.Sum(texts("cd", "ab")...), wantSign(0x48, 5))
	counts(t, "all", s, 5)
}

// P7.1: of a real suite sums and codes are those of layers 1 and 2.
func TestRealParts(t *testing.T) {
	s := suite.Real([]byte("seed"))
	sum, none := sha256.Sum256([]byte("abcd")), sha256.Sum256(nil)
	for _, key := range [][]byte{nil, {}, []byte("key"), pattern(32, 1), pattern(64, 1), pattern(65, 1), pattern(200, 1)} {
		for what, parts := range cuts() {
			check(t, "sum, "+what, s.Sum(parts...), sum[:])
			check(t, "code, "+what, s.Code(key, parts...), wantCode(key, []byte("abcd")))
		}
		for what, parts := range nothings() {
			check(t, "sum, "+what, s.Sum(parts...), none[:])
			check(t, "code, "+what, s.Code(key, parts...), wantCode(key, nil))
		}
	}
	for _, n := range lengths {
		sum := sha256.Sum256(pattern(n, 1))
		check(t, fmt.Sprint("sum of ", n), s.Sum(pattern(n, 1)), sum[:])
		check(t, fmt.Sprint("code of ", n), s.Code(pattern(n, 2), pattern(n, 1)), wantCode(pattern(n, 2), pattern(n, 1)))
	}
}

// P7.1: the same bytes have the same sum and code for ever, with others in between.
func TestSignAgain(t *testing.T) {
	s := suite.Signs()
	for range 3 {
		for i := range 300 {
			text := fmt.Appendf(nil, "text %d", i)
			check(t, "sum", s.Sum(text), wantSign(0x48, 2*i+1))
			check(t, "code", s.Code([]byte("key"), text), wantSign(0x4d, 2*i+2))
			for back := range min(i, 3) {
				check(t, "sum, some back", s.Sum(fmt.Appendf(nil, "text %d", i-back)), wantSign(0x48, 2*(i-back)+1))
			}
		}
		counts(t, "all", s, 600)
	}
	key := s.Key()
	seal(t, s, key, pattern(12, 1), nil, []byte("text 5"))
	check(t, "sum behind a key and a box", s.Sum([]byte("text 5")), wantSign(0x48, 11))
	check(t, "code behind a key and a box", s.Code([]byte("key"), []byte("text 5")), wantSign(0x4d, 12))
	check(t, "a new sum", s.Sum([]byte("new")), wantSign(0x48, 603))
}

// P7.1: a key and a text whose bytes together are another key's and text's have another code; a sum is another one than each code.
func TestSignKeyApart(t *testing.T) {
	s := suite.Signs()
	all := []byte("abab\x00\x00key")
	number := 0
	for range 2 {
		number = 0
		for at := range len(all) + 1 {
			number++
			check(t, fmt.Sprint("key up to ", at), s.Code(all[:at], all[at:]), wantSign(0x4d, number))
		}
		number++
		check(t, "sum", s.Sum(all), wantSign(0x48, number))
		for i, c := range []struct{ key, text string }{{"a", ""}, {"", "a"}, {"a", "a"}, {"a\x00", ""}, {"a", "\x00"}, {"", "\x00a"}, {"b", "a"}, {"a", "b"}} {
			number++
			check(t, fmt.Sprint("case ", i), s.Code([]byte(c.key), []byte(c.text)), wantSign(0x4d, number))
		}
		number++
		check(t, "sum of a", s.Sum([]byte("a")), wantSign(0x48, number))
		number++
		check(t, "code of nothing under nothing", s.Code(nil), wantSign(0x4d, number))
		check(t, "the same, empty", s.Code([]byte{}, []byte{}), wantSign(0x4d, number))
		number++
		check(t, "sum of nothing", s.Sum(), wantSign(0x48, number))
	}
	counts(t, "all", s, number)
}

// P7.1: all bytes of what is summed count, and of what is coded, and of the key, also of long ones.
func TestSignBits(t *testing.T) {
	s := suite.Signs()
	seen := map[string]bool{}
	fresh := func(what string, sign []byte) {
		t.Helper()
		if seen[string(sign)] {
			t.Errorf("%s: a sign that was there", what)
		}
		seen[string(sign)] = true
	}
	for _, n := range []int{1, 32, 70, 200} {
		key, text := pattern(n, 1), pattern(n, 3)
		fresh("sum", s.Sum(text))
		fresh("code", s.Code(key, text))
		turnBits(text, func(what string) {
			fresh("sum, "+what, s.Sum(text))
			fresh("code, "+what, s.Code(key, text))
		})
		turnBits(key, func(what string) { fresh("key, "+what, s.Code(key, text)) })
	}
	for n := range 100 {
		fresh("noughts", s.Sum(make([]byte, n)))
		fresh("noughts under nothing", s.Code(nil, make([]byte, n)))
		fresh("no text under noughts", s.Code(make([]byte, n+1)))
	}
	// A key as it stands and its sum are one for layer 2, but not for signs.
	long := pattern(100, 3)
	sum := sha256.Sum256(long)
	fresh("a long key", s.Code(long, []byte("x")))
	fresh("its sum", s.Code(sum[:], []byte("x")))
	fresh("its sum, filled up", s.Code(append(sum[:], 0), []byte("x")))
}

// P7.1: a sign's number stands in its last eight bytes, the highest first.
func TestSignNumbers(t *testing.T) {
	s := suite.Signs()
	for n := 1; n <= 70000; n++ {
		got, sort := []byte(nil), byte(0)
		switch n % 3 {
		case 0:
			got, sort = s.Sum(inEight(n)), 0x48
		case 1:
			got, sort = s.Code(inEight(n), inEight(n)), 0x4d
		case 2:
			got, sort = s.Key(), 0x4b
		}
		if !bytes.Equal(got, wantSign(sort, n)) {
			t.Fatalf("%d: %x", n, got)
		}
	}
	box := seal(t, s, pattern(32, 1), pattern(12, 1), nil, []byte("x"))
	check(t, "box", box, wantBox(70001, 1))
	opens(t, "box", s, pattern(32, 1), pattern(12, 1), nil, box, []byte("x"))
	check(t, "sum of the number 300", s.Sum(inEight(300)), wantSign(0x48, 300))
}

// P7.1: of a real suite keys are the codes of the numbers from 1 on under the seed, whatever is asked in between.
func TestRealKeys(t *testing.T) {
	for _, n := range []int{0, 1, 4, 31, 32, 63, 64, 65, 200} {
		seed := pattern(n, 1)
		s, idle := suite.Real(seed), suite.Real(seed)
		for i := 1; i <= 600; i++ {
			want := wantCode(seed, inEight(i))
			check(t, fmt.Sprintf("seed of %d, key %d", n, i), s.Key(), want)
			s.Sum(want)
			s.Code(seed, inEight(i+1))
			box := seal(t, s, want, pattern(12, i), nil, want)
			opens(t, "box", s, want, pattern(12, i), nil, box, want)
			check(t, "the same seed", idle.Key(), want)
		}
	}
	check(t, "nil seed", suite.Real(nil).Key(), suite.Real([]byte{}).Key())
	many := suite.Real([]byte("seed"))
	for i := 1; i <= 70000; i++ {
		if key := many.Key(); i > 65530 && i < 65540 {
			check(t, fmt.Sprint("key ", i), key, wantCode([]byte("seed"), inEight(i)))
		}
	}
}

// P7.1: suites have their keys each for itself; those of two seeds are others, and a seed's room doesn't count.
func TestRealSeeds(t *testing.T) {
	a, b, c := suite.Real([]byte("seed")), suite.Real([]byte("seed")), suite.Real([]byte("seeds"))
	first := a.Key()
	second, third := a.Key(), a.Key()
	check(t, "b's first", b.Key(), first)
	check(t, "b's second", b.Key(), second)
	check(t, "b's third", b.Key(), third)
	check(t, "with spare room", suite.Real(roomy([]byte("seed"))).Key(), first)
	if bytes.Equal(first, second) || bytes.Equal(second, third) || bytes.Equal(first, third) {
		t.Error("two keys are the same")
	}
	for range 3 {
		if key := c.Key(); bytes.Equal(key, first) || bytes.Equal(key, second) || bytes.Equal(key, third) {
			t.Error("another seed has the same key")
		}
	}
}

// P7.1: of signs keys are new each time, and suites have their lists each for itself.
func TestSignKeys(t *testing.T) {
	a, b := suite.Signs(), suite.Signs()
	for n := 1; n <= 600; n++ {
		check(t, fmt.Sprint("key ", n), a.Key(), wantSign(0x4b, n))
	}
	counts(t, "the other suite", b, 0)
	check(t, "the other suite's sum", b.Sum([]byte("x")), wantSign(0x48, 1))
	check(t, "the other suite's key", b.Key(), wantSign(0x4b, 2))
	check(t, "the first suite's sum", a.Sum([]byte("x")), wantSign(0x48, 601))
	// What a key's bytes are summed to hangs on these bytes, not on their being a key.
	key := a.Key()
	check(t, "a key's sum", a.Sum(key), wantSign(0x48, 603))
	check(t, "a key's sum again", a.Sum(wantSign(0x4b, 602)), wantSign(0x48, 603))
	check(t, "a code under a key", a.Code(key), wantSign(0x4d, 604))
	check(t, "the same bytes", a.Code(wantSign(0x4b, 602)), wantSign(0x4d, 604))
}

// P7.2: of signs a box is made of the text's length and a new number, and opened to the text.
func TestSignBoxes(t *testing.T) {
	s := suite.Signs()
	key, nonce := s.Key(), pattern(12, 1)
	var boxes [][]byte
	for i, n := range append(lengths, 100000) {
		box := seal(t, s, key, nonce, pattern(n, 3), pattern(n, 4))
		check(t, fmt.Sprint("box of ", n), box, wantBox(i+2, n))
		opens(t, fmt.Sprint("box of ", n), s, key, nonce, pattern(n, 3), box, pattern(n, 4))
		boxes = append(boxes, box)
	}
	for i, n := range append(lengths, 100000) {
		opens(t, fmt.Sprint("later, box of ", n), s, key, nonce, pattern(n, 3), boxes[i], pattern(n, 4))
		opens(t, fmt.Sprint("spare room, box of ", n), s, roomy(key), roomy(nonce), roomy(pattern(n, 3)), roomy(boxes[i]), pattern(n, 4))
	}
	for n := range 300 {
		before := s.Count()
		check(t, fmt.Sprint("box of ", n), seal(t, s, pattern(32, n), pattern(12, n), nil, pattern(n, 4)), wantBox(before+1, n))
	}
}

// P7.2: of signs nothing of a text stands in its box but its length, and nothing of the key, the nonce and the other bytes.
func TestSignBoxTellsLength(t *testing.T) {
	for _, n := range lengths {
		a, b := suite.Signs(), suite.Signs()
		check(t, fmt.Sprint(n), seal(t, a, pattern(32, 1), pattern(12, 1), nil, pattern(n, 1)), seal(t, b, pattern(32, 2), pattern(12, 2), pattern(9, 2), make([]byte, n)))
	}
}

// P7.2: of a real suite boxes are those of layer 5.
func TestRealBoxes(t *testing.T) {
	s, other := suite.Real([]byte("seed")), suite.Real([]byte("another"))
	for _, o := range lengths {
		for _, n := range lengths {
			key, nonce, beside, text := s.Key(), pattern(12, n), pattern(o, 3), pattern(n, 4)
			want, e := aead.Seal(key, nonce, beside, text)
			if e != api.OK {
				t.Fatal(e)
			}
			what := fmt.Sprintf("%d and %d", o, n)
			check(t, what, seal(t, s, key, nonce, beside, text), want)
			check(t, what+", again", seal(t, s, key, nonce, beside, text), want)
			opens(t, what, s, key, nonce, beside, want, text)
			// A real box is opened by who has the key, whichever suite made it.
			opens(t, what+", another suite", other, key, nonce, beside, want, text)
		}
	}
}

// both are a real suite and one of signs.
func both() map[string]*suite.Suite {
	return map[string]*suite.Suite{"real": suite.Real([]byte("seed")), "signs": suite.Signs()}
}

// P7.2: ErrSize for a key or a nonce of any other size, whatever the rest is, also of a box that would not be opened.
func TestSizes(t *testing.T) {
	for name, s := range both() {
		key, nonce := s.Key(), pattern(12, 2)
		sound := seal(t, s, key, nonce, pattern(5, 3), pattern(20, 4))
		before := s.Count()
		for _, other := range [][]byte{nil, {}, pattern(5, 3)} {
			for _, text := range [][]byte{nil, {}, pattern(1, 3), pattern(15, 3), pattern(16, 3), sound} {
				for n := range 100 {
					if n != api.KeySize {
						refused(t, s, pattern(n, 1), nonce, other, text)
					}
					if n != api.NonceSize {
						refused(t, s, key, pattern(n, 2), other, text)
					}
				}
				refused(t, s, nil, nil, other, text)
				refused(t, s, nonce, key, other, text)
				refused(t, s, append(slices.Clone(key), 0), nonce, other, text)
				refused(t, s, key, append(slices.Clone(nonce), 0), other, text)
				refused(t, s, pattern(4096, 1), pattern(4096, 2), other, text)
				// Sizes count, not the room behind them.
				refused(t, s, key[:31], nonce, other, text)
				refused(t, s, key, nonce[:11], other, text)
			}
		}
		counts(t, name, s, before)
		opens(t, name, s, key, nonce, pattern(5, 3), sound, pattern(20, 4))
	}
}

// P7.2: ErrOpen with another key, another nonce or other bytes than those that the box was made with.
func TestWrongLock(t *testing.T) {
	for name, s := range both() {
		for _, o := range []int{0, 1, 16, 40} {
			for _, n := range []int{0, 1, 17} {
				key, nonce, other, text := s.Key(), pattern(12, 2), pattern(o, 3), pattern(n, 4)
				box := seal(t, s, key, nonce, other, text)
				ask := func(what string) { t.Helper(); closed(t, name+", "+what, s, key, nonce, other, box) }
				turnBits(key, ask)
				turnBits(nonce, ask)
				turnBits(other, ask)
				closed(t, name+", a new key", s, s.Key(), nonce, other, box)
				for more := range 20 {
					closed(t, name+", noughts more", s, key, nonce, append(slices.Clone(other), make([]byte, more+1)...), box)
				}
				for cut := range o {
					closed(t, name+", fewer", s, key, nonce, other[:cut], box)
				}
				opens(t, name, s, key, nonce, other, box, text)
			}
		}
	}
}

// P7.2: ErrOpen for a box of which a byte is changed, that is cut short or made longer.
func TestChangedBoxes(t *testing.T) {
	for name, s := range both() {
		for _, n := range []int{0, 1, 8, 16, 17, 40} {
			key, nonce, other, text := s.Key(), pattern(12, 2), pattern(3, 3), pattern(n, 4)
			box := seal(t, s, key, nonce, other, text)
			turnBits(box, func(what string) { closed(t, name+", "+what, s, key, nonce, other, box) })
			for cut := range len(box) {
				closed(t, fmt.Sprintf("%s, the first %d of %d", name, cut, len(box)), s, key, nonce, other, box[:cut])
				closed(t, fmt.Sprintf("%s, the last %d of %d", name, cut, len(box)), s, key, nonce, other, box[len(box)-cut:])
			}
			for more := range 20 {
				noughts := make([]byte, more+1)
				closed(t, name+", longer", s, key, nonce, other, append(slices.Clone(box), noughts...))
				closed(t, name+", longer ahead", s, key, nonce, other, append(noughts, box...))
				closed(t, name+", longer inside", s, key, nonce, other, slices.Insert(slices.Clone(box), 1, noughts...))
			}
			closed(t, name+", twice", s, key, nonce, other, append(slices.Clone(box), box...))
			opens(t, name, s, key, nonce, other, box, text)
		}
	}
}

// P7.2: of signs ErrOpen for bytes in the form of a box whose number is none of a box, or of a box of another length.
func TestSignForgedBoxes(t *testing.T) {
	s := suite.Signs()
	key, nonce := s.Key(), pattern(12, 2)
	s.Sum([]byte("abc"))
	s.Code(key, []byte("abc"))
	box := seal(t, s, key, nonce, nil, []byte("abc"))
	for _, n := range []int{0, 1, 2, 3, 5, 6, 260, -1, -4, 1 << 32, 1<<32 + 4, 1<<62 + 4, -1 << 63} {
		for length := range 20 {
			closed(t, fmt.Sprintf("number %d, %d bytes", n, length), s, key, nonce, nil, wantBox(n, length))
		}
	}
	for length := range 40 {
		if length != 3 {
			closed(t, fmt.Sprintf("the right number, %d bytes", length), s, key, nonce, nil, wantBox(4, length))
		}
	}
	for n := range 60 {
		closed(t, "noughts", s, key, nonce, nil, make([]byte, n))
		closed(t, "ff", s, key, nonce, nil, bytes.Repeat([]byte{0xff}, n))
	}
	for _, sort := range []byte{0x48, 0x4d, 0x4b} {
		closed(t, "a sign", s, key, nonce, nil, wantSign(sort, 4))
	}
	for n := range 8 {
		closed(t, "the number alone", s, key, nonce, nil, inEight(4)[n:])
	}
	closed(t, "the text", s, key, nonce, nil, []byte("abc"))
	counts(t, "behind all", s, 4)
	opens(t, "the box", s, key, nonce, nil, box, []byte("abc"))
	opens(t, "its bytes, from elsewhere", s, key, nonce, nil, wantBox(4, 3), []byte("abc"))
}

// P7.2: a box isn't opened ahead of its being made, and is behind.
func TestSignBoxAhead(t *testing.T) {
	s := suite.Signs()
	key, nonce := pattern(32, 1), pattern(12, 2)
	ahead := wantBox(1, 5)
	closed(t, "ahead", s, key, nonce, nil, ahead)
	counts(t, "ahead", s, 0)
	check(t, "made", seal(t, s, key, nonce, nil, pattern(5, 1)), ahead)
	opens(t, "behind", s, key, nonce, nil, ahead, pattern(5, 1))
}

// P7.2: ErrOpen for a box that another suite made.
func TestOtherSuites(t *testing.T) {
	whole, signs, others := suite.Real([]byte("seed")), suite.Signs(), suite.Signs()
	key, nonce, text := pattern(32, 1), pattern(12, 2), pattern(20, 3)
	others.Key()
	box, signs1, others2 := seal(t, whole, key, nonce, nil, text), seal(t, signs, key, nonce, nil, text), seal(t, others, key, nonce, nil, text)
	closed(t, "a real one by signs", signs, key, nonce, nil, box)
	closed(t, "a sign by a real one", whole, key, nonce, nil, signs1)
	closed(t, "another list's", signs, key, nonce, nil, others2)
	closed(t, "another list's", others, key, nonce, nil, signs1)
	opens(t, "real", whole, key, nonce, nil, box, text)
	opens(t, "signs", signs, key, nonce, nil, signs1, text)
	opens(t, "others", others, key, nonce, nil, others2, text)
	// The same bytes as a box made here, but of another key's.
	third := suite.Signs()
	seal(t, third, pattern(32, 9), nonce, nil, text)
	closed(t, "another list's box of this number", third, key, nonce, nil, signs1)
}

// P7.2: of signs two boxes of one text are two, and each is opened by its own lock.
func TestTwoBoxes(t *testing.T) {
	s := suite.Signs()
	key, nonce, text := pattern(32, 1), pattern(12, 2), []byte("text")
	a, b := seal(t, s, key, nonce, []byte("o"), text), seal(t, s, key, nonce, []byte("o"), text)
	check(t, "first", a, wantBox(1, 4))
	check(t, "second", b, wantBox(2, 4))
	opens(t, "first", s, key, nonce, []byte("o"), a, text)
	opens(t, "second", s, key, nonce, []byte("o"), b, text)
	c, d := seal(t, s, key, nonce, []byte("p"), text), seal(t, s, key, nonce, []byte("o"), []byte("next"))
	closed(t, "the third with the first one's", s, key, nonce, []byte("o"), c)
	closed(t, "the first with the third one's", s, key, nonce, []byte("p"), a)
	opens(t, "third", s, key, nonce, []byte("p"), c, text)
	opens(t, "fourth", s, key, nonce, []byte("o"), d, []byte("next"))
	opens(t, "first again", s, key, nonce, []byte("o"), a, text)
}

// P7.1, P7.2: a box in a box, a sum of a box, a code of a sign: all are bytes.
func TestSignsOfSigns(t *testing.T) {
	s := suite.Signs()
	key, nonce := s.Key(), pattern(12, 1)
	inner := seal(t, s, key, nonce, nil, key)
	outer := seal(t, s, key, nonce, inner, inner)
	check(t, "outer", outer, wantBox(3, len(inner)))
	opens(t, "outer", s, key, nonce, inner, outer, inner)
	opens(t, "inner", s, key, nonce, nil, inner, key)
	check(t, "sum of a box", s.Sum(inner), wantSign(0x48, 4))
	check(t, "code of a sum", s.Code(s.Sum(inner), inner), wantSign(0x4d, 5))
	under := seal(t, s, s.Sum(inner), nonce, nil, nil)
	opens(t, "under a sum", s, wantSign(0x48, 4), nonce, nil, under, nil)
}

// P7.3: of signs the list's count behind each sort of step: what is refused, opened or there already isn't counted.
func TestSignCount(t *testing.T) {
	s := suite.Signs()
	key, nonce := pattern(32, 1), pattern(12, 2)
	var box []byte
	for i, step := range []struct {
		what string
		do   func()
		more int
	}{
		{"at first", func() {}, 0},
		{"sum", func() { s.Sum([]byte("a")) }, 1},
		{"sum again", func() { s.Sum([]byte("a")) }, 0},
		{"sum of nothing", func() { s.Sum() }, 1},
		{"sum of nothing again", func() { s.Sum(nil, []byte{}) }, 0},
		{"code", func() { s.Code(key, []byte("a")) }, 1},
		{"code again, in parts", func() { s.Code(key, nil, []byte("a")) }, 0},
		{"code under nothing", func() { s.Code(nil, []byte("a")) }, 1},
		{"key", func() { s.Key() }, 1},
		{"another key", func() { s.Key() }, 1},
		{"box", func() { box = seal(t, s, key, nonce, nil, []byte("a")) }, 1},
		{"box again", func() { box = seal(t, s, key, nonce, nil, []byte("a")) }, 1},
		{"box of nothing", func() { seal(t, s, key, nonce, nil, nil) }, 1},
		{"open", func() { opens(t, "open", s, key, nonce, nil, box, []byte("a")) }, 0},
		{"open, refused", func() { closed(t, "open", s, key, nonce, box, box) }, 0},
		{"open, no box", func() { closed(t, "open", s, key, nonce, nil, nil) }, 0},
		{"sizes", func() { refused(t, s, key, nil, nil, nil) }, 0},
		{"count", func() { s.Count() }, 0},
		{"sum at the end", func() { s.Sum([]byte("b")) }, 1},
	} {
		before := s.Count()
		step.do()
		counts(t, fmt.Sprintf("step %d, %s", i, step.what), s, before+step.more)
	}
	counts(t, "all", s, 10)
	check(t, "the next", s.Key(), wantSign(0x4b, 11))
}

// P7.3: of a real suite the count is how many keys were drawn, nothing else.
func TestRealCount(t *testing.T) {
	s := suite.Real(nil)
	counts(t, "at first", s, 0)
	for i := 1; i <= 300; i++ {
		key := s.Key()
		counts(t, "key", s, i)
		s.Sum(key)
		s.Code(key, key)
		box := seal(t, s, key, pattern(12, i), nil, key)
		opens(t, "box", s, key, pattern(12, i), nil, box, key)
		closed(t, "box", s, key, pattern(12, i+1), nil, box)
		refused(t, s, nil, nil, nil, nil)
		counts(t, "others", s, i)
	}
	counts(t, "another one", suite.Real(nil), 0)
}

// Memory: what was handed in isn't changed, its spare room neither, and changed later changes nothing.
func TestArguments(t *testing.T) {
	for _, begin := range []func() *suite.Suite{suite.Signs, func() *suite.Suite { return suite.Real([]byte("seed")) }} {
		s := begin()
		args := [][]byte{roomy(pattern(32, 1)), roomy(pattern(12, 2)), roomy(pattern(6, 3)), roomy(pattern(9, 4)), nil}
		known := func(at int) []byte { return [][]byte{pattern(32, 1), pattern(12, 2), pattern(6, 3), pattern(9, 4)}[at] }
		sum, code := s.Sum(args[2], args[3]), s.Code(args[0], args[2], args[3])
		box := seal(t, s, args[0], args[1], args[2], args[3])
		args[4] = roomy(box)
		opens(t, "as made", s, args[0], args[1], args[2], args[4], known(3))
		for i, want := range [][]byte{known(0), known(1), known(2), known(3), box} {
			check(t, fmt.Sprint("argument ", i), args[i], want)
			if room := args[i][:len(want)+10]; !strings.HasSuffix(string(room), "spare room") {
				t.Errorf("argument %d: spare room %q", i, room)
			}
			scribble(args[i])
		}
		opens(t, "changed later", s, known(0), known(1), known(2), box, known(3))
		closed(t, "the changed key", s, args[0], known(1), known(2), box)
		before := s.Count()
		check(t, "sum", s.Sum(known(2), known(3)), sum)
		check(t, "code", s.Code(known(0), known(2), known(3)), code)
		counts(t, "there already", s, before)
	}
	seed := roomy([]byte("seed"))
	s := suite.Real(seed)
	check(t, "seed", seed[:14], []byte("seedspare room"))
	scribble(seed)
	check(t, "key", s.Key(), wantCode([]byte("seed"), inEight(1)))
	parts := texts("a", "b")
	signs := suite.Signs()
	signs.Sum(parts...)
	parts[0], parts[1] = nil, []byte("c")
	check(t, "the list of parts", signs.Sum([]byte("ab")), wantSign(0x48, 1))
}

// Memory: answers that are changed by who asked change nothing of a suite, of other answers and of arguments.
func TestAnswers(t *testing.T) {
	for name, s := range both() {
		key, nonce, other, text := s.Key(), pattern(12, 2), pattern(6, 3), pattern(9, 4)
		sealed := seal(t, s, key, nonce, other, text)
		for what, ask := range map[string]func() []byte{
			"sum":           func() []byte { return s.Sum(text) },
			"sum of a part": func() []byte { return s.Sum(key) },
			"code":          func() []byte { return s.Code(key, text) },
			"open": func() []byte {
				b, e := s.Open(key, nonce, other, sealed)
				if e != api.OK {
					t.Error(e)
				}
				return b
			},
		} {
			first, second := ask(), ask()
			known := slices.Clone(first)
			scribble(first)
			check(t, name+", "+what+", an answer ahead", second, known)
			check(t, name+", "+what+", a later answer", ask(), known)
			check(t, name+", "+what+", text", text, pattern(9, 4))
		}
		drawn, next := s.Key(), s.Key()
		known := slices.Clone(next)
		scribble(drawn)
		check(t, name+", key", next, known)
		box, again := seal(t, s, key, nonce, other, text), seal(t, s, key, nonce, other, text)
		kept, keptAgain := slices.Clone(box), slices.Clone(again)
		scribble(box)
		check(t, name+", box", again, keptAgain)
		opens(t, name+", box", s, key, nonce, other, kept, text)
		check(t, name+", nonce", nonce, pattern(12, 2))
		check(t, name+", other", other, pattern(6, 3))
	}
}

// model is a suite of signs as the document tells it: a list, gone through from its beginning.
type model struct{ list []string }

// number is a thing's place in the list, from 1 on, behind all if it is new each time or not there yet.
func (m *model) number(thing string, again bool) int {
	if at := slices.Index(m.list, thing); again && at >= 0 {
		return at + 1
	}
	m.list = append(m.list, thing)
	return len(m.list)
}

// P7.1, P7.2, P7.3: any steps in any order, held against the list.
func TestSignsAgainstList(t *testing.T) {
	r := rand.New(rand.NewSource(7))
	few := func(n int) []byte { return bytes.Repeat([]byte{byte(r.Intn(2))}, r.Intn(n)) }
	for range 30 {
		s, m := suite.Signs(), &model{}
		type made struct{ key, nonce, other, text, box []byte }
		var boxes []made
		for range 300 {
			text, key := few(5), few(4)
			switch r.Intn(5) {
			case 0:
				check(t, "sum", s.Sum(text[:len(text)/2], text[len(text)/2:]), wantSign(0x48, m.number(fmt.Sprintf("sum %q", text), true)))
			case 1:
				check(t, "code", s.Code(key, text), wantSign(0x4d, m.number(fmt.Sprintf("code %q %q", key, text), true)))
			case 2:
				check(t, "key", s.Key(), wantSign(0x4b, m.number("key", false)))
			case 3:
				b := made{pattern(32, r.Intn(2)), pattern(12, r.Intn(2)), few(3), text, nil}
				b.box = seal(t, s, b.key, b.nonce, b.other, b.text)
				check(t, "box", b.box, wantBox(m.number("box", false), len(text)))
				boxes = append(boxes, b)
			case 4:
				if len(boxes) == 0 {
					continue
				}
				a, b := boxes[r.Intn(len(boxes))], boxes[r.Intn(len(boxes))]
				if bytes.Equal(a.key, b.key) && bytes.Equal(a.nonce, b.nonce) && bytes.Equal(a.other, b.other) {
					opens(t, "like", s, a.key, a.nonce, a.other, b.box, b.text)
				} else {
					closed(t, "unlike", s, a.key, a.nonce, a.other, b.box)
				}
			}
			counts(t, "list", s, len(m.list))
		}
	}
}

func FuzzSuite(f *testing.F) {
	f.Add(pattern(32, 1), pattern(12, 2), []byte("other"), []byte("text"))
	f.Add([]byte("key"), []byte("nonce"), []byte{}, wantBox(3, 4))
	f.Add(pattern(32, 1), pattern(12, 2), []byte(nil), wantBox(3, 0))
	f.Fuzz(func(t *testing.T, key, nonce, other, text []byte) {
		for name, s := range both() {
			check(t, name+", sum", s.Sum(text, other), s.Sum(slices.Concat(text, other)))
			check(t, name+", code", s.Code(key, text, other), s.Code(key, slices.Concat(text, other)))
			if len(key) != api.KeySize || len(nonce) != api.NonceSize {
				refused(t, s, key, nonce, other, text)
				continue
			}
			closed(t, name+", any bytes", s, key, nonce, other, text)
			box := seal(t, s, key, nonce, other, text)
			if len(box) != len(text)+api.TagSize {
				t.Errorf("%s: a box of %d bytes for %d", name, len(box), len(text))
			}
			opens(t, name, s, key, nonce, other, box, text)
			closed(t, name+", another lock", s, key, nonce, append(slices.Clone(other), 1), box)
		}
	})
}
