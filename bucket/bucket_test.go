package bucket_test

import (
	"bytes"
	"encoding/binary"
	"fmt"
	"math"
	"math/rand"
	"slices"
	"testing"

	"locket/api"
	"locket/bucket"
)

// mostText is how many bytes the longest text has that any bucket has room for.
const mostText = 2046

// sizes are those of the buckets.
var sizes = []int{64, 128, 256, 512, 1024, 2048}

// bounds are the lengths at both sides of each bucket's bound, and the buckets' sizes; 0 where there is none.
var bounds = []struct{ n, size int }{
	{-1, 0}, {0, 64}, {1, 64}, {2, 64},
	{61, 64}, {62, 64}, {63, 128}, {64, 128},
	{125, 128}, {126, 128}, {127, 256}, {128, 256},
	{253, 256}, {254, 256}, {255, 512}, {256, 512},
	{509, 512}, {510, 512}, {511, 1024}, {512, 1024},
	{1021, 1024}, {1022, 1024}, {1023, 2048}, {1024, 2048},
	{2045, 2048}, {2046, 2048}, {2047, 0}, {2048, 0}, {2049, 0},
}

// noLengths are those of which there is no bucket, beside the ones in bounds; some would look right in two bytes, some go round when they are added to.
var noLengths = []int{
	4094, 4095, 4096, 65533, 65534, 65535, 65536, 65537, 65536 + 62, 1 << 20, math.MaxInt32 - 1, math.MaxInt32, math.MaxInt32 + 1,
	1 << 32, 1<<32 + 62, 1 << 40, 1 << 62, math.MaxInt - 2, math.MaxInt - 1, math.MaxInt,
	-2, -3, -62, -64, -2046, -65536, math.MinInt32, math.MinInt + 62, math.MinInt + 1, math.MinInt,
}

// pattern is n bytes, none of them a nought, that differ from place to place, and with the seed.
func pattern(n, seed int) []byte {
	b := make([]byte, n)
	for i := range b {
		b[i] = byte((i*7+i/64*31+seed)%255 + 1)
	}
	return b
}

// roomy is the same bytes, with spare room behind them that holds more.
func roomy(b []byte) []byte {
	return slices.Concat(b, []byte("spare room"))[:len(b)]
}

// scribble changes all bytes, and those of the spare room.
func scribble(b []byte) {
	b = b[:cap(b)]
	for i := range b {
		b[i] ^= 0xa5
	}
}

// wantSize is the least bucket that has room, by the list of them; 0 if there is none.
func wantSize(n int) int {
	for _, size := range sizes {
		if n >= 0 && n <= size-2 {
			return size
		}
	}
	return 0
}

// filled is a text in a bucket of that size, whether or not it is the least.
func filled(text []byte, size int) []byte {
	b := append(binary.BigEndian.AppendUint16(nil, uint16(len(text))), text...)
	return append(b, make([]byte, size-len(b))...)
}

// sized wants a size of Size; 0: ErrSize alone.
func sized(t *testing.T, n, want int) {
	t.Helper()
	wantError := api.OK
	if want == 0 {
		wantError = api.ErrSize
	}
	if size, e := bucket.Size(n); size != want || e != wantError {
		t.Errorf("Size of %d: %d, error %d, want %d, error %d", n, size, e, want, wantError)
	}
}

// padded wants OK of Pad, and the text in its bucket.
func padded(t *testing.T, text []byte) []byte {
	t.Helper()
	b, e := bucket.Pad(text)
	want := wantSize(len(text))
	if want == 0 {
		t.Fatalf("no bucket has room for %d bytes", len(text))
	}
	if e != api.OK || !bytes.Equal(b, filled(text, want)) {
		t.Fatalf("Pad of %d bytes: %x, error %d", len(text), b, e)
	}
	return b
}

// tooLong wants ErrSize of Pad, and nothing beside it.
func tooLong(t *testing.T, text []byte) {
	t.Helper()
	if b, e := bucket.Pad(text); e != api.ErrSize || len(b) != 0 {
		t.Errorf("Pad of %d bytes: %d bytes, error %d, want ErrSize alone", len(text), len(b), e)
	}
}

// stripped wants OK of Strip, and the text.
func stripped(t *testing.T, b, text []byte) []byte {
	t.Helper()
	got, e := bucket.Strip(b)
	if e != api.OK || !bytes.Equal(got, text) {
		t.Fatalf("Strip of %d bytes: %x, error %d, want %x", len(b), got, e, text)
	}
	return got
}

// misshapen wants ErrForm of Strip, and nothing beside it.
func misshapen(t *testing.T, what string, b []byte) {
	t.Helper()
	if text, e := bucket.Strip(b); e != api.ErrForm || len(text) != 0 {
		t.Errorf("%s: Strip of %d bytes: %d bytes, error %d, want ErrForm alone", what, len(b), len(text), e)
	}
}

func TestExamples(t *testing.T) {
	sized(t, 62, 64)
	sized(t, 63, 128)
	if b := padded(t, pattern(62, 1)); len(b) != 64 {
		t.Errorf("62 bytes in %d", len(b))
	}
	if b := padded(t, pattern(63, 1)); len(b) != 128 {
		t.Errorf("63 bytes in %d", len(b))
	}
}

func TestSizeBounds(t *testing.T) {
	for _, at := range bounds {
		sized(t, at.n, at.size)
	}
}

func TestSizeEachLength(t *testing.T) {
	for n := -300; n <= 5000; n++ {
		sized(t, n, wantSize(n))
	}
}

func TestSizeOfNone(t *testing.T) {
	for _, n := range noLengths {
		sized(t, n, 0)
	}
}

func TestPadByHand(t *testing.T) {
	b, e := bucket.Pad([]byte("abc"))
	if want := "\x00\x03abc" + string(make([]byte, 59)); e != api.OK || string(b) != want {
		t.Errorf("abc: %x, error %d", b, e)
	}
	long := pattern(0x0203, 5)
	b, e = bucket.Pad(long)
	if e != api.OK || len(b) != 1024 || b[0] != 2 || b[1] != 3 || !bytes.Equal(b[2:2+0x0203], long) {
		t.Errorf("%d bytes: %x, error %d", len(long), b, e)
	}
	if !bytes.Equal(b[2+0x0203:], make([]byte, 1024-2-0x0203)) {
		t.Errorf("behind %d bytes: %x", len(long), b[2+0x0203:])
	}
}

func TestPadNothing(t *testing.T) {
	for _, text := range [][]byte{nil, {}, roomy(nil)} {
		b, e := bucket.Pad(text)
		if e != api.OK || !bytes.Equal(b, make([]byte, 64)) {
			t.Errorf("nothing: %x, error %d", b, e)
		}
		stripped(t, b, nil)
	}
}

func TestPadBounds(t *testing.T) {
	for _, at := range bounds {
		if at.size == 0 {
			tooLong(t, pattern(max(at.n, mostText+1), 3))
			continue
		}
		if b := padded(t, pattern(at.n, 3)); len(b) != at.size {
			t.Errorf("%d bytes in %d, not in %d", at.n, len(b), at.size)
		}
	}
}

func TestPadTooLong(t *testing.T) {
	for _, n := range []int{2047, 2048, 2049, 4096, 65535, 65536, 65536 + 62, 1 << 20} {
		tooLong(t, pattern(n, 3))
		tooLong(t, make([]byte, n))
	}
}

func TestPadAndStrip(t *testing.T) {
	for n := 0; n <= mostText; n++ {
		for _, text := range [][]byte{pattern(n, n), make([]byte, n), bytes.Repeat([]byte{255}, n)} {
			stripped(t, padded(t, text), text)
		}
	}
}

// Noughts at a text's end are its own, and are not taken for what is behind it.
func TestNoughtsOfText(t *testing.T) {
	for _, n := range []int{0, 1, 10, 61, 62, 126, 2046} {
		for tail := 0; tail <= min(n, 3); tail++ {
			text := append(pattern(n-tail, 9), make([]byte, tail)...)
			stripped(t, padded(t, text), text)
		}
	}
}

func TestStripShort(t *testing.T) {
	misshapen(t, "nil", nil)
	misshapen(t, "empty", []byte{})
	misshapen(t, "empty with room", roomy(nil))
	for x := range 256 {
		misshapen(t, "one byte", []byte{byte(x)})
	}
	misshapen(t, "the count alone", []byte{0, 0})
	misshapen(t, "a count and its text alone", []byte{0, 1, 7})
	// The bucket is there whole, but behind the end of what is handed in.
	whole := filled([]byte("ab"), 64)
	for n := range 64 {
		misshapen(t, "cut off", whole[:n])
	}
}

// Each length but the buckets' own is refused, whatever the first two bytes tell.
func TestStripOtherLengths(t *testing.T) {
	for length := 2; length <= 5000; length++ {
		if slices.Contains(sizes, length) {
			continue
		}
		for _, n := range []int{0, 1, 62, 63, length - 2} {
			b := make([]byte, length)
			binary.BigEndian.PutUint16(b, uint16(n))
			misshapen(t, fmt.Sprint("telling ", n), b)
		}
	}
	for _, length := range []int{8192, 65536, 65536 + 64, 1 << 20} {
		misshapen(t, "noughts", make([]byte, length))
		misshapen(t, "telling a long text", filled(pattern(mostText, 2), length))
	}
}

// In each bucket just those counts are right that tell it to be the least.
func TestStripEachCount(t *testing.T) {
	for _, size := range sizes {
		b := make([]byte, size)
		for n := range 1 << 16 {
			binary.BigEndian.PutUint16(b, uint16(n))
			if wantSize(n) == size {
				stripped(t, b, make([]byte, n))
				continue
			}
			misshapen(t, fmt.Sprint("telling ", n), b)
		}
	}
}

func TestStripNoRoom(t *testing.T) {
	for _, size := range sizes {
		for _, n := range []int{size - 1, size, size + 1, 2 * size, 2047, 2048, 4096, 1 << 15, 1<<16 - 2, 1<<16 - 1} {
			b := pattern(size, 4)
			binary.BigEndian.PutUint16(b, uint16(n))
			misshapen(t, fmt.Sprint("telling ", n), b)
		}
	}
}

func TestStripGreaterBucket(t *testing.T) {
	for _, at := range bounds {
		for _, size := range sizes {
			if at.size == 0 || size <= at.size {
				continue
			}
			misshapen(t, fmt.Sprint("telling ", at.n), filled(pattern(at.n, 6), size))
		}
	}
}

// Each byte behind the text, alone: the first one, the last one, and all between.
func TestStripBehindText(t *testing.T) {
	for _, at := range bounds {
		if at.size == 0 {
			continue
		}
		text := pattern(at.n, 8)
		for place := 2 + at.n; place < at.size; place++ {
			b := filled(text, at.size)
			for _, x := range []byte{1, 0x80, 0xff} {
				b[place] = x
				misshapen(t, fmt.Sprintf("%d behind %d bytes, at %d", x, at.n, place), b)
			}
			b[place] = 0
			stripped(t, b, text)
		}
	}
}

// Bytes behind the text that cancel one another out are found as well.
func TestStripSeveralBehindText(t *testing.T) {
	b := filled(pattern(10, 8), 64)
	b[12], b[13] = 0x80, 0x80
	misshapen(t, "two that are the same", b)
	b[12], b[13] = 1, 255
	misshapen(t, "two whose sum goes round", b)
	for i := 12; i < 64; i++ {
		b[i] = 255
	}
	misshapen(t, "all", b)
}

func TestArgumentsStay(t *testing.T) {
	for _, n := range []int{0, 1, 62, 63, 1022, 2046, 2047, 3000} {
		text := roomy(pattern(n, 2))
		was := slices.Clone(text[:cap(text)])
		bucket.Pad(text)
		if !bytes.Equal(text[:cap(text)], was) {
			t.Errorf("Pad changed %d bytes, or their room", n)
		}
	}
	for _, b := range [][]byte{filled(pattern(20, 1), 64), filled(pattern(20, 1), 128), filled(pattern(62, 1), 64), pattern(64, 1), {}, {3}} {
		b = roomy(b)
		was := slices.Clone(b[:cap(b)])
		bucket.Strip(b)
		if !bytes.Equal(b[:cap(b)], was) {
			t.Errorf("Strip changed %x, or its room", was)
		}
	}
}

// Neither what was told nor what was handed in is changed by a change of the other, spare room too.
func TestMemoryApart(t *testing.T) {
	for _, n := range []int{0, 1, 62, 63, 126, 1022, 2046} {
		want := pattern(n, 2)
		text := roomy(want)
		b, _ := bucket.Pad(text)
		scribble(text)
		if !bytes.Equal(b, filled(want, wantSize(n))) {
			t.Errorf("%d bytes: what Pad told changed with its text", n)
		}
		text = roomy(want)
		was := slices.Clone(text[:cap(text)])
		b, _ = bucket.Pad(text)
		scribble(b)
		if !bytes.Equal(text[:cap(text)], was) {
			t.Errorf("%d bytes: the text changed with what Pad told", n)
		}

		b = roomy(filled(want, wantSize(n)))
		told, _ := bucket.Strip(b)
		scribble(b)
		if !bytes.Equal(told, want) {
			t.Errorf("%d bytes: what Strip told changed with its bucket", n)
		}
		b = roomy(filled(want, wantSize(n)))
		was = slices.Clone(b[:cap(b)])
		told, _ = bucket.Strip(b)
		scribble(told)
		if !bytes.Equal(b[:cap(b)], was) {
			t.Errorf("%d bytes: the bucket changed with what Strip told", n)
		}
	}
}

// No two answers share memory, and none is kept for the next one.
func TestAnswersApart(t *testing.T) {
	for _, n := range []int{0, 1, 62, 63, 2046} {
		text := pattern(n, 7)
		first := padded(t, text)
		second := padded(t, text)
		scribble(first)
		if !bytes.Equal(second, filled(text, wantSize(n))) {
			t.Errorf("%d bytes: two answers of Pad share memory", n)
		}
		padded(t, text)

		one := stripped(t, second, text)
		other := stripped(t, second, text)
		scribble(one)
		if !bytes.Equal(other, text) {
			t.Errorf("%d bytes: two answers of Strip share memory", n)
		}
		stripped(t, second, text)
	}
}

// What was refused, or answered, plays no part in what is answered later.
func TestCallsApart(t *testing.T) {
	for range 3 {
		padded(t, pattern(2046, 1))
		tooLong(t, pattern(2047, 1))
		padded(t, pattern(3, 1))
		misshapen(t, "of 255", bytes.Repeat([]byte{255}, 64))
		stripped(t, filled(pattern(3, 1), 64), pattern(3, 1))
		sized(t, -1, 0)
		sized(t, 3, 64)
	}
}

// agree wants Strip to answer a text just where that text's own bucket is b.
func agree(t *testing.T, b []byte) {
	t.Helper()
	text, e := bucket.Strip(b)
	if e != api.OK {
		misshapen(t, "refused", b)
		if len(b) < 2 {
			return
		}
		n := int(binary.BigEndian.Uint16(b))
		if wantSize(n) == len(b) && bytes.Equal(filled(b[2:2+n], len(b)), b) {
			t.Errorf("Strip of %x: error %d", b, e)
		}
		return
	}
	if wantSize(len(text)) != len(b) || !bytes.Equal(filled(text, len(b)), b) {
		t.Errorf("Strip of %x: %x", b, text)
	}
}

// mistaken is a bucket, of which up to three things are changed.
func mistaken(r *rand.Rand) []byte {
	size := sizes[r.Intn(len(sizes))]
	b := filled(pattern(r.Intn(size-1), r.Intn(256)), size)
	for range r.Intn(4) {
		switch place := r.Intn(len(b)); r.Intn(4) {
		case 0:
			b[place] ^= 1 << r.Intn(8)
		case 1:
			b[r.Intn(2)] = byte(r.Intn(256))
		case 2:
			b = append(b, make([]byte, r.Intn(3))...)
		case 3:
			b = b[:max(place, 2)]
		}
	}
	return b
}

func TestStripMistaken(t *testing.T) {
	r := rand.New(rand.NewSource(13))
	for range 20000 {
		agree(t, mistaken(r))
	}
}

func FuzzStrip(f *testing.F) {
	f.Add([]byte(nil))
	f.Add(filled([]byte("ab"), 64))
	f.Add(filled(pattern(63, 1), 128))
	f.Add(filled(pattern(2046, 1), 2048))
	f.Fuzz(agree)
}

func FuzzPad(f *testing.F) {
	f.Add([]byte(nil))
	f.Add(pattern(62, 1))
	f.Add(pattern(2047, 1))
	f.Fuzz(func(t *testing.T, text []byte) {
		if len(text) > mostText {
			tooLong(t, text)
			return
		}
		stripped(t, padded(t, text), text)
	})
}
