package poly_test

import (
	"bytes"
	"encoding/hex"
	"fmt"
	"math/big"
	"slices"
	"strings"
	"testing"

	"locket/api"
	"locket/poly"
)

const blockSize = 16

// lengths are those of texts about the ends of sixteen bytes.
var lengths = []int{0, 1, 2, 7, 8, 9, 14, 15, 16, 17, 18, 31, 32, 33, 47, 48, 49, 63, 64, 65, 255, 256, 257, 1000, 4095, 4096, 4097}

// pattern is n bytes that differ from place to place, and with the seed.
func pattern(n, seed int) []byte {
	b := make([]byte, n)
	for i := range b {
		b[i] = byte(i*7 + i/64*31 + seed)
	}
	return b
}

func same(n int, x byte) []byte {
	return bytes.Repeat([]byte{x}, n)
}

func check(t *testing.T, what string, got, want []byte) {
	t.Helper()
	if !bytes.Equal(got, want) {
		t.Errorf("%s: got %x, want %x", what, got, want)
	}
}

func fromHex(t *testing.T, s string) []byte {
	t.Helper()
	b, err := hex.DecodeString(strings.ReplaceAll(s, " ", ""))
	if err != nil {
		t.Fatal(err)
	}
	return b
}

func scribble(b []byte) {
	b = b[:cap(b)]
	for i := range b {
		b[i] ^= 0xa5
	}
}

func tag(t *testing.T, key, text []byte) []byte {
	t.Helper()
	b, e := poly.Tag(key, text)
	if e != api.OK {
		t.Fatalf("key of %d, text of %d: error %d", len(key), len(text), e)
	}
	return b
}

func power(n int) *big.Int {
	return new(big.Int).Lsh(big.NewInt(1), uint(n))
}

func plus(a *big.Int, b int64) *big.Int {
	return new(big.Int).Add(a, big.NewInt(b))
}

// modulus is 2^130 - 5.
func modulus() *big.Int {
	return plus(power(130), -5)
}

// number and sixteen turn bytes, the lowest first, and numbers into one another.
func number(b []byte) *big.Int {
	turned := slices.Clone(b)
	slices.Reverse(turned)
	return new(big.Int).SetBytes(turned)
}

func sixteen(n *big.Int) []byte {
	b := new(big.Int).Mod(n, power(128)).FillBytes(make([]byte, 16))
	slices.Reverse(b)
	return b
}

// wantTag is the tag as the document tells it, by big numbers.
func wantTag(key, text []byte) []byte {
	mask := []byte{255, 255, 255, 15, 252, 255, 255, 15, 252, 255, 255, 15, 252, 255, 255, 15}
	first := slices.Clone(key[:16])
	for i := range first {
		first[i] &= mask[i]
	}
	r, s := number(first), number(key[16:])
	a := new(big.Int)
	for part := range slices.Chunk(text, blockSize) {
		a.Add(a, number(append(slices.Clone(part), 1)))
		a.Mul(a, r)
		a.Mod(a, modulus())
	}
	return sixteen(a.Add(a, s))
}

func compare(t *testing.T, what string, key, text []byte) {
	t.Helper()
	check(t, what, tag(t, key, text), wantTag(key, text))
}

// P4.1: the document's example, and RFC 8439's.
func TestKnown(t *testing.T) {
	noughts := strings.Repeat("00", 16)
	half := "36e5f6b5c5e06070f0efca96227a863e"
	ietf := hex.EncodeToString([]byte("Any submission to the IETF intended by the Contributor for publication as all or part of an IETF Internet-Draft or RFC and any statement made within the context of an IETF activity is considered an \"IETF Contribution\". Such statements include oral statements in IETF sessions, as well as written and electronic communications made at any time or place, which are addressed to"))
	brillig := hex.EncodeToString([]byte("'Twas brillig, and the slithy toves\nDid gyre and gimble in the wabe:\nAll mimsy were the borogoves,\nAnd the mome raths outgrabe."))
	carried := "e33594d7505e43b90000000000000000 3394d7505e4379cd0100000000000000 00000000000000000000000000000000"
	for i, c := range []struct{ key, text, tag string }{
		{"85d6be78 57556d33 7f4452fe 42d506a8 0103808a fb0db2fd 4abff6af 4149f51b", hex.EncodeToString([]byte("Cryptographic Forum Research Group")), "a8061dc1 305136c6 c22b8baf 0c0127a9"},
		{noughts + noughts, strings.Repeat(noughts, 4), noughts},
		{noughts + half, ietf, half},
		{half + noughts, ietf, "f3477e7cd95417af89a6b8794c310cf0"},
		{"1c9240a5eb55d38af333888604f6b5f0473917c1402b80099dca5cbc207075c0", brillig, "4541669a7eaaee61e708dc7cbcc5eb62"},
		{"02" + noughts[2:] + noughts, strings.Repeat("ff", 16), "03" + noughts[2:]},
		{"02" + noughts[2:] + strings.Repeat("ff", 16), "02" + noughts[2:], "03" + noughts[2:]},
		{"01" + noughts[2:] + noughts, strings.Repeat("ff", 16) + "f0" + strings.Repeat("ff", 15) + "11" + noughts[2:], "05" + noughts[2:]},
		{"01" + noughts[2:] + noughts, strings.Repeat("ff", 16) + "fb" + strings.Repeat("fe", 15) + strings.Repeat("01", 16), noughts},
		{"02" + noughts[2:] + noughts, "fd" + strings.Repeat("ff", 15), "fa" + strings.Repeat("ff", 15)},
		{"01000000000000000400000000000000" + noughts, carried + "01" + noughts[2:], "14000000000000005500000000000000"},
		{"01000000000000000400000000000000" + noughts, carried, "13" + noughts[2:]},
	} {
		check(t, fmt.Sprint(i), tag(t, fromHex(t, c.key), fromHex(t, c.text)), fromHex(t, c.tag))
	}
}

// P4.1: tags that another program told, of long texts too.
func TestKnownLong(t *testing.T) {
	ones := same(32, 255)
	for _, c := range []struct {
		key, text []byte
		tag       string
	}{
		{pattern(32, 1), pattern(1000000, 2), "857292fdc4d11d05cd6939e3e6f89f52"},
		{ones, same(1000000, 255), "449d40d0a3c402c8bca11b098ea6e360"},
		{ones, same(4096, 255), "2827279b4c1d3e6b93286238199e131a"},
		{ones, nil, "ffffffffffffffffffffffffffffffff"},
		{ones, same(16, 0), "faffff13fbffff13fbffff13fbffff13"},
		{ones, same(15, 0), "faff13fbffff13fbffff13fbffff13ff"},
	} {
		check(t, fmt.Sprintf("text of %d", len(c.text)), tag(t, c.key, c.text), fromHex(t, c.tag))
	}
}

// refused wants ErrSize, and no bytes beside it, whatever the text.
func refused(t *testing.T, key []byte) {
	t.Helper()
	for _, text := range [][]byte{nil, {}, pattern(1, 1), pattern(16, 1), pattern(17, 1), pattern(4096, 1)} {
		if b, e := poly.Tag(key, text); e != api.ErrSize || len(b) != 0 {
			t.Errorf("key of %d, text of %d: %d bytes, error %d", len(key), len(text), len(b), e)
		}
	}
}

// P4.1: ErrSize for a key of any other size, also none, nil or not.
func TestSizes(t *testing.T) {
	refused(t, nil)
	for n := range 300 {
		if n != api.KeySize {
			refused(t, pattern(n, 1))
			refused(t, make([]byte, n))
		}
	}
	refused(t, pattern(4096, 1))
	// Sizes count, not the room behind them.
	refused(t, pattern(64, 1)[:31])
	refused(t, pattern(64, 1)[:0])
}

// P4.1: the text of no bytes has s as its tag, whatever r is.
func TestNoBytes(t *testing.T) {
	for seed := range 256 {
		key := pattern(32, seed)
		check(t, "nil", tag(t, key, nil), pattern(32, seed)[16:])
		check(t, "empty", tag(t, key, []byte{}), pattern(32, seed)[16:])
		check(t, "greatest r", tag(t, append(same(16, 255), key[16:]...), nil), pattern(32, seed)[16:])
	}
}

// P4.1: texts of lengths about the ends of the sixteen bytes, and of all lengths at first.
func TestLengths(t *testing.T) {
	for seed := range 20 {
		for _, n := range lengths {
			compare(t, fmt.Sprintf("%d bytes, seed %d", n, seed), pattern(32, seed), pattern(n, 3*seed+1))
		}
	}
	for n := range 200 {
		compare(t, fmt.Sprint(n), pattern(32, 5), pattern(n, 6))
	}
}

// P4.1: keys and texts of the greatest and of the least bytes, and of those about.
func TestGreatestAndLeast(t *testing.T) {
	ends := []byte{0, 1, 127, 128, 254, 255}
	for _, r := range ends {
		for _, s := range ends {
			for _, x := range ends {
				for _, n := range lengths {
					compare(t, fmt.Sprintf("r of %d, s of %d, %d of %d", r, s, n, x), append(same(16, r), same(16, s)...), same(n, x))
				}
			}
		}
	}
}

// P4.1: one bit alone of the text, behind a byte 1 at its own place, under the greatest r.
func TestTextBits(t *testing.T) {
	seen := map[string]string{}
	key := same(32, 255)
	one := func(what string, text []byte) {
		compare(t, what, key, text)
		got := string(tag(t, key, text))
		if other, ok := seen[got]; ok {
			t.Errorf("%s: the tag of %s", what, other)
		}
		seen[got] = what
	}
	for n := range 50 {
		one(fmt.Sprintf("%d noughts", n), make([]byte, n))
		for bit := range 8 * n {
			text := make([]byte, n)
			text[bit/8] = 1 << (bit % 8)
			one(fmt.Sprintf("%d bytes, bit %d", n, bit), text)
		}
	}
}

// P4.1: each bit of s counts, and each of r but for those that it leaves out.
func TestKeyBits(t *testing.T) {
	left := map[int]bool{}
	for _, i := range []int{3, 7, 11, 15} {
		for bit := 4; bit < 8; bit++ {
			left[8*i+bit] = true
		}
	}
	for _, i := range []int{4, 8, 12} {
		left[8*i], left[8*i+1] = true, true
	}
	for _, base := range []byte{0, 255} {
		for _, n := range []int{1, 16, 100} {
			key, text := same(32, base), pattern(n, 1)
			known := tag(t, key, text)
			for bit := range 256 {
				key[bit/8] ^= 1 << (bit % 8)
				got := tag(t, key, text)
				check(t, fmt.Sprintf("bit %d", bit), got, wantTag(key, text))
				if bytes.Equal(got, known) != left[bit] {
					t.Errorf("%d bytes, keys of %d: bit %d: left out must be %v", n, base, bit, left[bit])
				}
				key[bit/8] ^= 1 << (bit % 8)
			}
		}
	}
}

// P4.1: a key that has only the bits that r leaves out is one whose first half is noughts.
func TestBitsLeftOut(t *testing.T) {
	out := fromHex(t, "000000f0030000f0030000f0030000f0")
	for _, n := range lengths {
		s := pattern(16, n)
		check(t, fmt.Sprint(n), tag(t, append(slices.Clone(out), s...), pattern(n, 1)), pattern(16, n))
	}
}

// P4.1: a first half of noughts has s as the tag of every text.
func TestFirstHalfOfNoughts(t *testing.T) {
	for _, n := range lengths {
		for _, s := range [][]byte{same(16, 0), same(16, 255), pattern(16, n)} {
			key := append(make([]byte, 16), s...)
			for _, text := range [][]byte{same(n, 0), same(n, 255), pattern(n, 2)} {
				check(t, fmt.Sprint(n), tag(t, key, text), s)
			}
		}
	}
}

// textOf is a text of n full blocks whose numbers with a 1 behind have a sum, if there is one.
func textOf(n int, sum *big.Int) ([]byte, bool) {
	rest := new(big.Int).Sub(sum, new(big.Int).Mul(big.NewInt(int64(n)), power(128)))
	if rest.Sign() < 0 {
		return nil, false
	}
	var text []byte
	for range n {
		part := plus(power(128), -1)
		if rest.Cmp(part) < 0 {
			part.Set(rest)
		}
		text = append(text, sixteen(part)...)
		rest.Sub(rest, part)
	}
	return text, rest.Sign() == 0
}

// P4.1: under r = 1 the sums of blocks themselves, at and about the modulus and its multiples, 2^128, and 2^130.
func TestSumsAboutModulus(t *testing.T) {
	one := append([]byte{1}, make([]byte, 31)...)
	tried := 0
	for _, times := range []int64{1, 2, 3, 4, 5, 10} {
		for _, middle := range []*big.Int{modulus(), power(128), power(129), power(130)} {
			middle.Mul(middle, big.NewInt(times))
			for d := int64(-20); d <= 20; d++ {
				sum := plus(middle, d)
				want := sixteen(new(big.Int).Mod(sum, modulus()))
				for n := 1; n < 44; n++ {
					text, ok := textOf(n, sum)
					if !ok {
						continue
					}
					tried++
					check(t, fmt.Sprintf("%d blocks of %d times 2^%d and %d", n, times, middle.BitLen()-1, d), tag(t, one, text), want)
				}
			}
		}
	}
	if tried < 1000 {
		t.Errorf("only %d texts were tried", tried)
	}
}

// P4.1: a and s together, at and about 2^128 and its multiples.
func TestSumsWithS(t *testing.T) {
	for _, a := range []*big.Int{power(128), plus(power(128), 1), plus(power(129), -1), power(129), plus(power(130), -6), plus(power(130), -7), plus(power(130), -100)} {
		for d := int64(-20); d <= 20; d++ {
			s := new(big.Int).Neg(a)
			key := append(append([]byte{1}, make([]byte, 15)...), sixteen(plus(s, d))...)
			for n := 1; n < 4; n++ {
				if text, ok := textOf(n, a); ok {
					check(t, fmt.Sprintf("%d blocks, %x and %d", n, a, d), tag(t, key, text), sixteen(big.NewInt(d)))
				}
			}
		}
	}
	// Of a short block a is less than 2^128, and only s takes it there.
	for d := int64(-20); d <= 20; d++ {
		text := pattern(15, 1)
		s := new(big.Int).Neg(number(append(slices.Clone(text), 1)))
		key := append(append([]byte{1}, make([]byte, 15)...), sixteen(plus(s, d))...)
		check(t, fmt.Sprint(d), tag(t, key, text), sixteen(big.NewInt(d)))
	}
}

// P4.1: products whose remainders are about 0 and about the modulus, under other r than 1.
func TestRemaindersAboutModulus(t *testing.T) {
	tried := 0
	for seed := range 200 {
		r := pattern(16, seed)
		for i, mask := range fromHex(t, "ffffff0ffcffff0ffcffff0ffcffff0f") {
			r[i] &= mask
		}
		inverse := new(big.Int).ModInverse(number(r), modulus())
		for d := int64(-12); d <= 12; d++ {
			sum := new(big.Int).Mul(big.NewInt(d), inverse)
			sum.Mod(sum, modulus())
			for n := 1; n < 8; n++ {
				text, ok := textOf(n, sum)
				if !ok {
					continue
				}
				// Only one block's sum is multiplied once.
				if n == 1 {
					tried++
					want := sixteen(new(big.Int).Mod(big.NewInt(d), modulus()))
					check(t, fmt.Sprintf("seed %d, %d", seed, d), tag(t, append(slices.Clone(r), make([]byte, 16)...), text), want)
				}
				compare(t, fmt.Sprintf("seed %d, %d, %d blocks", seed, d, n), append(slices.Clone(r), same(16, 255)...), text)
			}
		}
	}
	if tried < 500 {
		t.Errorf("only %d texts were tried", tried)
	}
}

// P4.1: arguments stay as they were, the room behind them too.
func TestArgumentsStay(t *testing.T) {
	for _, n := range lengths {
		for _, size := range []int{0, 31, 32, 33} {
			key, text := pattern(100, 1), pattern(n+200, 2)
			poly.Tag(key[:size], text[:n])
			check(t, "key", key, pattern(100, 1))
			check(t, fmt.Sprintf("text of %d", n), text, pattern(n+200, 2))
		}
	}
}

// P4.1: what stands behind the arguments doesn't count.
func TestRoomBehind(t *testing.T) {
	for _, n := range lengths {
		key, text := pattern(100, 1), pattern(n+200, 2)
		known := tag(t, key[:32], text[:n])
		scribble(key[32:])
		scribble(text[n:])
		check(t, fmt.Sprint(n), tag(t, key[:32], text[:n]), known)
		check(t, fmt.Sprint(n), known, wantTag(pattern(32, 1), pattern(n, 2)))
	}
}

// P4.1: one list may be key and text at once.
func TestArgumentsShared(t *testing.T) {
	all := pattern(100, 1)
	check(t, "shared", tag(t, all[:32], all), wantTag(pattern(32, 1), pattern(100, 1)))
	check(t, "stays", all, pattern(100, 1))
}

// P4.1: each answer is memory of its own, spare room too, and nothing is kept of an argument.
func TestAnswersAreNew(t *testing.T) {
	for _, n := range []int{0, 1, 16, 150} {
		key, text := pattern(32, 1), pattern(n, 2)
		first, second := tag(t, key, text), tag(t, key, text)
		known := slices.Clone(first)
		scribble(first)
		check(t, "an answer ahead", second, known)
		check(t, "a later answer", tag(t, key, text), known)
		check(t, "key", key, pattern(32, 1))
		check(t, "text", text, pattern(n, 2))
		scribble(key)
		scribble(text)
		check(t, "an answer, its arguments changed", second, known)
		check(t, "asked again", tag(t, pattern(32, 1), pattern(n, 2)), known)
	}
}

func FuzzTag(f *testing.F) {
	for _, n := range lengths {
		f.Add(pattern(32, n), pattern(n, 1))
		f.Add(same(32, 255), same(n, 255))
		f.Add(pattern(n, 1), pattern(n, 2))
	}
	f.Fuzz(func(t *testing.T, key, text []byte) {
		if len(key) != 32 {
			refused(t, key)
			return
		}
		compare(t, "tag", key, text)
	})
}
