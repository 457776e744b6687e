package mac_test

import (
	"bytes"
	"crypto/hkdf"
	"crypto/hmac"
	"crypto/sha256"
	"encoding/hex"
	"fmt"
	"math"
	"slices"
	"testing"

	"locket/api"
	"locket/mac"
)

// keyLengths are those about a block's size, up to which a key is filled up, and past which it is summed.
var keyLengths = []int{0, 1, 2, 31, 32, 33, 63, 64, 65, 66, 127, 128, 129, 1000}

// pattern is n bytes that differ from place to place, and with the seed.
func pattern(n, seed int) []byte {
	b := make([]byte, n)
	for i := range b {
		b[i] = byte(i*7 + i/64*31 + seed)
	}
	return b
}

func wantCode(key, message []byte) []byte {
	h := hmac.New(sha256.New, key)
	h.Write(message)
	return h.Sum(nil)
}

func wantSpread(t *testing.T, key, info []byte, n int) []byte {
	t.Helper()
	b, err := hkdf.Expand(sha256.New, key, string(info), n)
	if err != nil {
		t.Fatal(err)
	}
	return b
}

func spread(t *testing.T, key, info []byte, n int) []byte {
	t.Helper()
	b, e := mac.Expand(key, info, n)
	if e != api.OK {
		t.Fatalf("%d bytes: error %d", n, e)
	}
	return b
}

func check(t *testing.T, what string, got, want []byte) {
	t.Helper()
	if !bytes.Equal(got, want) {
		t.Errorf("%s: got %x, want %x", what, got, want)
	}
}

func fromHex(t *testing.T, s string) []byte {
	t.Helper()
	b, err := hex.DecodeString(s)
	if err != nil {
		t.Fatal(err)
	}
	return b
}

func scribble(b []byte) {
	b = b[:cap(b)]
	for i := range b {
		b[i] ^= 0xa5
	}
}

// P2.1: the document's example, and codes of RFC 4231.
func TestCodeKnown(t *testing.T) {
	for _, c := range []struct {
		key     []byte
		message string
		code    string
	}{
		{[]byte("Jefe"), "what do ya want for nothing?", "5bdcc146bf60754e6a042426089575c75a003f089d2739839dec58b964ec3843"},
		{bytes.Repeat([]byte{0x0b}, 20), "Hi There", "b0344c61d8db38535ca8afceaf0bf12b881dc200c9833da726e9376c2e32cff7"},
		{bytes.Repeat([]byte{0xaa}, 131), "Test Using Larger Than Block-Size Key - Hash Key First", "60e431591ee0b67f0d8a26aacbf5b77f8e0bc6213728c5140546040f0ee37f54"},
		{nil, "", "b613679a0814d9ec772f95d778c35fc5ff1697c493715653c6c712144292c5ad"},
	} {
		check(t, fmt.Sprintf("%.10q", c.message), mac.Code(c.key, []byte(c.message)), fromHex(t, c.code))
	}
}

// P2.1: a key of up to 64 bytes is filled up, a longer one is summed ahead.
func TestCodeKeys(t *testing.T) {
	for _, k := range keyLengths {
		for _, n := range []int{0, 1, 55, 56, 63, 64, 65, 300} {
			what := fmt.Sprintf("key of %d, message of %d", k, n)
			check(t, what, mac.Code(pattern(k, 5), pattern(n, 9)), wantCode(pattern(k, 5), pattern(n, 9)))
		}
	}
	for k := range 140 {
		check(t, fmt.Sprintf("key of %d", k), mac.Code(pattern(k, 1), []byte("m")), wantCode(pattern(k, 1), []byte("m")))
	}
}

// P2.1: noughts behind a short key make no other code; behind one of 64 bytes they do; a long key's sum stands for it.
func TestCodeKeysAlike(t *testing.T) {
	m := []byte("message")
	short := mac.Code([]byte("key"), m)
	check(t, "filled up by hand", mac.Code(append([]byte("key"), make([]byte, 61)...), m), short)
	if bytes.Equal(mac.Code(append([]byte("key"), make([]byte, 62)...), m), short) {
		t.Error("65 bytes: the key was cut instead of summed")
	}
	sum := sha256.Sum256(pattern(65, 2))
	check(t, "the sum of 65 bytes", mac.Code(pattern(65, 2), m), mac.Code(sum[:], m))
	sum = sha256.Sum256(pattern(64, 2))
	if bytes.Equal(mac.Code(pattern(64, 2), m), mac.Code(sum[:], m)) {
		t.Error("a key of 64 bytes was summed")
	}
}

// P2.1: no parts, nil parts and empty parts are all the code of nothing; a nil key is an empty one.
func TestCodeOfNothing(t *testing.T) {
	for _, k := range keyLengths {
		key := pattern(k, 3)
		nothing := wantCode(key, nil)
		check(t, "no parts", mac.Code(key), nothing)
		check(t, "a nil list of parts", mac.Code(key, [][]byte(nil)...), nothing)
		check(t, "an empty list of parts", mac.Code(key, [][]byte{}...), nothing)
		check(t, "a nil part", mac.Code(key, nil), nothing)
		check(t, "several", mac.Code(key, nil, []byte{}, nil), nothing)
	}
	check(t, "a nil key", mac.Code(nil, []byte("m")), mac.Code([]byte{}, []byte("m")))
}

// P2.1: the parts count one behind the other, wherever a message is parted.
func TestCodeParts(t *testing.T) {
	key := pattern(32, 8)
	for _, n := range []int{1, 3, 64, 65, 130} {
		m := pattern(n, 4)
		code := wantCode(key, m)
		for i := range n + 1 {
			check(t, fmt.Sprintf("%d parted at %d", n, i), mac.Code(key, m[:i], nil, m[i:], []byte{}), code)
		}
		check(t, fmt.Sprintf("%d one by one", n), mac.Code(key, slices.Collect(slices.Chunk(m, 1))...), code)
	}
	check(t, "c, ab", mac.Code(key, []byte("c"), []byte("ab")), wantCode(key, []byte("cab")))
}

// P2.1: key, parts, their spare room and the list of parts stay as they were.
func TestCodeLeavesArguments(t *testing.T) {
	for _, k := range keyLengths {
		key, part := pattern(k+200, 1), pattern(k+200, 2)
		parts := [][]byte{part[:k], nil, part[:k/2], nil}
		mac.Code(key[:k], parts[:3]...)
		check(t, fmt.Sprintf("key of %d", k), key, pattern(k+200, 1))
		check(t, fmt.Sprintf("part of %d", k), part, pattern(k+200, 2))
		if len(parts[0]) != k || parts[1] != nil || len(parts[2]) != k/2 || parts[3] != nil {
			t.Errorf("%d: the list of parts was changed", k)
		}
	}
}

// P2.1: Extract is the code of the material under the salt.
func TestExtract(t *testing.T) {
	for _, k := range keyLengths {
		for _, n := range []int{0, 1, 22, 64, 80} {
			salt, material := pattern(k, 6), pattern(n, 7)
			what := fmt.Sprintf("salt of %d, material of %d", k, n)
			got := mac.Extract(salt, material)
			check(t, what, got, wantCode(salt, material))
			check(t, what, got, mac.Code(salt, material))
		}
	}
	check(t, "nil", mac.Extract(nil, nil), mac.Extract([]byte{}, []byte{}))
	// RFC 5869, case 3: no salt, which there is 32 noughts.
	check(t, "no salt", mac.Extract(nil, bytes.Repeat([]byte{0x0b}, 22)), fromHex(t, "19ef24a32c717b167f33a91d6f648bdf96596776afdb6377ac434c1c293ccb04"))
}

// P2.1: RFC 5869's cases 1 and 3.
func TestExpandKnown(t *testing.T) {
	key := fromHex(t, "077709362c2e32df0ddc3f0dc47bba6390b6c73bb50f9c3122ec844ad7c2b3e5")
	check(t, "case 1", spread(t, key, fromHex(t, "f0f1f2f3f4f5f6f7f8f9"), 42), fromHex(t, "3cb25f25faacd57a90434f64d0362f2a2d2d0a90cf1a5a4c5db02d56ecc4c5bf34007208d5b887185865"))
	key = fromHex(t, "19ef24a32c717b167f33a91d6f648bdf96596776afdb6377ac434c1c293ccb04")
	check(t, "case 3", spread(t, key, nil, 42), fromHex(t, "8da4e775a563c18f715f802a063c5a31b8a11f5c5ee1879ec3454e5f3c738d2d9d201395faa4b61a96c8"))
}

// P2.1: n bytes from 0 to 8160, each fewer of them the beginning of more.
func TestExpandLengths(t *testing.T) {
	for _, k := range []int{0, 1, 32, 64, 65, 100} {
		for _, i := range []int{0, 1, 10, 100} {
			key, info := pattern(k, 1), pattern(i, 2)
			all := spread(t, key, info, 8160)
			for _, n := range []int{0, 1, 2, 31, 32, 33, 63, 64, 65, 96, 97, 4096, 8127, 8128, 8129, 8159, 8160} {
				what := fmt.Sprintf("key of %d, info of %d, %d bytes", k, i, n)
				got := spread(t, key, info, n)
				check(t, what, got, wantSpread(t, key, info, n))
				check(t, what+", as a beginning", got, all[:n])
			}
		}
	}
	check(t, "nil", spread(t, nil, nil, 40), spread(t, []byte{}, []byte{}, 40))
}

// P2.1: each block is the code of the block ahead, the info and its number.
func TestExpandBlocks(t *testing.T) {
	key, info := pattern(32, 11), []byte("info")
	var want, block []byte
	for number := 1; number <= 255; number++ {
		block = wantCode(key, slices.Concat(block, info, []byte{byte(number)}))
		want = append(want, block...)
	}
	check(t, "255 blocks", spread(t, key, info, 8160), want)
}

// P2.1: ErrSize, and no bytes beside it, if n isn't from 0 to 8160.
func TestExpandSize(t *testing.T) {
	for _, n := range []int{-1, -2, -8160, 8161, 8162, 8192, 1 << 31, 1 << 32, math.MaxInt, math.MinInt} {
		for _, key := range [][]byte{nil, pattern(32, 1)} {
			if b, e := mac.Expand(key, []byte("info"), n); e != api.ErrSize || len(b) != 0 {
				t.Errorf("%d: %d bytes, error %d", n, len(b), e)
			}
		}
	}
}

// P2.1: Extract and Expand leave their arguments and the room behind them as they were.
func TestKeysLeaveArguments(t *testing.T) {
	for _, k := range keyLengths {
		a, b := pattern(k+200, 1), pattern(k+200, 2)
		mac.Extract(a[:k], b[:k])
		for _, n := range []int{0, 1, 32, 100, 8161} {
			mac.Expand(a[:k], b[:k], n)
		}
		mac.Equal(a[:k], b[:k])
		check(t, fmt.Sprintf("first of %d", k), a, pattern(k+200, 1))
		check(t, fmt.Sprintf("second of %d", k), b, pattern(k+200, 2))
	}
}

// P2.1: each answer is memory of its own, spare room too.
func TestAnswersAreNew(t *testing.T) {
	a, b := pattern(32, 1), pattern(32, 2)
	for name, ask := range map[string]func() []byte{
		"Code":    func() []byte { return mac.Code(a, b) },
		"Extract": func() []byte { return mac.Extract(a, b) },
		"Expand":  func() []byte { return spread(t, a, b, 70) },
	} {
		first, second := ask(), ask()
		known := slices.Clone(first)
		scribble(first)
		check(t, name+", an answer ahead", second, known)
		check(t, name+", a later answer", ask(), known)
		check(t, name+", first argument", a, pattern(32, 1))
		check(t, name+", second argument", b, pattern(32, 2))
	}
}

// P2.1: Equal finds the same bytes the same, and one bit other at any place not.
func TestEqual(t *testing.T) {
	for _, n := range []int{1, 2, 16, 32, 33, 200} {
		a, b := pattern(n, 1), pattern(n, 1)
		if !mac.Equal(a, b) || !mac.Equal(a, a) {
			t.Errorf("%d bytes aren't the same as themselves", n)
		}
		for i := range b {
			for bit := range 8 {
				b[i] ^= 1 << bit
				if mac.Equal(a, b) || mac.Equal(b, a) {
					t.Errorf("%d bytes, other at %d in bit %d, are the same", n, i, bit)
				}
				b[i] ^= 1 << bit
			}
		}
	}
}

// P2.1: two places that are other by the same bits are still other.
func TestEqualTwoPlaces(t *testing.T) {
	a := []byte{1, 2, 3, 4}
	for _, b := range [][]byte{{2, 1, 3, 4}, {1 ^ 7, 2 ^ 7, 3, 4}, {4, 3, 2, 1}, {0xfe, 0xfd, 0xfc, 0xfb}} {
		if mac.Equal(a, b) {
			t.Errorf("%v and %v are the same", a, b)
		}
	}
}

// P2.1: bytes of other lengths are other, though one begins the other; nil and empty are one.
func TestEqualLengths(t *testing.T) {
	for n := range 40 {
		for m := range 40 {
			if got := mac.Equal(make([]byte, n), make([]byte, m)); got != (n == m) {
				t.Errorf("noughts, %d and %d: %v", n, m, got)
			}
			if got := mac.Equal(pattern(n, 1), pattern(m, 1)); got != (n == m) {
				t.Errorf("%d and %d: %v", n, m, got)
			}
		}
	}
	if !mac.Equal(nil, nil) || !mac.Equal(nil, []byte{}) || !mac.Equal([]byte{}, nil) || mac.Equal(nil, []byte{0}) || mac.Equal([]byte{0}, nil) {
		t.Error("nil and empty")
	}
}

func FuzzMac(f *testing.F) {
	for _, k := range keyLengths {
		f.Add(pattern(k, 1), pattern(k/2, 2), k*10)
	}
	f.Fuzz(func(t *testing.T, key, message []byte, n int) {
		check(t, "code", mac.Code(key, message), wantCode(key, message))
		check(t, "extract", mac.Extract(message, key), wantCode(message, key))
		if mac.Equal(key, message) != bytes.Equal(key, message) {
			t.Error("equal")
		}
		b, e := mac.Expand(key, message, n)
		if n < 0 || n > 8160 {
			if e != api.ErrSize || len(b) != 0 {
				t.Errorf("%d: %d bytes, error %d", n, len(b), e)
			}
			return
		}
		check(t, "expand", b, wantSpread(t, key, message, n))
	})
}
