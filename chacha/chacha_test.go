package chacha_test

import (
	"bytes"
	"crypto/sha256"
	"encoding/binary"
	"encoding/hex"
	"fmt"
	"math"
	"slices"
	"testing"

	"locket/api"
	"locket/chacha"
)

const (
	blockSize  = 64
	maxCounter = 1<<32 - 1
)

// lengths are those of texts about the ends of blocks.
var lengths = []int{0, 1, 2, 31, 63, 64, 65, 127, 128, 129, 191, 192, 193, 1000, 4095, 4096, 4097}

// counters are the ends of the range, and those about 2^31, which as a signed number of 32 bits has its end there.
var counters = []int{0, 1, 2, 255, 256, 1<<31 - 1, 1 << 31, maxCounter - 2, maxCounter - 1, maxCounter}

// badCounters are just past the range, at numbers whose lowest 32 bits are in it, and at int's ends.
var badCounters = []int{-1, -2, -1 << 31, -1 << 32, 1 << 32, 1<<32 + 1, 1 << 40, math.MaxInt, math.MinInt}

// pattern is n bytes that differ from place to place, and with the seed.
func pattern(n, seed int) []byte {
	b := make([]byte, n)
	for i := range b {
		b[i] = byte(i*7 + i/64*31 + seed)
	}
	return b
}

func check(t *testing.T, what string, got, want []byte) {
	t.Helper()
	if !bytes.Equal(got, want) {
		t.Errorf("%s: got %x, want %x", what, got, want)
	}
}

func fromHex(t *testing.T, s string) []byte {
	t.Helper()
	b, err := hex.DecodeString(s)
	if err != nil {
		t.Fatal(err)
	}
	return b
}

func scribble(b []byte) {
	b = b[:cap(b)]
	for i := range b {
		b[i] ^= 0xa5
	}
}

func block(t *testing.T, key []byte, counter int, nonce []byte) []byte {
	t.Helper()
	b, e := chacha.Block(key, counter, nonce)
	if e != api.OK {
		t.Fatalf("block %d: error %d", counter, e)
	}
	return b
}

func xor(t *testing.T, key []byte, counter int, nonce, text []byte) []byte {
	t.Helper()
	b, e := chacha.XOR(key, counter, nonce, text)
	if e != api.OK {
		t.Fatalf("%d bytes from %d: error %d", len(text), counter, e)
	}
	return b
}

// wantBlock is the block by sums of 64 bits that are cut, and with the diagonals as turned rows instead of places that are listed.
func wantBlock(key []byte, counter int, nonce []byte) []byte {
	start := slices.Concat([]byte("expand 32-byte k"), key, binary.LittleEndian.AppendUint32(nil, uint32(counter)), nonce)
	var rows [4][4]uint64
	for i := range 16 {
		rows[i/4][i%4] = uint64(binary.LittleEndian.Uint32(start[4*i:]))
	}
	first := rows
	for round := range 20 {
		shift := round % 2
		for c := range 4 {
			wantQuarter(&rows[0][c], &rows[1][(c+shift)%4], &rows[2][(c+2*shift)%4], &rows[3][(c+3*shift)%4])
		}
	}
	var out []byte
	for i := range 16 {
		out = binary.LittleEndian.AppendUint32(out, uint32(rows[i/4][i%4]+first[i/4][i%4]))
	}
	return out
}

func wantQuarter(a, b, c, d *uint64) {
	for _, by := range [][2]int{{16, 12}, {8, 7}} {
		*a = (*a + *b) % (1 << 32)
		*d = wantTurned(*d^*a, by[0])
		*c = (*c + *d) % (1 << 32)
		*b = wantTurned(*b^*c, by[1])
	}
}

func wantTurned(x uint64, by int) uint64 {
	return x<<by%(1<<32) + x>>(32-by)
}

func wantXOR(key []byte, counter int, nonce, text []byte) []byte {
	var stream, out []byte
	for i := range text {
		if i%blockSize == 0 {
			stream = wantBlock(key, (counter+i/blockSize)%(1<<32), nonce)
		}
		out = append(out, text[i]^stream[i%blockSize])
	}
	return out
}

// P3.1: the document's example, the blocks of RFC 8439's appendix, and blocks with all bits set.
func TestBlockKnown(t *testing.T) {
	rising := "000102030405060708090a0b0c0d0e0f101112131415161718191a1b1c1d1e1f"
	noughts := "0000000000000000000000000000000000000000000000000000000000000000"
	ones := "ffffffffffffffffffffffffffffffffffffffffffffffffffffffffffffffff"
	for _, c := range []struct {
		key     string
		counter int
		nonce   string
		block   string
	}{
		{rising, 1, "000000090000004a00000000", "10f1e7e4d13b5915500fdd1fa32071c4c7d1f4c733c068030422aa9ac3d46c4ed2826446079faa0914c2d705d98b02a2b5129cd1de164eb9cbd083e8a2503c4e"},
		{rising, maxCounter, "000000090000004a00000000", "ff2941b8d740f6cbb50936bf997ebd5218cb108dc53f41c64841d0218167430ca03b770ca74ccb642a28194d1dedd2ed13151e25ec5d7faeb6d060bfb7e6b146"},
		{noughts, 0, "000000000000000000000000", "76b8e0ada0f13d90405d6ae55386bd28bdd219b8a08ded1aa836efcc8b770dc7da41597c5157488d7724e03fb8d84a376a43b8f41518a11cc387b669b2ee6586"},
		{noughts, 1, "000000000000000000000000", "9f07e7be5551387a98ba977c732d080dcb0f29a048e3656912c6533e32ee7aed29b721769ce64e43d57133b074d839d531ed1f28510afb45ace10a1f4b794d6f"},
		{noughts[:62] + "01", 1, "000000000000000000000000", "3aeb5224ecf849929b9d828db1ced4dd832025e8018b8160b82284f3c949aa5a8eca00bbb4a73bdad192b5c42f73f2fd4e273644c8b36125a64addeb006c13a0"},
		{"00ff" + noughts[:60], 2, "000000000000000000000000", "72d54dfbf12ec44b362692df94137f328fea8da73990265ec1bbbea1ae9af0ca13b25aa26cb4a648cb9b9d1be65b2c0924a66c54d545ec1b7374f4872e99f096"},
		{noughts, 0, "000000000000000000000002", "c2c64d378cd536374ae204b9ef933fcd1a8b2288b3dfa49672ab765b54ee27c78a970e0e955c14f3a88e741b97c286f75f8fc299e8148362fa198a39531bed6d"},
		{ones, maxCounter, ones[:24], "d72b21cfa4b6b0c41d61f62b8a11159c6a4f63bc56c2035796c7ad37811121bbec56d54a530f3a933dd28a50feb23bfaf64f405be985f3718bdf4683e96be749"},
		{ones, 1 << 31, ones[:24], "cc0f55f09878471bdf93880d15edbb04166e4f50e86c52b0f8ca39a27e3889ec123b29d24fe033c08a003aaa9d74e2204f85e182526d369a66b84e9e95a94e1a"},
	} {
		what := fmt.Sprintf("key %.8s.., counter %d, nonce %s", c.key, c.counter, c.nonce)
		check(t, what, block(t, fromHex(t, c.key), c.counter, fromHex(t, c.nonce)), fromHex(t, c.block))
	}
}

// P3.1: blocks of many keys, counters and nonces.
func TestBlock(t *testing.T) {
	for seed := range 50 {
		for _, counter := range counters {
			key, nonce := pattern(32, seed), pattern(12, 3*seed+1)
			check(t, fmt.Sprintf("%d, seed %d", counter, seed), block(t, key, counter, nonce), wantBlock(key, counter, nonce))
		}
	}
}

// P3.1: each bit of the key, of the counter and of the nonce counts, at its own place.
func TestBlockBits(t *testing.T) {
	seen := map[string]bool{string(block(t, make([]byte, 32), 0, make([]byte, 12))): true}
	one := func(what string, key []byte, counter int, nonce []byte) {
		b := block(t, key, counter, nonce)
		check(t, what, b, wantBlock(key, counter, nonce))
		if seen[string(b)] {
			t.Errorf("%s: the block of another", what)
		}
		seen[string(b)] = true
	}
	for bit := range 256 {
		key := make([]byte, 32)
		key[bit/8] = 1 << (bit % 8)
		one(fmt.Sprintf("the key's bit %d", bit), key, 0, make([]byte, 12))
	}
	for bit := range 32 {
		one(fmt.Sprintf("the counter's bit %d", bit), make([]byte, 32), 1<<bit, make([]byte, 12))
	}
	for bit := range 96 {
		nonce := make([]byte, 12)
		nonce[bit/8] = 1 << (bit % 8)
		one(fmt.Sprintf("the nonce's bit %d", bit), make([]byte, 32), 0, nonce)
	}
}

// refused asks Block and XOR, which have the same errors, and wants no bytes beside one.
func refused(t *testing.T, key []byte, counter int, nonce []byte, want api.Errno) {
	t.Helper()
	if b, e := chacha.Block(key, counter, nonce); e != want || len(b) != 0 {
		t.Errorf("Block: key of %d, counter %d, nonce of %d: %d bytes, error %d, want %d", len(key), counter, len(nonce), len(b), e, want)
	}
	for _, text := range [][]byte{nil, {}, pattern(1, 1), pattern(64, 1), pattern(65, 1)} {
		if b, e := chacha.XOR(key, counter, nonce, text); e != want || len(b) != 0 {
			t.Errorf("XOR of %d: key of %d, counter %d, nonce of %d: %d bytes, error %d, want %d", len(text), len(key), counter, len(nonce), len(b), e, want)
		}
	}
}

// P3.1, P3.2: ErrSize for a key or a nonce of any other size, also none, nil or not, whatever the counter.
func TestSizes(t *testing.T) {
	key, nonce := pattern(32, 1), pattern(12, 2)
	for _, counter := range append(slices.Clone(counters), badCounters...) {
		refused(t, nil, counter, nonce, api.ErrSize)
		refused(t, key, counter, nil, api.ErrSize)
		refused(t, nil, counter, nil, api.ErrSize)
	}
	for n := range 130 {
		for _, counter := range []int{0, maxCounter, -1, 1 << 32} {
			if n != api.KeySize {
				refused(t, pattern(n, 1), counter, nonce, api.ErrSize)
			}
			if n != api.NonceSize {
				refused(t, key, counter, pattern(n, 2), api.ErrSize)
			}
			refused(t, pattern(n, 1), counter, pattern(n, 2), api.ErrSize)
		}
	}
	refused(t, pattern(12, 1), 0, pattern(32, 2), api.ErrSize)
	refused(t, pattern(4096, 1), 0, nonce, api.ErrSize)
	refused(t, key, 0, pattern(4096, 1), api.ErrSize)
	// Sizes count, not the room behind them.
	refused(t, pattern(64, 1)[:31], 0, nonce, api.ErrSize)
	refused(t, key, 0, pattern(64, 1)[:11], api.ErrSize)
}

// P3.1, P3.2: ErrRange for a counter that isn't from 0 to 2^32 - 1.
func TestRange(t *testing.T) {
	for _, counter := range badCounters {
		refused(t, pattern(32, 1), counter, pattern(12, 2), api.ErrRange)
		refused(t, make([]byte, 32), counter, make([]byte, 12), api.ErrRange)
	}
}

// P3.2: RFC 8439's text.
func TestXORKnown(t *testing.T) {
	text := "Ladies and Gentlemen of the class of '99: If I could offer you only one tip for the future, sunscreen would be it."
	want := "6e2e359a2568f98041ba0728dd0d6981e97e7aec1d4360c20a27afccfd9fae0bf91b65c5524733ab8f593dabcd62b3571639d624e65152ab8f530c359f0861d807ca0dbf500d6a6156a38e088a22b65e52bc514d16ccf806818ce91ab77937365af90bbf74a35be6b40b8eedf2785e42874d"
	check(t, "sunscreen", xor(t, risingKey(), 1, fromHex(t, "000000000000004a00000000"), []byte(text)), fromHex(t, want))
}

// P3.2: a long stream, whose sum another program told.
func TestXORLong(t *testing.T) {
	nonce := []byte{100, 101, 102, 103, 104, 105, 106, 107, 108, 109, 110, 111}
	sum := sha256.Sum256(xor(t, risingKey(), 7, nonce, make([]byte, 1000000)))
	check(t, "a million noughts", sum[:], fromHex(t, "a1ed3fec2811635aee34e09d905f3c4162cf58e4f0fdb5f0ba27b223e26f6c2f"))
}

// risingKey is the examples' key 00 01 .. 1f.
func risingKey() []byte {
	key := make([]byte, 32)
	for i := range key {
		key[i] = byte(i)
	}
	return key
}

// P3.2: texts of no bytes and of lengths about the blocks' ends; twice it is the text again.
func TestXORLengths(t *testing.T) {
	key, nonce := pattern(32, 4), pattern(12, 5)
	for _, n := range lengths {
		for _, counter := range counters {
			what := fmt.Sprintf("%d bytes from %d", n, counter)
			text := pattern(n, 6)
			got := xor(t, key, counter, nonce, text)
			check(t, what, got, wantXOR(key, counter, nonce, text))
			check(t, what+", twice", xor(t, key, counter, nonce, got), text)
		}
	}
	for n := range 300 {
		check(t, fmt.Sprint(n), xor(t, key, 1, nonce, pattern(n, 7)), wantXOR(key, 1, nonce, pattern(n, 7)))
	}
	check(t, "nil", xor(t, key, 0, nonce, nil), nil)
	check(t, "empty", xor(t, key, 0, nonce, []byte{}), nil)
}

// P3.2: the stream is Block's blocks, each of the next counter, and behind 2^32 - 1 that of 0.
func TestXORStream(t *testing.T) {
	key, nonce := pattern(32, 8), pattern(12, 9)
	for _, counter := range counters {
		got := xor(t, key, counter, nonce, make([]byte, 6*blockSize+10))
		for i, part := range slices.Collect(slices.Chunk(got, blockSize)) {
			at := counter + i
			if at > maxCounter {
				at -= maxCounter + 1
			}
			check(t, fmt.Sprintf("from %d, block %d", counter, i), part, block(t, key, at, nonce)[:len(part)])
		}
	}
}

// P3.2: going round leaves the nonce as it is.
func TestXORGoesRound(t *testing.T) {
	key, nonce := pattern(32, 8), bytes.Repeat([]byte{0xff}, 12)
	got := xor(t, key, maxCounter, nonce, make([]byte, 3*blockSize))
	check(t, "the last", got[:64], block(t, key, maxCounter, nonce))
	check(t, "the first", got[64:128], block(t, key, 0, nonce))
	check(t, "the second", got[128:], block(t, key, 1, nonce))
}

// P3.1, P3.2: arguments stay as they were, the room behind them too.
func TestArgumentsStay(t *testing.T) {
	for _, n := range lengths {
		for _, counter := range []int{0, maxCounter, -1} {
			key, nonce, text := pattern(100, 1), pattern(100, 2), pattern(n+200, 3)
			chacha.Block(key[:32], counter, nonce[:12])
			chacha.XOR(key[:32], counter, nonce[:12], text[:n])
			check(t, "key", key, pattern(100, 1))
			check(t, "nonce", nonce, pattern(100, 2))
			check(t, fmt.Sprintf("text of %d", n), text, pattern(n+200, 3))
		}
	}
}

// P3.1, P3.2: one list may be key, nonce and text at once.
func TestArgumentsShared(t *testing.T) {
	all := pattern(100, 1)
	want := wantXOR(pattern(100, 1)[:32], 3, pattern(100, 1)[:12], pattern(100, 1))
	check(t, "shared", xor(t, all[:32], 3, all[:12], all), want)
	check(t, "stays", all, pattern(100, 1))
}

// P3.1, P3.2: each answer is memory of its own, spare room too.
func TestAnswersAreNew(t *testing.T) {
	key, nonce, text := pattern(32, 1), pattern(12, 2), pattern(150, 3)
	for name, ask := range map[string]func() []byte{
		"Block":           func() []byte { return block(t, key, 5, nonce) },
		"XOR":             func() []byte { return xor(t, key, 5, nonce, text) },
		"XOR of nothing":  func() []byte { return xor(t, key, 5, nonce, text[:0]) },
		"XOR of a block":  func() []byte { return xor(t, key, 5, nonce, text[:64]) },
		"XOR of one byte": func() []byte { return xor(t, key, 5, nonce, text[:1]) },
	} {
		first, second := ask(), ask()
		known := slices.Clone(first)
		scribble(first)
		check(t, name+", an answer ahead", second, known)
		check(t, name+", a later answer", ask(), known)
		check(t, name+", key", key, pattern(32, 1))
		check(t, name+", nonce", nonce, pattern(12, 2))
		check(t, name+", text", text, pattern(150, 3))
	}
}

// P3.1, P3.2: nothing is kept of an argument or from call to call.
func TestNothingIsKept(t *testing.T) {
	key, nonce, text := pattern(32, 1), pattern(12, 2), pattern(70, 3)
	got := xor(t, key, 9, nonce, text)
	other := block(t, pattern(32, 50), 8, pattern(12, 51))
	scribble(key)
	scribble(nonce)
	scribble(text)
	check(t, "an answer ahead", got, wantXOR(pattern(32, 1), 9, pattern(12, 2), pattern(70, 3)))
	check(t, "another", other, wantBlock(pattern(32, 50), 8, pattern(12, 51)))
	check(t, "asked again", xor(t, pattern(32, 1), 9, pattern(12, 2), pattern(70, 3)), got)
}

func FuzzChacha(f *testing.F) {
	for _, n := range lengths {
		f.Add(pattern(32, n), n, pattern(12, n), pattern(n, 1))
		f.Add(pattern(32, n), maxCounter, pattern(12, n), pattern(n, 1))
		f.Add(pattern(n, 1), -1, pattern(n, 2), pattern(n, 3))
	}
	f.Fuzz(func(t *testing.T, key []byte, counter int, nonce []byte, text []byte) {
		if len(key) != 32 || len(nonce) != 12 {
			refused(t, key, counter, nonce, api.ErrSize)
			return
		}
		if counter < 0 || counter > maxCounter {
			refused(t, key, counter, nonce, api.ErrRange)
			return
		}
		check(t, "block", block(t, key, counter, nonce), wantBlock(key, counter, nonce))
		got := xor(t, key, counter, nonce, text)
		check(t, "xor", got, wantXOR(key, counter, nonce, text))
		check(t, "twice", xor(t, key, counter, nonce, got), text)
	})
}
