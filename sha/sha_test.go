package sha_test

import (
	"bytes"
	"crypto/sha256"
	"encoding/hex"
	"fmt"
	"slices"
	"testing"

	"locket/sha"
)

// edges are the lengths about the ends of blocks, where what ends a message takes one block or two.
var edges = []int{0, 1, 3, 4, 31, 32, 54, 55, 56, 57, 62, 63, 64, 65, 118, 119, 120, 121, 127, 128, 129, 183, 184, 191, 192, 193, 1000, 4096}

// message is n bytes, of which no two blocks are the same.
func message(n int) []byte {
	b := make([]byte, n)
	for i := range b {
		b[i] = byte(i*7 + i/64*31 + 3)
	}
	return b
}

func want(message []byte) []byte {
	s := sha256.Sum256(message)
	return s[:]
}

func check(t *testing.T, what string, got, want []byte) {
	t.Helper()
	if !bytes.Equal(got, want) {
		t.Errorf("%s: got %x, want %x", what, got, want)
	}
}

func fromHex(t *testing.T, s string) []byte {
	t.Helper()
	b, err := hex.DecodeString(s)
	if err != nil {
		t.Fatal(err)
	}
	return b
}

// P1.1: the document's example, and sums that are known from elsewhere.
func TestSumKnown(t *testing.T) {
	for _, c := range []struct{ message, sum string }{
		{"abc", "ba7816bf8f01cfea414140de5dae2223b00361a396177a9cb410ff61f20015ad"},
		{"", "e3b0c44298fc1c149afbf4c8996fb92427ae41e4649b934ca495991b7852b855"},
		{"abcdbcdecdefdefgefghfghighijhijkijkljklmklmnlmnomnopnopq", "248d6a61d20638b8e5c026930c3e6039a33ce45964ff2167f6ecedd419db06c1"},
		{"abcdefghbcdefghicdefghijdefghijkefghijklfghijklmghijklmnhijklmnoijklmnopjklmnopqklmnopqrlmnopqrsmnopqrstnopqrstu", "cf5b16a778af8380036ce59e7b0492370b249b11e8f07a51afac45037afee9d1"},
	} {
		check(t, fmt.Sprintf("%.10q", c.message), sha.Sum([]byte(c.message)), fromHex(t, c.sum))
	}
}

// P1.1: a million bytes, so that the number of bits takes more than two bytes.
func TestSumLong(t *testing.T) {
	got := sha.Sum(bytes.Repeat([]byte("a"), 1000000))
	check(t, "a million", got, fromHex(t, "cdc76e5c9914fb9281a1c7e284d73e67f1809a48a497200e046d39ccc7112cd0"))
}

// P1.1: each length over the ends of several blocks.
func TestSumLengths(t *testing.T) {
	for n := range 400 {
		check(t, fmt.Sprint(n, " bytes"), sha.Sum(message(n)), want(message(n)))
	}
	for _, n := range edges {
		for _, fill := range []byte{0x00, 0x80, 0xff} {
			m := bytes.Repeat([]byte{fill}, n)
			check(t, fmt.Sprintf("%d bytes %02x", n, fill), sha.Sum(m), want(m))
		}
	}
}

// P1.1: no parts, nil parts and empty parts are all the sum of nothing.
func TestSumOfNothing(t *testing.T) {
	nothing := want(nil)
	check(t, "no parts", sha.Sum(), nothing)
	check(t, "a nil list of parts", sha.Sum([][]byte(nil)...), nothing)
	check(t, "an empty list of parts", sha.Sum([][]byte{}...), nothing)
	check(t, "a nil part", sha.Sum(nil), nothing)
	check(t, "an empty part", sha.Sum([]byte{}), nothing)
	check(t, "several", sha.Sum(nil, []byte{}, nil, []byte{}), nothing)
}

// P1.1: where a message is parted makes no difference, nor do empty parts.
func TestSumParts(t *testing.T) {
	for _, n := range edges {
		m := message(n)
		for i := 0; i <= n; i += 1 + n/70 {
			check(t, fmt.Sprint(n, " parted at ", i), sha.Sum(m[:i], m[i:]), want(m))
			j := i + (n-i)/2
			check(t, fmt.Sprint(n, " parted at ", i, ", ", j), sha.Sum(nil, m[:i], []byte{}, m[i:j], m[j:], nil), want(m))
		}
		check(t, fmt.Sprint(n, " one by one"), sha.Sum(slices.Collect(slices.Chunk(m, 1))...), want(m))
	}
}

// P1.1: the parts count in their order.
func TestSumPartsInOrder(t *testing.T) {
	check(t, "ab, c", sha.Sum([]byte("ab"), []byte("c")), want([]byte("abc")))
	check(t, "c, ab", sha.Sum([]byte("c"), []byte("ab")), want([]byte("cab")))
	a := []byte("a")
	check(t, "one part thrice", sha.Sum(a, a, a), want([]byte("aaa")))
}

// P1.1: parts, their spare room and the list of them stay as they were.
func TestSumLeavesParts(t *testing.T) {
	for _, n := range edges {
		room := message(n + 200)
		parts := [][]byte{room[:n], nil, room[:n/2], nil}
		sha.Sum(parts[:3]...)
		check(t, fmt.Sprint("room behind ", n), room, message(n+200))
		if len(parts[0]) != n || parts[1] != nil || len(parts[2]) != n/2 || parts[3] != nil {
			t.Errorf("%d: the list of parts was changed", n)
		}
	}
}

// P1.1, P1.2: each answer is memory of its own, spare room too.
func TestSumsAreNew(t *testing.T) {
	m := message(32)
	h := sha.New()
	h.Write(m)
	for _, sum := range []func() []byte{func() []byte { return sha.Sum(m) }, h.Sum} {
		first, second := sum(), sum()
		if len(first) != 32 {
			t.Fatalf("%d bytes", len(first))
		}
		scribble(first)
		check(t, "an answer ahead", second, want(message(32)))
		check(t, "a later answer", sum(), want(message(32)))
		check(t, "the argument", m, message(32))
	}
}

func scribble(b []byte) {
	b = b[:cap(b)]
	for i := range b {
		b[i] ^= 0xa5
	}
}

// P1.2: a new hash has no bytes, and empty writes give it none.
func TestHashOfNothing(t *testing.T) {
	h := sha.New()
	check(t, "new", h.Sum(), want(nil))
	h.Write(nil)
	h.Write([]byte{})
	check(t, "empty writes", h.Sum(), want(nil))
	h.Write([]byte("abc"))
	h.Write(nil)
	check(t, "abc", h.Sum(), fromHex(t, "ba7816bf8f01cfea414140de5dae2223b00361a396177a9cb410ff61f20015ad"))
}

// P1.2: bytes come in writes of any size.
func TestHashWrites(t *testing.T) {
	m := message(700)
	for _, size := range []int{1, 2, 3, 7, 31, 32, 33, 55, 56, 63, 64, 65, 119, 120, 127, 128, 129, 300, 700} {
		h := sha.New()
		for part := range slices.Chunk(m, size) {
			h.Write(part)
		}
		check(t, fmt.Sprint("writes of ", size), h.Sum(), want(m))
	}
	for _, n := range edges {
		for _, first := range edges {
			if first <= n {
				h := sha.New()
				h.Write(message(n)[:first])
				h.Write(message(n)[first:])
				check(t, fmt.Sprint(n, " parted at ", first), h.Sum(), want(message(n)))
			}
		}
	}
}

// P1.2: a sum is of the bytes so far, may be asked for again, and the hash goes on behind it.
func TestHashGoesOn(t *testing.T) {
	m := message(300)
	for _, size := range []int{1, 5, 55, 56, 63, 64, 65, 128} {
		h := sha.New()
		so := 0
		for part := range slices.Chunk(m, size) {
			h.Write(part)
			so += len(part)
			check(t, fmt.Sprint("writes of ", size, ", so far ", so), h.Sum(), want(m[:so]))
			check(t, fmt.Sprint("writes of ", size, ", again ", so), h.Sum(), want(m[:so]))
		}
	}
}

// P1.2: what the caller does to its bytes behind Write changes nothing, nor does what it does to a sum.
func TestHashKeepsNothing(t *testing.T) {
	for _, n := range edges {
		h := sha.New()
		b := message(n)
		h.Write(b)
		scribble(b)
		check(t, fmt.Sprint("written ", n), h.Sum(), want(message(n)))
		scribble(h.Sum())
		check(t, fmt.Sprint("summed ", n), h.Sum(), want(message(n)))
		h.Write(b)
		scribble(b)
		twice := message(n)
		scribble(twice)
		check(t, fmt.Sprint("gone on ", n), h.Sum(), want(append(message(n), twice...)))
	}
}

// P1.2: Write leaves the caller's bytes and their spare room as they were.
func TestHashLeavesBytes(t *testing.T) {
	for _, n := range edges {
		room := message(n + 200)
		h := sha.New()
		h.Write(room[:n])
		h.Sum()
		h.Write(room[:n])
		h.Sum()
		check(t, fmt.Sprint("room behind ", n), room, message(n+200))
	}
}

// P1.2: two hashes have nothing in common, nor has Sum's own.
func TestHashesSideBySide(t *testing.T) {
	a, b := sha.New(), sha.New()
	var inA, inB []byte
	for i := range 200 {
		x, y := message(i % 67)[i%67/2:], message(i%13)
		a.Write(x)
		inA = append(inA, x...)
		check(t, fmt.Sprint("between, step ", i), sha.Sum(x, y), want(append(slices.Clone(x), y...)))
		b.Write(y)
		inB = append(inB, y...)
		check(t, fmt.Sprint("a, step ", i), a.Sum(), want(inA))
		check(t, fmt.Sprint("b, step ", i), b.Sum(), want(inB))
	}
	check(t, "a new one", sha.New().Sum(), want(nil))
}

func FuzzSum(f *testing.F) {
	for _, n := range edges {
		f.Add(message(n), n/2)
	}
	f.Fuzz(func(t *testing.T, m []byte, at int) {
		at = int(uint(at) % uint(len(m)+1))
		check(t, "sum", sha.Sum(m), want(m))
		check(t, "parted", sha.Sum(m[:at], m[at:]), want(m))
		h := sha.New()
		h.Write(m[:at])
		check(t, "so far", h.Sum(), want(m[:at]))
		h.Write(m[at:])
		check(t, "gone on", h.Sum(), want(m))
	})
}
