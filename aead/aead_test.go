package aead_test

import (
	"bytes"
	"crypto/sha256"
	"encoding/binary"
	"encoding/hex"
	"fmt"
	"slices"
	"strings"
	"testing"

	"locket/aead"
	"locket/api"
	"locket/chacha"
	"locket/poly"
)

// lengths are those of texts and other bytes about the ends of sixteen and of 64 bytes.
var lengths = []int{0, 1, 2, 7, 8, 9, 15, 16, 17, 31, 32, 33, 47, 48, 49, 63, 64, 65, 79, 80, 81, 127, 128, 129, 255, 256, 257, 1000, 4095, 4096, 4097}

// few are fewer of them, for tests that try much with each.
var few = []int{0, 1, 15, 16, 17, 63, 64, 65}

// pattern is n bytes that differ from place to place, and with the seed.
func pattern(n, seed int) []byte {
	b := make([]byte, n)
	for i := range b {
		b[i] = byte(i*7 + i/64*31 + seed)
	}
	return b
}

func same(n int, x byte) []byte {
	return bytes.Repeat([]byte{x}, n)
}

func check(t *testing.T, what string, got, want []byte) {
	t.Helper()
	if !bytes.Equal(got, want) {
		t.Errorf("%s: got %x, want %x", what, got, want)
	}
}

func fromHex(t *testing.T, s string) []byte {
	t.Helper()
	b, err := hex.DecodeString(s)
	if err != nil {
		t.Fatal(err)
	}
	return b
}

func scribble(b []byte) {
	b = b[:cap(b)]
	for i := range b {
		b[i] ^= 0xa5
	}
}

func seal(t *testing.T, key, nonce, other, text []byte) []byte {
	t.Helper()
	box, e := aead.Seal(key, nonce, other, text)
	if e != api.OK {
		t.Fatalf("Seal of %d and %d bytes: error %d", len(other), len(text), e)
	}
	return box
}

func open(t *testing.T, key, nonce, other, box []byte) []byte {
	t.Helper()
	text, e := aead.Open(key, nonce, other, box)
	if e != api.OK {
		t.Fatalf("Open of %d and %d bytes: error %d", len(other), len(box), e)
	}
	return text
}

// closed wants that Open tells ErrOpen, and no bytes beside it.
func closed(t *testing.T, what string, key, nonce, other, box []byte) {
	t.Helper()
	if text, e := aead.Open(key, nonce, other, box); e != api.ErrOpen || len(text) != 0 {
		t.Errorf("%s: %d bytes, error %d, want ErrOpen alone", what, len(text), e)
	}
}

// refused wants that Seal and Open tell ErrSize, and no bytes beside it.
func refused(t *testing.T, key, nonce, other, text []byte) {
	t.Helper()
	what := fmt.Sprintf("key of %d, nonce of %d, %d and %d bytes", len(key), len(nonce), len(other), len(text))
	if b, e := aead.Seal(key, nonce, other, text); e != api.ErrSize || len(b) != 0 {
		t.Errorf("Seal, %s: %d bytes, error %d, want ErrSize alone", what, len(b), e)
	}
	if b, e := aead.Open(key, nonce, other, text); e != api.ErrSize || len(b) != 0 {
		t.Errorf("Open, %s: %d bytes, error %d, want ErrSize alone", what, len(b), e)
	}
}

// wantTagged is what is tagged as the document tells it.
func wantTagged(other, secret []byte) []byte {
	noughts := func(n int) []byte { return make([]byte, (16-n%16)%16) }
	b := slices.Concat(other, noughts(len(other)), secret, noughts(len(secret)))
	b = binary.LittleEndian.AppendUint64(b, uint64(len(other)))
	return binary.LittleEndian.AppendUint64(b, uint64(len(secret)))
}

// wantTag is the tag of a box, by the layers below.
func wantTag(t *testing.T, key, nonce, other, secret []byte) []byte {
	t.Helper()
	first, e := chacha.Block(key, 0, nonce)
	if e != api.OK {
		t.Fatal(e)
	}
	tag, e := poly.Tag(first[:32], wantTagged(other, secret))
	if e != api.OK {
		t.Fatal(e)
	}
	return tag
}

// wantBox is the box as the document tells it, by the layers below.
func wantBox(t *testing.T, key, nonce, other, text []byte) []byte {
	t.Helper()
	secret := slices.Clone(text)
	for at := 0; at < len(text); at += 64 {
		block, e := chacha.Block(key, 1+at/64, nonce)
		if e != api.OK {
			t.Fatal(e)
		}
		for i := at; i < min(at+64, len(text)); i++ {
			secret[i] ^= block[i-at]
		}
	}
	return append(secret, wantTag(t, key, nonce, other, secret)...)
}

// both wants that Seal's box is the one that the document tells, and that Open tells its text.
func both(t *testing.T, what string, key, nonce, other, text []byte) {
	t.Helper()
	box := seal(t, key, nonce, other, text)
	check(t, what+": box", box, wantBox(t, key, nonce, other, text))
	check(t, what+": text", open(t, key, nonce, other, box), text)
}

// P5.1, P5.2: the document's example.
func TestExample(t *testing.T) {
	key, nonce, other, text := pattern(32, 1), pattern(12, 2), []byte("other"), []byte("text")
	check(t, "text", open(t, key, nonce, other, seal(t, key, nonce, other, text)), []byte("text"))
}

// P5.1, P5.2: RFC 8439's boxes, and others that another program told.
func TestKnown(t *testing.T) {
	sunscreen := "Ladies and Gentlemen of the class of '99: If I could offer you only one tip for the future, sunscreen would be it."
	drafts := "Internet-Drafts are draft documents valid for a maximum of six months and may be updated, replaced, or obsoleted by other documents at any time. It is inappropriate to use Internet-Drafts as reference material or to cite them other than as /\u201cwork in progress./\u201d"
	noughts, ones := strings.Repeat("00", 32), strings.Repeat("ff", 32)
	for i, c := range []struct{ key, nonce, other, text, box string }{
		{"808182838485868788898a8b8c8d8e8f909192939495969798999a9b9c9d9e9f", "070000004041424344454647", "50515253c0c1c2c3c4c5c6c7", hex.EncodeToString([]byte(sunscreen)),
			"d31a8d34648e60db7b86afbc53ef7ec2a4aded51296e08fea9e2b5a736ee62d63dbea45e8ca9671282fafb69da92728b1a71de0a9e060b2905d6a5b67ecd3b3692ddbd7f2d778b8c9803aee328091b58fab324e4fad675945585808b4831d7bc3ff4def08e4b7a9de576d26586cec64b61161ae10b594f09e26a7e902ecbd0600691"},
		{"1c9240a5eb55d38af333888604f6b5f0473917c1402b80099dca5cbc207075c0", "000000000102030405060708", "f33388860000000000004e91", hex.EncodeToString([]byte(drafts)),
			"64a0861575861af460f062c79be643bd5e805cfd345cf389f108670ac76c8cb24c6cfc18755d43eea09ee94e382d26b0bdb7b73c321b0100d4f03b7f355894cf332f830e710b97ce98c8a84abd0b948114ad176e008d33bd60f982b1ff37c8559797a06ef4f0ef61c186324e2b3506383606907b6a7c02b0f9f6157b53c867e4b9166c767b804d46a59b5216cde7a4e99040c5a40433225ee282a1b0a06c523eaf4534d7f83fa1155b0047718cbc546a0d072b04b3564eea1b422273f548271a0bb2316053fa76991955ebd63159434ecebb4e466dae5a1073a6727627097a1049e617d91d361094fa68f0ff77987130305beaba2eda04df997b714d6c6f2c29a6ad5cb4022b02709beead9d67890cbb22392336fea1851f38"},
		{noughts, noughts[:24], "", "", "4eb972c9a8fb3a1b382bb4d36f5ffad1"},
		{ones, ones[:24], "", "", "0b5528ab3ff425fbf1fce9fcfb979029"},
		{noughts, noughts[:24], "00", "", "a62278e70d8adab9e6dc2a4e4a93f149"},
		{noughts, noughts[:24], "", "00", "9fbedcfd1809ff3c10adf8277fcc0581b8"},
		{ones, ones[:24], ones[:32], ones[:32], "22d8bfc313e141bd692c82cec7785b29d8ae4f8a6eb98f32471e5fcb147b5e40"},
		{ones, ones[:24], ones[:34], ones[:34], "22d8bfc313e141bd692c82cec7785b295f34c6e010bb7fef6ab08625425394d1ab"},
	} {
		key, nonce, other, text, box := fromHex(t, c.key), fromHex(t, c.nonce), fromHex(t, c.other), fromHex(t, c.text), fromHex(t, c.box)
		check(t, fmt.Sprint("box ", i), seal(t, key, nonce, other, text), box)
		check(t, fmt.Sprint("text ", i), open(t, key, nonce, other, box), text)
	}
}

// P5.1: the sums of boxes that another program told: of all lengths of the list by one another, and of a long one.
func TestKnownSums(t *testing.T) {
	all := sha256.New()
	for _, o := range lengths {
		for _, n := range lengths {
			all.Write(seal(t, pattern(32, o), pattern(12, n), pattern(o, 2), pattern(n, 1)))
		}
	}
	check(t, "all lengths", all.Sum(nil), fromHex(t, "2aa204f2f15bf580a29481cd104529b1fc9473ae3b390db78635b5f935e1f20d"))
	long := sha256.Sum256(seal(t, pattern(32, 1), pattern(12, 2), pattern(100000, 3), pattern(70000, 4)))
	check(t, "a long one", long[:], fromHex(t, "166058389bab687dab8fb7b8709d9ca6c848e803a2d10d80e9758dbdbb3c0768"))
}

// P5.1, P5.2: ErrSize for a key or a nonce of any other size, also none, whatever the rest is.
func TestSizes(t *testing.T) {
	sound := seal(t, pattern(32, 1), pattern(12, 2), pattern(5, 3), pattern(20, 4))
	rest := [][]byte{nil, {}, pattern(1, 3), pattern(15, 3), pattern(16, 3), pattern(5, 3), sound}
	for _, other := range rest {
		for _, text := range rest {
			for n := range 100 {
				if n != api.KeySize {
					refused(t, pattern(n, 1), pattern(12, 2), other, text)
				}
				if n != api.NonceSize {
					refused(t, pattern(32, 1), pattern(n, 2), other, text)
				}
			}
			refused(t, nil, pattern(12, 2), other, text)
			refused(t, pattern(32, 1), nil, other, text)
			refused(t, nil, nil, other, text)
			refused(t, pattern(12, 1), pattern(32, 2), other, text)
			refused(t, pattern(31, 1), pattern(11, 2), other, text)
			refused(t, pattern(4096, 1), pattern(4096, 2), other, text)
			// Sizes count, not the room behind them.
			refused(t, pattern(64, 1)[:31], pattern(12, 2), other, text)
			refused(t, pattern(32, 1), pattern(64, 2)[:11], other, text)
		}
	}
}

// P5.1, P5.2: texts and other bytes of none and of lengths about the ends of the sixteen and of the 64 bytes.
func TestLengths(t *testing.T) {
	for _, o := range lengths {
		for _, n := range lengths {
			both(t, fmt.Sprintf("%d and %d", o, n), pattern(32, n), pattern(12, o), pattern(o, 3), pattern(n, 4))
		}
	}
	for n := range 200 {
		both(t, fmt.Sprintf("0 and %d", n), pattern(32, 1), pattern(12, 2), nil, pattern(n, 4))
		both(t, fmt.Sprintf("%d and 0", n), pattern(32, 1), pattern(12, 2), pattern(n, 3), nil)
		both(t, fmt.Sprintf("both %d", n), pattern(32, 1), pattern(12, 2), pattern(n, 3), pattern(n, 4))
	}
	for _, n := range []int{65535, 65536, 65537, 1<<24 + 1} {
		both(t, fmt.Sprintf("3 and %d", n), pattern(32, 1), pattern(12, 2), pattern(3, 3), pattern(n, 4))
		both(t, fmt.Sprintf("%d and 3", n), pattern(32, 1), pattern(12, 2), pattern(n, 3), pattern(3, 4))
	}
}

// P5.1: a box has as many bytes as the text and a tag.
func TestBoxLength(t *testing.T) {
	for _, o := range few {
		for n := range 300 {
			if box := seal(t, pattern(32, 1), pattern(12, 2), pattern(o, 3), pattern(n, 4)); len(box) != n+api.TagSize {
				t.Errorf("%d and %d: a box of %d bytes", o, n, len(box))
			}
		}
	}
}

// P5.1, P5.2: nil and no bytes are one.
func TestNilAndEmpty(t *testing.T) {
	key, nonce := pattern(32, 1), pattern(12, 2)
	for _, n := range few {
		check(t, "other", seal(t, key, nonce, nil, pattern(n, 3)), seal(t, key, nonce, []byte{}, pattern(n, 3)))
		check(t, "text", seal(t, key, nonce, pattern(n, 3), nil), seal(t, key, nonce, pattern(n, 3), []byte{}))
		box := seal(t, key, nonce, nil, pattern(n, 3))
		check(t, "opened", open(t, key, nonce, []byte{}, box), pattern(n, 3))
	}
	closed(t, "nil box", key, nonce, nil, nil)
	closed(t, "empty box", key, nonce, nil, []byte{})
}

// P5.1: the other bytes and the text aren't one run of bytes: where the one ends and the other begins counts, and so do noughts at an end.
func TestEndsCount(t *testing.T) {
	key, nonce := pattern(32, 1), pattern(12, 2)
	seen := map[string]string{}
	for o := range 40 {
		for n := range 40 {
			// A text that is xored to noughts makes what is tagged noughts but for the counts.
			stream := seal(t, key, nonce, nil, make([]byte, n))[:n]
			box := seal(t, key, nonce, make([]byte, o), stream)
			check(t, "noughts", box[:n], make([]byte, n))
			what, tag := fmt.Sprintf("%d and %d", o, n), string(box[n:])
			if before, ok := seen[tag]; ok {
				t.Errorf("%s: the tag of %s", what, before)
			}
			seen[tag] = what
		}
	}
}

// P5.1: the tag is that of what is xored, not of the text; P5.2: a box that was put together by hand is opened.
func TestByHand(t *testing.T) {
	key, nonce := pattern(32, 1), pattern(12, 2)
	for _, o := range few {
		for _, n := range few {
			other, secret := pattern(o, 3), pattern(n, 4)
			text, e := chacha.XOR(key, 1, nonce, secret)
			if e != api.OK {
				t.Fatal(e)
			}
			box := append(slices.Clone(secret), wantTag(t, key, nonce, other, secret)...)
			check(t, "box", seal(t, key, nonce, other, text), box)
			check(t, "text", open(t, key, nonce, other, box), text)
			if n > 0 {
				closed(t, "the text's own tag", key, nonce, other, append(slices.Clone(secret), wantTag(t, key, nonce, other, text)...))
			}
		}
	}
}

// P5.2: ErrOpen for a box of fewer bytes than a tag, and for each beginning and each end of a sound one.
func TestShortBoxes(t *testing.T) {
	key, nonce := pattern(32, 1), pattern(12, 2)
	for _, other := range [][]byte{nil, pattern(5, 3), pattern(16, 3)} {
		for n := range api.TagSize {
			closed(t, fmt.Sprint("pattern of ", n), key, nonce, other, pattern(n, 4))
			closed(t, fmt.Sprint("noughts, ", n), key, nonce, other, make([]byte, n))
		}
		for _, n := range few {
			box := seal(t, key, nonce, other, pattern(n, 4))
			for cut := range len(box) {
				// The room behind holds the rest of the box, and doesn't count.
				closed(t, fmt.Sprintf("the first %d of %d", cut, len(box)), key, nonce, other, box[:cut])
				closed(t, fmt.Sprintf("the last %d of %d", cut, len(box)), key, nonce, other, box[len(box)-cut:])
			}
			closed(t, "a byte more", key, nonce, other, append(slices.Clone(box), 0))
			closed(t, "a byte ahead", key, nonce, other, append([]byte{0}, box...))
			closed(t, "twice", key, nonce, other, append(slices.Clone(box), box...))
		}
	}
}

// P5.2: ErrOpen for each bit of the box turned: of the tag, and of what is ahead of it.
func TestBoxBits(t *testing.T) {
	key, nonce := pattern(32, 1), pattern(12, 2)
	for _, o := range few {
		for _, n := range few {
			other := pattern(o, 3)
			box := seal(t, key, nonce, other, pattern(n, 4))
			for bit := range 8 * len(box) {
				box[bit/8] ^= 1 << (bit % 8)
				closed(t, fmt.Sprintf("%d and %d, bit %d", o, n, bit), key, nonce, other, box)
				box[bit/8] ^= 1 << (bit % 8)
			}
			check(t, "turned back", open(t, key, nonce, other, box), pattern(n, 4))
		}
	}
}

// P5.2: all bytes of the tag count together, also where turned bits would cancel one another out.
func TestTagBytesTogether(t *testing.T) {
	key, nonce, other := pattern(32, 1), pattern(12, 2), pattern(5, 3)
	box := seal(t, key, nonce, other, pattern(20, 4))
	tag := box[20:]
	for i := range tag {
		for j := range i {
			turned := slices.Clone(box)
			turned[20+i] ^= 0x80
			turned[20+j] ^= 0x80
			closed(t, fmt.Sprintf("bytes %d and %d", i, j), key, nonce, other, turned)
			turned = slices.Clone(box)
			turned[20+i]++
			turned[20+j]--
			closed(t, fmt.Sprintf("bytes %d and %d, one more and one less", i, j), key, nonce, other, turned)
		}
	}
	closed(t, "noughts", key, nonce, other, append(slices.Clone(box[:20]), make([]byte, 16)...))
	turned := slices.Clone(box)
	slices.Reverse(turned[20:])
	closed(t, "the tag turned round", key, nonce, other, turned)
}

// P5.2: ErrOpen for other bytes of which one bit is turned, or that are more or fewer.
func TestOtherBytes(t *testing.T) {
	key, nonce := pattern(32, 1), pattern(12, 2)
	for _, o := range few {
		for _, n := range few {
			other := pattern(o, 3)
			box := seal(t, key, nonce, other, pattern(n, 4))
			what := fmt.Sprintf("%d and %d", o, n)
			for bit := range 8 * o {
				other[bit/8] ^= 1 << (bit % 8)
				closed(t, fmt.Sprintf("%s, bit %d", what, bit), key, nonce, other, box)
				other[bit/8] ^= 1 << (bit % 8)
			}
			for more := range 20 {
				closed(t, what+", noughts more", key, nonce, append(slices.Clone(other), make([]byte, more+1)...), box)
			}
			for cut := range o {
				closed(t, what+", fewer", key, nonce, other[:cut], box)
			}
			check(t, what, open(t, key, nonce, other, box), pattern(n, 4))
		}
	}
}

// P5.1, P5.2: each bit of the key and of the nonce counts: it makes another box, and doesn't open this one.
func TestKeyAndNonceBits(t *testing.T) {
	for _, o := range []int{0, 5} {
		for _, n := range []int{0, 1, 64, 100} {
			key, nonce, other, text := pattern(32, 1), pattern(12, 2), pattern(o, 3), pattern(n, 4)
			box := seal(t, key, nonce, other, text)
			turn := func(what string, b []byte) {
				for bit := range 8 * len(b) {
					b[bit/8] ^= 1 << (bit % 8)
					closed(t, fmt.Sprintf("%s, bit %d", what, bit), key, nonce, other, box)
					if bytes.Equal(seal(t, key, nonce, other, text), box) {
						t.Errorf("%s, bit %d: the same box", what, bit)
					}
					both(t, fmt.Sprintf("%s, bit %d", what, bit), key, nonce, other, text)
					b[bit/8] ^= 1 << (bit % 8)
				}
			}
			turn("key", key)
			turn("nonce", nonce)
			check(t, "turned back", open(t, key, nonce, other, box), text)
		}
	}
}

// P5.2: what isn't sound is told in the promise's order: ErrSize ahead of ErrOpen.
func TestSizeAheadOfOpen(t *testing.T) {
	for _, box := range [][]byte{nil, make([]byte, 15), make([]byte, 16), pattern(100, 1)} {
		refused(t, pattern(31, 1), pattern(12, 2), nil, box)
		refused(t, pattern(32, 1), pattern(13, 2), nil, box)
		closed(t, "right sizes", pattern(32, 1), pattern(12, 2), nil, box)
	}
}

// P5.1, P5.2: arguments stay as they were, the room behind them too, refused or not.
func TestArgumentsStay(t *testing.T) {
	for _, n := range lengths {
		for _, size := range []int{0, 31, 32, 33} {
			for _, sound := range []bool{true, false} {
				key, nonce, other, text := pattern(100, 1), pattern(100, 2), pattern(n+100, 3), pattern(n+100, 4)
				box := append(seal(t, key[:32], nonce[:12], other[:n], text[:n]), pattern(100, 5)...)
				if !sound {
					box[n] ^= 1
				}
				known := slices.Clone(box)
				aead.Seal(key[:size], nonce[:12], other[:n], text[:n])
				aead.Open(key[:size], nonce[:12], other[:n], box[:n+16])
				aead.Open(key[:size], nonce[:12], other[:n], box[:n])
				check(t, "key", key, pattern(100, 1))
				check(t, "nonce", nonce, pattern(100, 2))
				check(t, "other", other, pattern(n+100, 3))
				check(t, "text", text, pattern(n+100, 4))
				check(t, "box", box, known)
			}
		}
	}
}

// P5.1, P5.2: what stands behind the arguments doesn't count.
func TestRoomBehind(t *testing.T) {
	for _, n := range lengths {
		key, nonce, other, text := pattern(100, 1), pattern(100, 2), pattern(n+100, 3), pattern(n+100, 4)
		known := seal(t, key[:32], nonce[:12], other[:n], text[:n])
		box := append(slices.Clone(known), pattern(100, 5)...)
		scribble(key[32:])
		scribble(nonce[12:])
		scribble(other[n:])
		scribble(text[n:])
		check(t, "box", seal(t, key[:32], nonce[:12], other[:n], text[:n]), known)
		check(t, "text", open(t, key[:32], nonce[:12], other[:n], box[:n+16]), pattern(n, 4))
	}
}

// P5.1, P5.2: one list may be several arguments at once.
func TestArgumentsShared(t *testing.T) {
	all := pattern(200, 1)
	key, nonce := pattern(32, 1), pattern(12, 1)
	box := seal(t, all[:32], all[:12], all[:50], all)
	check(t, "box", box, wantBox(t, key, nonce, pattern(50, 1), pattern(200, 1)))
	check(t, "all", all, pattern(200, 1))
	// A box whose own bytes are its other bytes: of the text alone, so that they are known ahead.
	secret := pattern(40, 2)
	joined := append(slices.Clone(secret), wantTag(t, key, nonce, secret, secret)...)
	text, e := chacha.XOR(key, 1, nonce, secret)
	if e != api.OK {
		t.Fatal(e)
	}
	check(t, "text", open(t, key, nonce, joined[:40], joined), text)
	check(t, "the box stays", joined[:40], secret)
}

// P5.1, P5.2: each answer is memory of its own, spare room too, and nothing is kept of an argument.
func TestAnswersAreNew(t *testing.T) {
	for _, n := range few {
		key, nonce, other, text := pattern(32, 1), pattern(12, 2), pattern(n, 3), pattern(n, 4)
		box, again := seal(t, key, nonce, other, text), seal(t, key, nonce, other, text)
		known := slices.Clone(box)
		first, second := open(t, key, nonce, other, box), open(t, key, nonce, other, box)
		scribble(first)
		check(t, "a text ahead", second, pattern(n, 4))
		check(t, "its box", box, known)
		check(t, "a later text", open(t, key, nonce, other, box), pattern(n, 4))
		scribble(box)
		check(t, "a text, its box changed", second, pattern(n, 4))
		check(t, "a box ahead", again, known)
		check(t, "a later box", seal(t, key, nonce, other, text), known)
		check(t, "key", key, pattern(32, 1))
		check(t, "nonce", nonce, pattern(12, 2))
		check(t, "other", other, pattern(n, 3))
		check(t, "text", text, pattern(n, 4))
		scribble(key)
		scribble(nonce)
		scribble(other)
		scribble(text)
		check(t, "a box, its arguments changed", again, known)
		check(t, "asked again", seal(t, pattern(32, 1), pattern(12, 2), pattern(n, 3), pattern(n, 4)), known)
	}
}

// P5.2: what is refused leaves nothing that a later call could tell.
func TestRefusedChangesNothing(t *testing.T) {
	key, nonce, other := pattern(32, 1), pattern(12, 2), pattern(5, 3)
	box := seal(t, key, nonce, other, pattern(20, 4))
	for range 3 {
		closed(t, "another nonce", key, pattern(12, 3), other, box)
		closed(t, "too short", key, nonce, other, box[:15])
		refused(t, key[:31], nonce, other, box)
		check(t, "text", open(t, key, nonce, other, box), pattern(20, 4))
		check(t, "box", seal(t, key, nonce, other, pattern(20, 4)), box)
	}
}

func FuzzBoth(f *testing.F) {
	for _, n := range lengths {
		f.Add(pattern(32, n), pattern(12, n), pattern(n, 1), pattern(n, 2))
		f.Add(pattern(n, 1), pattern(12, 2), pattern(n, 3), pattern(n, 4))
		f.Add(pattern(32, 1), pattern(n, 2), pattern(n, 3), pattern(n, 4))
	}
	f.Fuzz(func(t *testing.T, key, nonce, other, text []byte) {
		if len(key) != 32 || len(nonce) != 12 {
			refused(t, key, nonce, other, text)
			return
		}
		both(t, "box", key, nonce, other, text)
		// The text as a box is sound just if its end is the tag of its beginning.
		end := len(text) - api.TagSize
		if end < 0 || !bytes.Equal(text[end:], wantTag(t, key, nonce, other, text[:end])) {
			closed(t, "the text as a box", key, nonce, other, text)
		}
	})
}
