package ring_test

import (
	"bytes"
	"crypto/hmac"
	"crypto/sha256"
	"encoding/hex"
	"fmt"
	"math"
	"math/rand"
	"slices"
	"testing"

	"locket/aead"
	"locket/api"
	"locket/ring"
	"locket/suite"
)

const (
	mostWho    = 16
	mostEpoch  = 16
	mostNumber = 1 << 40
	keySize    = 32
	boxSize    = 48
)

// suites are the kinds of them, each made anew.
var suites = []struct {
	name string
	make func() *suite.Suite
}{
	{"signs", suite.Signs},
	{"real", func() *suite.Suite { return suite.Real([]byte("a seed")) }},
}

// secrets are some that members may have, whatever their length.
var secrets = [][]byte{nil, {}, {0}, []byte("s"), []byte("a secret"), bytes.Repeat([]byte{7}, 32), pattern(64, 1), pattern(65, 1), pattern(5000, 2)}

// noPersons are numbers that are neither a member's nor a writer's; some would be in a few of their bytes.
var noPersons = []int{0, mostWho + 1, mostWho + 2, -1, -2, -mostWho, 255, 256, 257, 1<<32 + 1, mostNumber, mostNumber + 1, 1 << 48, 1<<48 + 1, math.MaxInt, math.MaxInt - 1, math.MinInt, math.MinInt + 1}

// noEpochs are numbers of which no key is wrapped or learned.
var noEpochs = []int{0, mostEpoch + 1, mostEpoch + 2, -1, -2, -mostEpoch, 255, 256, 257, 1<<32 + 1, mostNumber, mostNumber + 1, 1 << 48, 1<<48 + 1, math.MaxInt, math.MaxInt - 1, math.MinInt, math.MinInt + 1}

// noSizes are lengths that no key has.
var noSizes = []int{0, 1, 16, keySize - 1, keySize + 1, boxSize, 2 * keySize, 256 + keySize, 4096, 65536 + keySize}

// onEach runs a test with a suite of each kind.
func onEach(t *testing.T, run func(t *testing.T, s *suite.Suite)) {
	t.Helper()
	for _, kind := range suites {
		t.Run(kind.name, func(t *testing.T) { run(t, kind.make()) })
	}
}

// pattern is n bytes that differ from place to place, and with the seed.
func pattern(n, seed int) []byte {
	b := make([]byte, n)
	for i := range b {
		b[i] = byte(i*7 + i/64*31 + seed)
	}
	return b
}

// roomy is the same bytes, with spare room behind them that holds more.
func roomy(b []byte) []byte {
	return slices.Concat(b, []byte("spare room"))[:len(b)]
}

// scribble changes all bytes, and those of the spare room.
func scribble(b []byte) {
	b = b[:cap(b)]
	for i := range b {
		b[i] ^= 0xa5
	}
}

// inSix is a number in six bytes, the highest first.
func inSix(n int) []byte {
	return []byte{byte(n >> 40), byte(n >> 32), byte(n >> 24), byte(n >> 16), byte(n >> 8), byte(n)}
}

// wantNonce is a nonce as the document tells it.
func wantNonce(a, b int) []byte {
	return append([]byte{0, 0, byte(a >> 24), byte(a >> 16), byte(a >> 8), byte(a)}, inSix(b)...)
}

// codeOf is what a suite's key of a sort and a number must be.
func codeOf(s *suite.Suite, secret []byte, sort string, number int) []byte {
	return s.Code(secret, append([]byte(sort), inSix(number)...))
}

// byHMAC is the same of a real suite, by the library.
func byHMAC(secret []byte, sort string, number int) []byte {
	h := hmac.New(sha256.New, secret)
	h.Write([]byte(sort))
	h.Write(inSix(number))
	return h.Sum(nil)
}

// signOf is the sign of a number, of a sort.
func signOf(sort byte, n int) []byte {
	return slices.Concat([]byte{0x53, sort}, make([]byte, 28), []byte{byte(n >> 8), byte(n)})
}

// boxOf is a box by signs of a key, with a number.
func boxOf(n int) []byte {
	return slices.Concat([]byte{0x42}, make([]byte, boxSize-3), []byte{byte(n >> 8), byte(n)})
}

// unhex is the bytes that a text tells.
func unhex(t *testing.T, text string) []byte {
	t.Helper()
	b, err := hex.DecodeString(text)
	if err != nil {
		t.Fatal(err)
	}
	return b
}

// told wants bytes and OK.
func told(t *testing.T, what string, got []byte, e api.Errno, want []byte) {
	t.Helper()
	if e != api.OK || !bytes.Equal(got, want) {
		t.Errorf("%s: %x, error %d, want %x", what, got, e, want)
	}
}

// refused wants an error, and no bytes beside it.
func refused(t *testing.T, what string, got []byte, e, want api.Errno) {
	t.Helper()
	if e != want || len(got) != 0 {
		t.Errorf("%s: %d bytes, error %d, want %d alone", what, len(got), e, want)
	}
}

// counts wants how many a suite has.
func counts(t *testing.T, what string, s *suite.Suite, want int) {
	t.Helper()
	if got := s.Count(); got != want {
		t.Errorf("%s: count %d, want %d", what, got, want)
	}
}

// wrapped wants OK of Wrap.
func wrapped(t *testing.T, s *suite.Suite, secret []byte, who, epoch int, key []byte) []byte {
	t.Helper()
	box, e := ring.Wrap(s, secret, who, epoch, key)
	if e != api.OK || len(box) != boxSize {
		t.Fatalf("Wrap for %d, of %d: %d bytes, error %d", who, epoch, len(box), e)
	}
	return box
}

// unwraps wants the key of Unwrap.
func unwraps(t *testing.T, what string, s *suite.Suite, secret []byte, who, epoch int, box, key []byte) {
	t.Helper()
	got, e := ring.Unwrap(s, secret, who, epoch, box)
	told(t, what+": Unwrap", got, e, key)
}

// closed wants ErrOpen of Unwrap.
func closed(t *testing.T, what string, s *suite.Suite, secret []byte, who, epoch int, box []byte) {
	t.Helper()
	got, e := ring.Unwrap(s, secret, who, epoch, box)
	refused(t, what+": Unwrap", got, e, api.ErrOpen)
}

// learns wants an answer of Learn.
func learns(t *testing.T, r *ring.Ring, epoch int, key []byte, want api.Errno) {
	t.Helper()
	if e := r.Learn(epoch, key); e != want {
		t.Errorf("Learn of %d, %d bytes: error %d, want %d", epoch, len(key), e, want)
	}
}

// has wants a ring to have just these keys, and the newest of them.
func has(t *testing.T, what string, r *ring.Ring, keys map[int][]byte) {
	t.Helper()
	newest := 0
	for epoch := -2; epoch <= mostEpoch+2; epoch++ {
		want, is := keys[epoch]
		key, ok := r.Key(epoch)
		if ok != is || !bytes.Equal(key, want) {
			t.Errorf("%s: key of %d is %x, %v, want %x, %v", what, epoch, key, ok, want, is)
		}
		if is {
			newest = max(newest, epoch)
		}
	}
	if got := r.Newest(); got != newest {
		t.Errorf("%s: newest is %d, want %d", what, got, newest)
	}
}

// The document's examples.
func TestExamples(t *testing.T) {
	onEach(t, func(t *testing.T, s *suite.Suite) {
		secret, key := []byte("a secret"), s.Key()
		box := wrapped(t, s, secret, 3, 1, key)
		unwraps(t, "its member", s, secret, 3, 1, box, key)
		closed(t, "another member", s, secret, 4, 1, box)
	})
}

// persons are the calls that tell a person's key, with the sorts of these.
var persons = []struct {
	sort string
	call func(s *suite.Suite, secret []byte, who int) ([]byte, api.Errno)
}{{"member", ring.Member}, {"writer", ring.Writer}}

// P14.1: each member's and each writer's key, with any secret.
func TestPersonKeys(t *testing.T) {
	onEach(t, func(t *testing.T, s *suite.Suite) {
		for _, secret := range secrets {
			for who := 1; who <= mostWho; who++ {
				for _, p := range persons {
					got, e := p.call(s, secret, who)
					told(t, fmt.Sprintf("%s %d, secret of %d", p.sort, who, len(secret)), got, e, codeOf(s, secret, p.sort, who))
				}
			}
		}
	})
}

// P14.1: numbers that are nobody's.
func TestPersonBounds(t *testing.T) {
	onEach(t, func(t *testing.T, s *suite.Suite) {
		for _, secret := range secrets {
			for _, who := range noPersons {
				for _, p := range persons {
					got, e := p.call(s, secret, who)
					refused(t, fmt.Sprintf("%s %d, secret of %d", p.sort, who, len(secret)), got, e, api.ErrRange)
				}
			}
		}
		counts(t, "nothing is asked", s, 0)
		for _, who := range []int{1, mostWho} {
			for _, p := range persons {
				if key, e := p.call(s, nil, who); e != api.OK || len(key) != keySize {
					t.Errorf("%s %d: %x, error %d", p.sort, who, key, e)
				}
			}
		}
	})
}

// P14.1, P14.3: keys of a real suite, by the library.
func TestKeysByHMAC(t *testing.T) {
	s := suite.Real([]byte("a seed"))
	for _, secret := range secrets {
		for who := 1; who <= mostWho; who++ {
			for _, p := range persons {
				got, e := p.call(s, secret, who)
				told(t, fmt.Sprint(p.sort, who), got, e, byHMAC(secret, p.sort, who))
			}
		}
		has(t, "new", ring.New(s, secret), map[int][]byte{0: byHMAC(secret, "epoch", 0)})
	}
	counts(t, "no keys are drawn", s, 0)
}

// P14.1 to P14.3: what another program told of the same.
func TestByHand(t *testing.T) {
	s, secret := suite.Real(nil), []byte("a secret")
	got, e := ring.Member(s, secret, 2)
	told(t, "member", got, e, unhex(t, "5f4f41f1aca26eebcd6ad55601e134ac57fc159a22b69392dbc42140eb190741"))
	got, e = ring.Writer(s, secret, 2)
	told(t, "writer", got, e, unhex(t, "c49514bbcd9ba6dd7402dc665548b90a560295f413a5862839cbe51e020330c5"))
	has(t, "ring", ring.New(s, secret), map[int][]byte{0: unhex(t, "f1d79b86bd4bafc23b39680f2034a5d6e7b612cf28c973c0d021af663d9bdbf9")})
	key := make([]byte, keySize)
	for i := range key {
		key[i] = byte(i)
	}
	box := unhex(t, "dfd40f61ad8a3c94ed68e4c4975376e3bbdbf5bc0de2afb4185661af02221db8ac9fa34b044521c85f32ace4aaa3f71a")
	got, e = ring.Wrap(s, secret, 2, 5, key)
	told(t, "wrapped", got, e, box)
	unwraps(t, "wrapped", s, secret, 2, 5, box, key)
}

// P14.1, P14.3: no two sorts, numbers or secrets have a key in common.
func TestKeysDiffer(t *testing.T) {
	onEach(t, func(t *testing.T, s *suite.Suite) {
		whose := map[string]string{}
		differs := func(what string, key []byte) {
			if other, ok := whose[string(key)]; ok {
				t.Errorf("%s has the key of %s", what, other)
			}
			whose[string(key)] = what
		}
		for _, secret := range []string{"", "a", "b", "am", "member"} {
			for who := 1; who <= mostWho; who++ {
				for _, p := range persons {
					key, _ := p.call(s, []byte(secret), who)
					differs(fmt.Sprintf("%s %d of %q", p.sort, who, secret), key)
				}
			}
			key, _ := ring.New(s, []byte(secret)).Key(0)
			differs(fmt.Sprintf("epoch 0 of %q", secret), key)
		}
	})
}

// P14.1: a nonce, byte by byte, at its bounds and between them.
func TestNonce(t *testing.T) {
	for _, at := range []struct {
		a, b int
		want string
	}{
		{0, 0, "000000000000000000000000"},
		{1, 2, "000000000001000000000002"},
		{0, mostNumber, "000000000000010000000000"},
		{0, mostNumber - 1, "00000000000000ffffffffff"},
		{1<<32 - 1, 0, "0000ffffffff000000000000"},
		{1<<32 - 1, mostNumber, "0000ffffffff010000000000"},
		{1<<32 - 2, 1, "0000fffffffe000000000001"},
		{0x01020304, 0x05060708, "000001020304000005060708"},
		{0xfffefdfc, 0xfbfaf9f8f7, "0000fffefdfc00fbfaf9f8f7"},
	} {
		got, e := ring.Nonce(at.a, at.b)
		told(t, fmt.Sprintf("%d, %d", at.a, at.b), got, e, unhex(t, at.want))
	}
	r := rand.New(rand.NewSource(14))
	for range 2000 {
		a, b := r.Intn(1<<32)>>r.Intn(32), r.Intn(mostNumber+1)>>r.Intn(40)
		got, e := ring.Nonce(a, b)
		told(t, fmt.Sprintf("%d, %d", a, b), got, e, wantNonce(a, b))
	}
}

// P14.1: a nonce's numbers beyond their bounds, one of them and both.
func TestNonceBounds(t *testing.T) {
	noFirst := []int{-1, -2, 1 << 32, 1<<32 + 1, mostNumber - 1, mostNumber, mostNumber + 1, 1 << 48, -1 << 32, math.MaxInt, math.MinInt}
	noSecond := []int{-1, -2, mostNumber + 1, mostNumber + 2, 1 << 41, 1 << 48, 1<<48 + 1, -mostNumber, math.MaxInt, math.MinInt}
	for _, a := range noFirst {
		for _, b := range append([]int{0, 1, mostNumber}, noSecond...) {
			got, e := ring.Nonce(a, b)
			refused(t, fmt.Sprintf("%d, %d", a, b), got, e, api.ErrRange)
		}
	}
	for _, b := range noSecond {
		for _, a := range []int{0, 1, 1<<32 - 1} {
			got, e := ring.Nonce(a, b)
			refused(t, fmt.Sprintf("%d, %d", a, b), got, e, api.ErrRange)
		}
	}
}

// P14.2: each epoch's key for each member, with any secret, is unwrapped to itself.
func TestWrapAndUnwrap(t *testing.T) {
	onEach(t, func(t *testing.T, s *suite.Suite) {
		for _, secret := range secrets {
			for who := 1; who <= mostWho; who++ {
				for epoch := 1; epoch <= mostEpoch; epoch++ {
					key := pattern(keySize, who*epoch)
					box := wrapped(t, s, secret, who, epoch, key)
					what := fmt.Sprintf("for %d, of %d", who, epoch)
					unwraps(t, what, s, secret, who, epoch, box, key)
					unwraps(t, what+", again", s, secret, who, epoch, box, key)
					got, e := s.Open(codeOf(s, secret, "member", who), wantNonce(0, epoch), []byte("wrap"), box)
					told(t, what+": Open", got, e, key)
				}
			}
		}
	})
}

// P14.2: a wrapped key of a real suite is layer 5's box.
func TestWrapByBoxes(t *testing.T) {
	s := suite.Real(nil)
	for _, secret := range secrets {
		for who := 1; who <= mostWho; who++ {
			for epoch := 1; epoch <= mostEpoch; epoch++ {
				key := pattern(keySize, who+epoch)
				want, _ := aead.Seal(byHMAC(secret, "member", who), wantNonce(0, epoch), []byte("wrap"), key)
				got, e := ring.Wrap(s, secret, who, epoch, key)
				told(t, fmt.Sprintf("for %d, of %d", who, epoch), got, e, want)
				unwraps(t, "box", s, secret, who, epoch, want, key)
			}
		}
	}
	counts(t, "no keys are drawn", s, 0)
}

// P14.2: a box is for its member, its epoch and its secret alone.
func TestUnwrapByOthers(t *testing.T) {
	onEach(t, func(t *testing.T, s *suite.Suite) {
		secret, key := []byte("a secret"), s.Key()
		for _, whose := range []struct{ who, epoch int }{{1, 1}, {2, 5}, {mostWho, mostEpoch}} {
			box := wrapped(t, s, secret, whose.who, whose.epoch, key)
			for who := 1; who <= mostWho; who++ {
				for epoch := 1; epoch <= mostEpoch; epoch++ {
					what := fmt.Sprintf("of %v, by %d, of %d", whose, who, epoch)
					if who == whose.who && epoch == whose.epoch {
						unwraps(t, what, s, secret, who, epoch, box, key)
						continue
					}
					closed(t, what, s, secret, who, epoch, box)
				}
			}
			for _, other := range []string{"", "a secreu", "a secre", "a secret ", "A secret"} {
				closed(t, fmt.Sprintf("%v, with %q", whose, other), s, []byte(other), whose.who, whose.epoch, box)
			}
			unwraps(t, "at last", s, secret, whose.who, whose.epoch, box, key)
		}
	})
}

// P14.2: a box of which a bit is turned, or that is longer or shorter.
func TestUnwrapOfChangedBoxes(t *testing.T) {
	onEach(t, func(t *testing.T, s *suite.Suite) {
		secret, key := []byte("a secret"), s.Key()
		box := wrapped(t, s, secret, 2, 5, key)
		for bit := range 8 * len(box) {
			other := bytes.Clone(box)
			other[bit/8] ^= 1 << (bit % 8)
			closed(t, fmt.Sprint("bit ", bit), s, secret, 2, 5, other)
		}
		for n := range box {
			closed(t, fmt.Sprint("its first ", n), s, secret, 2, 5, box[:n])
			closed(t, fmt.Sprint("without its first ", n+1), s, secret, 2, 5, box[n+1:])
		}
		closed(t, "nil", s, secret, 2, 5, nil)
		closed(t, "longer", s, secret, 2, 5, append(bytes.Clone(box), 0))
		closed(t, "longer ahead", s, secret, 2, 5, append([]byte{0}, box...))
		closed(t, "twice", s, secret, 2, 5, append(bytes.Clone(box), box...))
		closed(t, "noughts", s, secret, 2, 5, make([]byte, boxSize))
		closed(t, "the key itself", s, secret, 2, 5, key)
		closed(t, "long", s, secret, 2, 5, pattern(100000, 1))
		unwraps(t, "unchanged", s, secret, 2, 5, box, key)
	})
}

// P14.2: boxes that the suite made, but not as a wrapped key is made.
func TestUnwrapOfOtherBoxes(t *testing.T) {
	onEach(t, func(t *testing.T, s *suite.Suite) {
		secret, text := []byte("a secret"), s.Key()
		member, nonce := codeOf(s, secret, "member", 2), wantNonce(0, 5)
		sealed := func(key, nonce []byte, other string, text []byte) []byte {
			box, e := s.Seal(key, nonce, []byte(other), text)
			if e != api.OK {
				t.Fatalf("Seal: error %d", e)
			}
			return box
		}
		unwraps(t, "as it must be", s, secret, 2, 5, sealed(member, nonce, "wrap", text), text)
		for _, n := range noSizes {
			closed(t, fmt.Sprint("a key of ", n), s, secret, 2, 5, sealed(member, nonce, "wrap", pattern(n, 1)))
		}
		for _, other := range []string{"", "wra", "wrap ", "Wrap", "wrap\x00"} {
			closed(t, fmt.Sprintf("other bytes %q", other), s, secret, 2, 5, sealed(member, nonce, other, text))
		}
		for _, n := range [][]byte{wantNonce(5, 0), wantNonce(5, 5), wantNonce(0, 4), wantNonce(2, 5), wantNonce(0, 0)} {
			closed(t, fmt.Sprintf("nonce %x", n), s, secret, 2, 5, sealed(member, n, "wrap", text))
		}
		for _, sort := range []string{"writer", "epoch", ""} {
			closed(t, "by the key of "+sort, s, secret, 2, 5, sealed(codeOf(s, secret, sort, 2), nonce, "wrap", text))
		}
	})
}

// P14.2: each bound of who and epoch, one of them and both, ahead of what is wrong behind.
func TestWrapBounds(t *testing.T) {
	onEach(t, func(t *testing.T, s *suite.Suite) {
		secret, key := []byte("a secret"), pattern(keySize, 1)
		out := func(who, epoch int) {
			for _, n := range append([]int{keySize, boxSize}, noSizes...) {
				what := fmt.Sprintf("for %d, of %d, %d bytes", who, epoch, n)
				got, e := ring.Wrap(s, secret, who, epoch, pattern(n, 1))
				refused(t, "Wrap "+what, got, e, api.ErrRange)
				got, e = ring.Unwrap(s, secret, who, epoch, pattern(n, 1))
				refused(t, "Unwrap "+what, got, e, api.ErrRange)
			}
		}
		for _, who := range noPersons {
			for _, epoch := range append([]int{1, mostEpoch}, noEpochs...) {
				out(who, epoch)
			}
		}
		for _, epoch := range noEpochs {
			out(1, epoch)
			out(mostWho, epoch)
		}
		counts(t, "nothing is asked", s, 0)
		for _, who := range []int{1, mostWho} {
			for _, epoch := range []int{1, mostEpoch} {
				unwraps(t, "bounds", s, secret, who, epoch, wrapped(t, s, secret, who, epoch, key), key)
			}
		}
	})
}

// P14.2: keys of other sizes.
func TestWrapSizes(t *testing.T) {
	onEach(t, func(t *testing.T, s *suite.Suite) {
		for _, n := range noSizes {
			for _, who := range []int{1, mostWho} {
				for _, epoch := range []int{1, mostEpoch} {
					got, e := ring.Wrap(s, nil, who, epoch, pattern(n, 1))
					refused(t, fmt.Sprintf("for %d, of %d, %d bytes", who, epoch, n), got, e, api.ErrSize)
				}
			}
		}
		got, e := ring.Wrap(s, nil, 1, 1, nil)
		refused(t, "nil", got, e, api.ErrSize)
		// What stands in spare room is no part of a key.
		got, e = ring.Wrap(s, nil, 1, 1, pattern(keySize, 1)[:keySize-1])
		refused(t, "spare room", got, e, api.ErrSize)
		counts(t, "nothing is asked", s, 0)
		wrapped(t, s, nil, 1, 1, roomy(pattern(keySize, 1)))
	})
}

// P14.3: a new ring, with any secret.
func TestNew(t *testing.T) {
	onEach(t, func(t *testing.T, s *suite.Suite) {
		for _, secret := range secrets {
			has(t, fmt.Sprint("secret of ", len(secret)), ring.New(s, secret), map[int][]byte{0: codeOf(s, secret, "epoch", 0)})
		}
	})
}

// P14.3: epochs in order, backwards, and as they come.
func TestLearnInEachOrder(t *testing.T) {
	s := suite.Signs()
	rising := make([]int, mostEpoch)
	for i := range rising {
		rising[i] = i + 1
	}
	falling := slices.Clone(rising)
	slices.Reverse(falling)
	orders := [][]int{rising, falling, {3, 1, 2}, {5, 16, 1, 15}, {mostEpoch}, {1}}
	random := rand.New(rand.NewSource(3))
	for range 50 {
		order := slices.Clone(rising)
		random.Shuffle(len(order), func(i, j int) { order[i], order[j] = order[j], order[i] })
		orders = append(orders, order[:random.Intn(mostEpoch+1)])
	}
	for _, order := range orders {
		r := ring.New(s, nil)
		keys := map[int][]byte{0: codeOf(s, nil, "epoch", 0)}
		for _, epoch := range order {
			keys[epoch] = pattern(keySize, epoch)
			learns(t, r, epoch, keys[epoch], api.OK)
			has(t, fmt.Sprint(order, " up to ", epoch), r, keys)
		}
	}
}

// P14.3: each error of Learn at its bound, and those of several that are named first; none of them changes anything.
func TestLearnRefuses(t *testing.T) {
	s := suite.Signs()
	r := ring.New(s, nil)
	keys := map[int][]byte{0: codeOf(s, nil, "epoch", 0), 1: pattern(keySize, 1), 7: pattern(keySize, 7), mostEpoch: pattern(keySize, 16)}
	for epoch, key := range keys {
		if epoch > 0 {
			learns(t, r, epoch, key, api.OK)
		}
	}
	for _, epoch := range noEpochs {
		for _, n := range append([]int{keySize}, noSizes...) {
			learns(t, r, epoch, pattern(n, 3), api.ErrRange)
		}
		learns(t, r, epoch, nil, api.ErrRange)
		has(t, fmt.Sprint("refused ", epoch), r, keys)
	}
	for epoch := 1; epoch <= mostEpoch; epoch++ {
		for _, n := range noSizes {
			learns(t, r, epoch, pattern(n, 3), api.ErrSize)
		}
		learns(t, r, epoch, nil, api.ErrSize)
		learns(t, r, epoch, pattern(keySize, 1)[:keySize-1], api.ErrSize)
		has(t, fmt.Sprint("refused sizes of ", epoch), r, keys)
	}
	for epoch, key := range keys {
		if epoch > 0 {
			learns(t, r, epoch, key, api.ErrTwice)
			learns(t, r, epoch, pattern(keySize, 99), api.ErrTwice)
			learns(t, r, epoch, make([]byte, keySize), api.ErrTwice)
		}
	}
	has(t, "refused twice", r, keys)
	keys[2] = pattern(keySize, 2)
	learns(t, r, 2, keys[2], api.OK)
	has(t, "one more", r, keys)
}

// P14.3: a key of noughts is a key, and one key may be that of several epochs.
func TestLearnAnyKey(t *testing.T) {
	s := suite.Real(nil)
	r := ring.New(s, nil)
	first := byHMAC(nil, "epoch", 0)
	keys := map[int][]byte{0: first, 4: make([]byte, keySize), 5: make([]byte, keySize), 6: first}
	for _, epoch := range []int{4, 5, 6} {
		learns(t, r, epoch, keys[epoch], api.OK)
		learns(t, r, epoch, pattern(keySize, 1), api.ErrTwice)
	}
	has(t, "all", r, keys)
}

// P14.3: numbers of which there is no key.
func TestKeyOfNone(t *testing.T) {
	r := ring.New(suite.Signs(), nil)
	ask := func(what string) {
		for _, epoch := range noEpochs {
			if epoch == 0 {
				continue
			}
			if key, ok := r.Key(epoch); ok || len(key) != 0 {
				t.Errorf("%s: key of %d is %x, %v", what, epoch, key, ok)
			}
		}
	}
	ask("new")
	for epoch := 1; epoch <= mostEpoch; epoch++ {
		if key, ok := r.Key(epoch); ok || len(key) != 0 {
			t.Errorf("key of %d is %x, %v", epoch, key, ok)
		}
		learns(t, r, epoch, pattern(keySize, epoch), api.OK)
	}
	ask("full")
}

// P14.3: rings go their own ways, though they are of one suite and one secret.
func TestRingsApart(t *testing.T) {
	onEach(t, func(t *testing.T, s *suite.Suite) {
		one, other := ring.New(s, []byte("s")), ring.New(s, []byte("s"))
		first := codeOf(s, []byte("s"), "epoch", 0)
		learns(t, one, 3, pattern(keySize, 1), api.OK)
		has(t, "other", other, map[int][]byte{0: first})
		learns(t, other, 3, pattern(keySize, 2), api.OK)
		learns(t, other, 9, pattern(keySize, 3), api.OK)
		has(t, "one", one, map[int][]byte{0: first, 3: pattern(keySize, 1)})
		has(t, "other", other, map[int][]byte{0: first, 3: pattern(keySize, 2), 9: pattern(keySize, 3)})
	})
}

// P14.4: each call asks for what it must, in its order: signs tell their numbers.
func TestAskedInOrder(t *testing.T) {
	s, secret, key := suite.Signs(), []byte("a secret"), pattern(keySize, 1)
	got, e := ring.Member(s, secret, 3)
	told(t, "Member", got, e, signOf(0x4d, 1))
	counts(t, "Member", s, 1)
	got, e = ring.Writer(s, secret, 3)
	told(t, "Writer", got, e, signOf(0x4d, 2))
	counts(t, "Writer", s, 2)
	r := ring.New(s, secret)
	has(t, "New", r, map[int][]byte{0: signOf(0x4d, 3)})
	counts(t, "New", s, 3)
	got, e = ring.Wrap(s, secret, 4, 1, key)
	told(t, "Wrap", got, e, boxOf(5))
	counts(t, "Wrap", s, 5)
	// The member's key is the sign ahead of the box.
	got, e = ring.Member(s, secret, 4)
	told(t, "its member", got, e, signOf(0x4d, 4))
	counts(t, "what was coded is coded anew", s, 5)
	unwraps(t, "its member", s, secret, 4, 1, boxOf(5), key)
	counts(t, "Unwrap", s, 5)
	got, e = ring.Wrap(s, secret, 4, 1, key)
	told(t, "Wrap again", got, e, boxOf(6))
	counts(t, "Wrap again", s, 6)
	// Another one's box isn't opened, but that one's key was asked for.
	closed(t, "another member", s, secret, 5, 1, boxOf(5))
	counts(t, "another member", s, 7)
	got, e = ring.Member(s, secret, 5)
	told(t, "another member", got, e, signOf(0x4d, 7))
	counts(t, "another member again", s, 7)
}

// P14.4: Unwrap asks for the member's key whatever the box is: ErrOpen is told behind it.
func TestUnwrapAsksForEachBox(t *testing.T) {
	for _, n := range []int{0, 1, 15, 16, keySize, boxSize - 1, boxSize, boxSize + 1, 5000} {
		s := suite.Signs()
		closed(t, fmt.Sprint(n), s, []byte("s"), 9, 2, make([]byte, n))
		counts(t, fmt.Sprint(n), s, 1)
		got, e := ring.Member(s, []byte("s"), 9)
		told(t, fmt.Sprint(n), got, e, signOf(0x4d, 1))
		counts(t, fmt.Sprint(n, ", and Member"), s, 1)
	}
}

// P14.4: a suite that was asked for the same by other means has nothing new behind a call.
func TestAsksNothingElse(t *testing.T) {
	s, secret := suite.Signs(), []byte("a secret")
	codeOf(s, secret, "member", 2)
	codeOf(s, secret, "writer", 2)
	codeOf(s, secret, "epoch", 0)
	ring.Member(s, secret, 2)
	ring.Writer(s, secret, 2)
	r := ring.New(s, secret)
	ring.Unwrap(s, secret, 2, 1, boxOf(1))
	counts(t, "asked ahead", s, 3)
	for epoch := -1; epoch <= mostEpoch+1; epoch++ {
		r.Key(epoch)
		r.Newest()
		r.Learn(epoch, pattern(keySize, epoch))
		r.Learn(epoch, nil)
		r.Learn(epoch, pattern(keySize, epoch))
		ring.Nonce(epoch, epoch)
	}
	counts(t, "rings and nonces", s, 3)
	ring.Wrap(s, secret, 2, 1, pattern(keySize, 1))
	counts(t, "Wrap", s, 4)
}

// What is handed in stays as it is, its spare room too.
func TestArgumentsStay(t *testing.T) {
	onEach(t, func(t *testing.T, s *suite.Suite) {
		r := ring.New(s, nil)
		box := wrapped(t, s, []byte("a secret"), 2, 5, pattern(keySize, 1))
		for _, b := range [][]byte{nil, []byte("a secret"), pattern(keySize, 1), pattern(keySize+1, 1), box, pattern(200, 1)} {
			b = roomy(b)
			was := slices.Clone(b[:cap(b)])
			ring.Member(s, b, 2)
			ring.Writer(s, b, 2)
			ring.New(s, b)
			ring.Wrap(s, b, 2, 5, b)
			ring.Wrap(s, []byte("a secret"), 2, 5, b)
			ring.Unwrap(s, b, 2, 5, b)
			ring.Unwrap(s, []byte("a secret"), 2, 5, b)
			r.Learn(5, b)
			r.Learn(5, b)
			r.Learn(0, b)
			if !bytes.Equal(b[:cap(b)], was) {
				t.Errorf("%d bytes, or their room, are changed", len(b))
			}
		}
	})
}

// What is handed in, changed later, changes nothing that was told or learned.
func TestArgumentsAreNotKept(t *testing.T) {
	onEach(t, func(t *testing.T, s *suite.Suite) {
		plain := []byte("a secret")
		secret, key := roomy(plain), roomy(pattern(keySize, 1))
		member, _ := ring.Member(s, secret, 2)
		writer, _ := ring.Writer(s, secret, 2)
		r := ring.New(s, secret)
		learns(t, r, 3, key, api.OK)
		box := wrapped(t, s, secret, 2, 5, key)
		was := bytes.Clone(box)
		scribble(secret)
		scribble(key)
		told(t, "member", member, api.OK, codeOf(s, plain, "member", 2))
		told(t, "writer", writer, api.OK, codeOf(s, plain, "writer", 2))
		has(t, "ring", r, map[int][]byte{0: codeOf(s, plain, "epoch", 0), 3: pattern(keySize, 1)})
		told(t, "wrapped", box, api.OK, was)
		unwraps(t, "wrapped", s, plain, 2, 5, box, pattern(keySize, 1))
		box = roomy(was)
		got, e := ring.Unwrap(s, plain, 2, 5, box)
		scribble(box)
		told(t, "unwrapped", got, e, pattern(keySize, 1))
	})
}

// What was told, changed later, changes nothing that is kept or told again, and nothing that was handed in.
func TestAnswersApart(t *testing.T) {
	onEach(t, func(t *testing.T, s *suite.Suite) {
		secret, key := []byte("a secret"), pattern(keySize, 1)
		r := ring.New(s, secret)
		learns(t, r, 3, key, api.OK)
		box := bytes.Clone(wrapped(t, s, secret, 2, 5, key))
		for what, call := range map[string]func() []byte{
			"Member": func() []byte { b, _ := ring.Member(s, secret, 2); return b },
			"Writer": func() []byte { b, _ := ring.Writer(s, secret, 2); return b },
			"Nonce":  func() []byte { b, _ := ring.Nonce(3, 4); return b },
			"Unwrap": func() []byte { b, _ := ring.Unwrap(s, secret, 2, 5, box); return b },
			"Key 0":  func() []byte { b, _ := r.Key(0); return b },
			"Key 3":  func() []byte { b, _ := r.Key(3); return b },
		} {
			first, second := call(), call()
			want := bytes.Clone(first)
			scribble(first)
			told(t, what+", told with it", second, api.OK, want)
			told(t, what+", told later", call(), api.OK, want)
		}
		first, second := wrapped(t, s, secret, 2, 5, key), wrapped(t, s, secret, 2, 5, key)
		scribble(first)
		unwraps(t, "Wrap", s, secret, 2, 5, second, key)
		told(t, "secret", secret, api.OK, []byte("a secret"))
		told(t, "key", key, api.OK, pattern(keySize, 1))
		unwraps(t, "at last", s, secret, 2, 5, box, key)
		has(t, "ring", r, map[int][]byte{0: codeOf(s, secret, "epoch", 0), 3: key})
	})
}

// P14.3: a ring against a plain map, by chance.
func TestRingByChance(t *testing.T) {
	random := rand.New(rand.NewSource(140))
	s := suite.Signs()
	for range 300 {
		secret := pattern(random.Intn(4), random.Intn(3))
		r := ring.New(s, secret)
		keys := map[int][]byte{0: codeOf(s, secret, "epoch", 0)}
		for range random.Intn(40) {
			epoch := random.Intn(mostEpoch+6) - 3
			key := pattern(keySize+random.Intn(6)/4*(random.Intn(3)-1), random.Intn(256))
			want := api.OK
			switch _, is := keys[epoch]; {
			case epoch < 1 || epoch > mostEpoch:
				want = api.ErrRange
			case len(key) != keySize:
				want = api.ErrSize
			case is:
				want = api.ErrTwice
			default:
				keys[epoch] = key
			}
			learns(t, r, epoch, key, want)
		}
		has(t, "by chance", r, keys)
	}
}

// P14.2: any box that is unwrapped is the wrapped key of what was told, by a real suite, which boxes the same alike.
func FuzzUnwrap(f *testing.F) {
	s := suite.Real(nil)
	box, _ := ring.Wrap(s, []byte("s"), 2, 5, pattern(keySize, 1))
	f.Add([]byte("s"), 2, 5, box)
	f.Add([]byte("s"), 2, 6, box)
	f.Add([]byte(nil), 0, 17, []byte(nil))
	f.Fuzz(func(t *testing.T, secret []byte, who, epoch int, box []byte) {
		key, e := ring.Unwrap(s, secret, who, epoch, box)
		if who < 1 || who > mostWho || epoch < 1 || epoch > mostEpoch {
			refused(t, "Unwrap", key, e, api.ErrRange)
			return
		}
		if e != api.OK {
			refused(t, "Unwrap", key, e, api.ErrOpen)
			return
		}
		again, e := ring.Wrap(s, secret, who, epoch, key)
		told(t, "Wrap", again, e, box)
	})
}
