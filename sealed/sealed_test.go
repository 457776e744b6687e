package sealed_test

import (
	"bytes"
	"crypto/hmac"
	"crypto/sha256"
	"encoding/binary"
	"encoding/hex"
	"fmt"
	"math"
	"math/rand"
	"slices"
	"testing"

	"locket/aead"
	"locket/api"
	"locket/entry"
	"locket/sealed"
	"locket/suite"
)

const (
	mostNumber = 1 << 40
	mostWho    = 16
	mostEpoch  = 16
	mostName   = 64
	mostValue  = 512
	keySize    = 32
	tagSize    = 16
	leastBox   = 80
	mostBox    = 2048 + 16
)

// suites are the kinds of them, each made anew.
var suites = []struct {
	name string
	make func() *suite.Suite
}{
	{"signs", suite.Signs},
	{"real", func() *suite.Suite { return suite.Real([]byte("a seed")) }},
}

// secrets are some that members may have, whatever their length.
var secrets = [][]byte{nil, {}, {0}, []byte("s"), []byte("a secret"), bytes.Repeat([]byte{7}, 32), pattern(64, 1), pattern(65, 1), pattern(5000, 2)}

// noKeySizes are lengths that no key has.
var noKeySizes = []int{0, 1, 16, keySize - 1, keySize + 1, 48, 2 * keySize, 256 + keySize, 4096, 65536 + keySize}

// onEach runs a test with a suite of each kind.
func onEach(t *testing.T, run func(t *testing.T, s *suite.Suite)) {
	t.Helper()
	for _, kind := range suites {
		t.Run(kind.name, func(t *testing.T) { run(t, kind.make()) })
	}
}

// pattern is n bytes that differ from place to place, and with the seed.
func pattern(n, seed int) []byte {
	b := make([]byte, n)
	for i := range b {
		b[i] = byte(i*7 + i/64*31 + seed)
	}
	return b
}

// roomy is the same bytes, with spare room behind them that holds more.
func roomy(b []byte) []byte {
	return slices.Concat(b, []byte("spare room"))[:len(b)]
}

// scribble changes all bytes, and those of the spare room.
func scribble(b []byte) {
	b = b[:cap(b)]
	for i := range b {
		b[i] ^= 0xa5
	}
}

// scribbleAll changes all that an entry's lists hold, and their spare room.
func scribbleAll(e entry.Entry) {
	scribble(e.Name)
	scribble(e.Value)
	wraps := e.Wraps[:cap(e.Wraps)]
	for i := range wraps {
		scribble(wraps[i].Box)
		wraps[i] = entry.Wrap{Who: -7, Box: []byte("another")}
	}
}

// deep is the same entry, with nothing in common, each list with spare room.
func deep(e entry.Entry) entry.Entry {
	e.Name, e.Value = roomy(e.Name), roomy(e.Value)
	wraps := make([]entry.Wrap, 0, len(e.Wraps)+2)
	for _, w := range e.Wraps {
		wraps = append(wraps, entry.Wrap{Who: w.Who, Box: roomy(w.Box)})
	}
	wraps = append(wraps, entry.Wrap{Who: 90, Box: []byte("spare")})
	e.Wraps = wraps[:len(wraps)-1]
	return e
}

// shown is all of an entry as text, spare room too.
func shown(e entry.Entry) string {
	all := fmt.Sprint(e.Kind, e.Writer, e.Seq, e.Who, e.Rights, e.Epoch, len(e.Name), len(e.Value), len(e.Wraps))
	all += fmt.Sprintf(" %x %x", e.Name[:cap(e.Name)], e.Value[:cap(e.Value)])
	for _, w := range e.Wraps[:cap(e.Wraps)] {
		all += fmt.Sprintf(" %d:%d:%x", w.Who, len(w.Box), w.Box[:cap(w.Box)])
	}
	return all
}

// unhex is the bytes that a text tells.
func unhex(t *testing.T, text string) []byte {
	t.Helper()
	b, err := hex.DecodeString(text)
	if err != nil {
		t.Fatal(err)
	}
	return b
}

// inSix is a number in six bytes, the highest first, or as many of it as these hold.
func inSix(n int) []byte {
	return binary.BigEndian.AppendUint64(nil, uint64(n))[2:]
}

// counted is a text behind its count.
func counted(text []byte) []byte {
	return append(binary.BigEndian.AppendUint16(nil, uint16(len(text))), text...)
}

// joined is some numbers and texts, one behind the other.
func joined(parts ...any) []byte {
	var all []byte
	for _, part := range parts {
		switch p := part.(type) {
		case int:
			all = append(all, inSix(p)...)
		case []byte:
			all = append(all, counted(p)...)
		default:
			panic("neither a number nor a text")
		}
	}
	return all
}

// bodyOf is an entry's bytes as the document tells them.
func bodyOf(e entry.Entry) []byte {
	parts := []any{e.Kind, e.Writer, e.Seq}
	switch e.Kind {
	case 1:
		parts = append(parts, e.Name, e.Value)
	case 2:
		parts = append(parts, e.Name)
	case 3:
		parts = append(parts, e.Who, e.Rights)
	case 4:
		parts = append(parts, e.Who)
	case 5:
		parts = append(parts, e.Epoch, len(e.Wraps))
		for _, w := range e.Wraps {
			parts = append(parts, w.Who, w.Box)
		}
	}
	return joined(parts...)
}

// padded is a text in its bucket as the document tells it.
func padded(text []byte) []byte {
	return sized(text, bucketOf(text))
}

// bucketOf is the size of a text's bucket.
func bucketOf(text []byte) int {
	for _, size := range []int{64, 128, 256, 512, 1024, 2048} {
		if len(text)+2 <= size {
			return size
		}
	}
	panic("there is no bucket")
}

// sized is a text behind its count, with noughts up to a size.
func sized(text []byte, size int) []byte {
	return append(counted(text), make([]byte, size-2-len(text))...)
}

// writerKey is a writer's key as the document tells it.
func writerKey(s *suite.Suite, secret []byte, who int) []byte {
	return s.Code(secret, append([]byte("writer"), inSix(who)...))
}

// markOf is the mark of an entry's bytes as the document tells it.
func markOf(s *suite.Suite, secret []byte, collection, writer int, body []byte) []byte {
	return s.Code(writerKey(s, secret, writer), joined(collection, body))
}

// plainOf is the plain text of an entry as the document tells it.
func plainOf(s *suite.Suite, secret []byte, collection int, e entry.Entry) []byte {
	body := bodyOf(e)
	return padded(joined(body, markOf(s, secret, collection, e.Writer, body)))
}

// frontOf is a record's front.
func frontOf(r sealed.Record) []byte {
	return joined(r.Collection, r.Epoch, r.Writer, r.Count)
}

// nonceOf is the nonce of a record's box.
func nonceOf(r sealed.Record) []byte {
	return joined(r.Writer, r.Count)
}

// withPlain is a record with the box of any plain text, made by a suite as a record's box is.
func withPlain(t *testing.T, s *suite.Suite, key []byte, r sealed.Record, plain []byte) sealed.Record {
	t.Helper()
	box, e := s.Seal(key, nonceOf(r), frontOf(r), plain)
	if e != api.OK {
		t.Fatalf("box: error %d", e)
	}
	r.Box = box
	return r
}

// signOf is the sign of a code with a number.
func signOf(n int) []byte {
	return slices.Concat([]byte{0x53, 0x4d}, make([]byte, 28), []byte{byte(n >> 8), byte(n)})
}

// boxOf is a box by signs, of a text of so many bytes, with a number.
func boxOf(n, length int) []byte {
	return slices.Concat([]byte{0x42}, make([]byte, length+tagSize-3), []byte{byte(n >> 8), byte(n)})
}

func put(name, value []byte) entry.Entry {
	return entry.Entry{Kind: 1, Writer: 2, Seq: 9, Name: name, Value: value}
}

func drop(name []byte) entry.Entry {
	return entry.Entry{Kind: 2, Writer: 2, Seq: 9, Name: name}
}

func grant(who, rights int) entry.Entry {
	return entry.Entry{Kind: 3, Writer: 2, Seq: 9, Who: who, Rights: rights}
}

func revoke(who int) entry.Entry {
	return entry.Entry{Kind: 4, Writer: 2, Seq: 9, Who: who}
}

// rotate is for the first so many members.
func rotate(epoch, members int) entry.Entry {
	e := entry.Entry{Kind: 5, Writer: 2, Seq: 9, Epoch: epoch}
	for who := 1; who <= members; who++ {
		e.Wraps = append(e.Wraps, entry.Wrap{Who: who, Box: pattern(48, 11*who)})
	}
	return e
}

// ordinary is an entry as they often are.
func ordinary() entry.Entry {
	return put([]byte("name"), []byte("value"))
}

// place is the numbers of a record for entries of writer 2.
func place() sealed.Record {
	return sealed.Record{Collection: 5, Epoch: 1, Writer: 2, Count: 7}
}

// ofEachKind is one ordinary right entry of each kind.
func ofEachKind() []entry.Entry {
	return []entry.Entry{ordinary(), drop([]byte("name")), grant(4, 6), revoke(4), rotate(2, 3)}
}

// someRight are right entries of each kind, of all sizes, at both sides of each bucket that they reach.
func someRight() []entry.Entry {
	all := ofEachKind()
	for _, n := range []int{1, 2, 6, 7, mostName - 1, mostName} {
		all = append(all, drop(pattern(n, 1)))
		for _, v := range []int{0, 1, 2, 3, 4, 5, 63, 255, mostValue - 1, mostValue} {
			all = append(all, put(pattern(n, v), pattern(v, n)))
		}
	}
	for v := range mostValue + 1 {
		all = append(all, put([]byte("n"), pattern(v, 3)))
	}
	for n := 1; n <= mostName; n++ {
		all = append(all, drop(pattern(n, 5)), put(pattern(n, 5), nil))
	}
	for who := 1; who <= mostWho; who++ {
		all = append(all, grant(who, 1), grant(who, 7), revoke(who), rotate(who, who))
	}
	all = append(all, rotate(1, 0), rotate(mostEpoch, mostWho))
	for _, e := range ofEachKind() {
		for _, seq := range []int{1, 2, 256, 1 << 32, mostNumber - 1, mostNumber} {
			e.Seq = seq
			all = append(all, e)
		}
	}
	return all
}

// someWrong are entries that aren't right, of each kind.
func someWrong() []entry.Entry {
	all := []entry.Entry{{}, {Writer: 2, Seq: 1}, put(nil, nil), put(pattern(mostName+1, 1), nil), put([]byte("n"), pattern(mostValue+1, 1)), put([]byte("n"), pattern(5000, 1)), drop(nil), drop(pattern(mostName+1, 1)), grant(0, 1), grant(17, 1), grant(1, 0), grant(1, 8), revoke(0), revoke(17), rotate(0, 1), rotate(17, 1), rotate(1, 17)}
	for _, e := range ofEachKind() {
		for _, seq := range []int{0, -1, mostNumber + 1, math.MinInt, math.MaxInt} {
			x := e
			x.Seq = seq
			all = append(all, x)
		}
		for _, writer := range []int{0, -1, mostWho + 1, 256 + 2, math.MinInt, math.MaxInt} {
			x := e
			x.Writer = writer
			all = append(all, x)
		}
		for _, kind := range []int{0, 6, -1, 256 + e.Kind, math.MaxInt} {
			x := e
			x.Kind = kind
			all = append(all, x)
		}
	}
	unnamed := ordinary()
	unnamed.Rights = 1
	box := rotate(1, 2)
	box.Wraps[1].Box = pattern(47, 1)
	twice := rotate(1, 2)
	twice.Wraps[1].Who = 1
	return append(all, unnamed, box, twice)
}

// number is one of a record's numbers, with the least and the greatest that it may be.
type number struct {
	name        string
	of          func(*sealed.Record) *int
	least, most int
}

var numbers = []number{
	{"collection", func(r *sealed.Record) *int { return &r.Collection }, 1, mostNumber},
	{"epoch", func(r *sealed.Record) *int { return &r.Epoch }, 0, mostEpoch},
	{"writer", func(r *sealed.Record) *int { return &r.Writer }, 1, mostWho},
	{"count", func(r *sealed.Record) *int { return &r.Count }, 1, mostNumber},
}

// some are numbers at both sides of each bound, and far from them; some would look right if they were cut.
func (n number) some() []int {
	return []int{-1, 0, 1, 2, 15, 16, 17, 255, 256, 257, 1 << 16, 1 << 32, 1<<32 + 1, mostNumber - 1, mostNumber, mostNumber + 1, mostNumber + 2, 1 << 41, 1 << 47, 1<<48 + 1, -mostNumber, math.MaxInt - 1, math.MaxInt, math.MinInt, math.MinInt + 1}
}

// wrong are those of some that aren't within the bounds.
func (n number) wrong() []int {
	return slices.DeleteFunc(n.some(), n.has)
}

// has tells whether a number is within the bounds.
func (n number) has(value int) bool {
	return value >= n.least && value <= n.most
}

// modelRight tells whether a record is right, as the document tells it.
func modelRight(r sealed.Record) bool {
	for _, n := range numbers {
		if !n.has(*n.of(&r)) {
			return false
		}
	}
	return len(r.Box) >= leastBox && len(r.Box) <= mostBox
}

// outOfSix tells whether a record has a number that six bytes don't hold.
func outOfSix(r sealed.Record) bool {
	return slices.ContainsFunc(numbers, func(n number) bool {
		value := *n.of(&r)
		return value < 0 || value >= 1<<48
	})
}

func sameRecord(a, b sealed.Record) bool {
	return bytes.Equal(frontOf(a), frontOf(b)) && a.Collection == b.Collection && a.Epoch == b.Epoch && a.Writer == b.Writer && a.Count == b.Count && bytes.Equal(a.Box, b.Box)
}

// counts wants how many a suite has.
func counts(t *testing.T, what string, s *suite.Suite, want int) {
	t.Helper()
	if got := s.Count(); got != want {
		t.Errorf("%s: count %d, want %d", what, got, want)
	}
}

// seals wants a record with right numbers of Seal.
func seals(t *testing.T, what string, s *suite.Suite, secret, key []byte, r sealed.Record, e entry.Entry) sealed.Record {
	t.Helper()
	got, err := sealed.Seal(s, secret, key, r, e)
	want := r
	want.Box = got.Box
	if err != api.OK || !got.Right() || !sameRecord(got, want) {
		t.Fatalf("%s: Seal tells %v, error %d", what, got, err)
	}
	return got
}

// unsealed wants an error of Seal, and nothing beside it.
func unsealed(t *testing.T, what string, s *suite.Suite, secret, key []byte, r sealed.Record, e entry.Entry, want api.Errno) {
	t.Helper()
	got, err := sealed.Seal(s, secret, key, r, e)
	if err != want || !sameRecord(got, sealed.Record{}) {
		t.Errorf("%s: Seal tells %v, error %d, want %d alone", what, got, err, want)
	}
}

// opens wants an entry of Open.
func opens(t *testing.T, what string, s *suite.Suite, secret, key []byte, r sealed.Record, want entry.Entry) entry.Entry {
	t.Helper()
	got, err := sealed.Open(s, secret, key, r)
	if err != api.OK || !entry.Same(got, want) {
		t.Errorf("%s: Open tells %v, error %d, want %v", what, got, err, want)
	}
	return got
}

// closed wants an error of Open, and nothing beside it.
func closed(t *testing.T, what string, s *suite.Suite, secret, key []byte, r sealed.Record, want api.Errno) {
	t.Helper()
	got, err := sealed.Open(s, secret, key, r)
	if err != want || !entry.Same(got, entry.Entry{}) {
		t.Errorf("%s: Open tells %v, error %d, want %d alone", what, got, err, want)
	}
}

// decodes wants a record of Decode.
func decodes(t *testing.T, what string, b []byte, want sealed.Record) sealed.Record {
	t.Helper()
	got, err := sealed.Decode(b)
	if err != api.OK || !sameRecord(got, want) {
		t.Errorf("%s: Decode tells %v, error %d, want %v", what, got, err, want)
	}
	return got
}

// misshapen wants ErrForm of Decode, and nothing beside it.
func misshapen(t *testing.T, what string, b []byte) {
	t.Helper()
	got, err := sealed.Decode(b)
	if err != api.ErrForm || !sameRecord(got, sealed.Record{}) {
		t.Errorf("%s: Decode tells %v, error %d, want ErrForm alone", what, got, err)
	}
}

// held holds Right, Encode and Decode of a record against the document.
func held(t *testing.T, what string, r sealed.Record) {
	t.Helper()
	right := modelRight(r)
	if got := r.Right(); got != right {
		t.Errorf("%s: Right tells %v, want %v", what, got, right)
	}
	want := joined(r.Collection, r.Epoch, r.Writer, r.Count, r.Box)
	b, err := sealed.Encode(r)
	if !right {
		if err != api.ErrForm || len(b) != 0 {
			t.Errorf("%s: Encode tells %d bytes, error %d, want ErrForm alone", what, len(b), err)
		}
		// Cut to six bytes a number may be a right one again, and a count to two.
		if !outOfSix(r) && len(r.Box) < 1<<16 {
			misshapen(t, what, want)
		}
		return
	}
	if err != api.OK || !bytes.Equal(b, want) {
		t.Errorf("%s: Encode tells %x, error %d, want %x", what, b, err, want)
	}
	decodes(t, what, want, r)
}

// The document's examples.
func TestExamples(t *testing.T) {
	onEach(t, func(t *testing.T, s *suite.Suite) {
		secret, key := []byte("a secret"), s.Key()
		r := seals(t, "an entry", s, secret, key, place(), ordinary())
		opens(t, "that", s, secret, key, r, ordinary())
		closed(t, "another key", s, secret, s.Key(), r, api.ErrOpen)
		r.Collection++
		closed(t, "another collection", s, secret, key, r, api.ErrOpen)
	})
}

// P15.1 to P15.3: what another program told of the same.
func TestByHand(t *testing.T) {
	s, secret, key := suite.Real(nil), []byte("a secret"), make([]byte, keySize)
	for i := range key {
		key[i] = byte(i)
	}
	want := place()
	want.Box = unhex(t, "eff8b380bc8de5e10668e5e17e6631405060a9b7e2dfbb607eeaf3b8195b0ac3d7af44cd4552bccf7e146a0384d8d4025df53cf00938199fdcaf9dde08a7f4b1"+
		"5c95e2d77f1d6415b0caef6229d6046ad0bed66e8c6370018bfadc2ea73204241b53fa680ee9d12d6d1b89743477387d943e09826261084f6ae48bd7b9fa1fcc"+
		"db4ee5ddf73dcbeb4075c72b2325d672")
	got := seals(t, "by hand", s, secret, key, place(), ordinary())
	if !bytes.Equal(got.Box, want.Box) {
		t.Errorf("box %x, want %x", got.Box, want.Box)
	}
	opens(t, "by hand", s, secret, key, want, ordinary())
	b, e := sealed.Encode(want)
	front := unhex(t, "0000000000050000000000010000000000020000000000070090")
	if e != api.OK || !bytes.Equal(b, append(front, want.Box...)) {
		t.Errorf("bytes %x, error %d", b, e)
	}
	decodes(t, "by hand", b, want)
}

// P15.1: each number of a record at both sides of its bounds, and far from them, with boxes at theirs.
func TestRecordNumbers(t *testing.T) {
	for _, n := range numbers {
		for _, value := range n.some() {
			for _, size := range []int{0, leastBox - 1, leastBox, 144, mostBox, mostBox + 1} {
				r := place()
				*n.of(&r) = value
				r.Box = pattern(size, value)
				held(t, fmt.Sprintf("%s %d, box of %d", n.name, value, size), r)
			}
		}
	}
}

// P15.1: several numbers at once, each at its bounds or past them.
func TestRecordSeveralNumbers(t *testing.T) {
	at := func(n number) []int { return []int{n.least - 1, n.least, n.most, n.most + 1} }
	for _, collection := range at(numbers[0]) {
		for _, epoch := range at(numbers[1]) {
			for _, writer := range at(numbers[2]) {
				for _, count := range at(numbers[3]) {
					for _, size := range []int{leastBox - 1, leastBox, mostBox, mostBox + 1} {
						held(t, fmt.Sprint(collection, epoch, writer, count, size), sealed.Record{Collection: collection, Epoch: epoch, Writer: writer, Count: count, Box: pattern(size, 1)})
					}
				}
			}
		}
	}
}

// P15.1: boxes of each length, and of nil.
func TestRecordBoxes(t *testing.T) {
	r := place()
	held(t, "nil", r)
	for size := range mostBox + 40 {
		r.Box = pattern(size, size)
		held(t, fmt.Sprint("box of ", size), r)
	}
	for _, size := range []int{4095, 4096, 4097, 1<<16 - 1, 1 << 16, 1<<16 + leastBox, 1<<16 + mostBox, 1 << 20} {
		r.Box = pattern(size, size)
		held(t, fmt.Sprint("box of ", size), r)
	}
	// What stands in spare room is no part of a box.
	r.Box = pattern(leastBox, 1)[:leastBox-1]
	held(t, "spare room", r)
	held(t, "nothing", sealed.Record{})
}

// P15.1: the bytes of a record, one by one.
func TestBytesByHand(t *testing.T) {
	box := pattern(leastBox, 9)
	for _, at := range []struct {
		r     sealed.Record
		front string
	}{
		{sealed.Record{Collection: 1, Epoch: 0, Writer: 1, Count: 1}, "000000000001000000000000000000000001000000000001"},
		{sealed.Record{Collection: mostNumber, Epoch: 16, Writer: 16, Count: mostNumber}, "010000000000000000000010000000000010010000000000"},
		{sealed.Record{Collection: 0x0102030405, Epoch: 2, Writer: 3, Count: 0xa9b8c7d6e5}, "00010203040500000000000200000000000300a9b8c7d6e5"},
	} {
		at.r.Box = box
		want := slices.Concat(unhex(t, at.front), []byte{0, leastBox}, box)
		if b, e := sealed.Encode(at.r); e != api.OK || !bytes.Equal(b, want) {
			t.Errorf("%s: %x, error %d", at.front, b, e)
		}
		decodes(t, at.front, want, at.r)
	}
}

// P15.1: bytes that are cut off anywhere, at the end or at the beginning, and that have anything behind or ahead of them.
func TestDecodeCutAndLonger(t *testing.T) {
	for _, size := range []int{leastBox, leastBox + 1, 144, mostBox - 1, mostBox} {
		r := place()
		r.Box = pattern(size, 1)
		b, e := sealed.Encode(r)
		if e != api.OK {
			t.Fatal(e)
		}
		for n := range b {
			misshapen(t, fmt.Sprint("its first ", n), b[:n])
			misshapen(t, fmt.Sprint("without its first ", n+1), b[n+1:])
		}
		for _, more := range [][]byte{{0}, {1}, {255}, {0, 0}, pattern(6, 1), counted(pattern(80, 1)), b} {
			misshapen(t, fmt.Sprintf("%d behind", len(more)), slices.Concat(b, more))
			misshapen(t, fmt.Sprintf("%d ahead", len(more)), slices.Concat(more, b))
		}
		decodes(t, "whole", b, r)
		decodes(t, "with spare room", roomy(b), r)
	}
	misshapen(t, "nil", nil)
	misshapen(t, "empty", []byte{})
}

// P15.1: a box's count that isn't its own, though the bytes are as many.
func TestDecodeOtherCounts(t *testing.T) {
	front := frontOf(place())
	for _, size := range []int{leastBox - 1, leastBox, 144, mostBox, mostBox + 1} {
		for count := range 1 << 16 {
			if count != size {
				misshapen(t, fmt.Sprintf("%d bytes counted as %d", size, count), slices.Concat(front, []byte{byte(count >> 8), byte(count)}, pattern(size, 1)))
			}
		}
	}
}

// modelDecode is the record whose bytes b are, as the document tells it.
func modelDecode(b []byte) (sealed.Record, bool) {
	if len(b) < 26 || int(b[24])<<8|int(b[25]) != len(b)-26 {
		return sealed.Record{}, false
	}
	at := func(i int) int {
		return int(binary.BigEndian.Uint64(append([]byte{0, 0}, b[6*i:6*i+6]...)))
	}
	r := sealed.Record{Collection: at(0), Epoch: at(1), Writer: at(2), Count: at(3), Box: b[26:]}
	return r, modelRight(r)
}

// consistent holds Decode of any bytes against the document.
func consistent(t *testing.T, b []byte) {
	t.Helper()
	want, ok := modelDecode(b)
	if !ok {
		misshapen(t, fmt.Sprintf("%x", b), b)
		return
	}
	again, e := sealed.Encode(decodes(t, fmt.Sprintf("%x", b), b, want))
	if e != api.OK || !bytes.Equal(again, b) {
		t.Errorf("%x is encoded as %x, error %d", b, again, e)
	}
}

// P15.1: bytes of which one is another one, and bytes by chance.
func TestDecodeAnyBytes(t *testing.T) {
	r := place()
	r.Box = pattern(leastBox, 1)
	b, _ := sealed.Encode(r)
	for i := range b {
		for x := range 256 {
			other := bytes.Clone(b)
			other[i] = byte(x)
			consistent(t, other)
		}
	}
	random := rand.New(rand.NewSource(15))
	for range 20000 {
		x := make([]byte, random.Intn(200))
		random.Read(x)
		consistent(t, x)
		consistent(t, mistaken(random))
	}
}

// mistaken is the bytes of a record whose numbers and box are often, but not always, within their bounds.
func mistaken(random *rand.Rand) []byte {
	near := func(n number) int {
		return []int{n.least, n.most, n.least + random.Intn(n.most-n.least+1), n.most + 1, max(n.least-1, 0), random.Intn(1 << 48)}[random.Intn(20)%6]
	}
	size := []int{leastBox, mostBox, leastBox + random.Intn(200), leastBox - 1, mostBox + 1}[random.Intn(5)]
	b := joined(near(numbers[0]), near(numbers[1]), near(numbers[2]), near(numbers[3]), pattern(size, random.Intn(256)))
	if random.Intn(8) == 0 {
		b = b[:random.Intn(len(b))]
	}
	return b
}

func FuzzDecode(f *testing.F) {
	r := place()
	r.Box = pattern(leastBox, 1)
	b, _ := sealed.Encode(r)
	f.Add(b)
	f.Add(b[:len(b)-1])
	f.Add([]byte(nil))
	f.Fuzz(func(t *testing.T, b []byte) { consistent(t, b) })
}

// P15.2, P15.3: entries of each kind and size: what is in their boxes, and that they are opened to themselves.
func TestSealAndOpen(t *testing.T) {
	onEach(t, func(t *testing.T, s *suite.Suite) {
		secret, key := []byte("a secret"), s.Key()
		for i, e := range someRight() {
			what := fmt.Sprintf("entry %d, kind %d", i, e.Kind)
			r := seals(t, what, s, secret, key, place(), e)
			want := plainOf(s, secret, 5, e)
			if len(r.Box) != len(want)+tagSize {
				t.Errorf("%s: box of %d bytes, want %d", what, len(r.Box), len(want)+tagSize)
			}
			plain, err := s.Open(key, nonceOf(r), frontOf(r), r.Box)
			if err != api.OK || !bytes.Equal(plain, want) {
				t.Errorf("%s: in the box is %x, error %d, want %x", what, plain, err, want)
			}
			opens(t, what, s, secret, key, r, e)
			opens(t, what+", again", s, secret, key, r, e)
		}
	})
}

// P15.2, P15.3: each number of a record that it may have, and any secret.
func TestSealInEachPlace(t *testing.T) {
	onEach(t, func(t *testing.T, s *suite.Suite) {
		key := s.Key()
		for i, secret := range secrets {
			for _, n := range numbers {
				for value := range 18 {
					sealInPlace(t, s, secret, key, n, value, ofEachKind()[i%5])
				}
				for _, value := range n.some() {
					sealInPlace(t, s, secret, key, n, value, ofEachKind()[i%5])
				}
			}
		}
	})
}

// sealInPlace seals an entry with one number changed, if it is one that may be, and opens it.
func sealInPlace(t *testing.T, s *suite.Suite, secret, key []byte, n number, value int, e entry.Entry) {
	t.Helper()
	r := place()
	*n.of(&r) = value
	what := fmt.Sprintf("%s %d, secret of %d", n.name, value, len(secret))
	if n.name == "writer" && n.has(value) {
		e.Writer = value
	}
	if !n.has(value) {
		want := api.ErrRange
		if n.name == "writer" {
			want = api.ErrOther
		}
		unsealed(t, what, s, secret, key, r, e, want)
		return
	}
	r = seals(t, what, s, secret, key, r, e)
	plain, err := s.Open(key, nonceOf(r), frontOf(r), r.Box)
	if err != api.OK || !bytes.Equal(plain, plainOf(s, secret, r.Collection, e)) {
		t.Errorf("%s: in the box is %x, error %d", what, plain, err)
	}
	opens(t, what, s, secret, key, r, e)
}

// P15.2: boxes of a real suite are layer 5's, with marks by the library.
func TestSealByBoxes(t *testing.T) {
	code := func(key, text []byte) []byte {
		h := hmac.New(sha256.New, key)
		h.Write(text)
		return h.Sum(nil)
	}
	s := suite.Real(nil)
	for i, e := range someRight() {
		secret, key := secrets[i%len(secrets)], pattern(keySize, i)
		body := bodyOf(e)
		mark := code(code(secret, append([]byte("writer"), inSix(2)...)), joined(5, body))
		want, _ := aead.Seal(key, nonceOf(place()), frontOf(place()), padded(joined(body, mark)))
		r := seals(t, "real", s, secret, key, place(), e)
		if !bytes.Equal(r.Box, want) {
			t.Errorf("entry %d: box %x, want %x", i, r.Box, want)
		}
	}
	counts(t, "no keys are drawn", s, 0)
}

// P15.2: plain texts that just fit their buckets, and that just don't.
func TestSealBuckets(t *testing.T) {
	// Beside a put's name and value there are 18 bytes of numbers, 4 of counts, and 36 of both texts' counts and the mark; of a drop 2 fewer.
	type sized struct {
		e    entry.Entry
		want int
	}
	all := []sized{
		{put(pattern(1, 1), pattern(3, 1)), 64}, {put(pattern(1, 1), pattern(4, 1)), 128}, {put(pattern(4, 1), nil), 64}, {put(pattern(5, 1), nil), 128},
		{put(pattern(1, 1), pattern(67, 1)), 128}, {put(pattern(1, 1), pattern(68, 1)), 256}, {put(pattern(64, 1), pattern(4, 1)), 128}, {put(pattern(64, 1), pattern(5, 1)), 256},
		{put(pattern(1, 1), pattern(195, 1)), 256}, {put(pattern(1, 1), pattern(196, 1)), 512},
		{put(pattern(1, 1), pattern(451, 1)), 512}, {put(pattern(1, 1), pattern(452, 1)), 1024}, {put(pattern(64, 1), pattern(512, 1)), 1024},
		{drop(pattern(6, 1)), 64}, {drop(pattern(7, 1)), 128}, {drop(pattern(64, 1)), 128},
		{grant(16, 7), 128}, {revoke(16), 64},
		{rotate(1, 0), 128}, {rotate(1, 1), 128}, {rotate(1, 2), 256}, {rotate(1, 3), 256}, {rotate(1, 4), 512}, {rotate(1, 7), 512}, {rotate(1, 8), 1024}, {rotate(1, 16), 1024},
	}
	onEach(t, func(t *testing.T, s *suite.Suite) {
		for i, at := range all {
			what := fmt.Sprint("place ", i)
			r := seals(t, what, s, nil, pattern(keySize, 1), place(), at.e)
			if len(r.Box) != at.want+tagSize {
				t.Errorf("%s: box of %d bytes, want %d", what, len(r.Box), at.want+tagSize)
			}
			opens(t, what, s, nil, pattern(keySize, 1), r, at.e)
		}
	})
}

// P15.2: values of which the lengths differ have boxes that are as long, and by signs the same ones.
func TestBoxesTellLittle(t *testing.T) {
	sealedOf := func(name, value string) []byte {
		return seals(t, name+value, suite.Signs(), []byte("s"), pattern(keySize, 1), place(), put([]byte(name), []byte(value))).Box
	}
	one := sealedOf("name", "abc")
	for _, other := range [][]byte{sealedOf("name", "abcde"), sealedOf("n", "xyz abc"), sealedOf("eman", "b")} {
		if !bytes.Equal(one, other) {
			t.Errorf("%x and %x", one, other)
		}
	}
}

// P15.2: the box that a record has plays no part.
func TestSealOfAnyBox(t *testing.T) {
	s, secret, key := suite.Real(nil), []byte("a secret"), pattern(keySize, 1)
	want := seals(t, "no box", s, secret, key, place(), ordinary())
	for _, size := range []int{0, 1, 3, leastBox - 1, leastBox, 144, mostBox, mostBox + 1, 1 << 16, 100000} {
		r := place()
		r.Box = pattern(size, 1)
		if got := seals(t, fmt.Sprint("box of ", size), s, secret, key, r, ordinary()); !sameRecord(got, want) {
			t.Errorf("with a box of %d: %v", size, got)
		}
		if !bytes.Equal(r.Box, pattern(size, 1)) {
			t.Errorf("box of %d is changed", size)
		}
		r.Collection = 0
		unsealed(t, fmt.Sprint("box of ", size), s, secret, key, r, ordinary(), api.ErrRange)
	}
	got := seals(t, "its own box", s, secret, key, want, ordinary())
	if !sameRecord(got, want) {
		t.Errorf("with its own box: %v", got)
	}
}

// P15.2: entries that aren't right.
func TestSealWrongEntries(t *testing.T) {
	onEach(t, func(t *testing.T, s *suite.Suite) {
		for i, e := range someWrong() {
			r := place()
			unsealed(t, fmt.Sprint("entry ", i), s, nil, pattern(keySize, 1), r, e, api.ErrForm)
			r.Writer = e.Writer
			unsealed(t, fmt.Sprint("entry ", i, ", its writer"), s, nil, pattern(keySize, 1), r, e, api.ErrForm)
		}
		counts(t, "nothing is asked", s, 0)
	})
}

// P15.2: entries of other writers than the record's.
func TestSealOtherWriters(t *testing.T) {
	onEach(t, func(t *testing.T, s *suite.Suite) {
		for _, e := range ofEachKind() {
			for writer := 1; writer <= mostWho; writer++ {
				for _, of := range append([]int{3, 4, 5, 6, 7, 8, 9, 10, 11, 12, 13, 14}, numbers[2].some()...) {
					e.Writer = writer
					r := place()
					r.Writer = of
					if of != writer {
						unsealed(t, fmt.Sprintf("by %d, of %d", writer, of), s, nil, pattern(keySize, 1), r, e, api.ErrOther)
					}
				}
			}
		}
		counts(t, "nothing is asked", s, 0)
	})
}

// P15.2, P15.3: keys of other sizes.
func TestKeySizes(t *testing.T) {
	onEach(t, func(t *testing.T, s *suite.Suite) {
		key := pattern(keySize, 1)
		r := seals(t, "key", s, nil, roomy(key), place(), ordinary())
		before := s.Count()
		for _, n := range noKeySizes {
			unsealed(t, fmt.Sprint("key of ", n), s, nil, pattern(n, 1), place(), ordinary(), api.ErrKey)
			closed(t, fmt.Sprint("key of ", n), s, nil, pattern(n, 1), r, api.ErrKey)
		}
		for what, wrong := range map[string][]byte{"nil": nil, "spare room": key[:keySize-1]} {
			unsealed(t, what, s, nil, wrong, place(), ordinary(), api.ErrKey)
			closed(t, what, s, nil, wrong, r, api.ErrKey)
		}
		counts(t, "nothing is asked", s, before)
		opens(t, "key", s, nil, roomy(key), r, ordinary())
	})
}

// P15.2: each of a record's numbers past its bounds.
func TestSealWrongNumbers(t *testing.T) {
	onEach(t, func(t *testing.T, s *suite.Suite) {
		for _, n := range numbers {
			for _, value := range n.wrong() {
				r := place()
				*n.of(&r) = value
				want := api.ErrRange
				if n.name == "writer" {
					want = api.ErrOther
				}
				for _, e := range ofEachKind() {
					unsealed(t, fmt.Sprintf("%s %d", n.name, value), s, nil, pattern(keySize, 1), r, e, want)
				}
			}
		}
		counts(t, "nothing is asked", s, 0)
	})
}

// P15.2, P15.4: of several errors of Seal the one that is named first, and nothing is asked.
func TestSealErrorsInOrder(t *testing.T) {
	onEach(t, func(t *testing.T, s *suite.Suite) {
		for wrong := 1; wrong < 16; wrong++ {
			for _, n := range []int{0, 1, 3} {
				e, r, key, want := ordinary(), place(), pattern(keySize, 1), api.OK
				if wrong&8 != 0 {
					*numbers[n].of(&r) = numbers[n].most + 1
					want = api.ErrRange
				}
				if wrong&4 != 0 {
					key = key[1:]
					want = api.ErrKey
				}
				if wrong&2 != 0 {
					r.Writer = 3
					want = api.ErrOther
				}
				if wrong&1 != 0 {
					e.Name = nil
					want = api.ErrForm
				}
				unsealed(t, fmt.Sprintf("wrong %b, %s", wrong, numbers[n].name), s, nil, key, r, e, want)
			}
		}
		counts(t, "nothing is asked", s, 0)
	})
}

// P15.3: a box is opened by nothing but its own key.
func TestOpenWithOtherKeys(t *testing.T) {
	onEach(t, func(t *testing.T, s *suite.Suite) {
		secret, key := []byte("a secret"), pattern(keySize, 1)
		r := seals(t, "key", s, secret, key, place(), ordinary())
		for bit := range 8 * keySize {
			other := bytes.Clone(key)
			other[bit/8] ^= 1 << (bit % 8)
			closed(t, fmt.Sprint("bit ", bit), s, secret, other, r, api.ErrOpen)
		}
		closed(t, "noughts", s, secret, make([]byte, keySize), r, api.ErrOpen)
		closed(t, "the writer's key", s, secret, writerKey(s, secret, 2), r, api.ErrOpen)
		opens(t, "key", s, secret, key, r, ordinary())
	})
}

// P15.3: with another secret the mark is another one.
func TestOpenWithOtherSecrets(t *testing.T) {
	onEach(t, func(t *testing.T, s *suite.Suite) {
		key := pattern(keySize, 1)
		for _, e := range ofEachKind() {
			r := seals(t, "secret", s, []byte("a secret"), key, place(), e)
			for _, other := range []string{"", "a secreu", "a secre", "a secret ", "A secret", "b secret", "a secret\x01"} {
				closed(t, fmt.Sprintf("%q", other), s, []byte(other), key, r, api.ErrTag)
			}
			opens(t, "secret", s, []byte("a secret"), key, r, e)
		}
	})
}

// P15.3: a box is opened in its own place alone.
func TestOpenInOtherPlaces(t *testing.T) {
	onEach(t, func(t *testing.T, s *suite.Suite) {
		secret, key := []byte("a secret"), pattern(keySize, 1)
		r := seals(t, "place", s, secret, key, place(), ordinary())
		for _, n := range numbers {
			own := *n.of(&r)
			for _, value := range append([]int{3, 4, 5, 6, 7, 8, 9, 10, 11, 12, 13, 14}, n.some()...) {
				x := r
				*n.of(&x) = value
				want := api.ErrOpen
				if !n.has(value) {
					want = api.ErrForm
				}
				if value != own {
					closed(t, fmt.Sprintf("%s %d", n.name, value), s, secret, key, x, want)
				}
			}
		}
		opens(t, "place", s, secret, key, r, ordinary())
	})
}

// P15.3: a box of which a bit is turned, or that is longer, shorter, or any other bytes.
func TestOpenOfChangedBoxes(t *testing.T) {
	onEach(t, func(t *testing.T, s *suite.Suite) {
		secret, key := []byte("a secret"), pattern(keySize, 1)
		r := seals(t, "box", s, secret, key, place(), ordinary())
		with := func(what string, box []byte) {
			t.Helper()
			x := r
			x.Box = box
			want := api.ErrOpen
			if len(box) < leastBox || len(box) > mostBox {
				want = api.ErrForm
			}
			closed(t, what, s, secret, key, x, want)
		}
		for bit := range 8 * len(r.Box) {
			other := bytes.Clone(r.Box)
			other[bit/8] ^= 1 << (bit % 8)
			with(fmt.Sprint("bit ", bit), other)
		}
		for n := range r.Box {
			with(fmt.Sprint("its first ", n), r.Box[:n])
			with(fmt.Sprint("without its first ", n+1), r.Box[n+1:])
		}
		for _, n := range []int{0, leastBox - 1, leastBox, len(r.Box), mostBox, mostBox + 1, 100000} {
			with(fmt.Sprint("noughts ", n), make([]byte, n))
			with(fmt.Sprint("pattern ", n), pattern(n, 1))
		}
		with("nil", nil)
		with("longer", append(bytes.Clone(r.Box), 0))
		with("twice", append(bytes.Clone(r.Box), r.Box...))
		other := seals(t, "another entry", s, secret, key, sealed.Record{Collection: 5, Epoch: 1, Writer: 2, Count: 8}, ordinary())
		with("that of another count", other.Box)
		opens(t, "box", s, secret, key, r, ordinary())
	})
}

// P15.3: plain texts that are no buckets.
func TestOpenOfNoBuckets(t *testing.T) {
	onEach(t, func(t *testing.T, s *suite.Suite) {
		secret, key := []byte("a secret"), pattern(keySize, 1)
		body := bodyOf(ordinary())
		mark := markOf(s, secret, 5, 2, body)
		both := joined(body, mark)
		before := s.Count()
		boxes := 0
		with := func(what string, plain []byte) {
			t.Helper()
			closed(t, what, s, secret, key, withPlain(t, s, key, place(), plain), api.ErrForm)
			boxes++
		}
		full := padded(both)
		for n := 64; n <= 2048; n++ {
			if n != len(full) && n >= len(both)+2 {
				with(fmt.Sprint("in a bucket of ", n), sized(both, n))
			}
			if n < len(full) {
				with(fmt.Sprint("its first ", n), full[:n])
			}
		}
		for i := len(both) + 2; i < len(full); i++ {
			behind := bytes.Clone(full)
			behind[i] = 1
			with(fmt.Sprint("no nought at ", i), behind)
		}
		for count := range 200 {
			if count != len(both) {
				other := bytes.Clone(full)
				other[1] = byte(count)
				with(fmt.Sprint("counted as ", count), other)
			}
		}
		with("noughts", make([]byte, 64))
		with("no count", append(bytes.Clone(both), make([]byte, 128-len(both))...))
		with("a greatest count", append([]byte{255, 255}, make([]byte, 2046)...))
		by := 0
		if before > 0 {
			by = boxes
		}
		counts(t, "nothing but the boxes is asked", s, before+by)
		opens(t, "as it must be", s, secret, key, withPlain(t, s, key, place(), full), ordinary())
	})
}

// wrongTexts are what may stand in a bucket, but isn't two texts, the first of which is an entry's bytes.
func wrongTexts(body, mark []byte) map[string][]byte {
	both := joined(body, mark)
	all := map[string][]byte{
		"nothing":                   nil,
		"one byte":                  {0},
		"one empty text":            joined([]byte{}),
		"two empty texts":           joined([]byte{}, []byte{}),
		"the entry alone":           joined(body),
		"the mark alone":            joined(mark),
		"the mark first":            joined(mark, body),
		"an empty text first":       joined([]byte{}, body, mark),
		"no entry but its mark":     joined([]byte{}, mark),
		"three texts":               joined(body, mark, mark),
		"three texts, one empty":    joined(body, mark, []byte{}),
		"a nought behind":           append(bytes.Clone(both), 0),
		"a byte behind":             append(bytes.Clone(both), 1),
		"the entry without a count": append(bytes.Clone(body), counted(mark)...),
		"the mark without a count":  append(counted(body), mark...),
		"a number ahead":            joined(5, body, mark),
		"a number between":          joined(body, 5, mark),
		"an entry and a byte":       joined(append(bytes.Clone(body), 0), mark),
		"the entry twice in one":    joined(append(bytes.Clone(body), body...), mark),
		"a first count of 4096":     append([]byte{16, 0}, both[2:]...),
		"a first count of 65535":    append([]byte{255, 255}, both[2:]...),
	}
	for n := range both {
		all[fmt.Sprint("its first ", n)] = both[:n]
	}
	for n := range body {
		all[fmt.Sprint("of the entry the first ", n)] = joined(body[:n], mark)
		// Without its kind a put may be the bytes of another writer's drop.
		if _, e := entry.Decode(body[n+1:]); e != api.OK {
			all[fmt.Sprint("of the entry without the first ", n+1)] = joined(body[n+1:], mark)
		}
	}
	return all
}

// P15.3: buckets that have no two texts, or whose first text is no entry; the mark is right where it may be.
func TestOpenOfNoEntries(t *testing.T) {
	onEach(t, func(t *testing.T, s *suite.Suite) {
		secret, key := []byte("a secret"), pattern(keySize, 1)
		for _, e := range ofEachKind() {
			body := bodyOf(e)
			mark := markOf(s, secret, 5, 2, body)
			for what, text := range wrongTexts(body, mark) {
				closed(t, what, s, secret, key, withPlain(t, s, key, place(), padded(text)), api.ErrForm)
			}
			opens(t, "as it must be", s, secret, key, withPlain(t, s, key, place(), padded(joined(body, mark))), e)
		}
		for i, e := range someWrong() {
			body := bodyOf(e)
			if len(body) > 1900 || e.Seq < 0 || e.Seq >= 1<<48 || e.Writer < 0 || e.Writer >= 1<<48 || e.Kind < 0 || e.Kind >= 1<<48 || e.Kind == 1 && e.Rights != 0 {
				continue
			}
			text := joined(body, markOf(s, secret, 5, 2, body))
			closed(t, fmt.Sprint("wrong entry ", i), s, secret, key, withPlain(t, s, key, place(), padded(text)), api.ErrForm)
		}
	})
}

// P15.3: entries of another writer than the record's, whosever the mark is.
func TestOpenOfOtherWriters(t *testing.T) {
	onEach(t, func(t *testing.T, s *suite.Suite) {
		secret, key := []byte("a secret"), pattern(keySize, 1)
		for _, e := range ofEachKind() {
			for writer := 1; writer <= mostWho; writer++ {
				if writer == 2 {
					continue
				}
				e.Writer = writer
				body := bodyOf(e)
				for what, mark := range map[string][]byte{"its own": markOf(s, secret, 5, writer, body), "the record's": markOf(s, secret, 5, 2, body), "no": nil, "another": pattern(keySize, 1)} {
					closed(t, fmt.Sprintf("by %d, %s mark", writer, what), s, secret, key, withPlain(t, s, key, place(), padded(joined(body, mark))), api.ErrOther)
				}
			}
		}
	})
}

// P15.3: a put without its kind is the bytes of a drop, and so of an entry, though not of one that was meant.
func TestOpenOfPutWithoutKind(t *testing.T) {
	onEach(t, func(t *testing.T, s *suite.Suite) {
		secret, key := []byte("a secret"), pattern(keySize, 1)
		for seq, want := range map[int]api.Errno{1: api.ErrOther, 2: api.OK, 9: api.ErrOther, mostWho: api.ErrOther, mostWho + 1: api.ErrForm} {
			e := ordinary()
			e.Seq = seq
			body := bodyOf(e)[6:]
			r := withPlain(t, s, key, place(), padded(joined(body, markOf(s, secret, 5, 2, body))))
			if want != api.OK {
				closed(t, fmt.Sprint("seq ", seq), s, secret, key, r, want)
				continue
			}
			drop := entry.Entry{Kind: 2, Writer: 2, Seq: 0x00046e616d65, Name: []byte("value")}
			opens(t, fmt.Sprint("seq ", seq), s, secret, key, r, drop)
		}
	})
}

// P15.3: second texts that aren't the mark.
func TestOpenOfOtherMarks(t *testing.T) {
	onEach(t, func(t *testing.T, s *suite.Suite) {
		secret, key := []byte("a secret"), pattern(keySize, 1)
		body, writer := bodyOf(ordinary()), writerKey(s, secret, 2)
		mark := s.Code(writer, joined(5, body))
		with := func(what string, other []byte) {
			t.Helper()
			closed(t, what, s, secret, key, withPlain(t, s, key, place(), padded(joined(body, other))), api.ErrTag)
		}
		for bit := range 8 * len(mark) {
			other := bytes.Clone(mark)
			other[bit/8] ^= 1 << (bit % 8)
			with(fmt.Sprint("bit ", bit), other)
		}
		for n := range mark {
			with(fmt.Sprint("its first ", n), mark[:n])
			with(fmt.Sprint("its last ", n), mark[len(mark)-n:])
		}
		for n := 1; n < 1500; n += 37 {
			with(fmt.Sprint("longer by ", n), append(bytes.Clone(mark), make([]byte, n)...))
		}
		with("noughts", make([]byte, 32))
		with("of another collection", markOf(s, secret, 6, 2, body))
		with("of another writer", markOf(s, secret, 5, 3, body))
		with("of another secret", markOf(s, []byte("b"), 5, 2, body))
		with("of another entry", markOf(s, secret, 5, 2, bodyOf(put([]byte("name"), []byte("valuf")))))
		with("of the entry alone", s.Code(writer, body))
		with("of the entry's text alone", s.Code(writer, joined(body)))
		with("of the collection and the entry without its count", s.Code(writer, append(inSix(5), body...)))
		with("of the entry and the collection", s.Code(writer, joined(body, 5)))
		with("of the front and the entry", s.Code(writer, append(frontOf(place()), counted(body)...)))
		with("under the member's key", s.Code(s.Code(secret, append([]byte("member"), inSix(2)...)), joined(5, body)))
		with("under the secret", s.Code(secret, joined(5, body)))
		with("under the epoch's key", s.Code(key, joined(5, body)))
		with("a sum", s.Sum(joined(5, body)))
		opens(t, "as it must be", s, secret, key, withPlain(t, s, key, place(), padded(joined(body, mark))), ordinary())
	})
}

// P15.3: what is told of the greatest and the least box that may be.
func TestOpenOfBoxBounds(t *testing.T) {
	onEach(t, func(t *testing.T, s *suite.Suite) {
		secret, key := []byte("a secret"), pattern(keySize, 1)
		body := bodyOf(ordinary())
		greatest := sized(joined(body, pattern(2046-len(body)-4, 1)), 2048)
		r := withPlain(t, s, key, place(), greatest)
		if len(r.Box) != mostBox {
			t.Fatal(len(r.Box))
		}
		closed(t, "greatest", s, secret, key, r, api.ErrTag)
		closed(t, "past it", s, secret, key, withPlain(t, s, key, place(), append(greatest, 0)), api.ErrForm)
		r = seals(t, "least", s, secret, key, place(), put([]byte("a"), nil))
		if len(r.Box) != leastBox {
			t.Fatal(len(r.Box))
		}
		opens(t, "least", s, secret, key, r, put([]byte("a"), nil))
		closed(t, "below it", s, secret, key, withPlain(t, s, key, place(), make([]byte, 63)), api.ErrForm)
	})
}

// P15.3: records that aren't right, whatever else is wrong.
func TestOpenWrongRecords(t *testing.T) {
	onEach(t, func(t *testing.T, s *suite.Suite) {
		for _, n := range numbers {
			for _, value := range n.wrong() {
				for _, size := range []int{0, leastBox - 1, leastBox, mostBox, mostBox + 1} {
					for _, length := range []int{0, keySize - 1, keySize, keySize + 1} {
						r := place()
						r.Box = pattern(size, 1)
						*n.of(&r) = value
						closed(t, fmt.Sprintf("%s %d, box of %d, key of %d", n.name, value, size, length), s, nil, pattern(length, 1), r, api.ErrForm)
					}
				}
			}
		}
		closed(t, "nothing", s, nil, nil, sealed.Record{}, api.ErrForm)
		counts(t, "nothing is asked", s, 0)
	})
}

// P15.3: of several errors of Open the one that is named first.
func TestOpenErrorsInOrder(t *testing.T) {
	onEach(t, func(t *testing.T, s *suite.Suite) {
		secret, key := []byte("a secret"), pattern(keySize, 1)
		for wrong := 1; wrong < 64; wrong++ {
			e, mark, want := ordinary(), pattern(keySize, 3), api.OK
			if wrong&32 != 0 {
				want = api.ErrTag
			}
			if wrong&16 != 0 {
				e.Writer = 3
				want = api.ErrOther
			}
			if wrong&8 != 0 {
				e.Name = nil
				want = api.ErrForm
			}
			body := bodyOf(e)
			if wrong&32 == 0 {
				mark = markOf(s, secret, 5, 2, body)
			}
			r, with := withPlain(t, s, key, place(), padded(joined(body, mark))), key
			if wrong&4 != 0 {
				r.Epoch = 2
				want = api.ErrOpen
			}
			if wrong&2 != 0 {
				with = key[1:]
				want = api.ErrKey
			}
			if wrong&1 != 0 {
				r.Count = 0
				want = api.ErrForm
			}
			closed(t, fmt.Sprintf("wrong %b", wrong), s, secret, with, r, want)
		}
	})
}

// P15.4: Seal asks for the writer's key, the mark and the box, in this order: signs tell their numbers.
func TestSealAsksInOrder(t *testing.T) {
	for _, e := range someRight() {
		s, secret, key := suite.Signs(), []byte("a secret"), pattern(keySize, 1)
		r := seals(t, "first", s, secret, key, place(), e)
		counts(t, "Seal", s, 3)
		plain := plainOf(s, secret, 5, e)
		if !bytes.Equal(r.Box, boxOf(3, len(plain))) {
			t.Errorf("box %x", r.Box)
		}
		body := bodyOf(e)
		if writer := writerKey(s, secret, 2); !bytes.Equal(writer, signOf(1)) {
			t.Errorf("writer's key %x", writer)
		}
		if mark := markOf(s, secret, 5, 2, body); !bytes.Equal(mark, signOf(2)) {
			t.Errorf("mark %x", mark)
		}
		counts(t, "what was asked for is known", s, 3)
		// The same again has a new box, but nothing else that is new.
		again := seals(t, "again", s, secret, key, place(), e)
		if !bytes.Equal(again.Box, boxOf(4, len(plain))) {
			t.Errorf("box %x", again.Box)
		}
		counts(t, "Seal again", s, 4)
		opens(t, "first", s, secret, key, r, e)
		opens(t, "again", s, secret, key, again, e)
		counts(t, "Open of what is known", s, 4)
	}
}

// P15.4: Open asks for the writer's key and then the mark, when it comes to ErrTag.
func TestOpenAsksInOrder(t *testing.T) {
	key, secret := pattern(keySize, 1), []byte("a secret")
	for _, mark := range [][]byte{nil, {1}, signOf(2), pattern(keySize, 1), pattern(100, 1)} {
		s := suite.Signs()
		body := bodyOf(ordinary())
		r := withPlain(t, s, key, place(), padded(joined(body, mark)))
		closed(t, "another mark", s, secret, key, r, api.ErrTag)
		asked(t, s, secret, body)
	}
	// A mark that was boxed ahead of its making is found right, when it is made.
	s := suite.Signs()
	body := bodyOf(ordinary())
	r := withPlain(t, s, key, place(), padded(joined(body, signOf(3))))
	opens(t, "its mark", s, secret, key, r, ordinary())
	asked(t, s, secret, body)
}

// asked wants that behind a box the writer's key and then the mark are what the suite was asked for.
func asked(t *testing.T, s *suite.Suite, secret, body []byte) {
	t.Helper()
	counts(t, "Open", s, 3)
	if writer := writerKey(s, secret, 2); !bytes.Equal(writer, signOf(2)) {
		t.Errorf("writer's key %x", writer)
	}
	if mark := markOf(s, secret, 5, 2, body); !bytes.Equal(mark, signOf(3)) {
		t.Errorf("mark %x", mark)
	}
	counts(t, "what was asked for is known", s, 3)
}

// P15.4: nothing new is asked for, when an error is told ahead of ErrTag, and by what isn't Seal or Open.
func TestAsksNothingElse(t *testing.T) {
	s, secret, key := suite.Signs(), []byte("a secret"), pattern(keySize, 1)
	e := ordinary()
	other := e
	other.Writer = 3
	mark := pattern(keySize, 1)
	good := withPlain(t, s, key, place(), padded(joined(bodyOf(e), mark)))
	others := withPlain(t, s, key, place(), padded(joined(bodyOf(other), mark)))
	noEntry := withPlain(t, s, key, place(), padded(joined(mark, mark)))
	noTexts := withPlain(t, s, key, place(), padded(joined(bodyOf(e))))
	noBucket := withPlain(t, s, key, place(), make([]byte, 100))
	counts(t, "boxes", s, 5)
	elsewhere := good
	elsewhere.Count++
	wrong := good
	wrong.Epoch = mostEpoch + 1
	closed(t, "wrong record", s, secret, key, wrong, api.ErrForm)
	closed(t, "wrong key", s, secret, key[1:], good, api.ErrKey)
	closed(t, "another key", s, secret, make([]byte, keySize), good, api.ErrOpen)
	closed(t, "another place", s, secret, key, elsewhere, api.ErrOpen)
	closed(t, "no bucket", s, secret, key, noBucket, api.ErrForm)
	closed(t, "no texts", s, secret, key, noTexts, api.ErrForm)
	closed(t, "no entry", s, secret, key, noEntry, api.ErrForm)
	closed(t, "another writer", s, secret, key, others, api.ErrOther)
	counts(t, "errors of Open", s, 5)
	unsealed(t, "wrong entry", s, secret, key, place(), entry.Entry{}, api.ErrForm)
	unsealed(t, "another writer", s, secret, key, place(), other, api.ErrOther)
	unsealed(t, "wrong key", s, secret, key[1:], place(), e, api.ErrKey)
	unsealed(t, "wrong number", s, secret, key, wrong, e, api.ErrRange)
	counts(t, "errors of Seal", s, 5)
	// The first code is made behind all that.
	if writer := writerKey(s, secret, 2); !bytes.Equal(writer, signOf(6)) {
		t.Errorf("writer's key %x", writer)
	}
	closed(t, "another mark", s, secret, key, good, api.ErrTag)
	counts(t, "ErrTag", s, 7)
}

// P15.4: a real suite draws no keys.
func TestDrawsNoKeys(t *testing.T) {
	s := suite.Real([]byte("a seed"))
	r := seals(t, "real", s, nil, pattern(keySize, 1), place(), ordinary())
	opens(t, "real", s, nil, pattern(keySize, 1), r, ordinary())
	closed(t, "real", s, []byte("another"), pattern(keySize, 1), r, api.ErrTag)
	counts(t, "real", s, 0)
}

// What is handed in stays as it is, its spare room too, whether it is refused or not.
func TestArgumentsStay(t *testing.T) {
	onEach(t, func(t *testing.T, s *suite.Suite) {
		for _, e := range append(ofEachKind(), someWrong()...) {
			for _, length := range []int{keySize, keySize - 1} {
				e, secret, key := deep(e), roomy([]byte("a secret")), roomy(pattern(length, 1))
				r := place()
				r.Box = roomy(pattern(leastBox, 1))
				was, wasShown := slices.Concat(secret[:cap(secret)], key[:cap(key)], r.Box[:cap(r.Box)]), shown(e)
				sealed.Seal(s, secret, key, r, e)
				sealed.Open(s, secret, key, r)
				sealed.Encode(r)
				sealed.Decode(r.Box)
				r.Right()
				if now := slices.Concat(secret[:cap(secret)], key[:cap(key)], r.Box[:cap(r.Box)]); !bytes.Equal(now, was) || shown(e) != wasShown {
					t.Errorf("kind %d: what was handed in is changed", e.Kind)
				}
			}
		}
		opened := seals(t, "stays", s, []byte("a secret"), pattern(keySize, 1), place(), ordinary())
		opened.Box = roomy(opened.Box)
		was := bytes.Clone(opened.Box[:cap(opened.Box)])
		opens(t, "stays", s, []byte("a secret"), pattern(keySize, 1), opened, ordinary())
		b, _ := sealed.Encode(opened)
		b = roomy(b)
		bytesWere := bytes.Clone(b[:cap(b)])
		decodes(t, "stays", b, opened)
		if !bytes.Equal(opened.Box[:cap(opened.Box)], was) || !bytes.Equal(b[:cap(b)], bytesWere) {
			t.Error("what was opened or decoded is changed")
		}
	})
}

// What is handed in, changed later, changes nothing that was told.
func TestArgumentsAreNotKept(t *testing.T) {
	onEach(t, func(t *testing.T, s *suite.Suite) {
		for _, e := range ofEachKind() {
			secret, key, given := roomy([]byte("a secret")), roomy(pattern(keySize, 1)), deep(e)
			old := place()
			old.Box = roomy(pattern(200, 1))
			r := seals(t, "kept", s, secret, key, old, given)
			was := bytes.Clone(r.Box)
			scribble(secret)
			scribble(key)
			scribble(old.Box)
			scribbleAll(given)
			if !bytes.Equal(r.Box, was) {
				t.Errorf("kind %d: the box is changed", e.Kind)
			}
			opens(t, "kept", s, []byte("a secret"), pattern(keySize, 1), r, e)
			secret, key = roomy([]byte("a secret")), roomy(pattern(keySize, 1))
			r.Box = roomy(r.Box)
			got := opens(t, "kept", s, secret, key, r, e)
			b, _ := sealed.Encode(r)
			b = roomy(b)
			scribble(secret)
			scribble(key)
			scribble(r.Box)
			r.Box = was
			if !entry.Same(got, e) || !bytes.Equal(b, joined(5, 1, 2, 7, was)) {
				t.Errorf("kind %d: what was told is changed", e.Kind)
			}
			read := decodes(t, "kept", b, r)
			scribble(b)
			if !sameRecord(read, r) {
				t.Errorf("kind %d: what was decoded is changed", e.Kind)
			}
		}
	})
}

// What was told, changed later, changes nothing that is told again, and nothing that was handed in.
func TestAnswersApart(t *testing.T) {
	onEach(t, func(t *testing.T, s *suite.Suite) {
		secret, key := []byte("a secret"), pattern(keySize, 1)
		for _, e := range ofEachKind() {
			given := deep(e)
			old := place()
			old.Box = roomy(pattern(144, 1))
			was := shown(given)
			first, second := seals(t, "apart", s, secret, key, old, given), seals(t, "apart", s, secret, key, old, given)
			scribble(first.Box)
			opens(t, "second", s, secret, key, second, e)
			if shown(given) != was || !bytes.Equal(old.Box, pattern(144, 1)) {
				t.Errorf("kind %d: what was sealed is changed", e.Kind)
			}
			box := bytes.Clone(second.Box)
			one, other := opens(t, "one", s, secret, key, second, e), opens(t, "other", s, secret, key, second, e)
			scribbleAll(one)
			if !entry.Same(other, e) || !bytes.Equal(second.Box, box) {
				t.Errorf("kind %d: what was opened is changed", e.Kind)
			}
			opens(t, "later", s, secret, key, second, e)
			b, _ := sealed.Encode(second)
			want := bytes.Clone(b)
			read, again := decodes(t, "apart", b, second), decodes(t, "apart", b, second)
			scribble(read.Box)
			if !bytes.Equal(b, want) || !bytes.Equal(again.Box, box) {
				t.Errorf("kind %d: what was decoded is changed", e.Kind)
			}
			scribble(b)
			if !bytes.Equal(second.Box, box) {
				t.Errorf("kind %d: what was encoded is changed", e.Kind)
			}
		}
		if !bytes.Equal(secret, []byte("a secret")) || !bytes.Equal(key, pattern(keySize, 1)) {
			t.Error("the secret or the key is changed")
		}
	})
}

// The lists of an opened entry have no memory in common, spare room neither.
func TestListsApart(t *testing.T) {
	onEach(t, func(t *testing.T, s *suite.Suite) {
		key := pattern(keySize, 1)
		for _, e := range []entry.Entry{ordinary(), rotate(2, mostWho)} {
			r := seals(t, "lists", s, nil, key, place(), e)
			lists := func(e entry.Entry) []*[]byte {
				all := []*[]byte{&e.Name, &e.Value}
				for i := range e.Wraps {
					all = append(all, &e.Wraps[i].Box)
				}
				return all
			}
			want := lists(e)
			for i := range want {
				got := lists(opens(t, "lists", s, nil, key, r, e))
				scribble(*got[i])
				for j := range got {
					if j != i && !bytes.Equal(*got[j], *want[j]) {
						t.Errorf("kind %d: list %d is changed with %d", e.Kind, j, i)
					}
				}
			}
		}
	})
}

// P15.2, P15.3: entries and places by chance, with a real suite and one of signs alike.
func TestByChance(t *testing.T) {
	random := rand.New(rand.NewSource(150))
	right := someRight()
	onEach(t, func(t *testing.T, s *suite.Suite) {
		for range 1000 {
			e := right[random.Intn(len(right))]
			e.Writer = 1 + random.Intn(mostWho)
			r := sealed.Record{Collection: 1 + random.Intn(mostNumber), Epoch: random.Intn(mostEpoch + 1), Writer: e.Writer, Count: 1 + random.Intn(mostNumber)}
			secret, key := pattern(random.Intn(5), random.Intn(256)), pattern(keySize, random.Intn(256))
			r = seals(t, "by chance", s, secret, key, r, e)
			b, err := sealed.Encode(r)
			if err != api.OK || !bytes.Equal(b, joined(r.Collection, r.Epoch, r.Writer, r.Count, r.Box)) {
				t.Fatalf("Encode of %v: %x, error %d", r, b, err)
			}
			opens(t, "by chance", s, secret, key, decodes(t, "by chance", b, r), e)
		}
	})
}

// modelOpen is what Open should tell of a plain text in its place.
func modelOpen(s *suite.Suite, secret, plain []byte) api.Errno {
	if len(plain) < 64 || len(plain) > 2048 {
		return api.ErrForm
	}
	n := int(plain[0])<<8 | int(plain[1])
	if n > 2046 || !bytes.Equal(plain, padded(plain[2:min(2+n, len(plain))])) {
		return api.ErrForm
	}
	text := plain[2 : 2+n]
	first := len(text) + 1
	if len(text) >= 2 {
		first = 2 + int(text[0])<<8 + int(text[1])
	}
	if first+2 > len(text) || !bytes.Equal(text[first:], counted(text[first+2:])) {
		return api.ErrForm
	}
	e, err := entry.Decode(text[2:first])
	switch {
	case err != api.OK:
		return api.ErrForm
	case e.Writer != 2:
		return api.ErrOther
	case !bytes.Equal(text[first+2:], markOf(s, secret, 5, 2, text[2:first])):
		return api.ErrTag
	}
	return api.OK
}

// P15.3: any plain text, boxed in its place, is told as the document says.
func FuzzOpen(f *testing.F) {
	s, secret, key := suite.Real(nil), []byte("a secret"), pattern(keySize, 1)
	for _, e := range ofEachKind() {
		body := bodyOf(e)
		f.Add(joined(body, markOf(s, secret, 5, 2, body)), true)
		f.Add(plainOf(s, secret, 5, e), false)
		f.Add(joined(body, pattern(keySize, 1)), true)
		e.Writer = 3
		f.Add(joined(bodyOf(e), pattern(keySize, 1)), true)
	}
	f.Add(joined([]byte("one"), []byte("two")), true)
	f.Add(make([]byte, 2048), false)
	f.Fuzz(func(t *testing.T, plain []byte, pad bool) {
		if pad && len(plain) <= 2046 {
			plain = padded(plain)
		}
		want := modelOpen(s, secret, plain)
		r := withPlain(t, s, key, place(), plain)
		got, err := sealed.Open(s, secret, key, r)
		if err != want {
			t.Fatalf("%x: error %d, want %d", plain, err, want)
		}
		if err != api.OK {
			closed(t, "refused", s, secret, key, r, want)
			return
		}
		if again := seals(t, "again", s, secret, key, place(), got); !sameRecord(again, r) {
			t.Errorf("%x is sealed as %v", plain, again)
		}
	})
}
