package replay_test

import (
	"bytes"
	"encoding/binary"
	"fmt"
	"maps"
	"math"
	"math/rand"
	"slices"
	"strings"
	"testing"

	"locket/api"
	"locket/bucket"
	"locket/chain"
	"locket/code"
	"locket/docs"
	"locket/entry"
	"locket/policy"
	"locket/replay"
	"locket/ring"
	"locket/sealed"
	"locket/suite"
)

const (
	mostNumber = 1 << 40
	mostWho    = 16
	mostEpoch  = 16
	mostLinks  = 64
	keySize    = 32
	boxSize    = 48

	// The collection that most tests are about.
	common = 5
)

// suites are the kinds of them, each made anew.
var suites = []struct {
	name string
	make func() *suite.Suite
}{
	{"signs", suite.Signs},
	{"real", func() *suite.Suite { return suite.Real([]byte("a seed")) }},
}

// onEach runs a test with a suite of each kind.
func onEach(t *testing.T, run func(t *testing.T, s *suite.Suite)) {
	t.Helper()
	for _, kind := range suites {
		t.Run(kind.name, func(t *testing.T) { run(t, kind.make()) })
	}
}

// noPersons are numbers that no member and no writer has; some would be right if they were cut.
func noPersons() []int {
	return []int{0, -1, mostWho + 1, 256 + 1, 1<<32 + 1, -mostWho, math.MinInt, math.MinInt + 1, math.MaxInt - 1, math.MaxInt}
}

// pattern is n bytes that differ from place to place, and with the seed.
func pattern(n, seed int) []byte {
	b := make([]byte, n)
	for i := range b {
		b[i] = byte(i*7 + i/64*31 + seed)
	}
	return b
}

// roomy is the same bytes, with spare room behind them that holds more.
func roomy(b []byte) []byte {
	return slices.Concat(b, []byte("spare room"))[:len(b)]
}

// scribble changes all bytes, and those of the spare room.
func scribble(b []byte) {
	b = b[:cap(b)]
	for i := range b {
		b[i] ^= 0xa5
	}
}

// inSix is a number in six bytes, the highest first.
func inSix(n int) []byte {
	return binary.BigEndian.AppendUint64(nil, uint64(n))[2:]
}

// signOf is the sign of a sort and a number.
func signOf(sort byte, n int) []byte {
	return binary.BigEndian.AppendUint64(slices.Concat([]byte{0x53, sort}, make([]byte, 22)), uint64(n))
}

func put(writer, seq int, name, value string) entry.Entry {
	return entry.Entry{Kind: 1, Writer: writer, Seq: seq, Name: []byte(name), Value: []byte(value)}
}

func drop(writer, seq int, name string) entry.Entry {
	return entry.Entry{Kind: 2, Writer: writer, Seq: seq, Name: []byte(name)}
}

func grant(writer, seq, who, rights int) entry.Entry {
	return entry.Entry{Kind: 3, Writer: writer, Seq: seq, Who: who, Rights: rights}
}

func revoke(writer, seq, who int) entry.Entry {
	return entry.Entry{Kind: 4, Writer: writer, Seq: seq, Who: who}
}

// hollow is a rotate whose wraps are boxes that nobody made.
func hollow(writer, seq, epoch int, readers ...int) entry.Entry {
	e := entry.Entry{Kind: 5, Writer: writer, Seq: seq, Epoch: epoch}
	for _, who := range readers {
		e.Wraps = append(e.Wraps, entry.Wrap{Who: who, Box: pattern(boxSize, 11*who)})
	}
	return e
}

// What a record's box may be.
const (
	whole     = iota
	shut      // Sealed with another key.
	shapeless // There is no entry in it.
	strange   // The entry in it is another writer's.
	unmarked  // The mark in it isn't its writer's.
	boxes
)

// openErrors is what Open tells of each.
var openErrors = [boxes]api.Errno{api.OK, api.ErrOpen, api.ErrForm, api.ErrOther, api.ErrTag}

// desk is where the records of a collection are made.
type desk struct {
	t          *testing.T
	suite      *suite.Suite
	secret     []byte
	collection int
	count      int
	keys       map[int][]byte
}

func newDesk(t *testing.T, s *suite.Suite) *desk {
	d := &desk{t: t, suite: s, secret: []byte("a secret"), collection: common, keys: map[int][]byte{}}
	d.keys[0] = s.Code(d.secret, []byte("epoch"), inSix(0))
	return d
}

// replay is the replay of a member whose founder is 1.
func (d *desk) replay(who int) *replay.Replay {
	d.t.Helper()
	r, e := replay.New(d.suite, replay.Who{Collection: d.collection, Founder: 1, Who: who, Secret: d.secret})
	if e != api.OK {
		d.t.Fatalf("New: error %d", e)
	}
	return r
}

// key is an epoch's key; of one that nobody has, another than all others.
func (d *desk) key(epoch int) []byte {
	if key, ok := d.keys[epoch]; ok {
		return key
	}
	return pattern(keySize, 100+epoch)
}

// rotate is a rotate to a new key that is wrapped for readers.
func (d *desk) rotate(writer, seq, epoch int, readers ...int) entry.Entry {
	d.t.Helper()
	d.keys[epoch] = d.suite.Key()
	e := entry.Entry{Kind: 5, Writer: writer, Seq: seq, Epoch: epoch}
	for _, who := range readers {
		e.Wraps = append(e.Wraps, entry.Wrap{Who: who, Box: d.wrapped(who, epoch)})
	}
	return e
}

// wrapped is an epoch's key, wrapped for a member.
func (d *desk) wrapped(who, epoch int) []byte {
	d.t.Helper()
	box, e := ring.Wrap(d.suite, d.secret, who, epoch, d.key(epoch))
	if e != api.OK {
		d.t.Fatalf("Wrap: error %d", e)
	}
	return box
}

// record is a new record's bytes, of an entry, under an epoch's key.
func (d *desk) record(epoch int, e entry.Entry) []byte {
	d.t.Helper()
	d.count++
	r, err := sealed.Seal(d.suite, d.secret, d.key(epoch), d.place(epoch, e.Writer), e)
	if err != api.OK {
		d.t.Fatalf("Seal: error %d", err)
	}
	return d.encoded(r)
}

// place is the numbers of a record.
func (d *desk) place(epoch, writer int) sealed.Record {
	return sealed.Record{Collection: d.collection, Epoch: epoch, Writer: writer, Count: d.count}
}

// encoded is a record's bytes.
func (d *desk) encoded(r sealed.Record) []byte {
	d.t.Helper()
	b, err := sealed.Encode(r)
	if err != api.OK {
		d.t.Fatalf("Encode: error %d", err)
	}
	return b
}

// faulty is a new record's bytes, with a box as it may be.
func (d *desk) faulty(epoch int, e entry.Entry, box int) []byte {
	d.t.Helper()
	d.count++
	r, key, inside := d.place(epoch, e.Writer), d.key(epoch), e
	switch box {
	case shut:
		key = pattern(keySize, 99)
	case strange:
		inside.Writer = e.Writer%mostWho + 1
	}
	body, err := entry.Encode(inside)
	if err != api.OK {
		d.t.Fatalf("Encode: error %d", err)
	}
	mark := d.mark(e.Writer, body)
	if box == unmarked {
		mark = pattern(keySize, 98)
	}
	plain := twoTexts(d.t, body, mark)
	if box == shapeless {
		plain = make([]byte, 64)
	}
	return d.encoded(boxed(d.t, d.suite, key, r, plain))
}

// mark is the mark of an entry's bytes.
func (d *desk) mark(writer int, body []byte) []byte {
	marked, _ := code.Put(d.collection, body)
	return d.suite.Code(d.suite.Code(d.secret, []byte("writer"), inSix(writer)), marked)
}

// twoTexts is the plain text of an entry's bytes and a mark.
func twoTexts(t *testing.T, body, mark []byte) []byte {
	t.Helper()
	both, _ := code.Put(body, mark)
	plain, err := bucket.Pad(both)
	if err != api.OK {
		t.Fatalf("Pad: error %d", err)
	}
	return plain
}

// boxed is a record with the box of any plain text.
func boxed(t *testing.T, s *suite.Suite, key []byte, r sealed.Record, plain []byte) sealed.Record {
	t.Helper()
	var err api.Errno
	front, _ := code.Put(r.Collection, r.Epoch, r.Writer, r.Count)
	r.Box, err = s.Seal(key, append(inSix(r.Writer), inSix(r.Count)...), front, plain)
	if err != api.OK {
		t.Fatalf("box: error %d", err)
	}
	return r
}

// commits wants an outcome of Commit.
func commits(t *testing.T, what string, r *replay.Replay, b []byte, want api.Errno) {
	t.Helper()
	if e, outcome := r.Commit(b); e != api.OK || outcome != want {
		t.Errorf("%s: Commit tells error %d, outcome %d, want outcome %d", what, e, outcome, want)
	}
}

// refuses wants an error of Commit, and that nothing is changed.
func refuses(t *testing.T, what string, r *replay.Replay, b []byte, want api.Errno) {
	t.Helper()
	was := shown(r)
	if e, outcome := r.Commit(b); e != want || outcome != api.OK {
		t.Errorf("%s: Commit tells error %d, outcome %d, want error %d", what, e, outcome, want)
	}
	if now := shown(r); now != was {
		t.Errorf("%s: what was refused changes %s to %s", what, was, now)
	}
}

// all wants that records which are committed one by one are OK.
func all(t *testing.T, what string, r *replay.Replay, records ...[]byte) {
	t.Helper()
	for i, b := range records {
		commits(t, fmt.Sprintf("%s, record %d", what, i), r, b, api.OK)
	}
}

// counts wants how many a suite has.
func counts(t *testing.T, what string, s *suite.Suite, want int) {
	t.Helper()
	if got := s.Count(); got != want {
		t.Errorf("%s: count %d, want %d", what, got, want)
	}
}

// shown is all that a replay tells, as text.
func shown(r *replay.Replay) string {
	return shownChain(r.Chain()) + shownChanged(r)
}

// shownChain is all that a chain tells.
func shownChain(c *chain.Chain) string {
	var text strings.Builder
	for i := range c.Len() + 1 {
		head, _ := c.At(i)
		link, _ := c.Link(i)
		fmt.Fprintf(&text, "%d %x %x; ", head.Index, head.Sum, link)
	}
	return text.String()
}

// shownChanged is all that a replay tells but its chain.
func shownChanged(r *replay.Replay) string {
	text := "policy " + shownView(r.Policy(), r.Docs())
	for i := -1; i <= mostWho+2; i++ {
		key, ok := r.Key(i)
		text += fmt.Sprintf("%d: key %x %v, seen %d; ", i, key, ok, r.Seen(i))
	}
	return text
}

// shownView is a policy and a collection.
func shownView(p policy.Policy, d *docs.Docs) string {
	return fmt.Sprintf("%v docs %v; ", p, d.All())
}

// state is what a replay has, as the document tells it.
type state struct {
	who, epoch int
	rights     map[int]int
	docs       map[string]string
	keys       map[int][]byte
	seen       map[int]int
	links      [][]byte
}

// stateOf is that of a member whose founder is 1, at first.
func stateOf(d *desk, who int) *state {
	return &state{who: who, rights: map[int]int{1: 7}, docs: map[string]string{}, keys: map[int][]byte{0: d.keys[0]}, seen: map[int]int{}}
}

// readers are the members that have read, rising.
func (m *state) readers() []int {
	var all []int
	for who := 1; who <= mostWho; who++ {
		if m.rights[who]&1 != 0 {
			all = append(all, who)
		}
	}
	return all
}

// may is what the policy tells of a right entry.
func (m *state) may(e entry.Entry) api.Errno {
	needed := 4
	if e.Kind <= 2 {
		needed = 6
	}
	if m.rights[e.Writer]&needed == 0 || (e.Kind == 3 || e.Kind == 4) && e.Who == 1 {
		return api.ErrRight
	}
	var wrapped []int
	for _, w := range e.Wraps {
		wrapped = append(wrapped, w.Who)
	}
	if e.Kind == 5 && (e.Epoch != m.epoch+1 || !slices.Equal(wrapped, m.readers())) {
		return api.ErrEpoch
	}
	return api.OK
}

// change lets an entry that may be change the policy and the collection.
func (m *state) change(e entry.Entry) {
	switch e.Kind {
	case 1:
		m.docs[string(e.Name)] = string(e.Value)
	case 2:
		delete(m.docs, string(e.Name))
	case 3:
		m.rights[e.Who] = e.Rights
	case 4:
		delete(m.rights, e.Who)
	case 5:
		m.epoch = e.Epoch
	}
}

// follow is the outcome of a record, with a box as it may be, and the keys that its wraps hold, by their members.
func (m *state) follow(epoch, box int, e entry.Entry, keys map[int][]byte) api.Errno {
	if epoch > m.epoch {
		return api.ErrEpoch
	}
	if m.keys[epoch] == nil {
		return api.ErrKey
	}
	if box != whole {
		return openErrors[box]
	}
	if e.Seq <= m.seen[e.Writer] {
		return api.ErrTwice
	}
	m.seen[e.Writer] = e.Seq
	if e.Kind != 5 && epoch != m.epoch {
		return api.ErrOther
	}
	if err := m.may(e); err != api.OK {
		return err
	}
	m.change(e)
	if e.Kind == 5 && keys[m.who] != nil {
		m.keys[e.Epoch] = keys[m.who]
	}
	return api.OK
}

// policy is the policy of it.
func (m *state) policy() policy.Policy {
	p := policy.Policy{Founder: 1, Epoch: m.epoch}
	for _, who := range slices.Sorted(maps.Keys(m.rights)) {
		p.Members = append(p.Members, policy.Member{Who: who, Rights: m.rights[who]})
	}
	return p
}

// collection is the collection of it.
func (m *state) collection() *docs.Docs {
	d := docs.New()
	for name, value := range m.docs {
		d.Apply(put(1, 1, name, value))
	}
	return d
}

// view is what it would be with pending entries.
func (m *state) view(pending []entry.Entry) (policy.Policy, *docs.Docs) {
	v := &state{epoch: m.epoch, rights: maps.Clone(m.rights), docs: maps.Clone(m.docs)}
	for _, e := range pending {
		if e.Right() && v.may(e) == api.OK {
			v.change(e)
		}
	}
	return v.policy(), v.collection()
}

// is wants that a replay has just what a state has.
func is(t *testing.T, what string, s *suite.Suite, r *replay.Replay, m *state) {
	t.Helper()
	if got, want := shownView(r.Policy(), r.Docs()), shownView(m.policy(), m.collection()); got != want {
		t.Errorf("%s: there is %s, want %s", what, got, want)
	}
	for i := -2; i <= mostWho+2; i++ {
		if key, ok := r.Key(i); !bytes.Equal(key, m.keys[i]) || ok != (m.keys[i] != nil) {
			t.Errorf("%s: key %d: %x %v, want %x", what, i, key, ok, m.keys[i])
		}
		if seen := r.Seen(i); seen != m.seen[i] {
			t.Errorf("%s: seen of %d: %d, want %d", what, i, seen, m.seen[i])
		}
	}
	linked(t, what, s, r.Chain(), common, m.links)
}

// linked wants that a chain has just some links.
func linked(t *testing.T, what string, s *suite.Suite, c *chain.Chain, collection int, links [][]byte) {
	t.Helper()
	if c.Len() != len(links) {
		t.Fatalf("%s: %d links, want %d", what, c.Len(), len(links))
	}
	sum := s.Sum([]byte("locket"), inSix(collection))
	for i, want := range links {
		if link, ok := c.Link(i); !ok || !bytes.Equal(link, want) {
			t.Errorf("%s: link %d: %x, want %x", what, i, link, want)
		}
		sum = s.Sum(sum, want)
	}
	if head := c.Head(); head.Index != len(links) || !bytes.Equal(head.Sum, sum) {
		t.Errorf("%s: head %d %x, want %d %x", what, head.Index, head.Sum, len(links), sum)
	}
}

// The chapter's examples.
func TestExamples(t *testing.T) {
	onEach(t, func(t *testing.T, s *suite.Suite) {
		d := newDesk(t, s)
		for who := 1; who <= 3; who++ {
			r := d.replay(who)
			b := d.record(0, put(1, 1, "a", "b"))
			commits(t, "the founder's put", r, b, api.OK)
			commits(t, "the same again", r, b, api.ErrTwice)
			commits(t, "another member's put", r, d.record(0, put(2, 1, "a", "c")), api.ErrRight)
			if v, ok := r.Docs().Get([]byte("a")); !ok || string(v) != "b" {
				t.Errorf("member %d: a is %q", who, v)
			}
		}
	})
}

// P16.1: what there is at first, of each founder and each member, at both bounds of the collection.
func TestNew(t *testing.T) {
	onEach(t, func(t *testing.T, s *suite.Suite) {
		for _, secret := range [][]byte{nil, {}, {0}, []byte("s"), pattern(64, 1), pattern(65, 1), pattern(5000, 2)} {
			for _, collection := range []int{1, 2, 256, 1 << 32, mostNumber - 1, mostNumber} {
				for who := 1; who <= mostWho; who++ {
					founder := mostWho + 1 - who
					r, e := replay.New(s, replay.Who{Collection: collection, Founder: founder, Who: who, Secret: secret})
					if e != api.OK {
						t.Fatalf("New of %d %d %d: error %d", collection, founder, who, e)
					}
					beginning(t, s, r, collection, founder, secret)
				}
			}
		}
	})
}

// beginning wants that there is what there is at first.
func beginning(t *testing.T, s *suite.Suite, r *replay.Replay, collection, founder int, secret []byte) {
	t.Helper()
	linked(t, "at first", s, r.Chain(), collection, nil)
	want := policy.Policy{Founder: founder, Members: []policy.Member{{Who: founder, Rights: 7}}}
	if got := shownView(r.Policy(), r.Docs()); got != shownView(want, docs.New()) {
		t.Errorf("at first there is %s", got)
	}
	for i := -1; i <= mostWho+1; i++ {
		key, ok := r.Key(i)
		if i == 0 && (!ok || !bytes.Equal(key, s.Code(secret, []byte("epoch"), inSix(0)))) || i != 0 && (ok || key != nil) {
			t.Errorf("key of %d: %x %v", i, key, ok)
		}
		if r.Seen(i) != 0 {
			t.Errorf("seen of %d: %d", i, r.Seen(i))
		}
	}
}

// P16.1: a number out of its bounds, alone and beside others.
func TestNewRefuses(t *testing.T) {
	onEach(t, func(t *testing.T, s *suite.Suite) {
		refused := func(w replay.Who) {
			t.Helper()
			if r, e := replay.New(s, w); r != nil || e != api.ErrRange {
				t.Errorf("New of %d %d %d: error %d", w.Collection, w.Founder, w.Who, e)
			}
		}
		secret := []byte("a secret")
		for _, wrong := range append(noPersons(), -mostNumber) {
			refused(replay.Who{Collection: common, Founder: wrong, Who: 1, Secret: secret})
			refused(replay.Who{Collection: common, Founder: 1, Who: wrong, Secret: secret})
			refused(replay.Who{Collection: common, Founder: wrong, Who: wrong, Secret: secret})
			refused(replay.Who{Collection: 0, Founder: wrong, Who: 1, Secret: secret})
			refused(replay.Who{Collection: mostNumber + 1, Founder: 1, Who: wrong, Secret: secret})
		}
		for _, wrong := range []int{0, -1, mostNumber + 1, mostNumber + 2, 1 << 41, 1<<48 + 1, -mostNumber, math.MinInt, math.MaxInt} {
			refused(replay.Who{Collection: wrong, Founder: 1, Who: 1, Secret: secret})
			refused(replay.Who{Collection: wrong, Founder: mostWho, Who: mostWho, Secret: secret})
		}
		refused(replay.Who{})
		counts(t, "nothing is asked", s, 0)
	})
}

// wrongBytes are the bytes of no record of the collection, some of them not far from a record's.
func wrongBytes(t *testing.T, right []byte) map[string][]byte {
	t.Helper()
	wrong := map[string][]byte{"nil": nil, "nothing": {}, "a byte": {1}, "noughts": make([]byte, len(right)), "longer": append(bytes.Clone(right), 0), "twice": slices.Concat(right, right), "too long": make([]byte, 5000)}
	for _, n := range []int{1, 6, 23, 24, 25, 26, 105, len(right) - 1} {
		wrong[fmt.Sprintf("the first %d bytes", n)] = bytes.Clone(right[:n])
	}
	r, err := sealed.Decode(right)
	if err != api.OK {
		t.Fatal(err)
	}
	for i, number := range [][]int{{0, 0, 1, 1}, {mostNumber + 1, 0, 1, 1}, {common, mostEpoch + 1, 1, 1}, {common, 0, 0, 1}, {common, 0, mostWho + 1, 1}, {common, 0, 1, 0}, {common, 0, 1, mostNumber + 1}} {
		front := slices.Concat(inSix(number[0]), inSix(number[1]), inSix(number[2]), inSix(number[3]))
		wrong[fmt.Sprintf("wrong numbers %d", i)] = append(front, right[24:]...)
	}
	for _, n := range []int{0, 79, 2065, 4096} {
		box, _ := code.Put(pattern(n, 1))
		wrong[fmt.Sprintf("a box of %d bytes", n)] = append(bytes.Clone(right[:24]), box...)
	}
	for _, other := range []int{1, common - 1, common + 1, common + 256, mostNumber} {
		r.Collection = other
		b, _ := sealed.Encode(r)
		wrong[fmt.Sprintf("of the collection %d", other)] = b
	}
	return wrong
}

// P16.2: what is no record of the collection is ErrForm, at first, later, and where no more fits.
func TestCommitWrongBytes(t *testing.T) {
	onEach(t, func(t *testing.T, s *suite.Suite) {
		d := newDesk(t, s)
		r := d.replay(1)
		wrong := wrongBytes(t, d.record(0, put(1, 1, "a", "b")))
		tries := func() {
			t.Helper()
			for what, b := range wrong {
				refuses(t, what, r, b, api.ErrForm)
			}
		}
		tries()
		all(t, "first", r, d.record(0, put(1, 1, "a", "b")), d.record(0, grant(1, 2, 2, 7)), d.record(0, d.rotate(1, 3, 1, 1, 2)))
		tries()
		for seq := 4; seq <= mostLinks; seq++ {
			all(t, "filled up", r, d.record(1, put(1, seq, "a", "b")))
		}
		tries()
		refuses(t, "one more", r, d.record(1, put(1, 100, "a", "b")), api.ErrFull)
	})
}

// P16.2: a record of another collection is refused, if it were right there, or was made with this one's number in its box.
func TestCommitOtherCollections(t *testing.T) {
	onEach(t, func(t *testing.T, s *suite.Suite) {
		here, there := newDesk(t, s), newDesk(t, s)
		there.collection = common + 1
		b, c := here.record(0, put(1, 1, "a", "b")), there.record(0, put(1, 1, "a", "b"))
		refuses(t, "there", here.replay(1), c, api.ErrForm)
		refuses(t, "here", there.replay(1), b, api.ErrForm)
		commits(t, "its own", here.replay(1), b, api.OK)
		commits(t, "its own", there.replay(1), c, api.OK)
		moved, _ := sealed.Decode(c)
		moved.Collection = common
		commits(t, "another number on it", here.replay(1), here.encoded(moved), api.ErrOpen)
	})
}

// P16.2: one more record than the chain takes is ErrFull, whatever would become of it.
func TestCommitFull(t *testing.T) {
	onEach(t, func(t *testing.T, s *suite.Suite) {
		d := newDesk(t, s)
		m := stateOf(d, 1)
		r := d.replay(1)
		for i := range mostLinks {
			b := d.faulty(0, put(1, i+1, "a", fmt.Sprint(i)), i%2)
			m.links = append(m.links, b)
			commits(t, "filled up", r, b, m.follow(0, i%2, put(1, i+1, "a", fmt.Sprint(i)), nil))
		}
		is(t, "full", s, r, m)
		for box := range boxes {
			for _, e := range []entry.Entry{put(1, 100, "b", "c"), put(1, 1, "b", "c"), drop(1, 101, "a"), grant(1, 102, 3, 7), grant(3, 1, 4, 1), d.rotate(1, 103, 1, 1)} {
				for _, epoch := range []int{0, 1} {
					refuses(t, "one more", r, d.faulty(epoch, e, box), api.ErrFull)
				}
			}
		}
		refuses(t, "the last one again", r, m.links[mostLinks-1], api.ErrFull)
		is(t, "still", s, r, m)
	})
}

// P16.2: a chain takes what was committed, whatever becomes of it, and takes a record as often as it comes.
func TestCommitIsTheLastLink(t *testing.T) {
	onEach(t, func(t *testing.T, s *suite.Suite) {
		d := newDesk(t, s)
		r := d.replay(2)
		var links [][]byte
		for i, b := range [][]byte{d.record(0, put(1, 1, "a", "b")), d.record(0, put(2, 1, "a", "b")), d.faulty(0, put(1, 2, "a", "b"), shut), d.record(1, put(1, 2, "a", "b")), d.faulty(0, put(1, 2, "a", "b"), unmarked)} {
			for range 2 {
				r.Commit(b)
				links = append(links, b)
				linked(t, fmt.Sprintf("record %d", i), s, r.Chain(), common, links)
			}
		}
	})
}

// midway is a desk and a log behind which 2 has all keys but that of epoch 1, the epoch is 2, and of 1, 2 and 4 the Seq 10 was seen; 4 is no member.
func midway(t *testing.T, s *suite.Suite) (*desk, [][]byte) {
	t.Helper()
	d := newDesk(t, s)
	broken := d.rotate(1, 5, 1, 1, 2)
	broken.Wraps[1].Box = pattern(boxSize, 1)
	return d, [][]byte{
		d.record(0, grant(1, 1, 2, 7)), d.record(0, grant(1, 2, 4, 2)), d.record(0, put(1, 3, "a", "b")), d.record(0, put(4, 10, "c", "d")), d.record(0, revoke(1, 4, 4)),
		d.record(0, broken), d.record(0, d.rotate(1, 6, 2, 1, 2)), d.record(2, drop(1, 10, "c")), d.record(2, put(2, 10, "e", "f")),
	}
}

// midState is what a replay of 2 has behind that log.
func midState(d *desk, log [][]byte) *state {
	m := stateOf(d, 2)
	m.epoch, m.rights, m.docs = 2, map[int]int{1: 7, 2: 7}, map[string]string{"a": "b", "e": "f"}
	m.keys[2], m.seen, m.links = d.keys[2], map[int]int{1: 10, 2: 10, 4: 10}, slices.Clone(log)
	return m
}

// ofEachKind is an entry of each kind that may be midway, if its writer may; the rotate as it fits, and as it doesn't.
func ofEachKind(d *desk, writer, seq int) []entry.Entry {
	d.t.Helper()
	return []entry.Entry{put(writer, seq, "a", "new"), drop(writer, seq, "e"), grant(writer, seq, 3, 5), revoke(writer, seq, 2),
		d.rotate(writer, seq, 3, 1, 2), hollow(writer, seq, 4, 1, 2), hollow(writer, seq, 3, 1), hollow(writer, seq, 3, 1, 2, 3), hollow(writer, seq, 3)}
}

// P16.2: of each outcome, and of each two and more that would be, the one that is named first; with entries of each kind, by 2.
func TestOutcomesInOrder(t *testing.T) {
	onEach(t, func(t *testing.T, s *suite.Suite) {
		d, log := midway(t, s)
		for epoch := range 5 {
			for box := range boxes {
				for _, seq := range []int{1, 9, 10, 11, 12, mostNumber} {
					for _, writer := range []int{1, 2, 4} {
						for _, e := range ofEachKind(d, writer, seq) {
							outcome(t, d, log, epoch, box, e)
						}
					}
				}
			}
		}
	})
}

// outcome wants what becomes of a record behind that log.
func outcome(t *testing.T, d *desk, log [][]byte, epoch, box int, e entry.Entry) {
	t.Helper()
	r, m := d.replay(2), midState(d, log)
	for _, b := range log {
		commits(t, "midway", r, b, api.OK)
	}
	keys := map[int][]byte{}
	if e.Kind == 5 && e.Epoch == 3 && len(e.Wraps) == 2 {
		keys[2] = d.keys[3]
	}
	b := d.faulty(epoch, e, box)
	want := m.follow(epoch, box, e, keys)
	m.links = append(m.links, b)
	what := fmt.Sprintf("epoch %d, box %d, writer %d, seq %d, kind %d to %d", epoch, box, e.Writer, e.Seq, e.Kind, e.Epoch)
	commits(t, what, r, b, want)
	is(t, what, d.suite, r, m)
}

// P16.2: each outcome alone, told by hand.
func TestOutcomesByHand(t *testing.T) {
	onEach(t, func(t *testing.T, s *suite.Suite) {
		d, log := midway(t, s)
		for _, c := range []struct {
			what       string
			epoch, box int
			e          entry.Entry
			want       api.Errno
		}{
			{"put", 2, whole, put(2, 11, "a", "b"), api.OK},
			{"drop", 2, whole, drop(2, 11, "a"), api.OK},
			{"grant", 2, whole, grant(2, 11, 4, 1), api.OK},
			{"revoke", 2, whole, revoke(1, 11, 2), api.OK},
			{"rotate", 2, whole, hollow(2, 11, 3, 1, 2), api.OK},
			{"epoch above", 3, whole, put(2, 11, "a", "b"), api.ErrEpoch},
			{"greatest epoch", mostEpoch, whole, put(2, 11, "a", "b"), api.ErrEpoch},
			{"rotate with its own key", 3, whole, hollow(2, 11, 3, 1, 2), api.ErrEpoch},
			{"no key", 1, whole, put(2, 11, "a", "b"), api.ErrKey},
			{"rotate without key", 1, whole, hollow(2, 11, 3, 1, 2), api.ErrKey},
			{"shut", 2, shut, put(2, 11, "a", "b"), api.ErrOpen},
			{"shapeless", 2, shapeless, put(2, 11, "a", "b"), api.ErrForm},
			{"strange", 2, strange, put(2, 11, "a", "b"), api.ErrOther},
			{"unmarked", 2, unmarked, put(2, 11, "a", "b"), api.ErrTag},
			{"twice", 2, whole, put(2, 10, "a", "b"), api.ErrTwice},
			{"twice, of one who is gone", 2, whole, put(4, 10, "a", "b"), api.ErrTwice},
			{"old epoch", 0, whole, put(2, 11, "a", "b"), api.ErrOther},
			{"rotate of old epoch", 0, whole, hollow(2, 11, 3, 1, 2), api.OK},
			{"no rights", 2, whole, put(4, 11, "a", "b"), api.ErrRight},
			{"never a member", 2, whole, put(9, 1, "a", "b"), api.ErrRight},
			{"grant of the founder", 2, whole, grant(2, 11, 1, 1), api.ErrRight},
			{"revoke of the founder", 2, whole, revoke(1, 11, 1), api.ErrRight},
			{"rotate to the same epoch", 2, whole, hollow(2, 11, 2, 1, 2), api.ErrEpoch},
			{"rotate too far", 2, whole, hollow(2, 11, 4, 1, 2), api.ErrEpoch},
			{"rotate for too few", 2, whole, hollow(2, 11, 3, 1), api.ErrEpoch},
			{"rotate for too many", 2, whole, hollow(2, 11, 3, 1, 2, 4), api.ErrEpoch},
			{"rotate of old epoch that doesn't fit", 0, whole, hollow(2, 11, 2, 1, 2), api.ErrEpoch},
		} {
			r := d.replay(2)
			all(t, "midway", r, log...)
			commits(t, c.what, r, d.faulty(c.epoch, c.e, c.box), c.want)
		}
	})
}

// P16.2: a drop of a name that isn't there is OK, and changes nothing.
func TestDropOfNothing(t *testing.T) {
	onEach(t, func(t *testing.T, s *suite.Suite) {
		d := newDesk(t, s)
		r := d.replay(1)
		all(t, "of nothing", r, d.record(0, drop(1, 1, "a")), d.record(0, put(1, 2, "a", "b")), d.record(0, drop(1, 3, "b")))
		if v, ok := r.Docs().Get([]byte("a")); !ok || string(v) != "b" || r.Docs().Len() != 1 {
			t.Errorf("there is %v", r.Docs().All())
		}
		all(t, "twice", r, d.record(0, drop(1, 4, "a")), d.record(0, drop(1, 5, "a")))
		if r.Docs().Len() != 0 || r.Seen(1) != 5 {
			t.Errorf("there is %v, seen %d", r.Docs().All(), r.Seen(1))
		}
	})
}

// P16.2: a Seq counts as seen, whatever comes behind that; but not with an error ahead of it.
func TestSeen(t *testing.T) {
	onEach(t, func(t *testing.T, s *suite.Suite) {
		d, log := midway(t, s)
		for _, c := range []struct {
			what       string
			epoch, box int
			e          entry.Entry
			seen       bool
		}{
			{"ok", 2, whole, put(2, 50, "a", "b"), true},
			{"put of one who is gone", 2, whole, put(4, 50, "a", "b"), true},
			{"drop of nothing", 2, whole, drop(2, 50, "no"), true},
			{"old epoch", 0, whole, put(2, 50, "a", "b"), true},
			{"no rights", 2, whole, grant(4, 50, 3, 1), true},
			{"doesn't fit", 2, whole, hollow(2, 50, 9, 1, 2), true},
			{"epoch above", 3, whole, put(2, 50, "a", "b"), false},
			{"no key", 1, whole, put(2, 50, "a", "b"), false},
			{"shut", 2, shut, put(2, 50, "a", "b"), false},
			{"shapeless", 2, shapeless, put(2, 50, "a", "b"), false},
			{"strange", 2, strange, put(2, 50, "a", "b"), false},
			{"unmarked", 2, unmarked, put(2, 50, "a", "b"), false},
			{"twice", 2, whole, put(2, 9, "a", "b"), false},
		} {
			r := d.replay(2)
			all(t, "midway", r, log...)
			r.Commit(d.faulty(c.epoch, c.e, c.box))
			want, below := 10, api.OK
			if c.seen {
				want, below = 50, api.ErrTwice
			}
			if got := r.Seen(c.e.Writer); got != want {
				t.Errorf("%s: seen %d, want %d", c.what, got, want)
			}
			all(t, c.what, r, d.record(2, grant(1, 11, 4, 2)))
			if c.e.Writer == 2 || c.seen {
				commits(t, c.what+", one below", r, d.record(2, put(c.e.Writer, 49, "a", "b")), below)
			}
			commits(t, c.what+", one above", r, d.record(2, put(c.e.Writer, 51, "a", "b")), api.OK)
		}
	})
}

// P16.2: of each writer the Seq stands alone, may leave numbers out, and ends at the greatest.
func TestSeenOfEachWriter(t *testing.T) {
	onEach(t, func(t *testing.T, s *suite.Suite) {
		d := newDesk(t, s)
		m := stateOf(d, 3)
		r := d.replay(3)
		does := func(e entry.Entry, want api.Errno) {
			t.Helper()
			b := d.record(0, e)
			m.links = append(m.links, b)
			if got := m.follow(0, whole, e, nil); got != want {
				t.Fatalf("the model tells %d, want %d", got, want)
			}
			commits(t, fmt.Sprint(e.Writer, e.Seq), r, b, want)
			is(t, fmt.Sprint(e.Writer, e.Seq), s, r, m)
		}
		for who := 2; who <= mostWho; who++ {
			does(grant(1, who, who, 2), api.OK)
		}
		for who := mostWho; who >= 1; who-- {
			does(put(who, 100+who, "n", "v"), api.OK)
		}
		does(put(2, mostNumber, "n", "v"), api.OK)
		does(put(2, mostNumber, "n", "v"), api.ErrTwice)
		does(put(2, mostNumber-1, "n", "v"), api.ErrTwice)
		does(put(3, 103, "n", "v"), api.ErrTwice)
		does(put(3, 1, "n", "v"), api.ErrTwice)
		does(put(3, 104, "n", "v"), api.OK)
		does(put(1, 101, "n", "v"), api.ErrTwice)
		does(put(16, mostNumber-1, "n", "v"), api.OK)
		does(put(16, mostNumber, "n", "v"), api.OK)
	})
}

// P16.2: a rotate lets those have the key for whom it is wrapped, so that it can be unwrapped, and changes the epoch for all.
func TestRotate(t *testing.T) {
	onEach(t, func(t *testing.T, s *suite.Suite) {
		d := newDesk(t, s)
		grants := [][]byte{d.record(0, grant(1, 1, 2, 1)), d.record(0, grant(1, 2, 3, 3)), d.record(0, grant(1, 3, 4, 2))}
		good := d.rotate(1, 4, 1, 1, 2, 3)
		wraps := map[string][]byte{
			"its own":                       good.Wraps[1].Box,
			"another member's":              good.Wraps[2].Box,
			"of another epoch":              d.wrapped(2, 2),
			"that nobody made":              pattern(boxSize, 1),
			"changed":                       append([]byte{^good.Wraps[1].Box[0]}, good.Wraps[1].Box[1:]...),
			"of a key with another secret":  foreign(t, s, d.keys[1]),
			"of a key, sealed for no wraps": unlike(t, d),
		}
		for what, box := range wraps {
			e := good
			e.Wraps = slices.Clone(good.Wraps)
			e.Wraps[1].Box = box
			rotate := d.record(0, e)
			for who := 1; who <= 5; who++ {
				r := d.replay(who)
				all(t, what, r, grants...)
				commits(t, what, r, rotate, api.OK)
				want := who == 1 || who == 3 || who == 2 && what == "its own"
				key, ok := r.Key(1)
				if ok != want || want && !bytes.Equal(key, d.keys[1]) || !want && key != nil {
					t.Errorf("%s, member %d: key %x %v", what, who, key, ok)
				}
				if r.Policy().Epoch != 1 || r.Seen(1) != 4 {
					t.Errorf("%s, member %d: epoch %d, seen %d", what, who, r.Policy().Epoch, r.Seen(1))
				}
				outcome := api.ErrKey
				if want {
					outcome = api.OK
				}
				commits(t, what+", behind it", r, d.record(1, put(3, 1, "a", "b")), outcome)
			}
		}
	})
}

// foreign is a key, wrapped for 2 in the epoch 1 with another secret.
func foreign(t *testing.T, s *suite.Suite, key []byte) []byte {
	t.Helper()
	box, err := ring.Wrap(s, []byte("another secret"), 2, 1, key)
	if err != api.OK {
		t.Fatal(err)
	}
	return box
}

// unlike is the box of a key, sealed as a wrapped key is but with other bytes.
func unlike(t *testing.T, d *desk) []byte {
	t.Helper()
	nonce, _ := ring.Nonce(0, 1)
	member, _ := ring.Member(d.suite, d.secret, 2)
	box, err := d.suite.Seal(member, nonce, nil, d.keys[1])
	if err != api.OK {
		t.Fatal(err)
	}
	return box
}

// P16.2: a rotate that isn't OK lets nobody learn, and the same one again neither.
func TestRotateThatIsntOK(t *testing.T) {
	onEach(t, func(t *testing.T, s *suite.Suite) {
		d := newDesk(t, s)
		r := d.replay(1)
		all(t, "first", r, d.record(0, grant(1, 1, 2, 3)))
		commits(t, "by one who may not", r, d.record(0, d.rotate(2, 1, 1, 1, 2)), api.ErrRight)
		commits(t, "too far", r, d.record(0, d.rotate(1, 2, 2, 1, 2)), api.ErrEpoch)
		commits(t, "for too few", r, d.record(0, d.rotate(1, 3, 1, 1)), api.ErrEpoch)
		commits(t, "twice", r, d.record(0, d.rotate(1, 3, 1, 1, 2)), api.ErrTwice)
		commits(t, "unmarked", r, d.faulty(0, d.rotate(1, 4, 1, 1, 2), unmarked), api.ErrTag)
		for epoch := 1; epoch <= mostEpoch; epoch++ {
			if key, ok := r.Key(epoch); ok || key != nil {
				t.Errorf("key of %d: %x", epoch, key)
			}
		}
		if r.Policy().Epoch != 0 {
			t.Errorf("epoch %d", r.Policy().Epoch)
		}
		all(t, "then", r, d.record(0, d.rotate(1, 4, 1, 1, 2)))
		first := d.keys[1]
		again := d.record(1, put(1, 5, "a", "b"))
		commits(t, "to the same epoch", r, d.record(0, d.rotate(1, 5, 1, 1, 2)), api.ErrEpoch)
		commits(t, "behind it", r, again, api.ErrTwice)
		if key, _ := r.Key(1); !bytes.Equal(key, first) {
			t.Errorf("key %x", key)
		}
	})
}

// P16.2: epochs up to the last one; their keys stay, and what is sealed with an old one is ErrOther from the rotate on, but for rotates.
func TestAllEpochs(t *testing.T) {
	onEach(t, func(t *testing.T, s *suite.Suite) {
		d := newDesk(t, s)
		m, r := stateOf(d, 1), d.replay(1)
		for epoch := 1; epoch <= mostEpoch; epoch++ {
			under := epoch - 1
			if epoch%2 == 0 {
				under = epoch / 2
			}
			e := d.rotate(1, 10*epoch, epoch, 1)
			late, next := put(1, 10*epoch+1, "a", "late"), put(1, 10*epoch+2, "a", fmt.Sprint(epoch))
			for _, c := range []struct {
				under int
				e     entry.Entry
			}{{under, e}, {epoch - 1, late}, {epoch, next}} {
				b := d.record(c.under, c.e)
				m.links = append(m.links, b)
				want := m.follow(c.under, whole, c.e, map[int][]byte{1: d.keys[epoch]})
				commits(t, fmt.Sprintf("epoch %d, under %d, kind %d", epoch, c.under, c.e.Kind), r, b, want)
				is(t, fmt.Sprint(epoch), s, r, m)
			}
			if m.docs["a"] != fmt.Sprint(epoch) || m.epoch != epoch {
				t.Fatalf("the model has %v, epoch %d", m.docs, m.epoch)
			}
		}
		b := d.record(0, d.rotate(1, 1000, mostEpoch, 1))
		m.links, m.seen[1] = append(m.links, b), 1000
		commits(t, "to the last one again", r, b, api.ErrEpoch)
		is(t, "still", s, r, m)
	})
}

// P16.2: what a member may not read it can't follow: its policy stays behind, and all of the epochs above is ErrEpoch, till a rotate that it can open.
func TestMemberThatStaysBehind(t *testing.T) {
	onEach(t, func(t *testing.T, s *suite.Suite) {
		d := newDesk(t, s)
		founder, other := d.replay(1), d.replay(2)
		both := func(what string, b []byte, want api.Errno) {
			t.Helper()
			commits(t, what, founder, b, api.OK)
			commits(t, what+", other", other, b, want)
		}
		both("rotate", d.record(0, d.rotate(1, 1, 1, 1)), api.OK)
		both("put", d.record(1, put(1, 2, "a", "b")), api.ErrKey)
		both("grant", d.record(1, grant(1, 3, 2, 7)), api.ErrKey)
		both("rotate for both", d.record(1, d.rotate(1, 4, 2, 1, 2)), api.ErrKey)
		both("put", d.record(2, put(1, 5, "a", "c")), api.ErrEpoch)
		if p := other.Policy(); p.Epoch != 1 || p.Rights(2) != 0 || other.Docs().Len() != 0 || other.Seen(1) != 1 {
			t.Errorf("other: %v, seen %d", p, other.Seen(1))
		}
		if founder.Chain().Check(other.Chain().Head()) != api.OK || other.Chain().Len() != 5 {
			t.Error("the chains differ")
		}
	})
}

// P16.2: a policy decides at each record's place: rights are granted, changed and taken in between.
func TestRightsAtTheirPlaces(t *testing.T) {
	onEach(t, func(t *testing.T, s *suite.Suite) {
		d := newDesk(t, s)
		r := d.replay(3)
		commits(t, "ahead of the grant", r, d.record(0, put(2, 1, "a", "b")), api.ErrRight)
		all(t, "granted", r, d.record(0, grant(1, 1, 2, 2)), d.record(0, put(2, 2, "a", "c")), d.record(0, drop(2, 3, "b")))
		commits(t, "not to look after", r, d.record(0, grant(2, 4, 3, 1)), api.ErrRight)
		all(t, "read alone", r, d.record(0, grant(1, 2, 2, 1)))
		commits(t, "not to write", r, d.record(0, put(2, 5, "a", "d")), api.ErrRight)
		all(t, "look after", r, d.record(0, grant(1, 3, 2, 4)), d.record(0, grant(2, 6, 3, 7)), d.record(0, put(2, 7, "a", "e")), d.record(0, revoke(3, 1, 2)))
		commits(t, "revoked", r, d.record(0, put(2, 8, "a", "f")), api.ErrRight)
		commits(t, "of one who is no member", r, d.record(0, revoke(3, 2, 2)), api.OK)
		if v, _ := r.Docs().Get([]byte("a")); string(v) != "e" {
			t.Errorf("a is %q", v)
		}
	})
}

// P16.3: Seen of what is no writer, Key of what is no epoch.
func TestOutOfBounds(t *testing.T) {
	onEach(t, func(t *testing.T, s *suite.Suite) {
		d, log := midway(t, s)
		r := d.replay(2)
		all(t, "midway", r, log...)
		for _, n := range noPersons() {
			if got := r.Seen(n); got != 0 {
				t.Errorf("seen of %d: %d", n, got)
			}
			if key, ok := r.Key(n); n != 0 && (ok || key != nil) {
				t.Errorf("key of %d: %x %v", n, key, ok)
			}
		}
	})
}

// P16.3: what is told behind each record, of each kind.
func TestToldBehindEach(t *testing.T) {
	onEach(t, func(t *testing.T, s *suite.Suite) {
		d := newDesk(t, s)
		m, r := stateOf(d, 2), d.replay(2)
		rotate := d.rotate(1, 6, 1, 1, 2, 3)
		entries := []entry.Entry{put(1, 1, "b", "1"), put(1, 2, "a", "2"), put(1, 3, "b", "3"), grant(1, 4, 3, 3), grant(1, 5, 2, 7), rotate}
		for i, e := range entries {
			b := d.record(0, e)
			m.links = append(m.links, b)
			commits(t, fmt.Sprint(i), r, b, m.follow(0, whole, e, map[int][]byte{2: d.keys[1]}))
			is(t, fmt.Sprint(i), s, r, m)
		}
		for i, e := range []entry.Entry{drop(3, 1, "b"), revoke(2, 1, 3), put(3, 2, "c", "4"), put(2, 2, "c", "")} {
			b := d.record(1, e)
			m.links = append(m.links, b)
			commits(t, fmt.Sprint("then ", i), r, b, m.follow(1, whole, e, nil))
			is(t, fmt.Sprint("then ", i), s, r, m)
		}
		got := shownView(r.Policy(), r.Docs())
		want := shownView(policy.Policy{Founder: 1, Epoch: 1, Members: []policy.Member{{Who: 1, Rights: 7}, {Who: 2, Rights: 7}}}, r.Docs())
		if v, ok := r.Docs().Get([]byte("c")); got != want || !ok || len(v) != 0 || r.Docs().Len() != 2 {
			t.Errorf("there is %s", got)
		}
	})
}

// somePending are entries, of which some may be midway, others behind some, and some never.
func somePending() []entry.Entry {
	wrong := put(1, 1, "wrong", "v")
	wrong.Rights = 1
	short := hollow(1, 1, 3, 1, 2)
	short.Wraps[1].Box = short.Wraps[1].Box[1:]
	return []entry.Entry{
		put(1, 11, "a", "x"), put(2, 11, "new", "y"), put(1, 1, "old", "seq"), put(3, 1, "three", "z"), put(4, 1, "four", "z"), put(1, 11, "a", ""),
		drop(1, 12, "a"), drop(2, 12, "no"), drop(3, 2, "e"), drop(3, 3, "new"),
		grant(1, 13, 3, 2), grant(1, 14, 4, 4), grant(3, 4, 4, 7), grant(2, 3, 2, 1), grant(1, 1, 1, 7), grant(4, 2, 3, 7),
		revoke(1, 15, 3), revoke(2, 1, 4), revoke(4, 1, 2), revoke(2, 1, 1),
		hollow(1, 16, 3, 1, 2), hollow(2, 16, 4, 1, 2), hollow(1, 1, 3, 1), hollow(2, 1, 3, 1, 2, 3), hollow(1, 5, 2, 1, 2), hollow(4, 5, 3, 1, 2), hollow(1, 6, 4, 1),
		{}, wrong, short, put(0, 1, "a", "w"), put(17, 1, "a", "w"), put(1, 0, "a", "w"), put(1, mostNumber+1, "a", "w"), put(1, 1, "", "w"), grant(1, 1, 2, 8), {Kind: 6, Writer: 1, Seq: 1},
	}
}

// views wants what View tells, and that what there is stays as it is.
func views(t *testing.T, what string, s *suite.Suite, r *replay.Replay, m *state, pending []entry.Entry) {
	t.Helper()
	was, count := shown(r), s.Count()
	p, d := r.View(pending)
	if got, want := shownView(p, d), shownView(m.view(pending)); got != want {
		t.Errorf("%s: View tells %s, want %s", what, got, want)
	}
	if shown(r) != was {
		t.Errorf("%s: View changes what there is", what)
	}
	counts(t, what, s, count)
}

// P16.3: View of nothing, of each alone, of each two in both orders, and of many in any order.
func TestView(t *testing.T) {
	onEach(t, func(t *testing.T, s *suite.Suite) {
		d, log := midway(t, s)
		m, r := midState(d, log), d.replay(2)
		all(t, "midway", r, log...)
		views(t, "nothing", s, r, m, nil)
		views(t, "nothing", s, r, m, []entry.Entry{})
		some := somePending()
		for i := range some {
			views(t, fmt.Sprint(i), s, r, m, some[i:i+1])
			for j := range some {
				views(t, fmt.Sprint(i, j), s, r, m, []entry.Entry{some[i], some[j]})
			}
		}
		random := rand.New(rand.NewSource(163))
		for range 300 {
			var pending []entry.Entry
			for range random.Intn(20) {
				pending = append(pending, some[random.Intn(len(some))])
			}
			views(t, "by chance", s, r, m, pending)
		}
		is(t, "still", s, r, m)
	})
}

// P16.3: View by hand: what may be only behind another one, what may not, and what is undone.
func TestViewByHand(t *testing.T) {
	onEach(t, func(t *testing.T, s *suite.Suite) {
		d := newDesk(t, s)
		r := d.replay(2)
		all(t, "first", r, d.record(0, put(1, 1, "a", "b")))
		p, c := r.View([]entry.Entry{put(2, 1, "a", "early"), grant(1, 2, 2, 3), put(2, 2, "c", "d"), hollow(1, 3, 1, 1), hollow(1, 3, 1, 1, 2), drop(2, 3, "a"), drop(2, 4, "a"), put(2, 1, "c", "e")})
		want := policy.Policy{Founder: 1, Epoch: 1, Members: []policy.Member{{Who: 1, Rights: 7}, {Who: 2, Rights: 3}}}
		if got := shownView(p, c); got != shownView(want, c) {
			t.Errorf("View tells %s", got)
		}
		if v, ok := c.Get([]byte("c")); !ok || string(v) != "e" || c.Len() != 1 {
			t.Errorf("View tells %v", c.All())
		}
		// What is pending is no record: no key is learned, and no Seq is seen.
		if _, ok := r.Key(1); ok || r.Seen(2) != 0 || r.Policy().Epoch != 0 {
			t.Error("View changes what there is")
		}
		commits(t, "then", r, d.record(0, grant(1, 2, 2, 3)), api.OK)
	})
}

// P16.4: New asks for the sum of no links, then for the first epoch's key.
func TestNewAsksInOrder(t *testing.T) {
	s, secret := suite.Signs(), []byte("a secret")
	r, e := replay.New(s, replay.Who{Collection: common, Founder: 1, Who: 2, Secret: secret})
	if e != api.OK {
		t.Fatal(e)
	}
	counts(t, "New", s, 2)
	if head := r.Chain().Head(); !bytes.Equal(head.Sum, signOf(0x48, 1)) {
		t.Errorf("sum %x", head.Sum)
	}
	if key, _ := r.Key(0); !bytes.Equal(key, signOf(0x4d, 2)) {
		t.Errorf("key %x", key)
	}
	known(t, s, map[int][]byte{1: s.Sum([]byte("locket"), inSix(common)), 2: s.Code(secret, []byte("epoch"), inSix(0))})
	counts(t, "what was asked for is known", s, 2)
}

// known wants signs by their numbers.
func known(t *testing.T, s *suite.Suite, signs map[int][]byte) {
	t.Helper()
	for n, sign := range signs {
		if !bytes.Equal(sign, signOf(sign[1], n)) {
			t.Errorf("the sign %x hasn't the number %d", sign, n)
		}
	}
}

// foretold is a record of 1 whose mark was boxed ahead of its making, as the third that the suite is asked for from its Commit on.
func foretold(t *testing.T, s *suite.Suite, epoch, writer int, e entry.Entry, more int) []byte {
	t.Helper()
	body, err := entry.Encode(e)
	if err != api.OK {
		t.Fatal(err)
	}
	// The box is the next number, behind it come the sum, perhaps the writer's key, and the mark.
	mark := signOf(0x4d, s.Count()+1+more)
	r := sealed.Record{Collection: common, Epoch: epoch, Writer: writer, Count: s.Count() + 1}
	b, err := sealed.Encode(boxed(t, s, signOf(0x4d, 2), r, twoTexts(t, body, mark)))
	if err != api.OK {
		t.Fatal(err)
	}
	return b
}

// P16.4: Commit asks for the sum, then the writer's key and the mark, then the member's key.
func TestCommitAsksInOrder(t *testing.T) {
	s, secret, key := suite.Signs(), []byte("a secret"), pattern(keySize, 1)
	r, _ := replay.New(s, replay.Who{Collection: common, Founder: 1, Who: 1, Secret: secret})
	// The wrap is the third, the box the fourth, and so on up to the member's key, with which the wrap is made ahead.
	nonce, _ := ring.Nonce(0, 1)
	box, err := s.Seal(signOf(0x4d, 8), nonce, []byte("wrap"), key)
	if err != api.OK {
		t.Fatal(err)
	}
	e := entry.Entry{Kind: 5, Writer: 1, Seq: 1, Epoch: 1, Wraps: []entry.Wrap{{Who: 1, Box: box}}}
	b := foretold(t, s, 0, 1, e, 3)
	counts(t, "boxes", s, 4)
	commits(t, "foretold", r, b, api.OK)
	counts(t, "Commit", s, 8)
	if got, ok := r.Key(1); !ok || !bytes.Equal(got, key) {
		t.Errorf("key %x %v", got, ok)
	}
	body, _ := entry.Encode(e)
	marked, _ := code.Put(common, body)
	known(t, s, map[int][]byte{5: s.Sum(signOf(0x48, 1), b), 6: s.Code(secret, []byte("writer"), inSix(1)), 7: s.Code(signOf(0x4d, 6), marked), 8: s.Code(secret, []byte("member"), inSix(1))})
	counts(t, "what was asked for is known", s, 8)
}

// P16.4: Open is asked for what it is where it comes to that, and Unwrap too: as many as the outcome tells.
func TestCommitAsksByOutcome(t *testing.T) {
	for _, c := range []struct {
		what          string
		epoch, writer int
		e             entry.Entry
		want          api.Errno
		asked         int
	}{
		{"put", 0, 1, put(1, 1, "a", "b"), api.OK, 3},
		{"drop of nothing", 0, 1, drop(1, 1, "a"), api.OK, 3},
		{"grant", 0, 1, grant(1, 1, 2, 7), api.OK, 3},
		{"no rights", 0, 2, put(2, 1, "a", "b"), api.ErrRight, 3},
		{"rotate, not to be unwrapped", 0, 1, hollow(1, 1, 1, 1), api.OK, 4},
		{"rotate by another", 0, 2, hollow(2, 1, 1, 1), api.ErrRight, 3},
		{"rotate that doesn't fit", 0, 1, hollow(1, 1, 2, 1), api.ErrEpoch, 3},
		{"rotate for too many", 0, 1, hollow(1, 1, 1, 1, 2), api.ErrEpoch, 3},
		{"epoch above", 1, 1, put(1, 1, "a", "b"), api.ErrEpoch, 1},
		{"strange", 0, 2, put(1, 1, "a", "b"), api.ErrOther, 1},
	} {
		s := suite.Signs()
		r, _ := replay.New(s, replay.Who{Collection: common, Founder: 1, Who: 1, Secret: []byte("a secret")})
		commits(t, c.what, r, foretold(t, s, c.epoch, c.writer, c.e, 3), c.want)
		counts(t, c.what, s, 3+c.asked)
	}
}

// P16.4: of a rotate whose wraps are for others alone nothing is unwrapped.
func TestRotateForOthersAsksNothing(t *testing.T) {
	s := suite.Signs()
	r, _ := replay.New(s, replay.Who{Collection: common, Founder: 1, Who: 2, Secret: []byte("a secret")})
	commits(t, "for others", r, foretold(t, s, 0, 1, hollow(1, 1, 1, 1), 3), api.OK)
	counts(t, "for others", s, 6)
	if _, ok := r.Key(1); ok || r.Policy().Epoch != 1 {
		t.Error("there is a key, or another epoch")
	}
}

// P16.4: where an error of Open, or one ahead of it, is told, nothing is asked but for the sum; where it is ErrTag, the writer's key and the mark too.
func TestErrorsAskNothingElse(t *testing.T) {
	s, secret := suite.Signs(), []byte("a secret")
	r, _ := replay.New(s, replay.Who{Collection: common, Founder: 1, Who: 2, Secret: secret})
	commits(t, "rotate", r, foretold(t, s, 0, 1, hollow(1, 1, 1, 1), 3), api.OK)
	count := s.Count()
	at := sealed.Record{Collection: common, Writer: 3, Count: 9}
	body, _ := entry.Encode(put(3, 1, "a", "b"))
	unmarked := boxed(t, s, signOf(0x4d, 2), at, twoTexts(t, body, pattern(keySize, 1)))
	shapeless := boxed(t, s, signOf(0x4d, 2), at, make([]byte, 64))
	count += 2
	counts(t, "boxes", s, count)
	for _, c := range []struct {
		what  string
		r     sealed.Record
		epoch int
		want  api.Errno
		asked int
	}{
		{"epoch above", unmarked, 2, api.ErrEpoch, 1},
		{"no key", unmarked, 1, api.ErrKey, 1},
		{"shapeless", shapeless, 0, api.ErrForm, 1},
		{"no box that was made", sealed.Record{Collection: common, Writer: 3, Count: 9, Box: pattern(100, 1)}, 0, api.ErrOpen, 1},
		{"unmarked", unmarked, 0, api.ErrTag, 3},
	} {
		c.r.Epoch = c.epoch
		b, _ := sealed.Encode(c.r)
		commits(t, c.what, r, b, c.want)
		count += c.asked
		counts(t, c.what, s, count)
	}
	known(t, s, map[int][]byte{count - 1: s.Code(secret, []byte("writer"), inSix(3))})
	counts(t, "what was asked for is known", s, count)
}

// P16.4: what is refused asks nothing, and what tells nothing new neither.
func TestAsksNothingElse(t *testing.T) {
	s := suite.Signs()
	d, log := midway(t, s)
	r := d.replay(2)
	all(t, "midway", r, log...)
	for what, b := range wrongBytes(t, log[0]) {
		count := s.Count()
		refuses(t, what, r, b, api.ErrForm)
		counts(t, what, s, count)
	}
	count := s.Count()
	shown(r)
	r.View(somePending())
	r.View([]entry.Entry{hollow(1, 11, 3, 1, 2)})
	r.Key(-1)
	r.Seen(99)
	counts(t, "what is told", s, count)
	for r.Chain().Len() < mostLinks {
		commits(t, "filled up", r, d.record(9, put(1, 11, "a", "b")), api.ErrEpoch)
	}
	for _, b := range [][]byte{d.record(2, put(1, 11, "a", "b")), d.record(2, d.rotate(1, 11, 3, 1, 2)), d.faulty(2, put(1, 11, "a", "b"), unmarked)} {
		count := s.Count()
		refuses(t, "full", r, b, api.ErrFull)
		counts(t, "full", s, count)
	}
}

// P16.4: a replay draws no keys of a real suite, and makes no boxes of signs: what comes behind has the next number.
func TestDrawsNothing(t *testing.T) {
	onEach(t, func(t *testing.T, s *suite.Suite) {
		d, log := midway(t, s)
		all(t, "first", d.replay(2), log...)
		count := s.Count()
		// All that this one asks is what the first one was told.
		all(t, "again", d.replay(2), log...)
		counts(t, "the same again", s, count)
	})
}

// P16.2: a replay hangs on the records alone: members with other real suites, and unlike seeds, make the same of them.
func TestRealSuitesApart(t *testing.T) {
	d, log := midway(t, suite.Real([]byte("one")))
	r := d.replay(2)
	all(t, "one", r, log...)
	other, e := replay.New(suite.Real([]byte("another")), replay.Who{Collection: common, Founder: 1, Who: 2, Secret: d.secret})
	if e != api.OK {
		t.Fatal(e)
	}
	all(t, "another", other, log...)
	if shown(r) != shown(other) {
		t.Errorf("one has %s, another %s", shown(r), shown(other))
	}
}

// P16.2: with another secret no box is opened, with another founder nothing may be.
func TestOtherMembers(t *testing.T) {
	onEach(t, func(t *testing.T, s *suite.Suite) {
		d := newDesk(t, s)
		b := d.record(0, put(1, 1, "a", "b"))
		stranger, _ := replay.New(s, replay.Who{Collection: common, Founder: 1, Who: 1, Secret: []byte("another secret")})
		commits(t, "another secret", stranger, b, api.ErrOpen)
		elsewhere, _ := replay.New(s, replay.Who{Collection: common, Founder: 2, Who: 1, Secret: d.secret})
		commits(t, "another founder", elsewhere, b, api.ErrRight)
		commits(t, "its own", elsewhere, d.record(0, put(2, 1, "a", "b")), api.OK)
		commits(t, "grant", elsewhere, d.record(0, grant(2, 2, 1, 2)), api.OK)
		commits(t, "of its founder", elsewhere, d.record(0, grant(1, 2, 2, 2)), api.ErrRight)
	})
}

// What is handed in stays as it is, its spare room too.
func TestArgumentsStay(t *testing.T) {
	onEach(t, func(t *testing.T, s *suite.Suite) {
		d, log := midway(t, s)
		d.secret = roomy(d.secret)
		secret := bytes.Clone(d.secret[:cap(d.secret)])
		r := d.replay(2)
		for _, b := range append(log, nil, []byte("x"), d.faulty(2, put(1, 11, "a", "b"), shut)) {
			given := roomy(b)
			was := bytes.Clone(given[:cap(given)])
			r.Commit(given)
			if !bytes.Equal(given[:cap(given)], was) {
				t.Errorf("what was committed is changed to %x", given[:cap(given)])
			}
		}
		pending := roomyPending()
		was := shownPending(pending)
		r.View(pending)
		if now := shownPending(pending); now != was {
			t.Errorf("what is pending is changed from %s to %s", was, now)
		}
		if !bytes.Equal(d.secret[:cap(d.secret)], secret) {
			t.Error("the secret is changed")
		}
	})
}

// roomyPending is what may be pending, each list with spare room.
func roomyPending() []entry.Entry {
	pending := append(somePending(), put(9, 9, "spare", "room"))
	for i, e := range pending {
		pending[i].Name, pending[i].Value = roomy(e.Name), roomy(e.Value)
		wraps := append(make([]entry.Wrap, 0, len(e.Wraps)+1), e.Wraps...)
		for j, w := range wraps {
			wraps[j].Box = roomy(w.Box)
		}
		pending[i].Wraps = wraps
	}
	return pending[:len(pending)-1]
}

// shownPending is all of what is pending, spare room too.
func shownPending(pending []entry.Entry) string {
	text := fmt.Sprint(len(pending))
	for _, e := range pending[:cap(pending)] {
		text += fmt.Sprint(e, e.Name[:cap(e.Name)], e.Value[:cap(e.Value)], e.Wraps[:cap(e.Wraps)])
		for _, w := range e.Wraps {
			text += fmt.Sprint(w.Box[:cap(w.Box)])
		}
	}
	return text
}

// scribblePending changes all that is pending.
func scribblePending(pending []entry.Entry) {
	for i, e := range pending {
		scribble(e.Name)
		scribble(e.Value)
		for j, w := range e.Wraps {
			scribble(w.Box)
			e.Wraps[j] = entry.Wrap{Who: 16}
		}
		pending[i] = entry.Entry{Kind: 4, Writer: 1, Seq: 1, Who: 2}
	}
}

// What is handed in, changed later, changes nothing that was told or kept.
func TestArgumentsAreNotKept(t *testing.T) {
	onEach(t, func(t *testing.T, s *suite.Suite) {
		d, log := midway(t, s)
		secret := bytes.Clone(d.secret)
		who := replay.Who{Collection: common, Founder: 1, Who: 2, Secret: roomy(d.secret)}
		r, e := replay.New(s, who)
		if e != api.OK {
			t.Fatal(e)
		}
		scribble(who.Secret)
		for _, b := range log {
			given := roomy(b)
			commits(t, "kept", r, given, api.OK)
			scribble(given)
		}
		m := midState(d, log)
		is(t, "kept", s, r, m)
		// The key of the next epoch is unwrapped with the secret as it was.
		rotate := d.rotate(1, 11, 3, 1, 2)
		all(t, "rotate", r, d.record(2, rotate), d.record(3, put(2, 11, "a", "b")))
		if !bytes.Equal(d.secret, secret) {
			t.Fatal("the test's own secret is changed")
		}
		pending := roomyPending()
		p, c := r.View(pending)
		was, there := shownView(p, c), shown(r)
		scribblePending(pending)
		if shownView(p, c) != was || shown(r) != there {
			t.Error("what was pending, changed later, changes what was told or is kept")
		}
	})
}

// spoil changes all of a policy, its spare room too, and of a collection.
func spoil(p policy.Policy, d *docs.Docs) {
	for i := range p.Members[:cap(p.Members)] {
		p.Members[:cap(p.Members)][i] = policy.Member{Who: 16, Rights: 5}
	}
	d.Apply(put(1, 1, "a", "spoilt"))
	d.Apply(put(1, 1, "spoilt", "a"))
	d.Apply(drop(1, 1, "e"))
}

// What was told, changed later, changes nothing that is kept or was told otherwise.
func TestAnswersApart(t *testing.T) {
	onEach(t, func(t *testing.T, s *suite.Suite) {
		d, log := midway(t, s)
		m, r := midState(d, log), d.replay(2)
		all(t, "midway", r, log...)
		for _, pending := range [][]entry.Entry{nil, {grant(4, 1, 3, 7)}, somePending()} {
			was := shownView(m.view(pending))
			p, c := r.View(pending)
			again, twice := r.View(pending)
			spoil(p, c)
			if shownView(again, twice) != was {
				t.Errorf("View: what was told is changed to %s", shownView(again, twice))
			}
			is(t, "View", s, r, m)
			views(t, "View", s, r, m, pending)
		}
		p, c, again, twice := r.Policy(), r.Docs(), r.Policy(), r.Docs()
		spoil(p, c)
		if shownView(again, twice) != shownView(m.policy(), m.collection()) {
			t.Errorf("what was told is changed to %s", shownView(again, twice))
		}
		is(t, "Policy and Docs", s, r, m)
		for epoch := range mostEpoch + 1 {
			key, _ := r.Key(epoch)
			scribble(key)
		}
		is(t, "Key", s, r, m)
		head, _ := r.Chain().At(3)
		link, _ := r.Chain().Link(3)
		scribble(head.Sum)
		scribble(link)
		is(t, "Chain", s, r, m)
		all(t, "it goes on", r, d.record(2, put(2, 11, "a", "b")), d.record(0, d.rotate(1, 11, 3, 1, 2)))
	})
}

// What was told stays as it is when more is committed, but for the chain, which is the thing itself.
func TestToldAheadOfCommit(t *testing.T) {
	onEach(t, func(t *testing.T, s *suite.Suite) {
		d := newDesk(t, s)
		r := d.replay(1)
		all(t, "first", r, d.record(0, put(1, 1, "a", "b")), d.record(0, grant(1, 2, 3, 1)))
		c, p, content := r.Chain(), r.Policy(), r.Docs()
		viewed, seen := r.View(nil)
		was := shownView(p, content)
		all(t, "more", r, d.record(0, put(1, 3, "a", "c")), d.record(0, grant(1, 4, 2, 7)), d.record(0, grant(1, 5, 3, 2)), d.record(0, d.rotate(1, 6, 1, 1, 2)))
		if shownView(p, content) != was || shownView(viewed, seen) != was {
			t.Errorf("what was told is changed to %s", shownView(p, content))
		}
		if c != r.Chain() || c.Len() != 6 {
			t.Errorf("the chain that was told has %d links", c.Len())
		}
	})
}

// Two replays by one suite have nothing in common.
func TestReplaysApart(t *testing.T) {
	onEach(t, func(t *testing.T, s *suite.Suite) {
		d, log := midway(t, s)
		one, other := d.replay(2), d.replay(2)
		was := shown(other)
		all(t, "one", one, log...)
		if shown(other) != was {
			t.Errorf("another is changed to %s", shown(other))
		}
		there := shown(one)
		all(t, "other", other, log[:3]...)
		if shown(one) != there {
			t.Errorf("one is changed to %s", shown(one))
		}
	})
}

// crowd is some members' replays of one log, each with its state.
type crowd struct {
	desk    *desk
	random  *rand.Rand
	replays []*replay.Replay
	states  []*state
	// All that was committed, to come again.
	steps []step
}

// step is a record, and what it was made of.
type step struct {
	b          []byte
	epoch, box int
	e          entry.Entry
	keys       map[int][]byte
	// What the box was sealed with.
	key []byte
}

// often tells, by chance, whether one of n times is now.
func (c *crowd) often(n int) bool {
	return c.random.Intn(n) == 0
}

// epoch is the first member's epoch, or another one.
func (c *crowd) epoch() int {
	epoch := c.states[0].epoch
	if c.often(6) {
		epoch = max(0, min(mostEpoch, epoch+c.random.Intn(4)-2))
	}
	return epoch
}

// seq is a writer's next Seq, or another one.
func (c *crowd) seq(writer int) int {
	seq := c.states[0].seen[writer] + 1
	if c.often(5) {
		seq = max(1, seq+c.random.Intn(7)-3)
	}
	return seq
}

// entry is an entry, and the keys that its wraps hold.
func (c *crowd) entry() (entry.Entry, map[int][]byte) {
	writer := 1
	if c.often(2) {
		writer = 1 + c.random.Intn(5)
	}
	seq, name, who := c.seq(writer), string(rune('a'+c.random.Intn(4))), 1+c.random.Intn(5)
	switch c.random.Intn(9) {
	case 0, 1, 2:
		return put(writer, seq, name, fmt.Sprint(c.random.Intn(1000))), nil
	case 3:
		return drop(writer, seq, name), nil
	case 4, 5:
		return grant(writer, seq, who, 1+c.random.Intn(7)), nil
	case 6:
		return revoke(writer, seq, who), nil
	}
	return c.rotate(writer, seq)
}

// rotate is a rotate, mostly one that fits, and the keys that its wraps hold.
func (c *crowd) rotate(writer, seq int) (entry.Entry, map[int][]byte) {
	epoch, readers := min(mostEpoch, c.states[0].epoch+1), c.states[0].readers()
	if c.often(6) {
		epoch = 1 + c.random.Intn(mostEpoch)
	}
	if c.often(6) {
		readers = readers[1:]
	}
	key, e, keys := c.desk.suite.Key(), entry.Entry{Kind: 5, Writer: writer, Seq: seq, Epoch: epoch}, map[int][]byte{}
	for _, who := range readers {
		box := pattern(boxSize, c.random.Intn(256))
		if !c.often(8) {
			box, _ = ring.Wrap(c.desk.suite, c.desk.secret, who, epoch, key)
			keys[who] = key
		}
		e.Wraps = append(e.Wraps, entry.Wrap{Who: who, Box: box})
	}
	return e, keys
}

// step is the next step: a new record, or one that comes again.
func (c *crowd) step() step {
	if len(c.steps) > 0 && c.often(12) {
		return c.steps[c.random.Intn(len(c.steps))]
	}
	e, keys := c.entry()
	s := step{epoch: c.epoch(), e: e, keys: keys}
	s.key = c.desk.key(s.epoch)
	if c.often(8) {
		s.box = c.random.Intn(boxes)
	}
	s.b = c.desk.faulty(s.epoch, e, s.box)
	return s
}

// does commits a step at all replays.
func (c *crowd) does(t *testing.T, s step) {
	t.Helper()
	c.steps = append(c.steps, s)
	for i, r := range c.replays {
		m := c.states[i]
		what := fmt.Sprintf("member %d, link %d", m.who, len(m.links))
		// A member whose key of an epoch is another one than the record's can't open it.
		box := s.box
		if key := m.keys[s.epoch]; key != nil && !bytes.Equal(key, s.key) {
			box = shut
		}
		m.links = append(m.links, s.b)
		commits(t, what, r, s.b, m.follow(s.epoch, box, s.e, s.keys))
		is(t, what, c.desk.suite, r, m)
	}
	// What comes next is sealed with the first member's keys; of an epoch of which it has none, with another one's.
	for _, m := range slices.Backward(c.states) {
		maps.Copy(c.desk.keys, m.keys)
	}
}

// P16.2, P16.3: logs by chance, at several members, against the document's words.
func TestByChance(t *testing.T) {
	onEach(t, func(t *testing.T, s *suite.Suite) {
		seen := map[api.Errno]int{}
		for seed := range 30 {
			c := &crowd{desk: newDesk(t, s), random: rand.New(rand.NewSource(int64(seed)))}
			for who := 1; who <= 4; who++ {
				c.replays, c.states = append(c.replays, c.desk.replay(who)), append(c.states, stateOf(c.desk, who))
			}
			for range mostLinks {
				c.does(t, c.step())
				views(t, "by chance", s, c.replays[1], c.states[1], somePending())
				if t.Failed() {
					t.Fatalf("seed %d", seed)
				}
			}
			refuses(t, "one more", c.replays[0], c.step().b, api.ErrFull)
			for _, x := range outcomes(c) {
				seen[x]++
			}
		}
		for _, want := range []api.Errno{api.OK, api.ErrEpoch, api.ErrKey, api.ErrOpen, api.ErrForm, api.ErrOther, api.ErrTag, api.ErrTwice, api.ErrRight} {
			if seen[want] == 0 {
				t.Errorf("no outcome %d by chance", want)
			}
		}
	})
}

// outcomes are those of all of a crowd's links, at new replays of its members.
func outcomes(c *crowd) []api.Errno {
	var all []api.Errno
	for i, m := range c.states {
		r := c.desk.replay(m.who)
		for _, b := range m.links {
			_, outcome := r.Commit(b)
			all = append(all, outcome)
		}
		if shown(r) != shown(c.replays[i]) {
			c.desk.t.Errorf("member %d: the same log is followed otherwise", m.who)
		}
	}
	return all
}

// tried wants that Commit of any bytes is as the document tells of what is no record, and of what nobody sealed.
func tried(t *testing.T, r *replay.Replay, b []byte) {
	t.Helper()
	was := shownChanged(r)
	length := r.Chain().Len()
	e, outcome := r.Commit(b)
	record, err := sealed.Decode(b)
	want := api.OK
	switch {
	case err != api.OK || record.Collection != common:
		want = api.ErrForm
	case length == mostLinks:
		want = api.ErrFull
	default:
		length++
	}
	if e != want || r.Chain().Len() != length || e != api.OK && outcome != api.OK {
		t.Errorf("Commit of %x: error %d, outcome %d, want error %d", b, e, outcome, want)
	}
	if e == api.OK && outcome == api.OK {
		t.Errorf("Commit of %x is OK", b)
	}
	if shownChanged(r) != was {
		t.Errorf("Commit of %x changes what there is", b)
	}
}

// P16.2: bytes that were changed by chance are never OK, and change nothing.
func TestChangedBytes(t *testing.T) {
	onEach(t, func(t *testing.T, s *suite.Suite) {
		d, log := midway(t, s)
		random := rand.New(rand.NewSource(162))
		fresh := d.record(2, put(1, 11, "a", "b"))
		var r *replay.Replay
		for i := range 800 {
			if i%80 == 0 {
				r = d.replay(2)
				all(t, "midway", r, log...)
			}
			b := bytes.Clone(fresh)
			for range 1 + random.Intn(3) {
				b[random.Intn(len(b))] ^= byte(1 + random.Intn(255))
			}
			if bytes.Equal(b, fresh) {
				continue
			}
			tried(t, r, b)
		}
	})
}

// P1, P16.2: any bytes.
func FuzzCommit(f *testing.F) {
	f.Add([]byte{})
	f.Add(slices.Concat(inSix(common), inSix(0), inSix(1), inSix(1), []byte{0, 80}, make([]byte, 80)))
	f.Add(slices.Concat(inSix(common), inSix(3), inSix(1), inSix(1), []byte{0, 80}, make([]byte, 80)))
	f.Add(slices.Concat(inSix(common+1), inSix(0), inSix(1), inSix(1), []byte{0, 80}, make([]byte, 80)))
	f.Fuzz(func(t *testing.T, b []byte) {
		for _, kind := range suites {
			d, log := midway(t, kind.make())
			r := d.replay(2)
			all(t, "midway", r, log...)
			if slices.ContainsFunc(log, func(known []byte) bool { return bytes.Equal(known, b) }) {
				continue
			}
			tried(t, r, b)
		}
	})
}
