package client_test

import (
	"bytes"
	"encoding/binary"
	"fmt"
	"math"
	"math/rand"
	"slices"
	"strings"
	"testing"

	"locket/api"
	"locket/chain"
	"locket/client"
	"locket/code"
	"locket/docs"
	"locket/entry"
	"locket/frame"
	"locket/policy"
	"locket/replay"
	"locket/ring"
	"locket/sealed"
	"locket/suite"
)

const (
	mostNumber  = 1 << 40
	mostWho     = 16
	mostEpoch   = 16
	mostLinks   = 64
	mostPending = 8
	mostBatch   = 8
	mostFrame   = 1 << 15
	keySize     = 32
	boxSize     = 48

	// The collection that most tests are about.
	common = 5
)

// suites are the kinds of them, each made anew.
var suites = []struct {
	name string
	make func() *suite.Suite
}{
	{"signs", suite.Signs},
	{"real", func() *suite.Suite { return suite.Real([]byte("a seed")) }},
}

// onEach runs a test with a suite of each kind.
func onEach(t *testing.T, run func(t *testing.T, s *suite.Suite)) {
	t.Helper()
	for _, kind := range suites {
		t.Run(kind.name, func(t *testing.T) { run(t, kind.make()) })
	}
}

// onTwins runs a test with two suites of each kind, which tell the same as long as they are asked the same.
func onTwins(t *testing.T, run func(t *testing.T, s, twin *suite.Suite)) {
	t.Helper()
	for _, kind := range suites {
		t.Run(kind.name, func(t *testing.T) { run(t, kind.make(), kind.make()) })
	}
}

// strange are numbers that no member has and that no entry's Seq has; some would be right if they were cut.
func strange() []int {
	return []int{0, -1, mostNumber + 1, 1 << 41, 1<<56 + 1, -mostNumber, math.MinInt, math.MinInt + 1, math.MaxInt - 1, math.MaxInt}
}

// noPersons are those, and such as are out of a member's bounds alone.
func noPersons() []int {
	return append(strange(), mostWho+1, 256+1, 1<<32+1, -mostWho)
}

// pattern is n bytes that differ from place to place, and with the seed.
func pattern(n, seed int) []byte {
	b := make([]byte, n)
	for i := range b {
		b[i] = byte(i*7 + i/64*31 + seed)
	}
	return b
}

// roomy is the same bytes, with spare room behind them that holds more.
func roomy(b []byte) []byte {
	return slices.Concat(b, []byte("spare room"))[:len(b)]
}

// scribble changes all bytes, and those of the spare room.
func scribble(b []byte) {
	b = b[:cap(b)]
	for i := range b {
		b[i] ^= 0xa5
	}
}

// inSix is a number in six bytes, the highest first.
func inSix(n int) []byte {
	return binary.BigEndian.AppendUint64(nil, uint64(n))[2:]
}

// signOf is the sign of a sort and a number.
func signOf(sort byte, n int) []byte {
	return binary.BigEndian.AppendUint64(slices.Concat([]byte{0x53, sort}, make([]byte, 22)), uint64(n))
}

// signBox is the box of signs with a number, of a text of so many bytes.
func signBox(length, n int) []byte {
	return binary.BigEndian.AppendUint64(slices.Concat([]byte{0x42}, make([]byte, length+7)), uint64(n))
}

func put(name, value string) entry.Entry {
	return entry.Entry{Kind: 1, Name: []byte(name), Value: []byte(value)}
}

func drop(name string) entry.Entry {
	return entry.Entry{Kind: 2, Name: []byte(name)}
}

func grant(who, rights int) entry.Entry {
	return entry.Entry{Kind: 3, Who: who, Rights: rights}
}

func revoke(who int) entry.Entry {
	return entry.Entry{Kind: 4, Who: who}
}

// hollow is a rotate whose wraps are boxes that nobody made.
func hollow(epoch int, readers ...int) entry.Entry {
	e := entry.Entry{Kind: 5, Epoch: epoch}
	for _, who := range readers {
		e.Wraps = append(e.Wraps, entry.Wrap{Who: who, Box: pattern(boxSize, 11*who)})
	}
	return e
}

// by is an entry with a writer and a Seq.
func by(writer, seq int, e entry.Entry) entry.Entry {
	e.Writer, e.Seq = writer, seq
	return e
}

// desk is where records are made by hand, whoever writes them, and the log that they stand in.
type desk struct {
	t          *testing.T
	suite      *suite.Suite
	secret     []byte
	collection int
	count      int
	keys       map[int][]byte
	// The Seq of the founder's last entry here.
	seq int
	log [][]byte
}

func newDesk(t *testing.T, s *suite.Suite) *desk {
	d := &desk{t: t, suite: s, secret: []byte("a secret"), collection: common, keys: map[int][]byte{}}
	d.keys[0] = s.Code(d.secret, []byte("epoch"), inSix(0))
	// So no count here is one of a client's, which begin with 1.
	d.count = 1000
	return d
}

// client is a member's client whose founder is 1.
func (d *desk) client(who int) *client.Client {
	d.t.Helper()
	c, e := client.New(d.suite, d.who(who))
	if e != api.OK {
		d.t.Fatalf("New: error %d", e)
	}
	return c
}

func (d *desk) who(who int) replay.Who {
	return replay.Who{Collection: d.collection, Founder: 1, Who: who, Secret: d.secret}
}

// record is a new record's bytes, of an entry, under an epoch's key.
func (d *desk) record(epoch int, e entry.Entry) []byte {
	d.t.Helper()
	d.count++
	at := sealed.Record{Collection: d.collection, Epoch: epoch, Writer: e.Writer, Count: d.count}
	key := d.keys[epoch]
	if key == nil {
		key = pattern(keySize, 100+epoch)
	}
	r, err := sealed.Seal(d.suite, d.secret, key, at, e)
	if err != api.OK {
		d.t.Fatalf("Seal: error %d", err)
	}
	b, err := sealed.Encode(r)
	if err != api.OK {
		d.t.Fatalf("Encode: error %d", err)
	}
	return b
}

// rotate is a rotate to a new key that is wrapped for readers.
func (d *desk) rotate(epoch int, readers ...int) entry.Entry {
	d.t.Helper()
	d.keys[epoch] = d.suite.Key()
	e := entry.Entry{Kind: 5, Epoch: epoch}
	for _, who := range readers {
		box, err := ring.Wrap(d.suite, d.secret, who, epoch, d.keys[epoch])
		if err != api.OK {
			d.t.Fatalf("Wrap: error %d", err)
		}
		e.Wraps = append(e.Wraps, entry.Wrap{Who: who, Box: box})
	}
	return e
}

// adds lets the log have the founder's next entries, each under an epoch's key.
func (d *desk) adds(epoch int, all ...entry.Entry) {
	d.t.Helper()
	for _, e := range all {
		d.seq++
		d.log = append(d.log, d.record(epoch, by(1, d.seq, e)))
	}
}

// noise is a record that changes nothing, whoever takes it.
func (d *desk) noise() []byte {
	d.t.Helper()
	return d.record(mostEpoch, by(mostWho, 1, put("a", "b")))
}

// feeds lets a client take what it hasn't of the log, by batches.
func (d *desk) feeds(c *client.Client) []api.Errno {
	d.t.Helper()
	var all []api.Errno
	for n := c.Head().Index; n < len(d.log); n = c.Head().Index {
		e, outcomes := c.Take(batch(d.t, n, d.log[n:min(n+mostBatch, len(d.log))]...))
		if e != api.OK {
			d.t.Fatalf("Take: error %d", e)
		}
		all = append(all, outcomes...)
	}
	return all
}

// encoded is a frame's bytes.
func encoded(t *testing.T, f frame.Frame) []byte {
	t.Helper()
	b, e := frame.Encode(f)
	if e != api.OK {
		t.Fatalf("%+v: error %d", f, e)
	}
	return b
}

// batch is a batch frame's bytes, of the collection that most tests are about.
func batch(t *testing.T, index int, links ...[]byte) []byte {
	t.Helper()
	return encoded(t, frame.Frame{Kind: 3, Collection: common, Index: index, Links: links})
}

// pushed are the records that a client pushes.
func pushed(t *testing.T, c *client.Client) []sealed.Record {
	t.Helper()
	var all []sealed.Record
	for _, b := range links(t, c) {
		r, e := sealed.Decode(b)
		if e != api.OK {
			t.Fatalf("what is pushed is no record: %x", b)
		}
		all = append(all, r)
	}
	return all
}

// links are the links that a client pushes.
func links(t *testing.T, c *client.Client) [][]byte {
	t.Helper()
	frames, e := c.Push()
	if e != api.OK {
		t.Fatalf("Push: error %d", e)
	}
	var all [][]byte
	for _, b := range frames {
		f, e := frame.Decode(b)
		if e != api.OK || f.Kind != 1 || f.Collection != common {
			t.Fatalf("what is pushed is no push of the collection: %x", b)
		}
		all = append(all, f.Links...)
	}
	return all
}

// shown is all that a client tells, as text.
func shown(c *client.Client) string {
	var text strings.Builder
	frames, e := c.Push()
	pull, f := c.Pull()
	fmt.Fprintf(&text, "alarm %v, tally %v, push %x %d, pull %x %d; ", c.Alarm(), c.Tally(), frames, e, pull, f)
	fmt.Fprintf(&text, "head %d %x; pending %s; ", c.Head().Index, c.Head().Sum, shownEntries(c.Pending()))
	text.WriteString("sees " + shownView(c.See()) + "has " + shownReplay(c.Replay()))
	return text.String()
}

// shownReplay is all that a replay tells.
func shownReplay(r *replay.Replay) string {
	text := shownView(r.Policy(), r.Docs())
	for i := range r.Chain().Len() + 1 {
		head, _ := r.Chain().At(i)
		link, _ := r.Chain().Link(i)
		text += fmt.Sprintf("%d %x %x; ", head.Index, head.Sum, link)
	}
	for i := range mostWho + 1 {
		key, ok := r.Key(i)
		text += fmt.Sprintf("%d: key %x %v, seen %d; ", i, key, ok, r.Seen(i))
	}
	return text
}

// shownView is a policy and a collection.
func shownView(p policy.Policy, d *docs.Docs) string {
	return fmt.Sprintf("%v docs %v; ", p, d.All())
}

// shownEntries are entries, those with nil and with empty lists alike.
func shownEntries(all []entry.Entry) string {
	var text strings.Builder
	for _, e := range all {
		fmt.Fprintf(&text, "%d by %d %d: %x %x %d %d %d, ", e.Kind, e.Writer, e.Seq, e.Name, e.Value, e.Who, e.Rights, e.Epoch)
		for _, w := range e.Wraps {
			fmt.Fprintf(&text, "%d %x, ", w.Who, w.Box)
		}
	}
	return text.String()
}

// issues wants an error of Issue, or OK; what is refused changes nothing, and asks nothing.
func issues(t *testing.T, what string, s *suite.Suite, c *client.Client, e entry.Entry, want api.Errno) {
	t.Helper()
	tells(t, what+": Issue", s, c, want, func() api.Errno { return c.Issue(e) })
}

// rotates wants an error of Rotate, or OK, likewise.
func rotates(t *testing.T, what string, s *suite.Suite, c *client.Client, want api.Errno) {
	t.Helper()
	tells(t, what+": Rotate", s, c, want, c.Rotate)
}

// takes wants an error of Take, or OK, likewise, and just these outcomes.
func takes(t *testing.T, what string, s *suite.Suite, c *client.Client, b []byte, want api.Errno, outcomes ...api.Errno) {
	t.Helper()
	tells(t, what+": Take", s, c, want, func() api.Errno {
		e, got := c.Take(b)
		if !slices.Equal(got, outcomes) {
			t.Errorf("%s: Take tells the outcomes %v, want %v", what, got, outcomes)
		}
		return e
	})
}

// tells wants an error of a call, or OK; what is refused changes nothing, and asks nothing.
func tells(t *testing.T, what string, s *suite.Suite, c *client.Client, want api.Errno, call func() api.Errno) {
	t.Helper()
	was, count := shown(c), s.Count()
	if got := call(); got != want {
		t.Errorf("%s tells error %d, want %d", what, got, want)
	}
	if want == api.OK {
		return
	}
	if now := shown(c); now != was {
		t.Errorf("%s: what was refused changes %s to %s", what, was, now)
	}
	counts(t, what, s, count)
}

// counts wants how many a suite has.
func counts(t *testing.T, what string, s *suite.Suite, want int) {
	t.Helper()
	if got := s.Count(); got != want {
		t.Errorf("%s: count %d, want %d", what, got, want)
	}
}

// pends wants just these entries pending, told, and sealed in the records that are pushed, by these counts and under these epochs' keys.
func pends(t *testing.T, what string, d *desk, c *client.Client, want ...waiting) {
	t.Helper()
	told, records := c.Pending(), pushed(t, c)
	if len(told) != len(want) || len(records) != len(want) {
		t.Fatalf("%s: %d pending, %d pushed, want %d", what, len(told), len(records), len(want))
	}
	for i, w := range want {
		if !entry.Same(told[i], w.e) {
			t.Errorf("%s: pending %d is %+v, want %+v", what, i, told[i], w.e)
		}
		r := records[i]
		if r.Collection != d.collection || r.Epoch != w.epoch || r.Writer != w.e.Writer || r.Count != w.count {
			t.Errorf("%s: record %d is %+v, want epoch %d, count %d", what, i, r, w.epoch, w.count)
		}
		key, _ := c.Replay().Key(w.epoch)
		if e, err := sealed.Open(d.suite, d.secret, key, r); err != api.OK || !entry.Same(e, w.e) {
			t.Errorf("%s: record %d has %+v (error %d), want %+v", what, i, e, err, w.e)
		}
	}
}

// waiting is what is pending, and what its record is sealed by.
type waiting struct {
	e            entry.Entry
	epoch, count int
}

// tallies wants how many are committed, and pending.
func tallies(t *testing.T, what string, c *client.Client, committed, pending int) {
	t.Helper()
	if got := c.Tally(); got != complex(float64(committed), float64(pending)) {
		t.Errorf("%s: tally %v, want %d and %d", what, got, committed, pending)
	}
	if c.Head().Index != committed || len(c.Pending()) != pending {
		t.Errorf("%s: %d links, %d pending, want %d and %d", what, c.Head().Index, len(c.Pending()), committed, pending)
	}
}

// value wants what somebody sees by a name; - stands for nothing.
func value(t *testing.T, what string, d *docs.Docs, name, want string) {
	t.Helper()
	got, ok := d.Get([]byte(name))
	if ok != (want != "-") || ok && string(got) != want {
		t.Errorf("%s: %s is %q %v, want %s", what, name, got, ok, want)
	}
}

func seen(c *client.Client) *docs.Docs {
	_, d := c.See()
	return d
}

// The chapter's example.
func TestExample(t *testing.T) {
	onEach(t, func(t *testing.T, s *suite.Suite) {
		d := newDesk(t, s)
		c := d.client(1)
		issues(t, "put", s, c, put("a", "1"), api.OK)
		value(t, "seen at once", seen(c), "a", "1")
		value(t, "not committed yet", c.Replay().Docs(), "a", "-")
		tallies(t, "pending", c, 0, 1)
		frames, e := c.Push()
		if e != api.OK || len(frames) != 1 {
			t.Fatalf("Push: %d frames, error %d", len(frames), e)
		}
		takes(t, "batch", s, c, batch(t, 0, links(t, c)...), api.OK, api.OK)
		value(t, "committed", c.Replay().Docs(), "a", "1")
		value(t, "seen", seen(c), "a", "1")
		tallies(t, "pending no more", c, 1, 0)
		if frames, e := c.Push(); e != api.OK || len(frames) != 0 {
			t.Errorf("Push: %d frames, error %d", len(frames), e)
		}
	})
}

// P18.1: what there is at first, of each founder and each member, at both bounds of the collection.
func TestNew(t *testing.T) {
	onEach(t, func(t *testing.T, s *suite.Suite) {
		for _, collection := range []int{1, common, mostNumber} {
			for founder := 1; founder <= mostWho; founder++ {
				for who := 1; who <= mostWho; who++ {
					w := replay.Who{Collection: collection, Founder: founder, Who: who, Secret: []byte("a secret")}
					c, e := client.New(s, w)
					if e != api.OK || c == nil {
						t.Fatalf("%+v: error %d", w, e)
					}
					beginning(t, s, c, w)
				}
			}
		}
	})
}

// beginning wants a client that has nothing.
func beginning(t *testing.T, s *suite.Suite, c *client.Client, w replay.Who) {
	t.Helper()
	r, _ := replay.New(s, w)
	if shownReplay(c.Replay()) != shownReplay(r) {
		t.Errorf("%+v: has %s", w, shownReplay(c.Replay()))
	}
	if shownView(c.See()) != shownView(r.Policy(), docs.New()) {
		t.Errorf("%+v: sees %s", w, shownView(c.See()))
	}
	sum := s.Sum([]byte("locket"), inSix(w.Collection))
	if h := c.Head(); h.Index != 0 || !bytes.Equal(h.Sum, sum) {
		t.Errorf("%+v: head %+v", w, h)
	}
	if c.Alarm() || c.Tally() != 0 || len(c.Pending()) != 0 {
		t.Errorf("%+v: alarm %v, tally %v, pending %v", w, c.Alarm(), c.Tally(), c.Pending())
	}
	frames, e := c.Push()
	pull, f := c.Pull()
	if e != api.OK || len(frames) != 0 || f != api.OK || !bytes.Equal(pull, encoded(t, frame.Frame{Kind: 2, Collection: w.Collection})) {
		t.Errorf("%+v: push %x %d, pull %x %d", w, frames, e, pull, f)
	}
}

// P18.1: a number out of its bounds, alone and beside others; then nothing is asked.
func TestNewRefuses(t *testing.T) {
	onEach(t, func(t *testing.T, s *suite.Suite) {
		right := replay.Who{Collection: common, Founder: 1, Who: 2, Secret: []byte("a secret")}
		var wrong []replay.Who
		for _, n := range strange() {
			w := right
			w.Collection = n
			wrong = append(wrong, w)
		}
		for _, n := range noPersons() {
			for _, more := range []int{1, mostWho, n} {
				wrong = append(wrong, replay.Who{Collection: common, Founder: n, Who: more}, replay.Who{Collection: common, Founder: more, Who: n})
			}
			wrong = append(wrong, replay.Who{Collection: n, Founder: n, Who: n}, replay.Who{Collection: mostNumber + 1, Founder: 1, Who: n})
		}
		for _, w := range wrong {
			if c, e := client.New(s, w); e != api.ErrRange || c != nil {
				t.Errorf("%+v: error %d, client %v", w, e, c)
			}
		}
		counts(t, "what is refused", s, 0)
	})
}

// P18.1: what a client has and sees stand apart: the one is what was committed, the other goes on with what is pending.
func TestHasAndSees(t *testing.T) {
	onEach(t, func(t *testing.T, s *suite.Suite) {
		d := newDesk(t, s)
		c := d.client(1)
		issues(t, "put", s, c, put("a", "1"), api.OK)
		issues(t, "grant", s, c, grant(2, 3), api.OK)
		d.log = links(t, c)
		d.feeds(c)
		was := shownReplay(c.Replay())
		issues(t, "put", s, c, put("a", "2"), api.OK)
		issues(t, "put", s, c, put("b", "3"), api.OK)
		issues(t, "drop", s, c, drop("a"), api.OK)
		issues(t, "drop of nothing", s, c, drop("z"), api.OK)
		issues(t, "revoke", s, c, revoke(2), api.OK)
		issues(t, "grant", s, c, grant(3, 1), api.OK)
		if shownReplay(c.Replay()) != was {
			t.Errorf("what is pending changes what there is to %s", shownReplay(c.Replay()))
		}
		p, there := c.See()
		if fmt.Sprint(p) != "{1 0 [{1 7} {3 1}]}" {
			t.Errorf("sees the policy %v", p)
		}
		value(t, "dropped", there, "a", "-")
		value(t, "put", there, "b", "3")
		tallies(t, "both", c, 2, 6)
		if seen, kept := c.Replay().View(c.Pending()); shownView(c.See()) != shownView(seen, kept) {
			t.Error("it sees something else than the view of what is pending")
		}
	})
}

// ofEachKind are right entries that a client may be asked to issue, at their bounds.
func ofEachKind() []entry.Entry {
	all := []entry.Entry{
		put("a", "b"), put("a", ""), put("\x00", "\x00\xff"),
		{Kind: 1, Name: pattern(64, 1), Value: pattern(512, 2)}, {Kind: 1, Name: pattern(1, 3), Value: pattern(1, 4)},
		drop("a"), drop("nothing"), {Kind: 2, Name: pattern(64, 5)}, drop("\x00"),
		revoke(2), revoke(9), revoke(mostWho),
	}
	for rights := 1; rights <= 7; rights++ {
		all = append(all, grant(2, rights), grant(mostWho, rights))
	}
	return all
}

// P18.2: entries of each kind, at their bounds, are pending and sealed, whatever their Writer and Seq are.
func TestIssueEachKind(t *testing.T) {
	onEach(t, func(t *testing.T, s *suite.Suite) {
		d := newDesk(t, s)
		for _, e := range ofEachKind() {
			c := d.client(1)
			issues(t, "alone", s, c, e, api.OK)
			pends(t, "alone", d, c, waiting{by(1, 1, e), 0, 1})
		}
		for i, n := range append(noPersons(), 1, 2, mostNumber) {
			c := d.client(1)
			issues(t, "Writer and Seq", s, c, by(n, n, put("a", "b")), api.OK)
			issues(t, "Writer and Seq", s, c, by(1, n, drop("a")), api.OK)
			issues(t, "Writer and Seq", s, c, by(n, 1, grant(2, 3)), api.OK)
			issues(t, "Writer and Seq", s, c, by(2, i, revoke(2)), api.OK)
			pends(t, "Writer and Seq", d, c, waiting{by(1, 1, put("a", "b")), 0, 1}, waiting{by(1, 2, drop("a")), 0, 2},
				waiting{by(1, 3, grant(2, 3)), 0, 3}, waiting{by(1, 4, revoke(2)), 0, 4})
		}
	})
}

// wrongEntries are entries that aren't right, each in one thing, whatever Writer and Seq are.
func wrongEntries() []entry.Entry {
	all := []entry.Entry{
		{}, put("", "b"), {Kind: 1, Name: pattern(65, 1)}, {Kind: 1, Name: pattern(1, 1), Value: pattern(513, 1)},
		drop(""), {Kind: 2, Name: pattern(65, 1)}, {Kind: 2, Name: pattern(1, 1), Value: pattern(1, 1)},
		grant(2, 0), grant(2, 8), grant(2, -1), revoke(0), revoke(mostWho + 1),
		hollow(0), hollow(-1), hollow(mostEpoch + 1), hollow(1, 2, 1), hollow(1, 1, 1), hollow(1, 0), hollow(1, mostWho+1),
	}
	for _, who := range noPersons() {
		all = append(all, grant(who, 1), revoke(who))
	}
	for _, kind := range append(strange(), 6, 7, 256+1) {
		e := put("a", "b")
		e.Kind = kind
		all = append(all, e, entry.Entry{Kind: kind})
	}
	for _, e := range []entry.Entry{put("a", "b"), drop("a"), grant(2, 1), revoke(2), hollow(1)} {
		all = append(all, withMore(e)...)
	}
	short := hollow(1, 1)
	short.Wraps[0].Box = short.Wraps[0].Box[1:]
	return append(all, short)
}

// withMore is a right entry with one thing more than is named of its kind.
func withMore(e entry.Entry) []entry.Entry {
	var all []entry.Entry
	add := func(is bool, change func(e *entry.Entry)) {
		more := e
		change(&more)
		if is {
			all = append(all, more)
		}
	}
	add(e.Kind > 2, func(e *entry.Entry) { e.Name = []byte("a") })
	add(e.Kind > 1, func(e *entry.Entry) { e.Value = []byte("a") })
	add(e.Kind != 3 && e.Kind != 4, func(e *entry.Entry) { e.Who = 2 })
	add(e.Kind != 3, func(e *entry.Entry) { e.Rights = 1 })
	add(e.Kind != 5, func(e *entry.Entry) { e.Epoch = 1 })
	add(e.Kind != 5, func(e *entry.Entry) { e.Wraps = hollow(1, 1).Wraps })
	return all
}

// P18.2: what isn't right is ErrForm, a right rotate ErrKind, whatever its Epoch and Wraps are; then the next numbers are as if it hadn't been.
func TestIssueRefuses(t *testing.T) {
	onEach(t, func(t *testing.T, s *suite.Suite) {
		d := newDesk(t, s)
		c := d.client(1)
		issues(t, "first", s, c, put("a", "b"), api.OK)
		for _, e := range wrongEntries() {
			issues(t, fmt.Sprintf("%+v", e), s, c, e, api.ErrForm)
			issues(t, fmt.Sprintf("%+v by 1", e), s, c, by(1, 2, e), api.ErrForm)
		}
		for epoch := 1; epoch <= mostEpoch; epoch++ {
			for _, e := range []entry.Entry{hollow(epoch), hollow(epoch, 1), hollow(epoch, 2, mostWho), d.rotate(epoch, 1)} {
				issues(t, fmt.Sprintf("rotate to %d", epoch), s, c, e, api.ErrKind)
				issues(t, fmt.Sprintf("rotate to %d, by 1", epoch), s, c, by(1, 2, e), api.ErrKind)
			}
		}
		issues(t, "second", s, c, drop("a"), api.OK)
		pends(t, "nothing else", d, c, waiting{by(1, 1, put("a", "b")), 0, 1}, waiting{by(1, 2, drop("a")), 0, 2})
	})
}

// P18.2: Count and Seq over several calls: what is done ahead counts on, what is refused doesn't.
func TestCountAndSeq(t *testing.T) {
	onEach(t, func(t *testing.T, s *suite.Suite) {
		d := newDesk(t, s)
		c := d.client(1)
		for i := 1; i <= 40; i++ {
			e := put("a", fmt.Sprint(i))
			issues(t, "one by one", s, c, e, api.OK)
			issues(t, "wrong", s, c, put("", ""), api.ErrForm)
			issues(t, "rotate", s, c, hollow(1), api.ErrKind)
			pends(t, "one by one", d, c, waiting{by(1, i, e), 0, i})
			d.log = append(d.log, links(t, c)...)
			d.feeds(c)
			tallies(t, "one by one", c, i, 0)
		}
		var want []waiting
		for i := 41; i <= 48; i++ {
			issues(t, "all at once", s, c, put("a", fmt.Sprint(i)), api.OK)
			want = append(want, waiting{by(1, i, put("a", fmt.Sprint(i))), 0, i})
		}
		pends(t, "all at once", d, c, want...)
	})
}

// P18.2: the next Seq is one more than the greater of the last one given and the greatest seen; the Count leaves none out.
func TestSeqGivenAndSeen(t *testing.T) {
	onEach(t, func(t *testing.T, s *suite.Suite) {
		for _, given := range []int{0, 1, 2, 5, 8} {
			for _, most := range []int{0, 1, 2, 4, 5, 6, 8, 9, 1000, mostNumber - 2, mostNumber - 1} {
				d := newDesk(t, s)
				d.adds(0, grant(2, 7))
				c := d.client(2)
				d.feeds(c)
				for i := range given {
					issues(t, "given", s, c, put("a", fmt.Sprint(i)), api.OK)
				}
				if most > 0 {
					d.log = append(d.log, d.record(0, by(2, most, put("b", "c"))))
					d.feeds(c)
				}
				// Those that aren't seen yet are still pending.
				var want []waiting
				for i := most; i < given; i++ {
					want = append(want, waiting{by(2, i+1, put("a", fmt.Sprint(i))), 0, i + 1})
				}
				what := fmt.Sprintf("given %d, seen %d", given, most)
				if len(want) == mostPending {
					issues(t, what, s, c, drop("a"), api.ErrFull)
					continue
				}
				issues(t, what, s, c, drop("a"), api.OK)
				pends(t, what, d, c, append(want, waiting{by(2, max(given, most)+1, drop("a")), 0, given + 1})...)
			}
		}
	})
}

// P18.2, P18.3: no Seq is left behind the greatest one.
func TestNoSeqLeft(t *testing.T) {
	onEach(t, func(t *testing.T, s *suite.Suite) {
		for left := range 4 {
			d := newDesk(t, s)
			d.adds(0, grant(2, 7))
			d.log = append(d.log, d.record(0, by(2, mostNumber-left, put("b", "c"))))
			c := d.client(2)
			d.feeds(c)
			var want []waiting
			for i := 1; i <= left; i++ {
				issues(t, "as many as are left", s, c, put("a", "b"), api.OK)
				want = append(want, waiting{by(2, mostNumber-left+i, put("a", "b")), 0, i})
			}
			for _, e := range ofEachKind() {
				issues(t, "none left", s, c, e, api.ErrForm)
			}
			issues(t, "none left", s, c, hollow(1, 1, 2), api.ErrForm)
			rotates(t, "none left", s, c, api.ErrForm)
			pends(t, "none left", d, c, want...)
		}
	})
}

// plight is what stands against a member's next call; 2 is the member.
type plight struct {
	alarm, spent, full, rightless, twice, keyless, last bool
}

// plights are all of them.
func plights() []plight {
	var all []plight
	for n := range 1 << 7 {
		is := func(i int) bool { return n>>i&1 == 1 }
		all = append(all, plight{is(0), is(1), is(2), is(3), is(4), is(5), is(6)})
	}
	return all
}

// pending is how many are pending then: as many as may be, or one less.
func (p plight) pending() int {
	if p.full {
		return mostPending
	}
	return mostPending - 1
}

// rights are what the member may do when the last rotate comes.
func (p plight) rights() entry.Entry {
	switch {
	case p.rightless && p.keyless:
		return revoke(2)
	case p.rightless:
		return grant(2, 1)
	case p.keyless:
		return grant(2, 6)
	}
	return grant(2, 7)
}

// epoch is the policy's.
func (p plight) epoch() int {
	if p.last {
		return mostEpoch
	}
	return 1
}

// client is a client to which all that befell.
func (p plight) client(t *testing.T, s *suite.Suite) (*desk, *client.Client) {
	t.Helper()
	d := newDesk(t, s)
	c := d.client(2)
	d.adds(0, grant(2, 7))
	if p.spent {
		// The last Seq is that of the last one that is pending.
		d.log = append(d.log, d.record(0, by(2, mostNumber-p.pending(), put("a", "b"))))
	}
	d.feeds(c)
	for range p.pending() - 1 {
		issues(t, "pending", s, c, put("a", "b"), api.OK)
	}
	if p.twice {
		rotates(t, "pending", s, c, api.OK)
	} else {
		issues(t, "pending", s, c, put("a", "b"), api.OK)
	}
	for epoch := 1; epoch < p.epoch(); epoch++ {
		d.adds(epoch-1, d.rotate(epoch, 1, 2))
	}
	d.adds(p.epoch()-1, p.rights())
	if p.keyless {
		d.adds(p.epoch()-1, d.rotate(p.epoch(), 1))
	} else {
		d.adds(p.epoch()-1, d.rotate(p.epoch(), 1, 2))
	}
	d.feeds(c)
	if p.alarm && c.Compare(chain.Head{}) != api.ErrFork {
		t.Fatal("there is no alarm")
	}
	// A rotate that is pending doesn't fit any more, and so isn't seen.
	if seen, _ := c.See(); seen.Epoch != p.epoch() {
		t.Fatalf("%+v: epoch %d", p, seen.Epoch)
	}
	return d, c
}

// first is the first error that is there.
func first(all ...fault) api.Errno {
	for _, f := range all {
		if f.is {
			return f.e
		}
	}
	return api.OK
}

// fault is an error, and whether it applies.
type fault struct {
	is bool
	e  api.Errno
}

// goesOn wants the next one that is pending to have the next numbers, by how many ahead of it were sealed.
func (p plight) goesOn(t *testing.T, d *desk, c *client.Client, kind int) {
	t.Helper()
	records, told := pushed(t, c), c.Pending()
	r, e := records[len(records)-1], told[len(told)-1]
	seq := p.pending() + 1
	if len(records) != p.pending()+1 || r.Count != p.pending()+1 || r.Epoch != p.epoch() || r.Writer != 2 || e.Seq != seq || e.Writer != 2 || e.Kind != kind {
		t.Errorf("%+v: %d pending, the last one %+v with %+v", p, len(records), r, e)
	}
}

// P18.2: each error of Issue alone, and ahead of each that stands behind it.
func TestIssueErrorsInOrder(t *testing.T) {
	onEach(t, func(t *testing.T, s *suite.Suite) {
		for _, p := range plights() {
			d, c := p.client(t, s)
			what := fmt.Sprintf("%+v", p)
			for _, e := range wrongEntries()[:6] {
				issues(t, what, s, c, e, first(fault{p.alarm, api.ErrAlarm}, fault{true, api.ErrForm}))
			}
			for _, e := range []entry.Entry{hollow(p.epoch()), hollow(min(p.epoch()+1, mostEpoch), 1, 2)} {
				issues(t, what, s, c, e, first(fault{p.alarm, api.ErrAlarm}, fault{p.spent, api.ErrForm}, fault{true, api.ErrKind}))
			}
			ahead := []fault{{p.alarm, api.ErrAlarm}, {p.spent, api.ErrForm}, {p.full, api.ErrFull}}
			issues(t, what, s, c, grant(1, 7), first(append(ahead, fault{true, api.ErrRight})...))
			want := first(append(ahead, fault{p.rightless, api.ErrRight}, fault{p.keyless, api.ErrKey})...)
			issues(t, what, s, c, put("c", "d"), want)
			if want == api.OK {
				p.goesOn(t, d, c, entry.Put)
				issues(t, what, s, c, put("c", "d"), api.ErrFull)
			} else {
				issues(t, what, s, c, drop("c"), want)
			}
		}
	})
}

// P18.3: each error of Rotate alone, and ahead of each that stands behind it.
func TestRotateErrorsInOrder(t *testing.T) {
	onEach(t, func(t *testing.T, s *suite.Suite) {
		for _, p := range plights() {
			d, c := p.client(t, s)
			want := first(fault{p.alarm, api.ErrAlarm}, fault{p.last, api.ErrEpoch}, fault{p.full, api.ErrFull}, fault{p.rightless, api.ErrRight},
				fault{p.twice, api.ErrTwice}, fault{p.keyless, api.ErrKey}, fault{p.spent, api.ErrForm})
			what := fmt.Sprintf("%+v", p)
			rotates(t, what, s, c, want)
			if want == api.OK {
				p.goesOn(t, d, c, entry.Rotate)
				rotates(t, what, s, c, api.ErrFull)
			} else {
				rotates(t, what, s, c, want)
			}
		}
	})
}

// P18.2, P18.3: with less pending than may be the errors are the same, but for ErrFull; what was refused for long isn't counted when it is allowed again.
func TestRefusedThenAllowed(t *testing.T) {
	onEach(t, func(t *testing.T, s *suite.Suite) {
		d := newDesk(t, s)
		c := d.client(2)
		issues(t, "no member", s, c, put("a", "b"), api.ErrRight)
		rotates(t, "no member", s, c, api.ErrRight)
		d.adds(0, grant(2, 6), d.rotate(1, 1))
		d.feeds(c)
		issues(t, "no key", s, c, put("a", "b"), api.ErrKey)
		rotates(t, "no key", s, c, api.ErrKey)
		// What it can't open it doesn't follow: it is let in again by a rotate that is sealed under a key that it has.
		d.log = append(d.log, d.record(0, by(1, 100, d.rotate(2, 1))))
		d.feeds(c)
		issues(t, "still no key", s, c, put("a", "b"), api.ErrKey)
		rotates(t, "still no key", s, c, api.ErrKey)

		d = newDesk(t, s)
		c = d.client(2)
		issues(t, "no member", s, c, put("a", "b"), api.ErrRight)
		d.adds(0, grant(2, 3))
		d.feeds(c)
		rotates(t, "may not look after it", s, c, api.ErrRight)
		issues(t, "allowed", s, c, put("a", "b"), api.OK)
		d.adds(0, revoke(2))
		d.feeds(c)
		issues(t, "no member any more", s, c, put("a", "c"), api.ErrRight)
		rotates(t, "no member any more", s, c, api.ErrRight)
		d.adds(0, grant(2, 4))
		d.feeds(c)
		issues(t, "allowed again", s, c, put("a", "d"), api.OK)
		pends(t, "numbers", d, c, waiting{by(2, 1, put("a", "b")), 0, 1}, waiting{by(2, 2, put("a", "d")), 0, 2})
	})
}

// P18.2: at most MaxPending are pending; the one that would be one more is refused as often as it is tried, and goes when one is done.
func TestIssueFull(t *testing.T) {
	onEach(t, func(t *testing.T, s *suite.Suite) {
		d := newDesk(t, s)
		c := d.client(1)
		var want []waiting
		for i := 1; i <= mostPending; i++ {
			issues(t, "up to the bound", s, c, put("a", fmt.Sprint(i)), api.OK)
			want = append(want, waiting{by(1, i, put("a", fmt.Sprint(i))), 0, i})
			tallies(t, "up to the bound", c, 0, i)
		}
		for range 3 {
			issues(t, "past the bound", s, c, put("a", "9"), api.ErrFull)
			rotates(t, "past the bound", s, c, api.ErrFull)
			pends(t, "at the bound", d, c, want...)
		}
		d.log = append(d.log, links(t, c)[0])
		d.feeds(c)
		rotates(t, "one was done", s, c, api.OK)
		rotates(t, "full again", s, c, api.ErrFull)
		issues(t, "full again", s, c, put("a", "9"), api.ErrFull)
		tallies(t, "full again", c, 1, mostPending)
	})
}

// P18.2: what somebody may issue by its rights.
func TestIssueByRights(t *testing.T) {
	onEach(t, func(t *testing.T, s *suite.Suite) {
		for rights := range 8 {
			for _, e := range []entry.Entry{put("a", "b"), drop("a"), grant(2, 7), grant(3, 1), grant(1, 7), grant(1, 1), revoke(2), revoke(3), revoke(1)} {
				d := newDesk(t, s)
				c := d.client(2)
				if rights > 0 {
					d.adds(0, grant(2, rights))
				}
				d.feeds(c)
				want := api.OK
				if e.Kind <= 2 && rights&6 == 0 || e.Kind >= 3 && (rights&4 == 0 || e.Who == 1) {
					want = api.ErrRight
				}
				issues(t, fmt.Sprintf("rights %d, %+v", rights, e), s, c, e, want)
				if want == api.OK {
					pends(t, "allowed", d, c, waiting{by(2, 1, e), 0, 1})
				}
			}
			d := newDesk(t, s)
			c := d.client(2)
			if rights > 0 {
				d.adds(0, grant(2, rights))
			}
			d.feeds(c)
			rotates(t, fmt.Sprintf("rights %d", rights), s, c, first(fault{rights&4 == 0, api.ErrRight}))
		}
	})
}

// P18.2: it is the policy that it sees that lets it issue: what is pending takes rights.
func TestIssueByWhatIsSeen(t *testing.T) {
	onEach(t, func(t *testing.T, s *suite.Suite) {
		for _, own := range []entry.Entry{revoke(2), grant(2, 1)} {
			d := newDesk(t, s)
			d.adds(0, grant(2, 7))
			c := d.client(2)
			d.feeds(c)
			issues(t, "ahead", s, c, put("a", "b"), api.OK)
			issues(t, "gives up", s, c, own, api.OK)
			for _, e := range []entry.Entry{put("a", "b"), drop("a"), grant(2, 7), revoke(3)} {
				issues(t, "behind", s, c, e, api.ErrRight)
			}
			rotates(t, "behind", s, c, api.ErrRight)
			if c.Replay().Policy().Rights(2) != 7 {
				t.Error("what is pending changes what there is")
			}
		}
	})
}

// P18.3: a rotate to the next epoch, whose key is wrapped for each reader of the policy that is seen, rising.
func TestRotate(t *testing.T) {
	onEach(t, func(t *testing.T, s *suite.Suite) {
		d := newDesk(t, s)
		c := d.client(1)
		for _, e := range []entry.Entry{grant(16, 1), grant(9, 3), grant(2, 6), grant(4, 5), grant(3, 7)} {
			d.adds(0, e)
		}
		d.feeds(c)
		issues(t, "one reader more", s, c, grant(11, 1), api.OK)
		issues(t, "one reader less", s, c, revoke(9), api.OK)
		rotates(t, "rotate", s, c, api.OK)
		rotatedFor(t, d, c, 1, 1, 3, 4, 11, 16)
		e := c.Pending()[2]
		pends(t, "rotate", d, c, waiting{by(1, 6, grant(11, 1)), 0, 1}, waiting{by(1, 7, revoke(9)), 0, 2}, waiting{by(1, 8, e), 0, 3})
		if p, _ := c.See(); p.Epoch != 1 || c.Replay().Policy().Epoch != 0 {
			t.Errorf("sees the epoch %d, has %d", p.Epoch, c.Replay().Policy().Epoch)
		}
		if _, ok := c.Replay().Key(1); ok {
			t.Error("there is a key ahead of its commit")
		}
		d.log = append(d.log, links(t, c)...)
		d.feeds(c)
		if key, ok := c.Replay().Key(1); !ok || c.Replay().Policy().Epoch != 1 || !bytes.Equal(key, unwrapped(t, d, e, 1)) {
			t.Errorf("key %x %v, epoch %d", key, ok, c.Replay().Policy().Epoch)
		}
		tallies(t, "committed", c, 8, 0)
	})
}

// unwrapped is the key that an entry has for a member.
func unwrapped(t *testing.T, d *desk, e entry.Entry, who int) []byte {
	t.Helper()
	for _, w := range e.Wraps {
		if w.Who == who {
			key, err := ring.Unwrap(d.suite, d.secret, who, e.Epoch, w.Box)
			if err != api.OK {
				t.Errorf("Unwrap for %d: error %d", who, err)
			}
			return key
		}
	}
	t.Errorf("there is no wrap for %d", who)
	return nil
}

// rotatedFor wants that what is pending last is a rotate to an epoch, with one key for just these.
func rotatedFor(t *testing.T, d *desk, c *client.Client, epoch int, readers ...int) {
	t.Helper()
	all := c.Pending()
	e := all[len(all)-1]
	var got []int
	for _, w := range e.Wraps {
		got = append(got, w.Who)
	}
	if e.Kind != entry.Rotate || e.Epoch != epoch || !slices.Equal(got, readers) {
		t.Fatalf("rotate %+v for %v, want %d for %v", e, got, epoch, readers)
	}
	key := unwrapped(t, d, e, readers[0])
	if len(key) != keySize {
		t.Errorf("key %x", key)
	}
	for _, who := range readers {
		if !bytes.Equal(unwrapped(t, d, e, who), key) {
			t.Errorf("%d has another key", who)
		}
	}
}

// P18.3: up to the last epoch, each with a new key; then there is none.
func TestRotateToTheLastEpoch(t *testing.T) {
	onEach(t, func(t *testing.T, s *suite.Suite) {
		d := newDesk(t, s)
		c := d.client(1)
		keys := map[string]int{string(d.keys[0]): 0}
		for epoch := 1; epoch <= mostEpoch; epoch++ {
			rotates(t, "rotate", s, c, api.OK)
			rotatedFor(t, d, c, epoch, 1)
			pends(t, "rotate", d, c, waiting{by(1, 2*epoch-1, c.Pending()[0]), epoch - 1, 2*epoch - 1})
			// The policy that it sees has the epoch that is pending; behind the last one there is none.
			rotates(t, "pending", s, c, first(fault{epoch == mostEpoch, api.ErrEpoch}, fault{true, api.ErrTwice}))
			issues(t, "pending", s, c, put("a", "b"), api.ErrKey)
			d.log = append(d.log, links(t, c)...)
			d.feeds(c)
			key, ok := c.Replay().Key(epoch)
			if _, known := keys[string(key)]; !ok || known {
				t.Errorf("epoch %d: key %x %v", epoch, key, ok)
			}
			keys[string(key)] = epoch
			issues(t, "with the new key", s, c, put("a", fmt.Sprint(epoch)), api.OK)
			pends(t, "with the new key", d, c, waiting{by(1, 2*epoch, put("a", fmt.Sprint(epoch))), epoch, 2 * epoch})
			d.log = append(d.log, links(t, c)...)
			d.feeds(c)
		}
		rotates(t, "no epoch is left", s, c, api.ErrEpoch)
		value(t, "all", c.Replay().Docs(), "a", "16")
		tallies(t, "all", c, 2*mostEpoch, 0)
	})
}

// P18.3: behind a rotate that is pending what may not be is ErrRight, all else ErrKey; what was pending ahead of it stays.
func TestIssueBehindPendingRotate(t *testing.T) {
	onEach(t, func(t *testing.T, s *suite.Suite) {
		d := newDesk(t, s)
		c := d.client(1)
		issues(t, "ahead", s, c, put("a", "b"), api.OK)
		rotates(t, "rotate", s, c, api.OK)
		for _, e := range []entry.Entry{put("a", "b"), drop("a"), grant(2, 1), revoke(2)} {
			issues(t, "behind", s, c, e, api.ErrKey)
		}
		issues(t, "behind", s, c, revoke(1), api.ErrRight)
		issues(t, "behind", s, c, hollow(2, 1), api.ErrKind)
		issues(t, "behind", s, c, put("", "b"), api.ErrForm)
		rotates(t, "behind", s, c, api.ErrTwice)
		tallies(t, "both", c, 0, 2)
	})
}

// P18.3: a rotate that is pending, but doesn't fit any more, isn't seen; it is a rotate that is pending all the same, till it is done.
func TestPendingRotateThatDoesntFit(t *testing.T) {
	onEach(t, func(t *testing.T, s *suite.Suite) {
		d := newDesk(t, s)
		d.adds(0, grant(2, 7))
		c := d.client(2)
		d.feeds(c)
		rotates(t, "rotate", s, c, api.OK)
		d.adds(0, grant(3, 1))
		d.feeds(c)
		if p, _ := c.See(); p.Epoch != 0 {
			t.Errorf("sees the epoch %d", p.Epoch)
		}
		rotates(t, "one is pending", s, c, api.ErrTwice)
		issues(t, "under the old key", s, c, put("a", "b"), api.OK)
		pends(t, "under the old key", d, c, waiting{by(2, 1, c.Pending()[0]), 0, 1}, waiting{by(2, 2, put("a", "b")), 0, 2})
		d.log = append(d.log, links(t, c)...)
		if got := d.feeds(c); !slices.Equal(got, []api.Errno{api.ErrEpoch, api.OK}) {
			t.Errorf("outcomes %v", got)
		}
		rotates(t, "none is pending", s, c, api.OK)
		rotatedFor(t, d, c, 1, 1, 2, 3)
	})
}

// P18.3: who isn't a reader may rotate all the same, and has no key of the new epoch then; it may not go on without.
func TestRotateByOneWhoDoesntRead(t *testing.T) {
	onEach(t, func(t *testing.T, s *suite.Suite) {
		d := newDesk(t, s)
		d.adds(0, grant(2, 4))
		c, founder := d.client(2), d.client(1)
		d.feeds(c)
		rotates(t, "rotate", s, c, api.OK)
		rotatedFor(t, d, c, 1, 1)
		d.log = append(d.log, links(t, c)...)
		d.feeds(c)
		d.feeds(founder)
		tallies(t, "done", c, 2, 0)
		issues(t, "no key", s, c, put("a", "b"), api.ErrKey)
		rotates(t, "no key", s, c, api.ErrKey)
		issues(t, "a key", s, founder, put("a", "b"), api.OK)

		d = newDesk(t, s)
		d.adds(0, grant(2, 4))
		c = d.client(2)
		d.feeds(c)
		// Of what it sees it is a reader.
		issues(t, "may read", s, c, grant(2, 7), api.OK)
		rotates(t, "may read", s, c, api.OK)
		rotatedFor(t, d, c, 1, 1, 2)
	})
}

// P18.4: Push tells the pending records, in order, and as often as it is asked; of those that are done none.
func TestPush(t *testing.T) {
	onEach(t, func(t *testing.T, s *suite.Suite) {
		d := newDesk(t, s)
		c := d.client(1)
		var all [][]byte
		for n := range mostPending + 1 {
			frames, e := c.Push()
			if e != api.OK || len(frames) != min(n, 1) {
				t.Fatalf("%d pending: %d frames, error %d", n, len(frames), e)
			}
			for _, b := range frames {
				f, e := frame.Decode(b)
				if e != api.OK || !frame.Same(f, frame.Frame{Kind: 1, Collection: common, Links: f.Links}) || len(f.Links) != n || !slices.EqualFunc(f.Links[:n-1], all, bytes.Equal) {
					t.Errorf("%d pending: pushes %+v, error %d", n, f, e)
				}
				all = f.Links
			}
			if again, _ := c.Push(); !slices.EqualFunc(again, frames, bytes.Equal) {
				t.Errorf("%d pending: another push", n)
			}
			tallies(t, "pushed", c, 0, n)
			if n < mostPending {
				issues(t, "one more", s, c, put("a", fmt.Sprint(n)), api.OK)
			}
		}
		for n := range mostPending {
			d.log = all[:n+1]
			d.feeds(c)
			frames, e := c.Push()
			if e != api.OK || len(frames) != min(mostPending-n-1, 1) || !slices.EqualFunc(links(t, c), all[n+1:], bytes.Equal) {
				t.Errorf("%d done: %d frames, error %d", n+1, len(frames), e)
			}
		}
	})
}

// P18.4: the greatest records that there may be fit into one frame.
func TestPushOfGreatRecords(t *testing.T) {
	onEach(t, func(t *testing.T, s *suite.Suite) {
		d := newDesk(t, s)
		var all []entry.Entry
		for who := 2; who <= mostWho; who++ {
			all = append(all, grant(who, 7))
		}
		d.adds(0, all...)
		c := d.client(1)
		d.feeds(c)
		for range mostPending - 1 {
			issues(t, "great", s, c, entry.Entry{Kind: 1, Name: pattern(64, 1), Value: pattern(512, 2)}, api.OK)
		}
		rotates(t, "for all", s, c, api.OK)
		rotatedFor(t, d, c, 1, 1, 2, 3, 4, 5, 6, 7, 8, 9, 10, 11, 12, 13, 14, 15, 16)
		if got := len(pushed(t, c)); got != mostPending {
			t.Errorf("%d are pushed", got)
		}
		d.log = append(d.log, links(t, c)...)
		d.feeds(c)
		tallies(t, "done", c, mostWho-1+mostPending, 0)
	})
}

// P18.4: Pull asks from the chain's length on, whatever is pending.
func TestPull(t *testing.T) {
	onEach(t, func(t *testing.T, s *suite.Suite) {
		d := newDesk(t, s)
		c := d.client(1)
		issues(t, "pending", s, c, put("a", "b"), api.OK)
		for n := range mostLinks + 1 {
			b, e := c.Pull()
			if e != api.OK || !bytes.Equal(b, encoded(t, frame.Frame{Kind: 2, Collection: common, Index: n})) {
				t.Errorf("%d links: pulls %x, error %d", n, b, e)
			}
			if n < mostLinks {
				takes(t, "one more", s, c, batch(t, n, d.noise()), api.OK, api.ErrEpoch)
			}
		}
	})
}

// alarmed wants what a client with the alarm on tells: nothing of it goes off, and nothing goes in or out.
func alarmed(t *testing.T, s *suite.Suite, c *client.Client) {
	t.Helper()
	issues(t, "alarm", s, c, put("a", "b"), api.ErrAlarm)
	issues(t, "alarm", s, c, put("", ""), api.ErrAlarm)
	issues(t, "alarm", s, c, hollow(1), api.ErrAlarm)
	rotates(t, "alarm", s, c, api.ErrAlarm)
	if b, e := c.Push(); e != api.ErrAlarm || len(b) != 0 {
		t.Errorf("Push: %x, error %d", b, e)
	}
	if b, e := c.Pull(); e != api.ErrAlarm || len(b) != 0 {
		t.Errorf("Pull: %x, error %d", b, e)
	}
	takes(t, "alarm", s, c, batch(t, c.Head().Index), api.ErrAlarm)
	if !c.Alarm() {
		t.Error("the alarm is off")
	}
}

// P18.4, P18.6: the alarm, with nothing pending and with some, with no link and with some; what there is can be asked for all the same.
func TestAlarm(t *testing.T) {
	onEach(t, func(t *testing.T, s *suite.Suite) {
		for pending := range 3 {
			for committed := range 3 {
				d := newDesk(t, s)
				for range committed {
					d.adds(0, put("b", "c"))
				}
				c := d.client(1)
				d.feeds(c)
				for range pending {
					issues(t, "pending", s, c, put("a", "1"), api.OK)
				}
				was, has, entries := shownView(c.See()), shownReplay(c.Replay()), shownEntries(c.Pending())
				if e := c.Compare(chain.Head{Index: committed}); e != api.ErrFork {
					t.Errorf("Compare: error %d", e)
				}
				alarmed(t, s, c)
				tallies(t, "alarm", c, committed, pending)
				if shownView(c.See()) != was || shownReplay(c.Replay()) != has || shownEntries(c.Pending()) != entries {
					t.Errorf("the alarm changes what there is: %s", shown(c))
				}
			}
		}
	})
}

// midway is a client of 2 with a few links and a few that are pending.
func midway(t *testing.T, s *suite.Suite) (*desk, *client.Client) {
	t.Helper()
	d := newDesk(t, s)
	d.adds(0, put("a", "b"), grant(2, 7), d.rotate(1, 1, 2))
	d.adds(1, put("c", "d"))
	c := d.client(2)
	d.feeds(c)
	issues(t, "midway", s, c, put("a", "pending"), api.OK)
	issues(t, "midway", s, c, grant(3, 1), api.OK)
	issues(t, "midway", s, c, drop("c"), api.OK)
	return d, c
}

// P18.5: what is no frame's bytes is told as Decode tells it, under the alarm too.
func TestTakeNoFrame(t *testing.T) {
	onEach(t, func(t *testing.T, s *suite.Suite) {
		for _, alarm := range []bool{false, true} {
			d, c := midway(t, s)
			if alarm {
				c.Compare(chain.Head{})
			}
			right := batch(t, 4, d.record(1, by(1, 5, put("e", "f"))))
			for n := range right {
				takes(t, "cut", s, c, right[:n], api.ErrForm)
			}
			takes(t, "nil", s, c, nil, api.ErrForm)
			takes(t, "longer", s, c, append(bytes.Clone(right), 0), api.ErrForm)
			takes(t, "noughts", s, c, make([]byte, mostFrame), api.ErrForm)
			takes(t, "too long", s, c, make([]byte, mostFrame+1), api.ErrSize)
			takes(t, "far too long", s, c, make([]byte, 1<<20), api.ErrSize)
			takes(t, "right, but too long", s, c, append(bytes.Clone(right), make([]byte, mostFrame)...), api.ErrSize)
			// The lower bytes of the collection's number would be another one's.
			for place := range 24 - 5 {
				b := bytes.Clone(right)
				if place > 6 {
					place += 5
				}
				b[place] = 0xff
				takes(t, "turned", s, c, b, api.ErrForm)
			}
			if !alarm {
				takes(t, "right", s, c, right, api.OK, api.OK)
			}
		}
	})
}

// bad are links that are no record's bytes of the collection, or of no collection.
func bad(t *testing.T, d *desk) map[string][]byte {
	t.Helper()
	right := d.record(1, by(1, 5, put("e", "f")))
	other := newDesk(t, d.suite)
	other.collection = common + 1
	longer, cut := append(bytes.Clone(right), 0), right[:len(right)-1]
	text := encoded(t, frame.Frame{Kind: 2, Collection: common})
	writer := bytes.Clone(right)
	copy(writer[12:18], inSix(mostWho+1))
	return map[string][]byte{"a byte": {1}, "cut": cut, "longer": longer, "a frame": text, "no writer": writer,
		"of another collection": other.record(0, by(1, 5, put("e", "f")))}
}

// takings are what may stand against a frame.
type taking struct {
	kind                            int
	other, alarm, order, form, full bool
}

// P18.5: each error of Take alone, and ahead of each that stands behind it.
func TestTakeErrorsInOrder(t *testing.T) {
	onEach(t, func(t *testing.T, s *suite.Suite) {
		calm, alert := nearlyFull(t, s), nearlyFull(t, s)
		if alert.c.Compare(chain.Head{}) != api.ErrFork {
			t.Fatal("there is no alarm")
		}
		for n := range 1 << 5 {
			is := func(i int) bool { return n>>i&1 == 1 }
			for kind := 1; kind <= 4; kind++ {
				x := taking{kind, is(0), is(1), is(2), is(3), is(4)}
				if x.alarm {
					x.tried(t, s, alert)
				} else {
					x.tried(t, s, calm)
				}
			}
		}
		// All that was refused changed nothing: what is right is taken.
		takes(t, "right", s, calm.c, batch(t, 60, calm.right[:4]...), api.OK, api.ErrEpoch, api.ErrEpoch, api.ErrEpoch, api.ErrEpoch)
		tallies(t, "right", calm.c, 64, 2)
	})
}

// filled is a client with 60 links, and links that it may be asked to take.
type filled struct {
	c     *client.Client
	right [][]byte
	wrong map[string][]byte
}

func nearlyFull(t *testing.T, s *suite.Suite) filled {
	t.Helper()
	d := newDesk(t, s)
	f := filled{c: d.client(1)}
	for range 60 {
		d.log = append(d.log, d.noise())
	}
	d.feeds(f.c)
	issues(t, "pending", s, f.c, put("a", "b"), api.OK)
	issues(t, "pending", s, f.c, grant(2, 3), api.OK)
	for range 8 {
		f.right = append(f.right, d.noise())
	}
	f.wrong = bad(t, d)
	return f
}

// want is what Take tells of such a frame.
func (x taking) want() api.Errno {
	return first(fault{x.kind != 3, api.ErrKind}, fault{x.other, api.ErrOther}, fault{x.alarm, api.ErrAlarm},
		fault{x.order, api.ErrOrder}, fault{x.form, api.ErrForm}, fault{x.full, api.ErrFull})
}

// tried wants what is told of each frame against which this stands, if there is one.
func (x taking) tried(t *testing.T, s *suite.Suite, f filled) {
	t.Helper()
	if x.want() == api.OK {
		return
	}
	indexes := []int{60}
	if x.order {
		indexes = []int{59, 61, 0, 64}
	}
	numbers := []int{0, 3, 4}
	if x.full {
		numbers = []int{5, 8}
	}
	for _, index := range indexes {
		for _, n := range numbers {
			for _, links := range x.links(f, n) {
				b := frame.Frame{Kind: x.kind, Collection: common, Index: index, Links: links}
				if x.other {
					b.Collection++
				}
				takes(t, fmt.Sprintf("%+v at %d, %d links", x, index, n), s, f.c, encoded(t, x.fitting(b)), x.want())
			}
		}
	}
}

// links are n right links, or all lists of them with one that is wrong: the first, a middle one, the last.
func (x taking) links(f filled, n int) [][][]byte {
	if !x.form {
		return [][][]byte{f.right[:n]}
	}
	var all [][][]byte
	for what, wrong := range f.wrong {
		// Where another error is told, one of them is enough.
		if x.want() != api.ErrForm && what != "cut" {
			continue
		}
		for _, place := range []int{0, n / 2, n - 1} {
			if place >= 0 && place < n {
				l := slices.Clone(f.right[:n])
				l[place] = wrong
				all = append(all, l)
			}
		}
	}
	return all
}

// fitting is a frame that is right of its kind.
func (x taking) fitting(f frame.Frame) frame.Frame {
	switch x.kind {
	case 1:
		f.Index = 0
		if len(f.Links) == 0 {
			f.Links = [][]byte{{1}}
		}
	case 2:
		f.Links = nil
	case 4:
		f.Links, f.Sum = nil, pattern(keySize, 1)
	}
	return f
}

// P18.5: a chain takes MaxLog links, and not one more; a batch without links is taken when it is full too.
func TestTakeUpToTheLastLink(t *testing.T) {
	onEach(t, func(t *testing.T, s *suite.Suite) {
		for n := range mostBatch + 1 {
			d := newDesk(t, s)
			c := d.client(1)
			for range mostLinks - n {
				d.log = append(d.log, d.noise())
			}
			d.feeds(c)
			var more [][]byte
			var outcomes []api.Errno
			for range n {
				more, outcomes = append(more, d.noise()), append(outcomes, api.ErrEpoch)
			}
			if n < mostBatch {
				takes(t, "one too many", s, c, batch(t, mostLinks-n, append(slices.Clone(more), d.noise())...), api.ErrFull)
			}
			takes(t, "just as many", s, c, batch(t, mostLinks-n, more...), api.OK, outcomes...)
			tallies(t, "full", c, mostLinks, 0)
			takes(t, "one more", s, c, batch(t, mostLinks, d.noise()), api.ErrFull)
			takes(t, "none more", s, c, batch(t, mostLinks), api.OK)
			issues(t, "it is pending all the same", s, c, put("a", "b"), api.OK)
			rotates(t, "it is pending all the same", s, c, api.OK)
			takes(t, "its own", s, c, batch(t, mostLinks, links(t, c)...), api.ErrFull)
			tallies(t, "full", c, mostLinks, 2)
		}
	})
}

// P18.5: the outcomes stand in order, and are what becomes of the records one by one.
func TestTakeOutcomesInOrder(t *testing.T) {
	onEach(t, func(t *testing.T, s *suite.Suite) {
		d, c := midway(t, s)
		unopened, _ := sealed.Decode(d.record(1, by(1, 50, put("x", "y"))))
		unopened.Count++
		shut, _ := sealed.Encode(unopened)
		again := d.record(1, by(1, 5, put("e", "f")))
		l := [][]byte{again, shut, again, d.record(1, by(3, 1, put("g", "h"))), d.record(9, by(1, 6, put("g", "h"))),
			d.record(0, by(1, 7, put("g", "h"))), d.record(1, by(1, 8, hollow(3, 1, 2))), d.record(1, by(1, 9, drop("none")))}
		takes(t, "all", s, c, batch(t, 4, l...), api.OK, api.OK, api.ErrOpen, api.ErrTwice, api.ErrRight, api.ErrEpoch, api.ErrOther, api.ErrEpoch, api.OK)
		takes(t, "none", s, c, batch(t, 12), api.OK)
		d.log = append(d.log, l...)
		d.log = append(d.log, d.record(1, by(1, 10, d.rotate(2, 1))), d.record(2, by(1, 11, put("i", "j"))))
		takes(t, "no key", s, c, batch(t, 12, d.log[12:]...), api.OK, api.ErrEpoch, api.ErrEpoch)
		random := rand.New(rand.NewSource(185))
		for range 20 {
			random.Shuffle(len(l), func(i, j int) { l[i], l[j] = l[j], l[i] })
			one, r := d.client(2), freshReplay(t, d, 2)
			var want []api.Errno
			for _, b := range l {
				_, outcome := r.Commit(b)
				want = append(want, outcome)
			}
			takes(t, "shuffled", s, one, batch(t, 0, l...), api.OK, want...)
			if shownReplay(one.Replay()) != shownReplay(r) {
				t.Errorf("has %s, want %s", shownReplay(one.Replay()), shownReplay(r))
			}
		}
	})
}

// freshReplay is a replay of nothing.
func freshReplay(t *testing.T, d *desk, who int) *replay.Replay {
	t.Helper()
	r, e := replay.New(d.suite, d.who(who))
	if e != api.OK {
		t.Fatal(e)
	}
	return r
}

// P18.5: a pending entry is done when its member's greatest Seq that was seen isn't below its own, whoever sealed that record.
func TestDone(t *testing.T) {
	onEach(t, func(t *testing.T, s *suite.Suite) {
		for _, c := range []struct {
			what string
			make func(d *desk, own [][]byte) []byte
			want api.Errno
			done int
		}{
			{"its own first", func(d *desk, own [][]byte) []byte { return own[0] }, api.OK, 1},
			{"its own second, ahead of the first", func(d *desk, own [][]byte) []byte { return own[1] }, api.OK, 2},
			{"its own last", func(d *desk, own [][]byte) []byte { return own[2] }, api.OK, 3},
			{"another one of its member, with a Seq of those", func(d *desk, own [][]byte) []byte { return d.record(1, by(2, 2, put("x", "y"))) }, api.OK, 2},
			{"another one of its member, with the last Seq", func(d *desk, own [][]byte) []byte { return d.record(1, by(2, 3, put("x", "y"))) }, api.OK, 3},
			{"another one of its member, behind all", func(d *desk, own [][]byte) []byte { return d.record(1, by(2, 100, put("x", "y"))) }, api.OK, 3},
			{"one of its member that may not be", func(d *desk, own [][]byte) []byte { return d.record(1, by(2, 2, revoke(1))) }, api.ErrRight, 2},
			{"one of its member of an older epoch", func(d *desk, own [][]byte) []byte { return d.record(0, by(2, 2, put("x", "y"))) }, api.ErrOther, 2},
			{"one of its member of an epoch to come", func(d *desk, own [][]byte) []byte { return d.record(2, by(2, 2, put("x", "y"))) }, api.ErrEpoch, 0},
			{"one of another member", func(d *desk, own [][]byte) []byte { return d.record(1, by(1, 100, put("x", "y"))) }, api.OK, 0},
			{"one of somebody who may not", func(d *desk, own [][]byte) []byte { return d.record(1, by(3, 100, put("x", "y"))) }, api.ErrRight, 0},
			{"its own, changed", func(d *desk, own [][]byte) []byte { return changed(own[2]) }, api.ErrOpen, 0},
		} {
			d, m := midway(t, s)
			b := c.make(d, links(t, m))
			was := m.Pending()
			takes(t, c.what, s, m, batch(t, 4, b), api.OK, c.want)
			tallies(t, c.what, m, 5, 3-c.done)
			if shownEntries(m.Pending()) != shownEntries(was[c.done:]) {
				t.Errorf("%s: pending is %+v", c.what, m.Pending())
			}
		}
	})
}

// changed is a record's bytes with another byte in its box.
func changed(b []byte) []byte {
	b = bytes.Clone(b)
	b[40] ^= 1
	return b
}

// P18.5: of a batch with records of several the pending ones are done whose records are in it; the others go with the next one, or never.
func TestDoneOneAfterTheOther(t *testing.T) {
	onEach(t, func(t *testing.T, s *suite.Suite) {
		d, c := midway(t, s)
		own := links(t, c)
		takes(t, "the first among others", s, c, batch(t, 4, d.record(1, by(1, 5, put("x", "1"))), own[0], d.record(1, by(1, 6, put("a", "2")))), api.OK, api.OK, api.OK, api.OK)
		tallies(t, "the first among others", c, 7, 2)
		value(t, "what came behind it", seen(c), "a", "2")
		takes(t, "once more", s, c, batch(t, 7, own[0], own[0]), api.OK, api.ErrTwice, api.ErrTwice)
		tallies(t, "once more", c, 9, 2)
		takes(t, "none", s, c, batch(t, 9), api.OK)
		tallies(t, "none", c, 9, 2)
		value(t, "the drop is pending", seen(c), "c", "-")
		value(t, "the drop is pending", c.Replay().Docs(), "c", "d")
		takes(t, "the third, then the second", s, c, batch(t, 9, own[2], own[1]), api.OK, api.OK, api.ErrTwice)
		tallies(t, "all", c, 11, 0)
		value(t, "dropped", c.Replay().Docs(), "c", "-")
		if p, _ := c.See(); p.Rights(3) != 0 {
			t.Error("the grant that was lost is seen")
		}
		issues(t, "the next", s, c, grant(3, 1), api.OK)
		pends(t, "the next", d, c, waiting{by(2, 4, grant(3, 1)), 1, 4})
	})
}

// P18.5: a member that can't open its own records doesn't see them; they stay pending.
func TestNotDoneWithoutKey(t *testing.T) {
	onEach(t, func(t *testing.T, s *suite.Suite) {
		d := newDesk(t, s)
		d.adds(0, grant(2, 2), d.rotate(1, 1))
		c := d.client(2)
		takes(t, "the grant", s, c, batch(t, 0, d.log[0]), api.OK, api.OK)
		issues(t, "put", s, c, put("a", "b"), api.OK)
		issues(t, "put", s, c, put("a", "c"), api.OK)
		d.feeds(c)
		d.log = append(d.log, d.record(1, by(2, 1, put("a", "d"))))
		if got := d.feeds(c); !slices.Equal(got, []api.Errno{api.ErrKey}) {
			t.Errorf("outcomes %v", got)
		}
		tallies(t, "it can't see that", c, 3, 2)
		d.log = append(d.log, links(t, c)...)
		if got := d.feeds(c); !slices.Equal(got, []api.Errno{api.ErrOther, api.ErrOther}) {
			t.Errorf("outcomes %v", got)
		}
		tallies(t, "done, though they changed nothing", c, 5, 0)
	})
}

// compares wants what Compare tells, and that the alarm is on just if it was, or it is a fork.
func compares(t *testing.T, what string, s *suite.Suite, c *client.Client, h chain.Head, want api.Errno) {
	t.Helper()
	on, has, count := c.Alarm(), shownReplay(c.Replay())+shownEntries(c.Pending()), s.Count()
	sum := bytes.Clone(h.Sum)
	if e := c.Compare(h); e != want {
		t.Errorf("%s: Compare tells error %d, want %d", what, e, want)
	}
	if got := c.Alarm(); got != (on || want == api.ErrFork) {
		t.Errorf("%s: the alarm is %v", what, got)
	}
	if shownReplay(c.Replay())+shownEntries(c.Pending()) != has || !bytes.Equal(h.Sum, sum) {
		t.Errorf("%s: Compare changes what there is", what)
	}
	counts(t, what, s, count)
}

// P18.6: heads of the same log, of a shorter and of a longer one, and out of range raise no alarm.
func TestCompareOfOneLog(t *testing.T) {
	onEach(t, func(t *testing.T, s *suite.Suite) {
		d, c := midway(t, s)
		compares(t, "its own", s, c, c.Head(), api.OK)
		one := d.client(1)
		for n := range 4 {
			compares(t, "of a shorter one", s, c, one.Head(), api.OK)
			compares(t, "of a longer one", s, one, c.Head(), api.ErrMore)
			takes(t, "one more", s, one, batch(t, n, d.log[n]), api.OK, api.OK)
		}
		compares(t, "of the same", s, c, one.Head(), api.OK)
		compares(t, "of the same", s, one, c.Head(), api.OK)
		takes(t, "one more", s, one, batch(t, 4, d.noise()), api.OK, api.ErrEpoch)
		compares(t, "of a longer one", s, c, one.Head(), api.ErrMore)
		compares(t, "of a shorter one", s, one, c.Head(), api.OK)
		for n := range 5 {
			h, _ := c.Replay().Chain().At(n)
			compares(t, "of a length", s, c, h, api.OK)
		}
		for _, index := range []int{5, 6, 64, 65, math.MaxInt} {
			compares(t, "above", s, c, chain.Head{Index: index, Sum: c.Head().Sum}, api.ErrMore)
			compares(t, "above", s, c, chain.Head{Index: index}, api.ErrMore)
		}
		for _, index := range []int{-1, -4, math.MinInt} {
			compares(t, "below", s, c, chain.Head{Index: index, Sum: c.Head().Sum}, api.ErrRange)
			compares(t, "below", s, c, chain.Head{Index: index}, api.ErrRange)
		}
		issues(t, "no alarm", s, c, put("a", "b"), api.OK)
	})
}

// P18.6: another sum for a length is a fork, at each length, in each byte; the alarm stays on, whatever comes.
func TestCompareOfFork(t *testing.T) {
	onEach(t, func(t *testing.T, s *suite.Suite) {
		for n := range 5 {
			_, c := midway(t, s)
			h, _ := c.Replay().Chain().At(n)
			for i := range h.Sum {
				_, c := midway(t, s)
				wrong := chain.Head{Index: n, Sum: bytes.Clone(h.Sum)}
				wrong.Sum[i] ^= 1
				compares(t, "a byte", s, c, wrong, api.ErrFork)
			}
			for _, sum := range [][]byte{nil, {}, h.Sum[:31], append(bytes.Clone(h.Sum), 0), make([]byte, keySize)} {
				_, c := midway(t, s)
				compares(t, "a sum", s, c, chain.Head{Index: n, Sum: sum}, api.ErrFork)
			}
			other, _ := c.Replay().Chain().At((n + 1) % 5)
			compares(t, "of another length", s, c, chain.Head{Index: n, Sum: other.Sum}, api.ErrFork)
			alarmed(t, s, c)
			compares(t, "then its own", s, c, c.Head(), api.OK)
			compares(t, "then a longer one", s, c, chain.Head{Index: 5}, api.ErrMore)
			compares(t, "then none", s, c, chain.Head{Index: -1}, api.ErrRange)
			compares(t, "then another", s, c, chain.Head{Index: 3}, api.ErrFork)
			compares(t, "then a shorter one", s, c, h, api.OK)
			alarmed(t, s, c)
		}
	})
}

// P18.6: two of one collection that were told unlike logs: the one that isn't shorter finds it out.
func TestCompareOfTwo(t *testing.T) {
	onEach(t, func(t *testing.T, s *suite.Suite) {
		d := newDesk(t, s)
		d.adds(0, grant(2, 7), put("a", "b"))
		one, two := d.client(1), d.client(2)
		d.feeds(one)
		d.feeds(two)
		takes(t, "one branch", s, one, batch(t, 2, d.record(0, by(1, 3, put("a", "1")))), api.OK, api.OK)
		compares(t, "the beginning", s, one, two.Head(), api.OK)
		takes(t, "another branch", s, two, batch(t, 2, d.record(0, by(1, 3, put("a", "2"))), d.noise()), api.OK, api.OK, api.ErrEpoch)
		compares(t, "the shorter one", s, one, two.Head(), api.ErrMore)
		compares(t, "the longer one", s, two, one.Head(), api.ErrFork)
		alarmed(t, s, two)
		if one.Alarm() {
			t.Error("the shorter one has the alarm on")
		}
		takes(t, "as long", s, one, batch(t, 3, d.noise()), api.OK, api.ErrEpoch)
		compares(t, "as long", s, one, two.Head(), api.ErrFork)
		alarmed(t, s, one)
	})
}

// known wants signs by their numbers.
func known(t *testing.T, s *suite.Suite, signs map[int][]byte) {
	t.Helper()
	count := s.Count()
	for n, sign := range signs {
		if !bytes.Equal(sign, signOf(sign[1], n)) {
			t.Errorf("the sign %x hasn't the number %d", sign, n)
		}
	}
	counts(t, "what was asked for is known", s, count)
}

// marked is what a writer marks of an entry.
func marked(e entry.Entry) []byte {
	body, _ := entry.Encode(e)
	text, _ := code.Put(common, body)
	return text
}

// P18.7: what is asked, in order, told by the numbers of signs: New for a sum and a key, Issue for the writer's key, the mark and the box, Take for the sum.
func TestAsksInOrder(t *testing.T) {
	s, secret := suite.Signs(), []byte("a secret")
	c, e := client.New(s, replay.Who{Collection: common, Founder: 1, Who: 1, Secret: secret})
	if e != api.OK {
		t.Fatal(e)
	}
	counts(t, "New", s, 2)
	known(t, s, map[int][]byte{1: s.Sum([]byte("locket"), inSix(common)), 2: s.Code(secret, []byte("epoch"), inSix(0))})
	issues(t, "put", s, c, put("a", "b"), api.OK)
	counts(t, "Issue", s, 5)
	writer := s.Code(secret, []byte("writer"), inSix(1))
	known(t, s, map[int][]byte{3: writer, 4: s.Code(writer, marked(by(1, 1, put("a", "b"))))})
	if got := pushed(t, c)[0].Box; !bytes.Equal(got, signBox(64, 5)) && !bytes.Equal(got, signBox(128, 5)) {
		t.Errorf("box %x", got)
	}
	// The second one has the writer's key in common with the first one.
	issues(t, "grant", s, c, grant(2, 3), api.OK)
	counts(t, "Issue again", s, 7)
	known(t, s, map[int][]byte{6: s.Code(writer, marked(by(1, 2, grant(2, 3))))})
	own := links(t, c)
	takes(t, "both", s, c, batch(t, 0, own...), api.OK, api.OK, api.OK)
	counts(t, "Take", s, 9)
	known(t, s, map[int][]byte{8: s.Sum(signOf(0x48, 1), own[0]), 9: s.Sum(signOf(0x48, 8), own[1])})
}

// P18.7: Rotate asks for a key, then for the members' keys and their boxes, in order, then for what Seal asks.
func TestRotateAsksInOrder(t *testing.T) {
	s, secret := suite.Signs(), []byte("a secret")
	c, _ := client.New(s, replay.Who{Collection: common, Founder: 2, Who: 2, Secret: secret})
	issues(t, "grant", s, c, grant(7, 1), api.OK)
	issues(t, "grant", s, c, grant(1, 1), api.OK)
	counts(t, "grants", s, 7)
	rotates(t, "rotate", s, c, api.OK)
	counts(t, "Rotate", s, 7+1+3*2+2)
	e := c.Pending()[2]
	want := map[int][]byte{16 - 1: s.Code(s.Code(secret, []byte("writer"), inSix(2)), marked(e))}
	for i, who := range []int{1, 2, 7} {
		want[9+2*i] = s.Code(secret, []byte("member"), inSix(who))
		if w := e.Wraps[i]; w.Who != who || !bytes.Equal(w.Box, signBox(keySize, 10+2*i)) {
			t.Errorf("wrap %d is %+v", i, w)
		}
		key, err := ring.Unwrap(s, secret, who, 1, e.Wraps[i].Box)
		if err != api.OK || !bytes.Equal(key, signOf(0x4b, 8)) {
			t.Errorf("the key for %d is %x, error %d", who, key, err)
		}
	}
	known(t, s, want)
	if got := pushed(t, c)[2].Box; !bytes.Equal(got[len(got)-8:], signOf(0, 16)[24:]) {
		t.Errorf("box %x", got)
	}
	takes(t, "all", s, c, batch(t, 0, links(t, c)...), api.OK, api.OK, api.OK, api.OK)
	// The member's key with which its own wrap is opened is known already.
	counts(t, "Take", s, 16+3)
}

// P18.7: of a real suite nothing but Rotate draws a key.
func TestDrawsKeysByRotateAlone(t *testing.T) {
	s := suite.Real([]byte("a seed"))
	d, c := midway(t, s)
	counts(t, "midway", s, 1)
	rotates(t, "rotate", s, c, api.OK)
	counts(t, "rotate", s, 2)
	key := s.Code([]byte("a seed"), binary.BigEndian.AppendUint64(nil, 2))
	if !bytes.Equal(unwrapped(t, d, c.Pending()[3], 2), key) {
		t.Error("the key isn't the next one")
	}
	d.log = append(d.log, links(t, c)...)
	d.feeds(c)
	counts(t, "all", s, 2)
}

// P18.7: nothing else asks.
func TestAsksNothingElse(t *testing.T) {
	onEach(t, func(t *testing.T, s *suite.Suite) {
		d, c := midway(t, s)
		wrong, noise := bad(t, d), d.noise()
		count := s.Count()
		shown(c)
		c.Take(nil)
		c.Take(batch(t, 4))
		c.Take(batch(t, 3, noise))
		for _, b := range wrong {
			c.Take(batch(t, 4, noise, b))
		}
		c.Issue(put("", ""))
		c.Issue(hollow(2, 1, 2))
		c.Issue(revoke(1))
		c.Compare(c.Head())
		c.Compare(chain.Head{Index: 9})
		c.Compare(chain.Head{Index: -1})
		counts(t, "without an alarm", s, count)
		c.Compare(chain.Head{})
		shown(c)
		c.Issue(put("a", "b"))
		c.Rotate()
		c.Take(batch(t, 4, noise))
		counts(t, "with an alarm", s, count)
	})
}

// twin is a client as the document tells it, over the layers below, by a suite of its own.
type twin struct {
	suite   *suite.Suite
	w       replay.Who
	replay  *replay.Replay
	entries []entry.Entry
	records [][]byte
	count   int
	seq     int
	alarm   bool
}

func newTwin(t *testing.T, s *suite.Suite, w replay.Who) *twin {
	t.Helper()
	r, e := replay.New(s, w)
	if e != api.OK {
		t.Fatal(e)
	}
	return &twin{suite: s, w: w, replay: r}
}

func (m *twin) numbered(e entry.Entry) entry.Entry {
	return by(m.w.Who, max(m.seq, m.replay.Seen(m.w.Who))+1, e)
}

func (m *twin) issue(e entry.Entry) api.Errno {
	e = m.numbered(e)
	p, _ := m.replay.View(m.entries)
	key, ok := m.replay.Key(p.Epoch)
	may := p.May(e)
	f := first(fault{m.alarm, api.ErrAlarm}, fault{!e.Right(), api.ErrForm}, fault{e.Kind == 5, api.ErrKind},
		fault{len(m.entries) >= mostPending, api.ErrFull}, fault{may != api.OK, may}, fault{!ok, api.ErrKey})
	if f == api.OK {
		m.seals(p.Epoch, key, e)
	}
	return f
}

func (m *twin) rotate() api.Errno {
	p, _ := m.replay.View(m.entries)
	key, ok := m.replay.Key(p.Epoch)
	e := m.numbered(entry.Entry{Kind: 5, Epoch: p.Epoch + 1})
	pending := slices.ContainsFunc(m.entries, func(e entry.Entry) bool { return e.Kind == 5 })
	f := first(fault{m.alarm, api.ErrAlarm}, fault{p.Epoch == mostEpoch, api.ErrEpoch}, fault{len(m.entries) >= mostPending, api.ErrFull},
		fault{p.Rights(m.w.Who)&4 == 0, api.ErrRight}, fault{pending, api.ErrTwice}, fault{!ok, api.ErrKey}, fault{e.Seq > mostNumber, api.ErrForm})
	if f == api.OK {
		fresh := m.suite.Key()
		for _, who := range p.Readers() {
			box, _ := ring.Wrap(m.suite, m.w.Secret, who, e.Epoch, fresh)
			e.Wraps = append(e.Wraps, entry.Wrap{Who: who, Box: box})
		}
		m.seals(p.Epoch, key, e)
	}
	return f
}

func (m *twin) seals(epoch int, key []byte, e entry.Entry) {
	m.count++
	m.seq = e.Seq
	r, _ := sealed.Seal(m.suite, m.w.Secret, key, sealed.Record{Collection: m.w.Collection, Epoch: epoch, Writer: m.w.Who, Count: m.count}, e)
	b, _ := sealed.Encode(r)
	m.entries, m.records = append(m.entries, e), append(m.records, b)
}

func (m *twin) take(b []byte) (api.Errno, []api.Errno) {
	f, e := frame.Decode(b)
	length := m.replay.Chain().Len()
	wrong := slices.ContainsFunc(f.Links, func(link []byte) bool {
		r, e := sealed.Decode(link)
		return e != api.OK || r.Collection != m.w.Collection
	})
	e = first(fault{e != api.OK, e}, fault{f.Kind != 3, api.ErrKind}, fault{f.Collection != m.w.Collection, api.ErrOther}, fault{m.alarm, api.ErrAlarm},
		fault{f.Index != length, api.ErrOrder}, fault{wrong, api.ErrForm}, fault{length+len(f.Links) > mostLinks, api.ErrFull})
	if e != api.OK {
		return e, nil
	}
	var outcomes []api.Errno
	for _, link := range f.Links {
		_, outcome := m.replay.Commit(link)
		outcomes = append(outcomes, outcome)
	}
	for len(m.entries) > 0 && m.entries[0].Seq <= m.replay.Seen(m.w.Who) {
		m.entries, m.records = m.entries[1:], m.records[1:]
	}
	return api.OK, outcomes
}

func (m *twin) compare(h chain.Head) api.Errno {
	e := m.replay.Chain().Check(h)
	m.alarm = m.alarm || e == api.ErrFork
	return e
}

// shown is all that the client would tell.
func (m *twin) shown(t *testing.T) string {
	t.Helper()
	var frames [][]byte
	var pull []byte
	head, e := m.replay.Chain().Head(), api.ErrAlarm
	if !m.alarm {
		e = api.OK
		if len(m.records) > 0 {
			frames = [][]byte{encoded(t, frame.Frame{Kind: 1, Collection: m.w.Collection, Links: m.records})}
		}
		pull = encoded(t, frame.Frame{Kind: 2, Collection: m.w.Collection, Index: head.Index})
	}
	text := fmt.Sprintf("alarm %v, tally %v, push %x %d, pull %x %d; ", m.alarm, complex(float64(head.Index), float64(len(m.entries))), frames, e, pull, e)
	text += fmt.Sprintf("head %d %x; pending %s; ", head.Index, head.Sum, shownEntries(m.entries))
	return text + "sees " + shownView(m.replay.View(m.entries)) + "has " + shownReplay(m.replay)
}

// crew is some clients and their twins, with a log on each of two branches.
type crew struct {
	t       *testing.T
	random  *rand.Rand
	clients []*client.Client
	twins   []*twin
	logs    [2][][]byte
	branch  []int
	seen    map[api.Errno]int
}

func newCrew(t *testing.T, s, other *suite.Suite, seed int, seen map[api.Errno]int) *crew {
	t.Helper()
	k := &crew{t: t, random: rand.New(rand.NewSource(int64(seed))), seen: seen, branch: make([]int, 4)}
	for who := 1; who <= 4; who++ {
		w := replay.Who{Collection: common, Founder: 1, Who: who, Secret: []byte("a secret")}
		c, e := client.New(s, w)
		if e != api.OK {
			t.Fatal(e)
		}
		k.clients, k.twins = append(k.clients, c), append(k.twins, newTwin(t, other, w))
	}
	return k
}

// often tells, by chance, whether one of n times is now.
func (k *crew) often(n int) bool {
	return k.random.Intn(n) == 0
}

// entry is any entry, mostly one that is right.
func (k *crew) entry() entry.Entry {
	name, who := string(rune('a'+k.random.Intn(4))), 1+k.random.Intn(5)
	switch k.random.Intn(12) {
	case 0, 1, 2, 3, 4:
		return put(name, fmt.Sprint(k.random.Intn(1000)))
	case 5, 6:
		return drop(name)
	case 7, 8, 9:
		return grant(who, 1+k.random.Intn(7))
	case 10:
		return revoke(who)
	}
	if k.often(2) {
		return hollow(1+k.random.Intn(3), 1)
	}
	return put("", "")
}

// frame is a batch for a client: mostly what comes next of its branch's log.
func (k *crew) frame(i int) []byte {
	log, n := k.logs[k.branch[i]], k.clients[i].Head().Index
	if k.often(12) {
		n += k.random.Intn(3) - 1
	}
	n = max(0, min(n, len(log)))
	l := slices.Clone(log[n:min(len(log), n+k.random.Intn(mostBatch+1))])
	if k.often(20) && len(l) > 0 {
		l[k.random.Intn(len(l))] = pattern(100, k.random.Intn(256))
	}
	b := batch(k.t, n, l...)
	if k.often(20) {
		b[k.random.Intn(len(b))] ^= byte(1 + k.random.Intn(255))
	}
	return b
}

// sent lets the branch's log have some of what a client pushes, sometimes twice.
func (k *crew) sent(i int) {
	frames, e := k.clients[i].Push()
	if e != api.OK || len(frames) == 0 {
		return
	}
	f, _ := frame.Decode(frames[0])
	for _, link := range f.Links {
		at := k.branch[i]
		known := slices.ContainsFunc(k.logs[at], func(b []byte) bool { return bytes.Equal(b, link) })
		if len(k.logs[at]) < mostLinks+3 && (!known || k.often(30)) && !k.often(10) {
			k.logs[at] = append(k.logs[at], link)
		}
	}
}

// step does one thing at a client and its twin.
func (k *crew) step() {
	k.t.Helper()
	i := k.random.Intn(len(k.clients))
	c, m := k.clients[i], k.twins[i]
	var what string
	var got, want api.Errno
	switch k.random.Intn(20) {
	case 0, 1, 2, 3, 4, 5, 6:
		e := k.entry()
		what, got, want = "Issue", c.Issue(e), m.issue(e)
	case 7, 8:
		what, got, want = "Rotate", c.Rotate(), m.rotate()
	case 9, 10, 11, 12:
		k.sent(i)
	case 19:
		if k.often(4) {
			h := k.clients[k.random.Intn(len(k.clients))].Head()
			what, got, want = "Compare", c.Compare(h), m.compare(h)
		} else if k.often(6) {
			k.logs[1], k.branch[i] = slices.Clone(k.logs[0]), 1
		}
	default:
		b := k.frame(i)
		var outcomes, foretold []api.Errno
		what = "Take"
		got, outcomes = c.Take(b)
		want, foretold = m.take(b)
		if !slices.Equal(outcomes, foretold) {
			k.t.Errorf("outcomes %v, want %v", outcomes, foretold)
		}
	}
	k.seen[got]++
	if got != want {
		k.t.Errorf("%d: %s tells error %d, want %d", i, what, got, want)
	}
	if is, should := shown(c), m.shown(k.t); is != should {
		k.t.Errorf("%d: %s leads to %s, want %s", i, what, is, should)
	}
}

// P18.1 to P18.7: ways by chance, of several clients, against the document's words, byte by byte, and by what two suites were asked.
func TestByChance(t *testing.T) {
	onTwins(t, func(t *testing.T, s, other *suite.Suite) {
		seen := map[api.Errno]int{}
		for seed := range 25 {
			k := newCrew(t, s, other, seed, seen)
			for range 400 {
				k.step()
				counts(t, "by chance", s, other.Count())
				if t.Failed() {
					t.Fatalf("seed %d", seed)
				}
			}
		}
		for _, want := range []api.Errno{api.OK, api.ErrForm, api.ErrKind, api.ErrFull, api.ErrRight, api.ErrKey, api.ErrTwice, api.ErrAlarm, api.ErrOrder, api.ErrFork, api.ErrMore} {
			if seen[want] == 0 {
				t.Errorf("no error %d by chance", want)
			}
		}
	})
}

// A client's argument is as it was behind the call, its spare room too.
func TestArgumentsStay(t *testing.T) {
	onEach(t, func(t *testing.T, s *suite.Suite) {
		d, c := midway(t, s)
		secret := roomy([]byte("a secret"))
		if _, e := client.New(s, replay.Who{Collection: common, Founder: 1, Who: 1, Secret: secret}); e != api.OK {
			t.Fatal(e)
		}
		name, value := roomy([]byte("a name")), roomy([]byte("a value"))
		wraps := hollow(1, 1, 2).Wraps
		for i := range wraps {
			wraps[i].Box = roomy(wraps[i].Box)
		}
		issues(t, "put", s, c, entry.Entry{Kind: 1, Writer: 9, Seq: 9, Name: name, Value: value, Wraps: wraps[:0]}, api.OK)
		issues(t, "rotate", s, c, entry.Entry{Kind: 5, Epoch: 1, Wraps: wraps}, api.ErrKind)
		right, wrong := roomy(batch(t, 4, d.record(1, by(1, 5, put("e", "f"))))), roomy(batch(t, 4, []byte("no record")))
		stays := [][]byte{secret, name, value, wraps[0].Box, wraps[1].Box, right, wrong}
		var was [][]byte
		for _, b := range stays {
			was = append(was, bytes.Clone(b[:cap(b)]))
		}
		takes(t, "wrong", s, c, wrong, api.ErrForm)
		takes(t, "right", s, c, right, api.OK, api.OK)
		issues(t, "again", s, c, entry.Entry{Kind: 1, Name: name, Value: value}, api.OK)
		rotates(t, "rotate", s, c, api.OK)
		h := chain.Head{Index: 5, Sum: roomy(c.Head().Sum)}
		c.Compare(h)
		if string(h.Sum[:cap(h.Sum)][keySize:keySize+5]) != "spare" {
			t.Error("Compare changes the spare room")
		}
		for i, b := range stays {
			if !bytes.Equal(b[:cap(b)], was[i]) {
				t.Errorf("argument %d is changed to %x", i, b[:cap(b)])
			}
		}
		if string(name[:cap(name)][:16]) != "a namespare room" || string(wraps[0].Box[:cap(wraps[0].Box)][boxSize:boxSize+5]) != "spare" {
			t.Error("an entry's spare room is changed")
		}
	})
}

// What was handed in, changed later, changes nothing that is kept.
func TestArgumentsAreNotKept(t *testing.T) {
	onEach(t, func(t *testing.T, s *suite.Suite) {
		d := newDesk(t, s)
		secret := roomy([]byte("a secret"))
		c, e := client.New(s, replay.Who{Collection: common, Founder: 1, Who: 1, Secret: secret})
		if e != api.OK {
			t.Fatal(e)
		}
		was := shown(c)
		scribble(secret)
		if shown(c) != was {
			t.Error("the secret is kept")
		}
		name, text := roomy([]byte("a name")), roomy([]byte("a value"))
		issues(t, "put", s, c, entry.Entry{Kind: 1, Name: name, Value: text}, api.OK)
		was = shown(c)
		scribble(name)
		scribble(text)
		if shown(c) != was {
			t.Errorf("an entry is kept: %s", shown(c))
		}
		rotates(t, "rotate", s, c, api.OK)
		// Both are sealed by the secret as it was.
		pends(t, "sealed", d, c, waiting{by(1, 1, put("a name", "a value")), 0, 1}, waiting{by(1, 2, c.Pending()[1]), 0, 2})
		rotatedFor(t, d, c, 1, 1)
		b := roomy(batch(t, 0, links(t, c)...))
		takes(t, "both", s, c, b, api.OK, api.OK, api.OK)
		was = shown(c)
		scribble(b)
		if shown(c) != was {
			t.Errorf("a frame is kept: %s", shown(c))
		}
		h := c.Head()
		compares(t, "head", s, c, h, api.OK)
		scribble(h.Sum)
		if shown(c) != was {
			t.Errorf("a head is kept: %s", shown(c))
		}
	})
}

// spoil changes all that entries have, their spare room too.
func spoil(all []entry.Entry) {
	for i, e := range all {
		scribble(e.Name)
		scribble(e.Value)
		for j, w := range e.Wraps {
			scribble(w.Box)
			e.Wraps[j].Who = 9
		}
		all[i] = put("spoilt", "spoilt")
	}
	all = all[:cap(all)]
	for i := range all {
		all[i] = put("spoilt", "spoilt")
	}
}

// What was told, changed later, changes nothing that is kept, or was told otherwise.
func TestAnswersApart(t *testing.T) {
	onEach(t, func(t *testing.T, s *suite.Suite) {
		d, c := midway(t, s)
		rotates(t, "rotate", s, c, api.OK)
		was := shown(c)
		entries, again := c.Pending(), c.Pending()
		spoil(entries)
		if shownEntries(again) != shownEntries(c.Pending()) || shown(c) != was {
			t.Errorf("Pending shares: %s", shown(c))
		}
		frames, more := first2(c.Push())
		for _, b := range frames {
			scribble(b)
		}
		frames[0] = nil
		same, _ := c.Push()
		if len(more) != 0 || len(same[0]) == 0 || shown(c) != was {
			t.Errorf("Push shares: %s", shown(c))
		}
		pull, _ := c.Pull()
		scribble(pull)
		h := c.Head()
		scribble(h.Sum)
		p, there := c.See()
		for i := range p.Members[:cap(p.Members)] {
			p.Members[:cap(p.Members)][i] = policy.Member{Who: 16, Rights: 5}
		}
		there.Apply(by(1, 1, put("a", "spoilt")))
		there.Apply(by(1, 1, put("spoilt", "a")))
		if shown(c) != was {
			t.Errorf("what is told is kept: %s", shown(c))
		}
		e, outcomes := c.Take(batch(t, 4, links(t, c)...))
		if e != api.OK || len(outcomes) != 4 {
			t.Fatalf("Take: error %d, outcomes %v", e, outcomes)
		}
		was = shown(c)
		for i := range outcomes {
			outcomes[i] = api.ErrLine
		}
		if shown(c) != was {
			t.Errorf("outcomes are kept: %s", shown(c))
		}
		issues(t, "it goes on", s, c, put("a", "b"), api.OK)
		pends(t, "it goes on", d, c, waiting{by(2, 5, put("a", "b")), 2, 5})
	})
}

// first2 is what a call told, and nothing of its error.
func first2(frames [][]byte, e api.Errno) ([][]byte, []byte) {
	if e != api.OK {
		return nil, []byte{byte(e)}
	}
	return frames, nil
}

// What was told stays as it is when the client goes on, but for the replay, which is the thing itself.
func TestToldStays(t *testing.T) {
	onEach(t, func(t *testing.T, s *suite.Suite) {
		d, c := midway(t, s)
		r, entries, h := c.Replay(), c.Pending(), c.Head()
		frames, _ := c.Push()
		p, there := c.See()
		was := shownEntries(entries) + shownView(p, there) + fmt.Sprintf("%x %d %x", frames, h.Index, h.Sum)
		issues(t, "more", s, c, put("a", "more"), api.OK)
		issues(t, "more", s, c, grant(3, 7), api.OK)
		issues(t, "more", s, c, revoke(2), api.OK)
		own := links(t, c)
		takes(t, "some", s, c, batch(t, 4, own[:2]...), api.OK, api.OK, api.OK)
		takes(t, "others", s, c, batch(t, 6, d.noise(), own[2], own[3]), api.OK, api.ErrEpoch, api.OK, api.OK)
		if now := shownEntries(entries) + shownView(p, there) + fmt.Sprintf("%x %d %x", frames, h.Index, h.Sum); now != was {
			t.Errorf("what was told is changed from %s to %s", was, now)
		}
		if r != c.Replay() || r.Chain().Len() != 9 || r.Chain() != c.Replay().Chain() {
			t.Error("the replay that was told is another one")
		}
		tallies(t, "two are left", c, 9, 2)
	})
}

// Two clients by one suite have nothing in common, be they of one member.
func TestClientsApart(t *testing.T) {
	onEach(t, func(t *testing.T, s *suite.Suite) {
		d, one := midway(t, s)
		other := d.client(2)
		was := shown(other)
		issues(t, "one", s, one, put("a", "b"), api.OK)
		rotates(t, "one", s, one, api.OK)
		own := links(t, one)
		takes(t, "one", s, one, batch(t, 4, own...), api.OK, api.OK, api.OK, api.OK, api.OK, api.OK)
		compares(t, "one", s, one, chain.Head{}, api.ErrFork)
		if shown(other) != was {
			t.Errorf("another is changed to %s", shown(other))
		}
		was = shown(one)
		d.feeds(other)
		issues(t, "other", s, other, put("e", "f"), api.OK)
		pends(t, "other", d, other, waiting{by(2, 1, put("e", "f")), 1, 1})
		takes(t, "of the same member", s, other, batch(t, 4, own...), api.OK, api.OK, api.OK, api.OK, api.OK, api.OK)
		tallies(t, "done by the other one's", other, 9, 0)
		issues(t, "other", s, other, put("g", "h"), api.OK)
		pends(t, "other", d, other, waiting{by(2, 6, put("g", "h")), 2, 2})
		if shown(one) != was {
			t.Errorf("one is changed to %s", shown(one))
		}
	})
}

// A client of another collection, secret or founder is another one's.
func TestOtherCollections(t *testing.T) {
	onEach(t, func(t *testing.T, s *suite.Suite) {
		d := newDesk(t, s)
		c := d.client(1)
		issues(t, "put", s, c, put("a", "b"), api.OK)
		other, _ := client.New(s, replay.Who{Collection: common + 1, Founder: 1, Who: 1, Secret: d.secret})
		takes(t, "another collection's batch", s, other, batch(t, 0, links(t, c)...), api.ErrOther)
		inside := encoded(t, frame.Frame{Kind: 3, Collection: common + 1, Links: links(t, c)})
		takes(t, "another collection's record", s, other, inside, api.ErrForm)
		compares(t, "another collection", s, other, c.Head(), api.ErrFork)
		stranger, _ := client.New(s, replay.Who{Collection: common, Founder: 1, Who: 1, Secret: []byte("another secret")})
		takes(t, "another secret", s, stranger, batch(t, 0, links(t, c)...), api.OK, api.ErrOpen)
		founded, _ := client.New(s, replay.Who{Collection: common, Founder: 2, Who: 1, Secret: d.secret})
		takes(t, "another founder", s, founded, batch(t, 0, links(t, c)...), api.OK, api.ErrRight)
		compares(t, "they have the same chain", s, founded, stranger.Head(), api.OK)
	})
}

// P1, P18.5: any bytes are taken as the document tells it.
func FuzzTake(f *testing.F) {
	f.Add([]byte{})
	for _, kind := range []int{1, 2, 3, 4} {
		for _, index := range []int{0, 1, 2} {
			f.Add(slices.Concat(inSix(kind), inSix(common), inSix(index), inSix(0), []byte{0, 0}))
			f.Add(slices.Concat(inSix(kind), inSix(common+1), inSix(index), inSix(1), []byte{0, 1, 7, 0, 0}))
			record := slices.Concat(inSix(common), inSix(0), inSix(1), inSix(1), []byte{0, 80}, make([]byte, 80))
			f.Add(slices.Concat(inSix(kind), inSix(common), inSix(index), inSix(1), []byte{0, 106}, record, []byte{0, 0}))
		}
	}
	f.Fuzz(func(t *testing.T, b []byte) {
		for _, kind := range suites {
			s, other := kind.make(), kind.make()
			w := replay.Who{Collection: common, Founder: 1, Who: 1, Secret: []byte("a secret")}
			c, _ := client.New(s, w)
			m := newTwin(t, other, w)
			issues(t, "pending", s, c, put("a", "b"), m.issue(put("a", "b")))
			own := batch(t, 0, links(t, c)...)
			m.take(own)
			takes(t, "its own", s, c, own, api.OK, api.OK)
			issues(t, "pending", s, c, drop("a"), m.issue(drop("a")))
			e, outcomes := m.take(b)
			takes(t, "any bytes", s, c, b, e, outcomes...)
			if is, should := shown(c), m.shown(t); is != should || s.Count() != other.Count() {
				t.Errorf("it leads to %s, want %s", is, should)
			}
		}
	})
}
