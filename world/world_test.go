package world_test

import (
	"bytes"
	"encoding/binary"
	"fmt"
	"math"
	"slices"
	"strings"
	"testing"

	"locket/api"
	"locket/client"
	"locket/docs"
	"locket/entry"
	"locket/frame"
	"locket/policy"
	"locket/replay"
	"locket/sealed"
	"locket/suite"
	"locket/world"
)

const (
	mostNumber  = 1 << 40
	mostWho     = 16
	mostLinks   = 64
	mostPending = 8
	mostBatch   = 8
	mostPackets = 512

	// The kinds of steps, as the document numbers them.
	issue   = 1
	rotate  = 2
	push    = 3
	pull    = 4
	deliver = 5
	lose    = 6
	double  = 7
	compare = 8
	move    = 9
	fork    = 10
	inject  = 11
)

// onEach runs a test with a world of each kind.
func onEach(t *testing.T, run func(t *testing.T, real bool)) {
	t.Helper()
	for _, real := range []bool{false, true} {
		t.Run(map[bool]string{false: "signs", true: "real"}[real], func(t *testing.T) { run(t, real) })
	}
}

// strange are numbers that nothing has; some would be right if they were cut.
func strange() []int {
	return []int{-1, -2, -256, 1 << 41, 1<<56 + 1, 1 << 32, 1<<32 + 1, -1 << 32, -mostNumber, math.MinInt, math.MinInt + 1, math.MaxInt - 1, math.MaxInt}
}

// pattern is n bytes that differ from place to place, and with the seed.
func pattern(n, seed int) []byte {
	b := make([]byte, n)
	for i := range b {
		b[i] = byte(i*7 + i/64*31 + seed)
	}
	return b
}

// roomy is the same bytes, with spare room behind them that holds more.
func roomy(b []byte) []byte {
	return slices.Concat(b, []byte("spare room"))[:len(b)]
}

// scribble changes all bytes, and those of the spare room.
func scribble(b []byte) {
	b = b[:cap(b)]
	for i := range b {
		b[i] ^= 0xa5
	}
}

// inSix is a number in six bytes, the highest first.
func inSix(n int) []byte {
	return binary.BigEndian.AppendUint64(nil, uint64(n))[2:]
}

func put(name, value string) entry.Entry {
	return entry.Entry{Kind: 1, Name: []byte(name), Value: []byte(value)}
}

func drop(name string) entry.Entry {
	return entry.Entry{Kind: 2, Name: []byte(name)}
}

func grant(who, rights int) entry.Entry {
	return entry.Entry{Kind: 3, Who: who, Rights: rights}
}

func revoke(who int) entry.Entry {
	return entry.Entry{Kind: 4, Who: who}
}

// crew is three members of the collection 7, the first of which founded it, and one of the collection 8.
func crew() []world.Member {
	return []world.Member{{7, 1, 1}, {7, 1, 2}, {7, 1, 3}, {8, 5, 5}}
}

// newWorld is a world of some members.
func newWorld(t testing.TB, real bool, members ...world.Member) *world.World {
	t.Helper()
	w, e := world.New(world.Setup{Real: real, Members: members})
	if e != api.OK || w == nil {
		t.Fatalf("New of %v tells error %d", members, e)
	}
	return w
}

// does wants what comes of a step; what is wrong changes nothing but for what a packet leaves, or an alarm.
func does(t testing.TB, w *world.World, o world.Op, want api.Errno, outcomes ...api.Errno) {
	t.Helper()
	a := w.Do(o)
	if a.E != want || !slices.Equal(a.Outcomes, outcomes) {
		t.Fatalf("Do of %+v tells %d %v, want %d %v", o, a.E, a.Outcomes, want, outcomes)
	}
}

// refuses wants an error of a step that changes nothing at all.
func refuses(t testing.TB, w *world.World, o world.Op, want api.Errno) {
	t.Helper()
	was := shown(w)
	does(t, w, o, want)
	if now := shown(w); now != was {
		t.Fatalf("Do of %+v tells %d and changes %s to %s", o, want, was, now)
	}
}

// leaves wants a step to leave a post of that.
func leaves(t testing.TB, w *world.World, want ...world.Packet) {
	t.Helper()
	if got := w.Post(); shownPost(got) != shownPost(want) {
		t.Fatalf("the post is %s, want %s", shownPost(got), shownPost(want))
	}
}

// issues lets a client issue entries.
func issues(t testing.TB, w *world.World, c int, all ...entry.Entry) {
	t.Helper()
	for _, e := range all {
		does(t, w, world.Op{Kind: issue, C: c, Entry: e}, api.OK)
	}
}

// pushes lets a client push, and the frames arrive: those that stand last.
func pushes(t testing.TB, w *world.World, c int) {
	t.Helper()
	n := len(w.Post())
	does(t, w, world.Op{Kind: push, C: c}, api.OK)
	for len(w.Post()) > n {
		does(t, w, world.Op{Kind: deliver, N: n}, api.OK)
	}
}

// pulls lets a client pull till it has all of its branch's log.
func pulls(t testing.TB, w *world.World, c int) {
	t.Helper()
	for range 1 + mostLinks/mostBatch {
		n := len(w.Post())
		does(t, w, world.Op{Kind: pull, C: c}, api.OK)
		does(t, w, world.Op{Kind: deliver, N: n}, api.OK)
		if a := w.Do(world.Op{Kind: deliver, N: n}); a.E != api.OK || len(w.Post()) != n {
			t.Fatalf("a batch tells %d %v", a.E, a.Outcomes)
		}
	}
}

// writes lets a client issue entries, push them, and have them committed.
func writes(t testing.TB, w *world.World, c int, all ...entry.Entry) {
	t.Helper()
	issues(t, w, c, all...)
	pushes(t, w, c)
	pulls(t, w, c)
}

// fills lets a client pull till the post has so many packets.
func fills(t testing.TB, w *world.World, c int, packets int) {
	t.Helper()
	for len(w.Post()) < packets {
		does(t, w, world.Op{Kind: pull, C: c}, api.OK)
	}
}

// pending are the frames that a client would push.
func pending(t testing.TB, w *world.World, c int) [][]byte {
	t.Helper()
	frames, e := w.Client(c).Push()
	if e != api.OK {
		t.Fatalf("Push of %d tells error %d", c, e)
	}
	return frames
}

// asks is the frame by which a client would pull.
func asks(t testing.TB, w *world.World, c int) []byte {
	t.Helper()
	b, e := w.Client(c).Pull()
	if e != api.OK {
		t.Fatalf("Pull of %d tells error %d", c, e)
	}
	return b
}

// wire is a frame's bytes.
func wire(t testing.TB, f frame.Frame) []byte {
	t.Helper()
	b, e := frame.Encode(f)
	if e != api.OK {
		t.Fatalf("%+v has no bytes: %d", f, e)
	}
	return b
}

// batch is a batch frame's bytes.
func batch(t testing.TB, collection, index int, links ...[]byte) []byte {
	t.Helper()
	return wire(t, frame.Frame{Kind: 3, Collection: collection, Index: index, Links: links})
}

// links are those of a frame.
func links(t testing.TB, b []byte) [][]byte {
	t.Helper()
	f, e := frame.Decode(b)
	if e != api.OK {
		t.Fatalf("%x is no frame: %d", b, e)
	}
	return f.Links
}

// value wants a client's collection to have a value of a name, or none if that is "".
func value(t testing.TB, d *docs.Docs, name, want string) {
	t.Helper()
	if got, ok := d.Get([]byte(name)); string(got) != want || ok != (want != "") {
		t.Errorf("%s is %q %v, want %q", name, got, ok, want)
	}
}

// has wants a client to have committed that.
func has(t testing.TB, w *world.World, c int, name, want string) {
	t.Helper()
	value(t, w.Client(c).Replay().Docs(), name, want)
}

// shown is all that a world tells, and its clients.
func shown(w *world.World) string {
	var text strings.Builder
	fmt.Fprintf(&text, "%d clients, tally %v, sent %x; post %s; ", w.Len(), w.Tally(), w.Sent(), shownPost(w.Post()))
	for i := -1; i <= w.Len(); i++ {
		fmt.Fprintf(&text, "%d on branch %d: ", i, w.Branch(i))
		if c := w.Client(i); c != nil {
			text.WriteString(shownClient(c))
		}
	}
	for branch := -1; branch <= 2; branch++ {
		for _, collection := range []int{0, 1, 7, 8, 9, mostNumber} {
			fmt.Fprintf(&text, "log %d %d: %x; ", branch, collection, w.Log(branch, collection))
		}
	}
	return text.String()
}

// shownPost is packets.
func shownPost(post []world.Packet) string {
	var text strings.Builder
	for _, p := range post {
		fmt.Fprintf(&text, "%d %v %x, ", p.C, p.Up, p.Data)
	}
	return text.String()
}

// shownClient is all that a client tells.
func shownClient(c *client.Client) string {
	var text strings.Builder
	frames, e := c.Push()
	ask, f := c.Pull()
	fmt.Fprintf(&text, "alarm %v, tally %v, push %x %d, pull %x %d; ", c.Alarm(), c.Tally(), frames, e, ask, f)
	fmt.Fprintf(&text, "head %d %x; pending %s; ", c.Head().Index, c.Head().Sum, shownEntries(c.Pending()))
	text.WriteString("sees " + shownState(c.See()) + "has " + shownReplay(c.Replay()))
	return text.String()
}

// shownReplay is all that a replay tells.
func shownReplay(r *replay.Replay) string {
	text := shownState(r.Policy(), r.Docs())
	for i := range r.Chain().Len() {
		link, _ := r.Chain().Link(i)
		text += fmt.Sprintf("%x; ", link)
	}
	for i := range mostWho + 1 {
		key, ok := r.Key(i)
		text += fmt.Sprintf("%d: key %x %v, seen %d; ", i, key, ok, r.Seen(i))
	}
	return text
}

// shownState is a policy and a collection.
func shownState(p policy.Policy, d *docs.Docs) string {
	return fmt.Sprintf("%v docs %v; ", p, d.All())
}

// shownEntries are entries, those with nil and with empty lists alike.
func shownEntries(all []entry.Entry) string {
	var text strings.Builder
	for _, e := range all {
		fmt.Fprintf(&text, "%d by %d %d: %x %x %d %d %d, ", e.Kind, e.Writer, e.Seq, e.Name, e.Value, e.Who, e.Rights, e.Epoch)
		for _, w := range e.Wraps {
			fmt.Fprintf(&text, "%d %x, ", w.Who, w.Box)
		}
	}
	return text.String()
}

// The chapter's example.
func TestExample(t *testing.T) {
	onEach(t, func(t *testing.T, real bool) {
		w := newWorld(t, real, world.Member{7, 1, 1}, world.Member{7, 1, 2})
		does(t, w, world.Op{Kind: issue, C: 0, Entry: put("a", "b")}, api.OK)
		does(t, w, world.Op{Kind: push, C: 0}, api.OK)
		does(t, w, world.Op{Kind: deliver}, api.OK)
		does(t, w, world.Op{Kind: pull, C: 1}, api.OK)
		does(t, w, world.Op{Kind: deliver}, api.OK)
		does(t, w, world.Op{Kind: deliver}, api.OK, api.OK)
		has(t, w, 1, "a", "b")
		if len(w.Client(0).Pending()) != 1 || w.Tally() != 1+1i || len(w.Post()) != 0 {
			t.Errorf("it leads to %s", shown(w))
		}
	})
}

// rightSetups are members that make a world.
func rightSetups() [][]world.Member {
	return [][]world.Member{
		{{1, 1, 1}},
		{{mostNumber, mostWho, mostWho}},
		{{mostNumber, 1, mostWho}, {1, mostWho, 1}},
		// Nobody of them is the founder.
		{{7, 1, 2}, {7, 1, 3}},
		// One Who in several collections, one founder in several, and several founders.
		{{7, 1, 1}, {8, 1, 1}, {9, 1, 1}},
		{{7, 1, 1}, {8, 2, 1}, {7, 1, 2}, {8, 2, 2}},
		{{7, 3, 16}, {7, 3, 15}, {7, 3, 14}, {7, 3, 13}, {7, 3, 12}, {7, 3, 11}},
		{{6, 6, 6}, {5, 5, 5}, {4, 4, 4}, {3, 3, 3}, {2, 2, 2}, {1, 1, 1}},
		{{7, 1, 1}, {1 << 32, 2, 1}, {1<<32 + 7, 3, 1}, {7 + 1<<8, 4, 1}},
	}
}

// P20.1: what a new world tells.
func TestNew(t *testing.T) {
	onEach(t, func(t *testing.T, real bool) {
		for _, members := range rightSetups() {
			w := newWorld(t, real, members...)
			if w.Len() != len(members) || len(w.Post()) != 0 || len(w.Sent()) != 0 || w.Tally() != 0 {
				t.Errorf("%v: it begins as %s", members, shown(w))
			}
			twins := twinClients(t, real, members...)
			for i, m := range members {
				if got, want := shownClient(w.Client(i)), shownClient(twins[i]); got != want {
					t.Errorf("%v: %d begins as %s, want %s", members, i, got, want)
				}
				if w.Branch(i) != 0 || len(w.Log(0, m.Collection)) != 0 || len(w.Log(1, m.Collection)) != 0 {
					t.Errorf("%v: %d is on %d", members, i, w.Branch(i))
				}
				for _, other := range members[:i] {
					if w.Client(i) == w.Client(slices.Index(members, other)) {
						t.Errorf("%v: %d is another one", members, i)
					}
				}
			}
		}
	})
}

// twinClients are clients by a suite of their own, as the document has them in a world.
func twinClients(t testing.TB, real bool, members ...world.Member) []*client.Client {
	t.Helper()
	s := suite.Signs()
	if real {
		s = suite.Real([]byte("seed"))
	}
	return clientsBy(t, s, members...)
}

// clientsBy are clients by a suite.
func clientsBy(t testing.TB, s *suite.Suite, members ...world.Member) []*client.Client {
	t.Helper()
	var all []*client.Client
	for _, m := range members {
		c, e := client.New(s, replay.Who{Collection: m.Collection, Founder: m.Founder, Who: m.Who, Secret: inSix(m.Collection)})
		if e != api.OK {
			t.Fatalf("no client of %v: %d", m, e)
		}
		all = append(all, c)
	}
	return all
}

// newRefuses wants no world.
func newRefuses(t *testing.T, members ...world.Member) {
	t.Helper()
	for _, real := range []bool{false, true} {
		if w, e := world.New(world.Setup{Real: real, Members: members}); e != api.ErrForm || w != nil {
			t.Errorf("New of %v tells error %d, and %v", members, e, w)
		}
	}
}

// P20.1: no member, and more than six.
func TestNewOfWrongLengths(t *testing.T) {
	newRefuses(t)
	newRefuses(t, []world.Member{}...)
	var many []world.Member
	for i := range 40 {
		many = append(many, world.Member{1 + i, 1, 1})
		if len(many) > 6 {
			newRefuses(t, many...)
		}
	}
	newRefuses(t, world.Member{7, 1, 1}, world.Member{7, 1, 2}, world.Member{7, 1, 3}, world.Member{7, 1, 4}, world.Member{7, 1, 5}, world.Member{7, 1, 6}, world.Member{7, 1, 7})
	newRefuses(t, make([]world.Member, 7)...)
}

// P20.1: a member that isn't right, wherever it stands.
func TestNewOfWrongMembers(t *testing.T) {
	wrong := []world.Member{{}, {0, 1, 1}, {7, 0, 1}, {7, 1, 0}, {mostNumber + 1, 1, 1}, {7, mostWho + 1, 1}, {7, 1, mostWho + 1}}
	for _, n := range strange() {
		wrong = append(wrong, world.Member{7, n, 1}, world.Member{7, 1, n})
		if n < 1 || n > mostNumber {
			wrong = append(wrong, world.Member{n, 1, 1})
		}
	}
	for _, m := range wrong {
		newRefuses(t, m)
		for i := range 6 {
			others := []world.Member{{101, 1, 1}, {102, 1, 1}, {103, 1, 1}, {104, 1, 1}, {105, 1, 1}}
			newRefuses(t, slices.Insert(others, min(i, len(others)), m)...)
		}
	}
}

// P20.1: one who is there twice, and a collection with two founders, wherever they stand.
func TestNewOfTwo(t *testing.T) {
	pairs := [][2]world.Member{
		{{7, 1, 1}, {7, 1, 1}},
		{{7, 1, 2}, {7, 1, 2}},
		{{7, 1, 3}, {7, 2, 3}},
		{{7, 1, 1}, {7, 2, 2}},
		{{7, 1, 3}, {7, 2, 4}},
		{{mostNumber, 16, 1}, {mostNumber, 15, 2}},
	}
	for _, pair := range pairs {
		newRefuses(t, pair[0], pair[1])
		for i := range 6 {
			for j := range i {
				all := []world.Member{{101, 1, 1}, {101, 1, 2}, {103, 1, 1}, {104, 1, 1}, {105, 1, 1}, {106, 1, 1}}
				all[j], all[i] = pair[0], pair[1]
				newRefuses(t, all...)
				all[j], all[i] = pair[1], pair[0]
				newRefuses(t, all...)
				if i < 5 {
					newRefuses(t, all[:i+1]...)
				}
			}
		}
	}
}

// P20.1: a world of a real suite, and one of signs, tell frames of that.
func TestReal(t *testing.T) {
	onEach(t, func(t *testing.T, real bool) {
		w, twins := newWorld(t, real, crew()...), twinClients(t, real, crew()...)
		for _, i := range []int{0, 3} {
			issues(t, w, i, put("name", "value"))
			twins[i].Issue(put("name", "value"))
			does(t, w, world.Op{Kind: rotate, C: i}, api.OK)
			twins[i].Rotate()
			does(t, w, world.Op{Kind: push, C: i}, api.OK)
			want, _ := twins[i].Push()
			if sent := w.Sent(); !bytes.Equal(sent[len(sent)-1], want[0]) {
				t.Errorf("%d sends %x, want %x", i, sent[len(sent)-1], want[0])
			}
		}
	})
}

// P20.1: what there is none of.
func TestOfNone(t *testing.T) {
	onEach(t, func(t *testing.T, real bool) {
		w := newWorld(t, real, crew()...)
		writes(t, w, 0, put("a", "b"))
		for i := range crew() {
			does(t, w, world.Op{Kind: move, C: i, N: 1}, api.OK)
		}
		does(t, w, world.Op{Kind: fork, N: 1}, api.OK)
		for _, i := range append(strange(), 4, 5, 6, 7, 8) {
			if w.Client(i) != nil || w.Branch(i) != 0 {
				t.Errorf("there is %d", i)
			}
			if len(w.Log(i, 7)) != 0 || len(w.Log(0, i)) != 0 && i != 7 || len(w.Log(1, i)) != 0 && i != 7 {
				t.Errorf("there is a log of %d", i)
			}
		}
		if len(w.Log(2, 7)) != 0 || len(w.Log(0, 0)) != 0 || len(w.Log(0, 7)) != 1 || len(w.Log(1, 7)) != 1 {
			t.Error("the logs are others")
		}
	})
}

// P20.1: Client is the client itself, which goes on with the world.
func TestClientItself(t *testing.T) {
	onEach(t, func(t *testing.T, real bool) {
		w := newWorld(t, real, crew()...)
		first, other := w.Client(0), w.Client(3)
		writes(t, w, 0, put("a", "b"), put("c", "d"))
		if first != w.Client(0) || first.Tally() != 2 || first.Head().Index != 2 || other != w.Client(3) || other.Tally() != 0 {
			t.Errorf("the clients tell %v and %v", first.Tally(), other.Tally())
		}
		issues(t, w, 3, put("e", "f"))
		if e := other.Pending(); len(e) != 1 || e[0].Writer != 5 {
			t.Errorf("pending is %v", e)
		}
	})
}

// P20.1: the sum of the clients' tallies, of those who have nothing in common too.
func TestTally(t *testing.T) {
	onEach(t, func(t *testing.T, real bool) {
		w := newWorld(t, real, crew()...)
		for i, want := range []complex128{1i, 2i, 3i} {
			issues(t, w, 0, put("a", fmt.Sprint(i)))
			if w.Tally() != want {
				t.Errorf("the tally is %v, want %v", w.Tally(), want)
			}
		}
		issues(t, w, 3, put("a", "b"))
		pushes(t, w, 0)
		for i, want := range []complex128{3 + 1i, 6 + 1i, 9 + 1i, 9 + 1i} {
			pulls(t, w, i)
			if w.Tally() != want {
				t.Errorf("the tally is %v, want %v", w.Tally(), want)
			}
		}
		pushes(t, w, 3)
		pulls(t, w, 3)
		if w.Tally() != 10 {
			t.Errorf("the tally is %v", w.Tally())
		}
	})
}

// P20.1: the greatest tally that a world comes to.
func TestGreatestTally(t *testing.T) {
	w := newWorld(t, false, world.Member{7, 1, 1}, world.Member{7, 1, 2}, world.Member{7, 1, 3}, world.Member{7, 1, 4}, world.Member{7, 1, 5}, world.Member{7, 1, 6})
	writes(t, w, 0, grant(2, 7), grant(3, 7), grant(4, 7), grant(5, 7), grant(6, 7), put("a", "b"), put("a", "c"), put("a", "d"))
	for range 7 {
		writes(t, w, 0, put("a", "1"), put("a", "2"), put("a", "3"), put("a", "4"), put("a", "5"), put("a", "6"), put("a", "7"), put("a", "8"))
	}
	for i := range 6 {
		pulls(t, w, i)
		for range mostPending {
			issues(t, w, i, put("b", "c"))
		}
	}
	if w.Tally() != 6*64+6*8i {
		t.Errorf("the tally is %v", w.Tally())
	}
}

// P20.2: numbers that are no kind's, with clients that are none too.
func TestNoKind(t *testing.T) {
	onEach(t, func(t *testing.T, real bool) {
		w := newWorld(t, real, crew()...)
		issues(t, w, 0, put("a", "b"))
		fills(t, w, 0, 3)
		for _, kind := range append(strange(), 0, 12, 13, 14, 256, 256+1, 1<<32+5, 1<<32+1) {
			for _, c := range []int{0, 3, 4, -1, math.MinInt, math.MaxInt} {
				for _, n := range []int{0, 1, 4, -1, math.MaxInt} {
					refuses(t, w, world.Op{Kind: kind, C: c, N: n, Entry: put("a", "b"), Data: batch(t, 7, 0)}, api.ErrKind)
				}
			}
		}
		refuses(t, w, world.Op{}, api.ErrKind)
	})
}

// P20.2: the steps of a client, without one, whatever else is wrong with them.
func TestNoClient(t *testing.T) {
	onEach(t, func(t *testing.T, real bool) {
		w := newWorld(t, real, crew()...)
		issues(t, w, 0, put("a", "b"))
		fills(t, w, 0, mostPackets)
		for _, kind := range []int{issue, rotate, push, pull, compare, move, inject} {
			for _, c := range append(strange(), 4, 5, 6, 512) {
				does(t, w, world.Op{Kind: kind, C: c}, api.ErrNone)
				does(t, w, world.Op{Kind: kind, C: c, N: 1, Entry: put("a", "b"), Data: batch(t, 7, 0)}, api.ErrNone)
				does(t, w, world.Op{Kind: kind, C: c, N: c, Entry: entry.Entry{Kind: 5}, Data: []byte("x")}, api.ErrNone)
			}
			refuses(t, w, world.Op{Kind: kind, C: 4, Entry: put("a", "b"), Data: batch(t, 7, 0)}, api.ErrNone)
		}
	})
}

// P20.2: of the other steps a client plays no part.
func TestClientPlaysNoPart(t *testing.T) {
	onEach(t, func(t *testing.T, real bool) {
		for _, c := range append(strange(), 3, 4) {
			w := newWorld(t, real, crew()...)
			issues(t, w, 0, put("a", "b"))
			does(t, w, world.Op{Kind: push, C: 0}, api.OK)
			ask := asks(t, w, 0)
			fills(t, w, 0, 3)
			does(t, w, world.Op{Kind: deliver, C: c, N: 0, Entry: put("c", "d"), Data: []byte("x")}, api.OK)
			does(t, w, world.Op{Kind: lose, C: c, N: 0, Entry: put("c", "d"), Data: []byte("x")}, api.OK)
			does(t, w, world.Op{Kind: double, C: c, N: 0, Entry: put("c", "d"), Data: []byte("x")}, api.OK)
			does(t, w, world.Op{Kind: fork, C: c, N: 1, Entry: put("c", "d"), Data: []byte("x")}, api.OK)
			leaves(t, w, world.Packet{0, true, ask}, world.Packet{0, true, ask})
			if len(w.Log(1, 7)) != 1 || len(w.Log(0, 7)) != 1 {
				t.Errorf("C %d: %s", c, shown(w))
			}
		}
	})
}

// P20.2: issue lets the client issue that entry, and tells the client's error.
func TestIssue(t *testing.T) {
	onEach(t, func(t *testing.T, real bool) {
		w := newWorld(t, real, crew()...)
		refuses(t, w, world.Op{Kind: issue}, api.ErrForm)
		refuses(t, w, world.Op{Kind: issue, Entry: put("", "b")}, api.ErrForm)
		refuses(t, w, world.Op{Kind: issue, Entry: entry.Entry{Kind: 5, Epoch: 1, Wraps: []entry.Wrap{{Who: 1, Box: pattern(48, 1)}}}}, api.ErrKind)
		refuses(t, w, world.Op{Kind: issue, C: 1, Entry: put("a", "b")}, api.ErrRight)
		issues(t, w, 0, put("a", "b"), put("c", "d"), drop("c"), grant(2, 3), revoke(2))
		p, d := w.Client(0).See()
		value(t, d, "a", "b")
		value(t, d, "c", "")
		if p.Rights(2) != 0 || len(w.Client(0).Pending()) != 5 || len(w.Client(1).Pending()) != 0 {
			t.Errorf("it leads to %s", shown(w))
		}
		has(t, w, 0, "a", "")
		issues(t, w, 0, put("e", "f"), put("e", "g"), put("e", "h"))
		refuses(t, w, world.Op{Kind: issue, Entry: put("a", "b")}, api.ErrFull)
		if w.Tally() != 8i || len(w.Post()) != 0 || len(w.Sent()) != 0 {
			t.Errorf("issuing leads to %s", shown(w))
		}
		// C and Entry alone count.
		does(t, w, world.Op{Kind: issue, C: 3, N: 77, Entry: put("a", "b"), Data: []byte("x")}, api.OK)
	})
}

// P20.2: rotate lets the client rotate, and tells the client's error.
func TestRotate(t *testing.T) {
	onEach(t, func(t *testing.T, real bool) {
		w := newWorld(t, real, crew()...)
		refuses(t, w, world.Op{Kind: rotate, C: 1}, api.ErrRight)
		issues(t, w, 0, grant(2, 1))
		does(t, w, world.Op{Kind: rotate, C: 0, N: 77, Entry: put("a", "b"), Data: []byte("x")}, api.OK)
		refuses(t, w, world.Op{Kind: rotate}, api.ErrTwice)
		refuses(t, w, world.Op{Kind: issue, Entry: put("a", "b")}, api.ErrKey)
		if all := w.Client(0).Pending(); len(all) != 2 || all[1].Kind != 5 || all[1].Epoch != 1 || len(all[1].Wraps) != 2 {
			t.Errorf("pending is %v", all)
		}
		pushes(t, w, 0)
		for i := range 3 {
			pulls(t, w, i)
			if _, ok := w.Client(i).Replay().Key(1); ok != (i < 2) {
				t.Errorf("%d has the key: %v", i, ok)
			}
		}
		writes(t, w, 0, put("a", "b"))
		n := len(w.Post())
		does(t, w, world.Op{Kind: pull, C: 2}, api.OK)
		does(t, w, world.Op{Kind: deliver, N: n}, api.OK)
		does(t, w, world.Op{Kind: deliver, N: n}, api.OK, api.ErrKey)
		pulls(t, w, 1)
		has(t, w, 1, "a", "b")
		has(t, w, 2, "a", "")
		if w.Client(2).Head().Index != w.Client(1).Head().Index || !bytes.Equal(w.Client(2).Head().Sum, w.Client(1).Head().Sum) {
			t.Error("their chains are unlike")
		}
	})
}

// P20.2: push and pull send what the client's Push and Pull tell, and nothing that isn't pending.
func TestPushAndPull(t *testing.T) {
	onEach(t, func(t *testing.T, real bool) {
		w := newWorld(t, real, crew()...)
		does(t, w, world.Op{Kind: push}, api.OK)
		leaves(t, w)
		issues(t, w, 0, put("a", "b"))
		issues(t, w, 3, put("a", "b"), put("c", "d"))
		one, other, ask := pending(t, w, 0), pending(t, w, 3), asks(t, w, 2)
		does(t, w, world.Op{Kind: push, C: 3, N: 77, Entry: put("a", "b"), Data: []byte("x")}, api.OK)
		does(t, w, world.Op{Kind: pull, C: 2, N: 77, Entry: put("a", "b"), Data: []byte("x")}, api.OK)
		does(t, w, world.Op{Kind: push, C: 0}, api.OK)
		does(t, w, world.Op{Kind: push, C: 0}, api.OK)
		leaves(t, w, world.Packet{3, true, other[0]}, world.Packet{2, true, ask}, world.Packet{0, true, one[0]}, world.Packet{0, true, one[0]})
		if want := fmt.Sprintf("%x", [][]byte{other[0], ask, one[0], one[0]}); fmt.Sprintf("%x", w.Sent()) != want {
			t.Errorf("sent is %x, want %s", w.Sent(), want)
		}
		if len(one) != 1 || len(links(t, one[0])) != 1 || len(links(t, other[0])) != 2 || w.Tally() != 3i {
			t.Errorf("it leads to %s", shown(w))
		}
	})
}

// P20.2: a push or a pull fits into the post up to its last place, and by one more nothing is sent.
func TestPostAtTheBound(t *testing.T) {
	onEach(t, func(t *testing.T, real bool) {
		w := newWorld(t, real, crew()...)
		issues(t, w, 0, put("a", "b"))
		fills(t, w, 1, mostPackets-2)
		does(t, w, world.Op{Kind: push, C: 0}, api.OK)
		does(t, w, world.Op{Kind: pull, C: 3}, api.OK)
		post := w.Post()
		if len(post) != mostPackets || post[510].C != 0 || post[511].C != 3 || len(w.Sent()) != mostPackets {
			t.Fatalf("the post has %d, %d were sent", len(post), len(w.Sent()))
		}
		refuses(t, w, world.Op{Kind: push, C: 0}, api.ErrFull)
		refuses(t, w, world.Op{Kind: pull, C: 0}, api.ErrFull)
		refuses(t, w, world.Op{Kind: double, N: 511}, api.ErrFull)
		// Without anything that is pending there is nothing that doesn't fit.
		does(t, w, world.Op{Kind: push, C: 1}, api.OK)
		does(t, w, world.Op{Kind: lose, N: 0}, api.OK)
		does(t, w, world.Op{Kind: push, C: 0}, api.OK)
		refuses(t, w, world.Op{Kind: push, C: 0}, api.ErrFull)
		does(t, w, world.Op{Kind: lose, N: 511}, api.OK)
		does(t, w, world.Op{Kind: pull, C: 0}, api.OK)
		refuses(t, w, world.Op{Kind: pull, C: 0}, api.ErrFull)
		if len(w.Post()) != mostPackets || len(w.Sent()) != mostPackets+2 {
			t.Errorf("the post has %d, %d were sent", len(w.Post()), len(w.Sent()))
		}
	})
}

// alarms lets a client raise the alarm: its list and another one's part.
func alarms(t testing.TB, w *world.World, c, other int) {
	t.Helper()
	n := w.Client(c).Head().Index
	if n != w.Client(other).Head().Index {
		t.Fatal("their lists aren't of one length")
	}
	for _, of := range [][2]int{{c, 1}, {other, 2}} {
		b := batch(t, 7, n, record(t, 7, of[1]))
		if a := w.Do(world.Op{Kind: inject, C: of[0], Data: b}); a.E != api.OK {
			t.Fatalf("inject tells %d", a.E)
		}
	}
	does(t, w, world.Op{Kind: compare, C: c, N: other}, api.ErrFork)
}

// record is a record's bytes whose box nobody made.
func record(t testing.TB, collection, mark int) []byte {
	t.Helper()
	b, e := sealed.Encode(sealed.Record{Collection: collection, Writer: 1, Count: 1, Box: pattern(80, mark)})
	if e != api.OK {
		t.Fatalf("no record: %d", e)
	}
	return b
}

// P20.2: the client's error stands ahead of a full post; an alarm is its client's alone.
func TestAlarm(t *testing.T) {
	onEach(t, func(t *testing.T, real bool) {
		w := newWorld(t, real, crew()...)
		issues(t, w, 0, put("a", "b"))
		does(t, w, world.Op{Kind: push, C: 0}, api.OK)
		alarms(t, w, 0, 1)
		for _, packets := range []int{1, 511, 512} {
			fills(t, w, 1, packets)
			for _, kind := range []int{issue, rotate, push, pull} {
				refuses(t, w, world.Op{Kind: kind, Entry: put("a", "b")}, api.ErrAlarm)
			}
			refuses(t, w, world.Op{Kind: inject, Data: batch(t, 7, 1)}, api.ErrAlarm)
			refuses(t, w, world.Op{Kind: compare, N: 1}, api.ErrFork)
			refuses(t, w, world.Op{Kind: compare, N: 0}, api.OK)
		}
		if !w.Client(0).Alarm() || w.Client(1).Alarm() || w.Client(2).Alarm() {
			t.Error("the alarm is another one's")
		}
		refuses(t, w, world.Op{Kind: compare, C: 1, N: 1}, api.OK)
		refuses(t, w, world.Op{Kind: push, C: 1}, api.OK)
		// What is on its way still arrives, and its branch can be another one.
		does(t, w, world.Op{Kind: deliver}, api.OK)
		does(t, w, world.Op{Kind: move, N: 1}, api.OK)
		if len(w.Log(0, 7)) != 1 || w.Branch(0) != 1 {
			t.Errorf("it leads to %s", shown(w))
		}
	})
}

// P20.2: places that no packet has.
func TestNoPacket(t *testing.T) {
	onEach(t, func(t *testing.T, real bool) {
		w := newWorld(t, real, crew()...)
		for packets := range 4 {
			for _, kind := range []int{deliver, lose, double} {
				for _, n := range append(strange(), packets, packets+1, 512, 513) {
					refuses(t, w, world.Op{Kind: kind, N: n}, api.ErrPick)
				}
			}
			does(t, w, world.Op{Kind: pull}, api.OK)
		}
		fills(t, w, 0, mostPackets)
		for _, kind := range []int{deliver, lose, double} {
			for _, n := range append(strange(), 512, 513, 1024) {
				does(t, w, world.Op{Kind: kind, N: n}, api.ErrPick)
			}
			refuses(t, w, world.Op{Kind: kind, N: 512}, api.ErrPick)
		}
	})
}

// P20.2: what goes up comes to the log, and a pull's reply stands last, for the one who pulled.
func TestDeliverUp(t *testing.T) {
	onEach(t, func(t *testing.T, real bool) {
		w := newWorld(t, real, crew()...)
		issues(t, w, 0, put("a", "b"), put("c", "d"))
		pushed := pending(t, w, 0)[0]
		ask := asks(t, w, 2)
		does(t, w, world.Op{Kind: pull, C: 2}, api.OK)
		does(t, w, world.Op{Kind: push, C: 0}, api.OK)
		does(t, w, world.Op{Kind: pull, C: 3}, api.OK)
		does(t, w, world.Op{Kind: deliver, N: 1}, api.OK)
		other := asks(t, w, 3)
		leaves(t, w, world.Packet{2, true, ask}, world.Packet{3, true, other})
		if got := fmt.Sprintf("%x", w.Log(0, 7)); got != fmt.Sprintf("%x", links(t, pushed)) || len(w.Log(0, 8)) != 0 || len(w.Log(1, 7)) != 0 {
			t.Errorf("the log is %s", got)
		}
		does(t, w, world.Op{Kind: deliver, N: 0}, api.OK)
		reply := batch(t, 7, 0, links(t, pushed)...)
		leaves(t, w, world.Packet{3, true, other}, world.Packet{2, false, reply})
		does(t, w, world.Op{Kind: deliver, N: 0}, api.OK)
		leaves(t, w, world.Packet{2, false, reply}, world.Packet{3, false, batch(t, 8, 0)})
		if len(w.Sent()) != 3 || w.Tally() != 2i {
			t.Errorf("it leads to %s", shown(w))
		}
		does(t, w, world.Op{Kind: deliver, N: 0}, api.OK, api.OK, api.OK)
		does(t, w, world.Op{Kind: deliver, N: 0}, api.OK)
		leaves(t, w)
		has(t, w, 2, "c", "d")
		has(t, w, 0, "c", "")
	})
}

// full is a world whose log of collection 7 has all of its links, and whose first client has all of them.
func full(t testing.TB, real bool) *world.World {
	t.Helper()
	w := newWorld(t, real, crew()...)
	for i := range mostLinks / mostPending {
		for j := range mostPending {
			issues(t, w, 0, put("name", fmt.Sprint(i, j)))
		}
		pushes(t, w, 0)
		pulls(t, w, 0)
	}
	if len(w.Log(0, 7)) != mostLinks {
		t.Fatalf("the log has %d", len(w.Log(0, 7)))
	}
	return w
}

// P20.2: the server's error is told, there is no reply, and the packet is gone.
func TestDeliverUpWithError(t *testing.T) {
	onEach(t, func(t *testing.T, real bool) {
		w := full(t, real)
		issues(t, w, 0, put("one", "more"))
		does(t, w, world.Op{Kind: push}, api.OK)
		does(t, w, world.Op{Kind: pull}, api.OK)
		does(t, w, world.Op{Kind: move, N: 1}, api.OK)
		ask := asks(t, w, 0)
		does(t, w, world.Op{Kind: deliver, N: 1}, api.ErrMore)
		does(t, w, world.Op{Kind: pull}, api.OK)
		does(t, w, world.Op{Kind: move, N: 0}, api.OK)
		was := fmt.Sprintf("%x", w.Log(0, 7))
		does(t, w, world.Op{Kind: deliver, N: 0}, api.ErrFull)
		leaves(t, w, world.Packet{0, true, ask})
		if fmt.Sprintf("%x", w.Log(0, 7)) != was || len(w.Client(0).Pending()) != 1 || w.Tally() != 64+1i {
			t.Errorf("it leads to %s", shown(w))
		}
		does(t, w, world.Op{Kind: deliver, N: 0}, api.OK)
		leaves(t, w, world.Packet{0, false, batch(t, 7, 64)})
		does(t, w, world.Op{Kind: deliver, N: 0}, api.OK)
		leaves(t, w)
	})
}

// P20.2: what goes up is not in the post any more when its reply comes, so in a full post there is room for it.
func TestReplyToFullPost(t *testing.T) {
	onEach(t, func(t *testing.T, real bool) {
		for _, n := range []int{0, 1, 256, 510, 511} {
			w := newWorld(t, real, crew()...)
			issues(t, w, 0, put("a", "b"))
			pushes(t, w, 0)
			fills(t, w, 1, mostPackets)
			was := w.Post()
			does(t, w, world.Op{Kind: deliver, N: n}, api.OK)
			reply := world.Packet{1, false, batch(t, 7, 0, w.Log(0, 7)...)}
			leaves(t, w, append(slices.Delete(was, n, n+1), reply)...)
			refuses(t, w, world.Op{Kind: pull, C: 1}, api.ErrFull)
			refuses(t, w, world.Op{Kind: double, N: 511}, api.ErrFull)
			does(t, w, world.Op{Kind: deliver, N: 511}, api.OK, api.OK)
			has(t, w, 1, "a", "b")
			if len(w.Post()) != mostPackets-1 {
				t.Errorf("the post has %d", len(w.Post()))
			}
		}
	})
}

// P20.2: what goes down is taken, and its error or its outcomes are told; it is gone either way.
func TestDeliverDown(t *testing.T) {
	onEach(t, func(t *testing.T, real bool) {
		w := newWorld(t, real, crew()...)
		issues(t, w, 0, put("a", "b"), grant(2, 1), drop("c"))
		pushes(t, w, 0)
		does(t, w, world.Op{Kind: pull, C: 1}, api.OK)
		does(t, w, world.Op{Kind: deliver}, api.OK)
		for range 3 {
			does(t, w, world.Op{Kind: double}, api.OK)
		}
		does(t, w, world.Op{Kind: deliver, N: 2}, api.OK, api.OK, api.OK, api.OK)
		was := shownClient(w.Client(1))
		does(t, w, world.Op{Kind: deliver, N: 2}, api.ErrOrder)
		if shownClient(w.Client(1)) != was || len(w.Post()) != 2 {
			t.Errorf("it leads to %s", shown(w))
		}
		does(t, w, world.Op{Kind: inject, C: 2, Data: batch(t, 7, 0, w.Log(0, 7)[0], record(t, 7, 5), record(t, 7, 6))}, api.OK, api.OK, api.ErrOpen, api.ErrOpen)
		does(t, w, world.Op{Kind: compare, C: 1, N: 2}, api.ErrFork)
		does(t, w, world.Op{Kind: deliver, N: 0}, api.ErrAlarm)
		does(t, w, world.Op{Kind: deliver, N: 0}, api.ErrAlarm)
		refuses(t, w, world.Op{Kind: deliver, N: 0}, api.ErrPick)
	})
}

// P20.2: outcomes stand in the order of the records.
func TestOutcomes(t *testing.T) {
	onEach(t, func(t *testing.T, real bool) {
		w := newWorld(t, real, crew()...)
		writes(t, w, 0, grant(2, 3))
		pulls(t, w, 1)
		issues(t, w, 1, put("a", "early"), put("b", "early"))
		issues(t, w, 0, put("c", "d"))
		does(t, w, world.Op{Kind: rotate, C: 0}, api.OK)
		pushes(t, w, 0)
		pushes(t, w, 1)
		issues(t, w, 1, put("a", "last"))
		pushes(t, w, 1)
		for _, c := range []int{0, 1} {
			does(t, w, world.Op{Kind: pull, C: c}, api.OK)
			does(t, w, world.Op{Kind: deliver}, api.OK)
			does(t, w, world.Op{Kind: deliver}, api.OK, api.OK, api.OK, api.ErrOther, api.ErrOther, api.ErrOther)
			has(t, w, c, "a", "")
			has(t, w, c, "c", "d")
		}
		// The same records once more, by another place.
		does(t, w, world.Op{Kind: inject, Data: batch(t, 7, 6, w.Log(0, 7)[1], w.Log(0, 7)[3])}, api.OK, api.ErrTwice, api.ErrTwice)
	})
}

// P20.2: a packet goes to the branch that its client is on when it arrives.
func TestDeliverToBranch(t *testing.T) {
	onEach(t, func(t *testing.T, real bool) {
		w := newWorld(t, real, crew()...)
		issues(t, w, 0, put("a", "b"))
		issues(t, w, 3, put("c", "d"))
		does(t, w, world.Op{Kind: push, C: 0}, api.OK)
		does(t, w, world.Op{Kind: push, C: 3}, api.OK)
		does(t, w, world.Op{Kind: double, N: 0}, api.OK)
		does(t, w, world.Op{Kind: move, C: 0, N: 1}, api.OK)
		does(t, w, world.Op{Kind: deliver}, api.OK)
		does(t, w, world.Op{Kind: deliver}, api.OK)
		lengths := func(want ...int) {
			t.Helper()
			got := []int{len(w.Log(0, 7)), len(w.Log(1, 7)), len(w.Log(0, 8)), len(w.Log(1, 8))}
			if !slices.Equal(got, want) {
				t.Fatalf("the logs have %v links, want %v", got, want)
			}
		}
		lengths(0, 1, 1, 0)
		does(t, w, world.Op{Kind: pull, C: 0}, api.OK)
		does(t, w, world.Op{Kind: pull, C: 1}, api.OK)
		does(t, w, world.Op{Kind: deliver, N: 1}, api.OK)
		does(t, w, world.Op{Kind: deliver, N: 1}, api.OK)
		// Down there are no branches: a reply on its way arrives.
		does(t, w, world.Op{Kind: move, C: 0, N: 0}, api.OK)
		does(t, w, world.Op{Kind: deliver, N: 1}, api.OK, api.OK)
		does(t, w, world.Op{Kind: deliver, N: 1}, api.OK)
		does(t, w, world.Op{Kind: deliver, N: 0}, api.OK)
		lengths(1, 1, 1, 0)
		leaves(t, w)
		has(t, w, 0, "a", "b")
		has(t, w, 1, "a", "")
	})
}

// P20.2: what is lost is gone, and nothing else.
func TestLose(t *testing.T) {
	onEach(t, func(t *testing.T, real bool) {
		for n := range 4 {
			w := newWorld(t, real, crew()...)
			for i := range 4 {
				does(t, w, world.Op{Kind: pull, C: i}, api.OK)
			}
			does(t, w, world.Op{Kind: deliver, N: 1}, api.OK)
			was, sent := w.Post(), fmt.Sprintf("%x", w.Sent())
			does(t, w, world.Op{Kind: lose, N: n}, api.OK)
			leaves(t, w, slices.Delete(was, n, n+1)...)
			if fmt.Sprintf("%x", w.Sent()) != sent || w.Tally() != 0 {
				t.Errorf("it leads to %s", shown(w))
			}
		}
	})
}

// P20.2: a copy stands last, of what goes up or down; that wasn't sent up.
func TestDouble(t *testing.T) {
	onEach(t, func(t *testing.T, real bool) {
		w := newWorld(t, real, crew()...)
		issues(t, w, 0, put("a", "b"))
		does(t, w, world.Op{Kind: push, C: 0}, api.OK)
		does(t, w, world.Op{Kind: pull, C: 1}, api.OK)
		does(t, w, world.Op{Kind: pull, C: 3}, api.OK)
		does(t, w, world.Op{Kind: deliver, N: 1}, api.OK)
		want := w.Post()
		for _, n := range []int{0, 1, 2, 1, 3, 0, 7, 5} {
			want = append(want, want[n])
			does(t, w, world.Op{Kind: double, N: n}, api.OK)
			leaves(t, w, want...)
		}
		if len(w.Sent()) != 3 {
			t.Errorf("sent are %d", len(w.Sent()))
		}
		// Each arrives, and the log has its link just once.
		for range 8 {
			if a := w.Do(world.Op{Kind: deliver}); a.E != api.OK {
				t.Errorf("deliver tells %d", a.E)
			}
		}
		if len(w.Log(0, 7)) != 1 {
			t.Errorf("the log has %d links", len(w.Log(0, 7)))
		}
	})
}

// P20.2: a full post has no room for a copy; one with one place has.
func TestDoubleAtTheBound(t *testing.T) {
	onEach(t, func(t *testing.T, real bool) {
		w := newWorld(t, real, crew()...)
		does(t, w, world.Op{Kind: pull, C: 3}, api.OK)
		for range mostPackets - 1 {
			does(t, w, world.Op{Kind: double}, api.OK)
		}
		if len(w.Post()) != mostPackets || len(w.Sent()) != 1 {
			t.Fatalf("the post has %d, %d were sent", len(w.Post()), len(w.Sent()))
		}
		for _, n := range []int{0, 1, 511} {
			refuses(t, w, world.Op{Kind: double, N: n}, api.ErrFull)
		}
		for _, n := range []int{-1, 512} {
			refuses(t, w, world.Op{Kind: double, N: n}, api.ErrPick)
		}
		does(t, w, world.Op{Kind: lose, N: 17}, api.OK)
		does(t, w, world.Op{Kind: double, N: 510}, api.OK)
		refuses(t, w, world.Op{Kind: double, N: 510}, api.ErrFull)
	})
}

// P20.2: a comparison with nobody, with one of another collection, and with those of one log.
func TestCompare(t *testing.T) {
	onEach(t, func(t *testing.T, real bool) {
		w := newWorld(t, real, crew()...)
		for c := range 4 {
			for _, n := range append(strange(), 4, 5) {
				refuses(t, w, world.Op{Kind: compare, C: c, N: n}, api.ErrNone)
			}
			refuses(t, w, world.Op{Kind: compare, C: c, N: c}, api.OK)
			refuses(t, w, world.Op{Kind: compare, C: c, N: (c + 1) % 4}, []api.Errno{api.OK, api.OK, api.ErrOther, api.ErrOther}[c])
		}
		writes(t, w, 0, put("a", "b"), put("c", "d"))
		for c := range 3 {
			for n := range 3 {
				want := api.OK
				if c != 0 && n == 0 {
					want = api.ErrMore
				}
				does(t, w, world.Op{Kind: compare, C: c, N: n, Entry: put("a", "b"), Data: []byte("x")}, want)
			}
			refuses(t, w, world.Op{Kind: compare, C: c, N: 3}, api.ErrOther)
			refuses(t, w, world.Op{Kind: compare, C: 3, N: c}, api.ErrOther)
			refuses(t, w, world.Op{Kind: compare, C: 4, N: c}, api.ErrNone)
		}
		if w.Client(0).Alarm() || w.Client(1).Alarm() || w.Client(2).Alarm() {
			t.Error("there is an alarm")
		}
	})
}

// P20.2: two that were told unlike logs; the alarm is raised by the one who compares, and isn't shorter.
func TestCompareOfForked(t *testing.T) {
	onEach(t, func(t *testing.T, real bool) {
		for _, more := range []int{0, 1, 3} {
			w := newWorld(t, real, crew()...)
			writes(t, w, 0, put("a", "b"), grant(2, 3))
			pulls(t, w, 1)
			does(t, w, world.Op{Kind: fork, N: 2}, api.OK)
			does(t, w, world.Op{Kind: move, C: 1, N: 1}, api.OK)
			writes(t, w, 1, put("e", "f"))
			refuses(t, w, world.Op{Kind: compare, C: 1, N: 0}, api.OK)
			refuses(t, w, world.Op{Kind: compare, C: 0, N: 1}, api.ErrMore)
			writes(t, w, 0, put("a", "c"))
			for range more {
				writes(t, w, 0, put("a", "d"))
			}
			if more > 0 {
				refuses(t, w, world.Op{Kind: compare, C: 1, N: 0}, api.ErrMore)
			}
			was := shownClient(w.Client(1))
			does(t, w, world.Op{Kind: compare, C: 0, N: 1}, api.ErrFork)
			if !w.Client(0).Alarm() || w.Client(1).Alarm() || shownClient(w.Client(1)) != was {
				t.Error("the alarm is another one's")
			}
			// One on the other branch has the first one's beginning in common with the third.
			refuses(t, w, world.Op{Kind: compare, C: 1, N: 2}, api.OK)
			refuses(t, w, world.Op{Kind: compare, C: 0, N: 2}, api.OK)
			does(t, w, world.Op{Kind: compare, C: 0, N: 1}, api.ErrFork)
			has(t, w, 0, "e", "")
			has(t, w, 1, "e", "f")
		}
	})
}

// P20.2: branches, and numbers that are none.
func TestMove(t *testing.T) {
	onEach(t, func(t *testing.T, real bool) {
		w := newWorld(t, real, crew()...)
		want := make([]int, 4)
		check := func() {
			t.Helper()
			for i := range 4 {
				if w.Branch(i) != want[i] {
					t.Fatalf("%d is on %d, want %v", i, w.Branch(i), want)
				}
			}
		}
		for _, o := range [][2]int{{2, 1}, {0, 1}, {2, 1}, {2, 0}, {3, 1}, {3, 0}, {1, 0}, {1, 1}} {
			does(t, w, world.Op{Kind: move, C: o[0], N: o[1], Entry: put("a", "b"), Data: []byte("x")}, api.OK)
			want[o[0]] = o[1]
			check()
			for _, n := range append(strange(), 2, 3, 257) {
				does(t, w, world.Op{Kind: move, C: o[0], N: n}, api.ErrRange)
				check()
			}
			refuses(t, w, world.Op{Kind: move, C: o[0], N: 2}, api.ErrRange)
		}
	})
}

// P20.2: a fork at each length, of all collections, and what both branches tell behind it.
func TestFork(t *testing.T) {
	onEach(t, func(t *testing.T, real bool) {
		for n := range 5 {
			w := newWorld(t, real, crew()...)
			writes(t, w, 0, put("a", "1"), put("b", "2"), put("c", "3"))
			writes(t, w, 3, put("z", "9"))
			for _, wrong := range []int{-1, -2, math.MinInt} {
				refuses(t, w, world.Op{Kind: fork, N: wrong}, api.ErrRange)
			}
			seven, eight := w.Log(0, 7), w.Log(0, 8)
			does(t, w, world.Op{Kind: fork, N: n}, api.OK)
			if fmt.Sprintf("%x", w.Log(1, 7)) != fmt.Sprintf("%x", seven[:min(n, 3)]) || fmt.Sprintf("%x", w.Log(1, 8)) != fmt.Sprintf("%x", eight[:min(n, 1)]) {
				t.Errorf("fork at %d leads to %s", n, shown(w))
			}
			does(t, w, world.Op{Kind: move, C: 2, N: 1}, api.OK)
			pulls(t, w, 2)
			pulls(t, w, 1)
			for i, name := range []string{"a", "b", "c"} {
				has(t, w, 1, name, fmt.Sprint(i+1))
				if i < n {
					has(t, w, 2, name, fmt.Sprint(i+1))
				} else {
					has(t, w, 2, name, "")
				}
			}
			writes(t, w, 0, put("d", "4"))
			if len(w.Log(0, 7)) != 4 || len(w.Log(1, 7)) != min(n, 3) {
				t.Errorf("the branches have a log in common")
			}
		}
	})
}

// P20.2: a fork of more than there is, and one behind another.
func TestForkAgain(t *testing.T) {
	onEach(t, func(t *testing.T, real bool) {
		w := newWorld(t, real, crew()...)
		for _, n := range []int{math.MaxInt, 64, 65, 1 << 32, 0, 2, 1} {
			does(t, w, world.Op{Kind: fork, N: n}, api.OK)
			if len(w.Log(1, 7)) != min(n, len(w.Log(0, 7))) {
				t.Errorf("fork at %d leads to %d", n, len(w.Log(1, 7)))
			}
			writes(t, w, 0, put("a", "b"))
		}
	})
}

// P20.2: what is injected is taken by that client alone, past the post.
func TestInject(t *testing.T) {
	onEach(t, func(t *testing.T, real bool) {
		w := newWorld(t, real, crew()...)
		issues(t, w, 0, put("a", "b"), put("c", "d"))
		own := links(t, pending(t, w, 0)[0])
		other := w.Client(3)
		wrong := map[api.Errno][][]byte{
			api.ErrForm:  {nil, {}, []byte("x"), batch(t, 7, 0, []byte("no record")), batch(t, 7, 0, record(t, 8, 1)), append(batch(t, 7, 0), 0)},
			api.ErrSize:  {make([]byte, 1<<15+1), slices.Concat(batch(t, 7, 0), make([]byte, 1<<15))},
			api.ErrKind:  {pending(t, w, 0)[0], asks(t, w, 0), asks(t, w, 3), wire(t, frame.Frame{Kind: 4, Collection: 7, Sum: make([]byte, 32)})},
			api.ErrOther: {batch(t, 8, 0), batch(t, 9, 0, own...)},
			api.ErrOrder: {batch(t, 7, 1), batch(t, 7, 64, own...)},
		}
		for want, all := range wrong {
			for _, b := range all {
				refuses(t, w, world.Op{Kind: inject, Data: b}, want)
			}
		}
		b := batch(t, 7, 0, own...)
		does(t, w, world.Op{Kind: inject, C: 1, N: 77, Entry: put("e", "f"), Data: b}, api.OK, api.OK, api.OK)
		refuses(t, w, world.Op{Kind: inject, C: 1, Data: b}, api.ErrOrder)
		refuses(t, w, world.Op{Kind: inject, C: 3, Data: b}, api.ErrOther)
		does(t, w, world.Op{Kind: inject, C: 1, Data: batch(t, 7, 2)}, api.OK)
		does(t, w, world.Op{Kind: inject, C: 1, Data: batch(t, 7, 2, own[0], record(t, 7, 1))}, api.OK, api.ErrTwice, api.ErrOpen)
		has(t, w, 1, "c", "d")
		has(t, w, 0, "c", "")
		if other.Tally() != 0 || len(w.Post()) != 0 || len(w.Sent()) != 0 || len(w.Log(0, 7)) != 0 || w.Tally() != 4+2i {
			t.Errorf("it leads to %s", shown(w))
		}
		does(t, w, world.Op{Kind: inject, C: 0, Data: b}, api.OK, api.OK, api.OK)
		if len(w.Client(0).Pending()) != 0 {
			t.Error("what was injected is pending still")
		}
	})
}

// P20.2: what is injected may not lead past MaxLog.
func TestInjectTooMuch(t *testing.T) {
	onEach(t, func(t *testing.T, real bool) {
		w := full(t, real)
		refuses(t, w, world.Op{Kind: inject, Data: batch(t, 7, 64, record(t, 7, 1))}, api.ErrFull)
		refuses(t, w, world.Op{Kind: inject, Data: batch(t, 7, 64, []byte("x"))}, api.ErrForm)
		does(t, w, world.Op{Kind: inject, Data: batch(t, 7, 64)}, api.OK)
	})
}

// mixed are steps of each kind, right and wrong ones.
func mixed(t testing.TB) []world.Op {
	t.Helper()
	return []world.Op{
		{Kind: issue, Entry: put("a", "b")}, {Kind: issue, Entry: grant(2, 7)}, {Kind: issue, C: 1, Entry: put("a", "c")}, {Kind: issue, C: 3, Entry: drop("x")},
		{Kind: rotate, C: 3}, {Kind: push, C: 3}, {Kind: push}, {Kind: pull, C: 1}, {Kind: double, N: 1}, {Kind: deliver, N: 1}, {Kind: deliver, N: 1},
		{Kind: deliver, N: 7}, {Kind: deliver, N: 1}, {Kind: deliver, N: 1}, {Kind: fork, N: 1}, {Kind: move, C: 1, N: 1}, {Kind: issue, C: 1, Entry: put("q", "r")},
		{Kind: rotate, C: 1}, {Kind: push, C: 1}, {Kind: deliver, N: 1}, {Kind: pull, C: 1}, {Kind: lose, N: 1}, {Kind: pull, C: 1}, {Kind: deliver, N: 1}, {Kind: deliver, N: 1},
		{Kind: pull}, {Kind: deliver, N: 1}, {Kind: deliver, N: 1}, {Kind: compare, C: 1}, {Kind: compare, N: 1}, {Kind: fork, N: -1}, {Kind: move, N: 9},
		{Kind: inject, C: 2, Data: batch(t, 7, 0, record(t, 7, 1))}, {Kind: inject, C: 2, Data: []byte("x")}, {Kind: compare, C: 2, N: 1}, {Kind: compare, C: 1, N: 2}, {Kind: 12}, {Kind: issue, C: 9},
		{Kind: pull, C: 1}, {Kind: deliver}, {Kind: pull, C: 3}, {Kind: deliver}, {Kind: deliver},
	}
}

// P20.3: two worlds of one setup tell the same, step by step, however much the one is asked in between.
func TestTwins(t *testing.T) {
	onEach(t, func(t *testing.T, real bool) {
		one, other, silent := newWorld(t, real, crew()...), newWorld(t, real, crew()...), newWorld(t, real, crew()...)
		for i, o := range mixed(t) {
			for range i % 3 {
				shown(one)
			}
			a, b, c := one.Do(o), other.Do(o), silent.Do(o)
			if fmt.Sprint(a.E, a.Outcomes) != fmt.Sprint(b.E, b.Outcomes) || fmt.Sprint(a.E, a.Outcomes) != fmt.Sprint(c.E, c.Outcomes) {
				t.Fatalf("%d: %+v tells %v, %v and %v", i, o, a, b, c)
			}
			if shown(one) != shown(other) {
				t.Fatalf("%d: %+v leads to %s, and to %s", i, o, shown(one), shown(other))
			}
		}
		if shown(one) != shown(silent) {
			t.Errorf("unasked it leads to %s, asked to %s", shown(silent), shown(one))
		}
	})
}

// boxNumber is the number of the box of signs of a record.
func boxNumber(t testing.TB, link []byte) int {
	t.Helper()
	r, e := sealed.Decode(link)
	if e != api.OK {
		t.Fatalf("no record: %d", e)
	}
	return int(binary.BigEndian.Uint64(r.Box[len(r.Box)-8:]))
}

// P20.3: how many signs there are, told by the boxes' numbers: New asks what the clients' News do, a question or a refused step nothing.
func TestAsksNothingElse(t *testing.T) {
	s := suite.Signs()
	clientsBy(t, s, crew()...)
	first := s.Count()
	w := newWorld(t, false, crew()...)
	shown(w)
	fills(t, w, 1, 40)
	for _, o := range []world.Op{{Kind: deliver}, {Kind: deliver, N: 38}, {Kind: deliver, N: 38}, {Kind: lose}, {Kind: double}, {Kind: move, N: 1}, {Kind: fork, N: 1}, {Kind: compare}, {Kind: compare, N: 2}, {Kind: compare, N: 3}, {Kind: 12}, {Kind: push}, {Kind: move}} {
		w.Do(o)
		shown(w)
	}
	refuses(t, w, world.Op{Kind: issue, C: 1, Entry: put("a", "b")}, api.ErrRight)
	issues(t, w, 0, put("a", "b"))
	// A seal asks for the writer's key, the mark, and the box.
	if got := boxNumber(t, links(t, pending(t, w, 0)[0])[0]); got != first+3 {
		t.Errorf("the first box has the number %d, want %d", got, first+3)
	}
	for range 3 {
		does(t, w, world.Op{Kind: push}, api.OK)
		does(t, w, world.Op{Kind: deliver, N: 20}, api.OK)
		shown(w)
	}
	issues(t, w, 0, put("a", "b"))
	if got := boxNumber(t, links(t, pending(t, w, 0)[0])[1]); got != first+5 {
		t.Errorf("the second box has the number %d, want %d", got, first+5)
	}
}

// P20.3: worlds have nothing in common.
func TestWorldsApart(t *testing.T) {
	onEach(t, func(t *testing.T, real bool) {
		one, other := newWorld(t, real, crew()...), newWorld(t, real, crew()...)
		was := shown(other)
		for _, o := range mixed(t) {
			one.Do(o)
		}
		if shown(other) != was {
			t.Errorf("another is changed to %s", shown(other))
		}
		again := newWorld(t, real, crew()...)
		for _, o := range mixed(t) {
			other.Do(o)
			again.Do(o)
		}
		if shown(other) != shown(one) || shown(again) != shown(one) {
			t.Error("a later world is another")
		}
	})
}

// What is handed in stays as it is, its spare room too.
func TestArgumentsStay(t *testing.T) {
	onEach(t, func(t *testing.T, real bool) {
		members := append(crew(), world.Member{9, 9, 9})
		setup := world.Setup{Real: real, Members: members[:4]}
		w, _ := world.New(setup)
		if !slices.Equal(members, append(crew(), world.Member{9, 9, 9})) {
			t.Errorf("the members are %v", members)
		}
		o := world.Op{Kind: issue, Entry: entry.Entry{Kind: 1, Writer: 9, Seq: 8, Name: roomy([]byte("name")), Value: roomy([]byte("value"))}}
		does(t, w, o, api.OK)
		wraps := []entry.Wrap{{Who: 1, Box: roomy(pattern(48, 1))}, {Who: 2, Box: roomy(pattern(48, 2))}}
		p := world.Op{Kind: issue, Entry: entry.Entry{Kind: 5, Epoch: 1, Wraps: wraps[:1]}}
		does(t, w, p, api.ErrKind)
		if o.Entry.Writer != 9 || o.Entry.Seq != 8 || string(o.Entry.Name[:14]) != "namespare room" || string(o.Entry.Value[:15]) != "valuespare room" {
			t.Errorf("the entry is %v", o.Entry)
		}
		if want := []entry.Wrap{{Who: 1, Box: pattern(48, 1)}, {Who: 2, Box: pattern(48, 2)}}; fmt.Sprint(wraps) != fmt.Sprint(want) {
			t.Errorf("the wraps are %v", wraps)
		}
		b := roomy(batch(t, 7, 0, links(t, pending(t, w, 0)[0])...))
		was := string(b[:cap(b)])
		for _, kind := range []int{inject, deliver, lose, double, compare, move, fork, push, pull} {
			w.Do(world.Op{Kind: kind, C: 1, Data: b, Entry: o.Entry})
		}
		if string(b[:cap(b)]) != was {
			t.Errorf("the data is %x", b)
		}
	})
}

// What was handed in isn't kept.
func TestArgumentsAreNotKept(t *testing.T) {
	onEach(t, func(t *testing.T, real bool) {
		members := crew()
		w, _ := world.New(world.Setup{Real: real, Members: members})
		other := newWorld(t, real, crew()...)
		for i := range members {
			members[i] = world.Member{1, 2, 3}
		}
		for _, o := range mixed(t) {
			other.Do(o)
			o.Entry.Name, o.Entry.Value, o.Data = roomy(o.Entry.Name), roomy(o.Entry.Value), roomy(o.Data)
			w.Do(o)
			scribble(o.Entry.Name)
			scribble(o.Entry.Value)
			scribble(o.Data)
		}
		if shown(w) != shown(other) {
			t.Errorf("it leads to %s, want %s", shown(w), shown(other))
		}
	})
}

// spoilPost changes all packets, and those of the spare room.
func spoilPost(post []world.Packet) {
	post = post[:cap(post)]
	for i := range post {
		scribble(post[i].Data)
		post[i] = world.Packet{C: 3, Up: !post[i].Up, Data: []byte("spoilt")}
	}
}

// spoilAll changes all texts, and those of the spare room.
func spoilAll(all [][]byte) {
	all = all[:cap(all)]
	for i := range all {
		scribble(all[i])
		all[i] = []byte("spoilt")
	}
}

// What was told, changed later, changes nothing in the world, and nothing that was told otherwise.
func TestAnswersApart(t *testing.T) {
	onEach(t, func(t *testing.T, real bool) {
		w, other := newWorld(t, real, crew()...), newWorld(t, real, crew()...)
		for i, o := range mixed(t) {
			post, sent, log, second := w.Post(), w.Sent(), w.Log(0, 7), w.Log(1, 7)
			was := shownPost(post) + fmt.Sprintf("%x %x %x", sent, log, second)
			spoilPost(w.Post())
			spoilAll(w.Sent())
			spoilAll(w.Log(0, 7))
			spoilAll(w.Log(1, 7))
			if shownPost(post)+fmt.Sprintf("%x %x %x", sent, log, second) != was {
				t.Fatalf("%d: what was told is changed", i)
			}
			a, b := w.Do(o), other.Do(o)
			if fmt.Sprint(a.E, a.Outcomes) != fmt.Sprint(b.E, b.Outcomes) {
				t.Fatalf("%d: %+v tells %v, want %v", i, o, a, b)
			}
			spoilt := a.Outcomes[:cap(a.Outcomes)]
			for j := range spoilt {
				spoilt[j] = api.ErrLine
			}
			if shown(w) != shown(other) {
				t.Fatalf("%d: it leads to %s, want %s", i, shown(w), shown(other))
			}
		}
	})
}

// The lists of one answer share nothing, a packet and its copy neither.
func TestListsApart(t *testing.T) {
	onEach(t, func(t *testing.T, real bool) {
		w := newWorld(t, real, crew()...)
		issues(t, w, 0, put("a", "b"))
		does(t, w, world.Op{Kind: push}, api.OK)
		does(t, w, world.Op{Kind: push}, api.OK)
		does(t, w, world.Op{Kind: double}, api.OK)
		does(t, w, world.Op{Kind: pull}, api.OK)
		want, wantSent := w.Post(), w.Sent()
		for i := range want {
			post := w.Post()
			scribble(post[i].Data)
			for j, p := range post {
				if i != j && !bytes.Equal(p.Data, want[j].Data) {
					t.Errorf("the packets %d and %d share memory", i, j)
				}
			}
		}
		for i := range wantSent {
			sent := w.Sent()
			scribble(sent[i])
			for j, b := range sent {
				if i != j && !bytes.Equal(b, wantSent[j]) {
					t.Errorf("the frames %d and %d share memory", i, j)
				}
			}
		}
		// What the client tells isn't what is on its way.
		for _, b := range pending(t, w, 0) {
			scribble(b)
		}
		leaves(t, w, want...)
	})
}

// What was told stays as it is when the world goes on.
func TestToldStays(t *testing.T) {
	onEach(t, func(t *testing.T, real bool) {
		w := newWorld(t, real, crew()...)
		issues(t, w, 0, put("a", "b"), put("c", "d"))
		does(t, w, world.Op{Kind: push}, api.OK)
		does(t, w, world.Op{Kind: push}, api.OK)
		does(t, w, world.Op{Kind: pull}, api.OK)
		does(t, w, world.Op{Kind: deliver}, api.OK)
		post, sent, log := w.Post(), w.Sent(), w.Log(0, 7)
		was := shownPost(post) + fmt.Sprintf("%x %x", sent, log)
		for _, o := range append([]world.Op{{Kind: deliver, N: 1}, {Kind: double}, {Kind: lose}, {Kind: push}, {Kind: fork, N: 1}}, mixed(t)...) {
			w.Do(o)
		}
		if now := shownPost(post) + fmt.Sprintf("%x %x", sent, log); now != was {
			t.Errorf("what was told is changed from %s to %s", was, now)
		}
	})
}
