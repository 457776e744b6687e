package world_test

import (
	"bytes"
	"fmt"
	"math/rand"
	"slices"
	"testing"

	"locket/api"
	"locket/client"
	"locket/docs"
	"locket/entry"
	"locket/frame"
	"locket/policy"
	"locket/replay"
	"locket/sealed"
	"locket/server"
	"locket/suite"
	"locket/world"
)

// model is a world by the document's words, whose clients have a suite of its own.
type model struct {
	suite   *suite.Suite
	members []world.Member
	clients []*client.Client
	server  *server.Server
	branch  []int
	post    []world.Packet
	sent    [][]byte
}

func newModel(t testing.TB, real bool, members ...world.Member) *model {
	t.Helper()
	s := suite.Signs()
	if real {
		s = suite.Real([]byte("seed"))
	}
	return &model{suite: s, members: members, clients: clientsBy(t, s, members...), server: server.New(), branch: make([]int, len(members))}
}

// do is what comes of a step.
func (m *model) do(o world.Op) (api.Errno, []api.Errno) {
	if o.Kind < 1 || o.Kind > 11 {
		return api.ErrKind, nil
	}
	noClient := o.C < 0 || o.C >= len(m.clients)
	noPacket := o.N < 0 || o.N >= len(m.post)
	switch {
	case o.Kind == fork:
		return m.server.Fork(o.N), nil
	case o.Kind >= deliver && o.Kind <= double:
		if noPacket {
			return api.ErrPick, nil
		}
		return m.packet(o.Kind, o.N)
	case noClient:
		return api.ErrNone, nil
	}
	return m.client(m.clients[o.C], o)
}

func (m *model) packet(kind, n int) (api.Errno, []api.Errno) {
	p := m.post[n]
	if kind == double {
		if len(m.post) == mostPackets {
			return api.ErrFull, nil
		}
		m.post = append(m.post, p)
		return api.OK, nil
	}
	m.post = append(append([]world.Packet{}, m.post[:n]...), m.post[n+1:]...)
	if kind == lose {
		return api.OK, nil
	}
	if !p.Up {
		return m.clients[p.C].Take(p.Data)
	}
	reply, e := m.server.Handle(m.branch[p.C], p.Data)
	if reply != nil && len(m.post) < mostPackets {
		m.post = append(m.post, world.Packet{C: p.C, Data: reply})
	}
	return e, nil
}

func (m *model) client(c *client.Client, o world.Op) (api.Errno, []api.Errno) {
	switch o.Kind {
	case issue:
		return c.Issue(o.Entry), nil
	case rotate:
		return c.Rotate(), nil
	case push:
		frames, e := c.Push()
		return m.up(o.C, frames, e), nil
	case pull:
		b, e := c.Pull()
		return m.up(o.C, [][]byte{b}, e), nil
	case compare:
		if o.N < 0 || o.N >= len(m.clients) {
			return api.ErrNone, nil
		}
		if m.members[o.N].Collection != m.members[o.C].Collection {
			return api.ErrOther, nil
		}
		return c.Compare(m.clients[o.N].Head()), nil
	case move:
		if o.N != 0 && o.N != 1 {
			return api.ErrRange, nil
		}
		m.branch[o.C] = o.N
		return api.OK, nil
	}
	return c.Take(o.Data)
}

func (m *model) up(c int, frames [][]byte, e api.Errno) api.Errno {
	if e != api.OK {
		return e
	}
	if len(m.post)+len(frames) > mostPackets {
		return api.ErrFull
	}
	for _, b := range frames {
		m.post = append(m.post, world.Packet{C: c, Up: true, Data: b})
		m.sent = append(m.sent, b)
	}
	return api.OK
}

// agrees wants a world to tell what its model tells.
func (m *model) agrees(t testing.TB, w *world.World) {
	t.Helper()
	if shownPost(w.Post()) != shownPost(m.post) {
		t.Fatalf("the post is %s, want %s", shownPost(w.Post()), shownPost(m.post))
	}
	if !slices.EqualFunc(w.Sent(), m.sent, bytes.Equal) {
		t.Fatalf("sent is %x, want %x", w.Sent(), m.sent)
	}
	sum := complex128(0)
	for i, c := range m.clients {
		sum += c.Tally()
		if got, want := shownClient(w.Client(i)), shownClient(c); got != want {
			t.Fatalf("%d is %s, want %s", i, got, want)
		}
		if w.Branch(i) != m.branch[i] {
			t.Fatalf("%d is on %d, want %d", i, w.Branch(i), m.branch[i])
		}
		for branch := range 2 {
			of := m.members[i].Collection
			if !slices.EqualFunc(w.Log(branch, of), m.server.Log(branch, of), bytes.Equal) {
				t.Fatalf("the log %d %d is another", branch, of)
			}
		}
	}
	if w.Tally() != sum {
		t.Fatalf("the tally is %v, want %v", w.Tally(), sum)
	}
}

// lists are all links that a client has committed.
func lists(w *world.World, c int) [][]byte {
	var all [][]byte
	chain := w.Client(c).Replay().Chain()
	for i := range chain.Len() {
		link, _ := chain.Link(i)
		all = append(all, link)
	}
	return all
}

// begins tells whether a list is the beginning of another one.
func begins(a, b [][]byte) bool {
	return len(a) <= len(b) && slices.EqualFunc(a, b[:len(a)], bytes.Equal)
}

// auditor holds a world against the promise of the whole, step by step.
type auditor struct {
	t       testing.TB
	w       *world.World
	members []world.Member
	// What was issued, by its record's bytes.
	issued map[string]entry.Entry
	// Of each client, the outcomes of what it committed, and how much it had when its alarm went on.
	outcomes [][]api.Errno
	alarmed  map[int]int
	seen     map[api.Errno]int
}

func newAuditor(t testing.TB, w *world.World, members ...world.Member) *auditor {
	return &auditor{t: t, w: w, members: members, issued: map[string]entry.Entry{}, outcomes: make([][]api.Errno, len(members)), alarmed: map[int]int{}, seen: map[api.Errno]int{}}
}

// do does a step, and looks at what comes of it.
func (a *auditor) do(o world.Op) world.Answer {
	a.t.Helper()
	taker := a.taker(o)
	forked, alike := a.forked(o)
	got := a.w.Do(o)
	a.seen[got.E]++
	for _, e := range got.Outcomes {
		a.seen[1000+e]++
	}
	if got.E == api.OK && (o.Kind == issue || o.Kind == rotate) {
		a.notes(o.C)
	}
	if taker >= 0 {
		a.outcomes[taker] = append(a.outcomes[taker], got.Outcomes...)
	}
	if alike && (got.E == api.ErrFork) != forked {
		a.t.Fatalf("%+v tells %d, forked %v", o, got.E, forked)
	}
	if alike && forked {
		a.alarmed[o.C] = a.w.Client(o.C).Head().Index
	}
	return got
}

// taker is who takes a batch by a step, or -1.
func (a *auditor) taker(o world.Op) int {
	if o.Kind == inject && a.w.Client(o.C) != nil {
		return o.C
	}
	if post := a.w.Post(); o.Kind == deliver && o.N >= 0 && o.N < len(post) && !post[o.N].Up {
		return post[o.N].C
	}
	return -1
}

// forked tells whether a step compares two of one collection, the first one not shorter, and whether the second one's list isn't the beginning of the first one's.
func (a *auditor) forked(o world.Op) (bool, bool) {
	if o.Kind != compare || a.w.Client(o.C) == nil || a.w.Client(o.N) == nil || a.members[o.C].Collection != a.members[o.N].Collection {
		return false, false
	}
	own, other := lists(a.w, o.C), lists(a.w, o.N)
	return !begins(other, own) && len(other) <= len(own), true
}

// notes keeps what a client has just issued.
func (a *auditor) notes(c int) {
	a.t.Helper()
	frames := pending(a.t, a.w, c)
	all := a.w.Client(c).Pending()
	l := links(a.t, frames[len(frames)-1])
	a.issued[string(l[len(l)-1])] = all[len(all)-1]
}

// checks holds each client's states against the folds, and its alarm against what it has.
func (a *auditor) checks() {
	a.t.Helper()
	for i, m := range a.members {
		c := a.w.Client(i)
		p, d := a.fold(i, m)
		if got, want := shownState(c.Replay().Policy(), c.Replay().Docs()), shownState(p, d); got != want {
			a.t.Fatalf("%d has committed %s, want %s", i, got, want)
		}
		for _, e := range c.Pending() {
			if p.May(e) == api.OK {
				p, _ = p.Apply(e)
				d.Apply(e)
			}
		}
		if got, want := shownState(c.See()), shownState(p, d); got != want {
			a.t.Fatalf("%d sees %s, want %s", i, got, want)
		}
		n, alarmed := a.alarmed[i]
		if c.Alarm() != alarmed || alarmed && c.Head().Index != n {
			a.t.Fatalf("%d has the alarm %v and %d links, want %v %d", i, c.Alarm(), c.Head().Index, alarmed, n)
		}
	}
}

// fold is what a client's accepted list leads to; each of it was issued in that collection, and may be at its place.
func (a *auditor) fold(i int, m world.Member) (policy.Policy, *docs.Docs) {
	a.t.Helper()
	p, e := policy.First(m.Founder)
	if e != api.OK {
		a.t.Fatal(e)
	}
	d := docs.New()
	for _, link := range a.accepted(i) {
		issued, ok := a.issued[string(link)]
		r, _ := sealed.Decode(link)
		if may := p.May(issued); !ok || may != api.OK || r.Collection != m.Collection {
			a.t.Fatalf("%d accepts %x, that was issued: %v, may be: %d", i, link, ok, may)
		}
		p, _ = p.Apply(issued)
		d.Apply(issued)
	}
	return p, d
}

// accepted are the links of a client's list whose outcome is OK.
func (a *auditor) accepted(i int) [][]byte {
	a.t.Helper()
	all := lists(a.w, i)
	if len(all) != len(a.outcomes[i]) {
		a.t.Fatalf("%d has %d links, and %d outcomes", i, len(all), len(a.outcomes[i]))
	}
	var l [][]byte
	for j, link := range all {
		if a.outcomes[i][j] == api.OK {
			l = append(l, link)
		}
	}
	return l
}

// alone wants each client's state to be the same without all that wasn't accepted; it asks the suite, and so ends the model's way.
func (a *auditor) alone(s *suite.Suite) {
	a.t.Helper()
	for i, m := range a.members {
		r, e := replay.New(s, replay.Who{Collection: m.Collection, Founder: m.Founder, Who: m.Who, Secret: inSix(m.Collection)})
		if e != api.OK {
			a.t.Fatal(e)
		}
		for _, link := range a.accepted(i) {
			if e, outcome := r.Commit(link); e != api.OK || outcome != api.OK {
				a.t.Fatalf("%d: alone it tells %d %d", i, e, outcome)
			}
		}
		has := a.w.Client(i).Replay()
		if got, want := shownState(has.Policy(), has.Docs()), shownState(r.Policy(), r.Docs()); got != want {
			a.t.Fatalf("%d has committed %s, alone %s", i, got, want)
		}
	}
}

// script makes up steps for a world.
type script struct {
	random  *rand.Rand
	w       *world.World
	members []world.Member
	// Honest: one branch, nothing injected, and no step that is wrong in itself. Calm: seldom a comparison.
	honest, calm bool
	// How much was issued of each collection.
	issued map[int]int
}

func (s *script) often(n int) bool {
	return s.random.Intn(n) == 0
}

// step is what comes next.
func (s *script) step() world.Op {
	o := world.Op{C: s.random.Intn(len(s.members)), N: s.random.Intn(max(1, len(s.w.Post())))}
	kinds := []int{issue, issue, issue, issue, issue, rotate, push, push, push, pull, pull, pull, pull, lose, double, compare}
	for range min(12, 2*len(s.w.Post())) {
		kinds = append(kinds, deliver)
	}
	if !s.honest {
		kinds = append(kinds, inject, inject)
	}
	o.Kind = kinds[s.random.Intn(len(kinds))]
	if s.calm && o.Kind == compare && !s.often(8) {
		o.Kind = pull
	}
	// While a rotate is pending nothing else is issued.
	if o.Kind == rotate && !s.often(3) {
		o.Kind = issue
	}
	if s.often(3) {
		// What stands first arrives first, mostly.
		o.N = 0
	}
	if !s.honest && s.often(25) {
		return s.rare(o)
	}
	switch o.Kind {
	case issue, rotate:
		return s.write(o)
	case compare:
		o.N = s.random.Intn(len(s.members))
	case inject:
		o.Data = s.data(o.C)
	}
	return o
}

// rare is a fork, a move, or a step that is wrong.
func (s *script) rare(o world.Op) world.Op {
	switch s.random.Intn(5) {
	case 0:
		return world.Op{Kind: fork, N: s.random.Intn(66) - 1}
	case 1, 2:
		return world.Op{Kind: move, C: o.C, N: s.random.Intn(2)}
	case 3:
		return world.Op{Kind: s.random.Intn(14), C: s.random.Intn(9) - 1, N: s.random.Intn(600) - 1}
	}
	return world.Op{Kind: o.Kind, C: o.C, N: len(s.w.Post())}
}

// able is a client that may look after its collection, mostly: others are refused.
func (s *script) able(c int) int {
	for range 4 {
		if p, _ := s.w.Client(c).See(); p.Rights(s.members[c].Who) >= 4 {
			return c
		}
		c = s.random.Intn(len(s.members))
	}
	return c
}

// write is an entry to be issued, as long as a log has room for it.
func (s *script) write(o world.Op) world.Op {
	o.C = s.able(o.C)
	collection := s.members[o.C].Collection
	if s.issued[collection] >= mostLinks && s.honest {
		return world.Op{Kind: pull, C: o.C}
	}
	s.issued[collection]++
	if o.Kind == issue {
		o.Entry = s.entry()
	}
	return o
}

// entry is any entry, mostly one that is right.
func (s *script) entry() entry.Entry {
	name, who := string(rune('a'+s.random.Intn(4))), 1+s.random.Intn(5)
	switch s.random.Intn(14) {
	case 0, 1, 2, 3, 4, 5:
		return put(name, string(pattern(s.random.Intn(120), s.random.Intn(256))))
	case 6, 7:
		return drop(name)
	case 8, 9:
		return grant(who, 1+s.random.Intn(7))
	case 10, 11:
		return grant(who, 7)
	case 12:
		if s.often(2) {
			return revoke(who)
		}
		return grant(who, 1)
	}
	return entry.Entry{Kind: s.random.Intn(7), Name: []byte(name), Epoch: 1}
}

// data is what somebody could tell a client: old frames, other orders of old links, and any bytes.
func (s *script) data(c int) []byte {
	sent := s.w.Sent()
	if len(sent) == 0 || s.often(6) {
		return pattern(s.random.Intn(200), s.random.Intn(256))
	}
	b := bytes.Clone(sent[s.random.Intn(len(sent))])
	f, _ := frame.Decode(b)
	f.Kind, f.Index = frame.Batch, s.w.Client(c).Head().Index
	if s.often(3) {
		f.Links = append(f.Links, s.w.Log(s.random.Intn(2), f.Collection)...)
	}
	if s.often(2) {
		s.random.Shuffle(len(f.Links), func(i, j int) { f.Links[i], f.Links[j] = f.Links[j], f.Links[i] })
	}
	f.Links = f.Links[:min(len(f.Links), mostBatch, 1+s.random.Intn(3))]
	if s.often(3) && len(f.Links) > 0 {
		s.forge(f.Links[0])
	}
	if made, e := frame.Encode(f); e == api.OK {
		b = made
	}
	if s.often(12) {
		b[s.random.Intn(len(b))] ^= byte(1 + s.random.Intn(255))
	}
	return b
}

// forge changes a record's collection, epoch, writer or count, or a byte of its box but for the number that signs have in its end.
func (s *script) forge(link []byte) {
	if s.often(2) {
		link[6*(1+s.random.Intn(4))-1] ^= byte(1 + s.random.Intn(3))
		return
	}
	link[26+s.random.Intn(len(link)-26-8)] ^= byte(1 + s.random.Intn(255))
}

// casts are members of worlds.
func casts() [][]world.Member {
	return [][]world.Member{
		{{7, 1, 1}, {7, 1, 2}, {7, 1, 3}, {8, 2, 2}, {8, 2, 1}},
		{{7, 1, 1}, {7, 1, 2}, {7, 1, 3}, {7, 1, 4}, {7, 1, 5}, {7, 1, 6}},
		{{1, 3, 3}, {1, 3, 1}},
		{{5, 1, 2}, {5, 1, 1}, {6, 1, 1}, {6, 1, 2}, {4, 1, 1}},
	}
}

// P3, P20.1 to P20.3: any scripts, against the document's words byte by byte, and against the promise of the whole.
func TestByChance(t *testing.T) {
	onEach(t, func(t *testing.T, real bool) {
		seen := map[api.Errno]int{}
		for seed := range 24 {
			members := casts()[seed%len(casts())]
			w, m := newWorld(t, real, members...), newModel(t, real, members...)
			a := newAuditor(t, w, members...)
			s := &script{random: rand.New(rand.NewSource(int64(seed))), w: w, members: members, calm: seed%3 > 0, issued: map[int]int{}}
			for i := range 400 {
				o := s.step()
				got := a.do(o)
				e, outcomes := m.do(o)
				if got.E != e || !slices.Equal(got.Outcomes, outcomes) {
					t.Fatalf("seed %d, step %d: %+v tells %v, want %d %v", seed, i, o, got, e, outcomes)
				}
				a.checks()
				if i%10 == 0 {
					m.agrees(t, w)
				}
			}
			m.agrees(t, w)
			a.alone(m.suite)
			for e, n := range a.seen {
				seen[e] += n
			}
		}
		for _, want := range []api.Errno{
			api.OK, api.ErrForm, api.ErrKind, api.ErrMore, api.ErrFork, api.ErrRight, api.ErrTwice, api.ErrNone, api.ErrFull, api.ErrOther, api.ErrOrder, api.ErrAlarm, api.ErrPick, api.ErrRange, api.ErrKey,
			1000 + api.OK, 1000 + api.ErrEpoch, 1000 + api.ErrKey, 1000 + api.ErrOpen, 1000 + api.ErrTwice, 1000 + api.ErrOther, 1000 + api.ErrRight,
		} {
			if seen[want] == 0 {
				t.Errorf("no error or outcome %d by chance", want)
			}
		}
	})
}

// renamed is a step with other names and values, each as long.
func renamed(o world.Op, random *rand.Rand) world.Op {
	other := func(b []byte) []byte {
		n := bytes.Clone(b)
		random.Read(n)
		return n
	}
	o.Entry.Name, o.Entry.Value = other(o.Entry.Name), other(o.Entry.Value)
	return o
}

// P3: scripts that differ in names and values alone, each as long, send the same frames, by signs.
func TestNamesAndValuesAreNotTold(t *testing.T) {
	for seed := range 24 {
		members := casts()[seed%len(casts())]
		w, other := newWorld(t, false, members...), newWorld(t, false, members...)
		s := &script{random: rand.New(rand.NewSource(int64(1000 + seed))), w: w, members: members, issued: map[int]int{}}
		random := rand.New(rand.NewSource(int64(seed)))
		for i := range 400 {
			o := s.step()
			got, as := w.Do(o), other.Do(renamed(o, random))
			if got.E != as.E || !slices.Equal(got.Outcomes, as.Outcomes) {
				t.Fatalf("seed %d, step %d: %+v tells %v, renamed %v", seed, i, o, got, as)
			}
		}
		if !slices.EqualFunc(w.Sent(), other.Sent(), bytes.Equal) || shownPost(w.Post()) != shownPost(other.Post()) || w.Tally() != other.Tally() {
			t.Fatalf("seed %d: the frames are unlike", seed)
		}
	}
}

// drain lets all of the post arrive.
func (a *auditor) drain() {
	for len(a.w.Post()) > 0 {
		a.do(world.Op{Kind: deliver})
	}
}

// agreed wants that nothing is pending, that all of a collection have one list, and those with all keys one state.
func (a *auditor) agreed() {
	a.t.Helper()
	for i, m := range a.members {
		if n := len(a.w.Client(i).Pending()); n > 0 || a.w.Client(i).Alarm() {
			a.t.Fatalf("of %d there are %d pending, alarm %v", i, n, a.w.Client(i).Alarm())
		}
		for j, other := range a.members[:i] {
			if other.Collection != m.Collection {
				continue
			}
			if !slices.EqualFunc(lists(a.w, i), lists(a.w, j), bytes.Equal) {
				a.t.Fatalf("%d and %d have unlike lists", i, j)
			}
			one, two := a.w.Client(i).Replay(), a.w.Client(j).Replay()
			if a.hasAllKeys(i) && a.hasAllKeys(j) && shownState(one.Policy(), one.Docs()) != shownState(two.Policy(), two.Docs()) {
				a.t.Fatalf("%d and %d have unlike states", i, j)
			}
		}
	}
}

// hasAllKeys tells whether a client has the key of each epoch that its collection came to.
func (a *auditor) hasAllKeys(i int) bool {
	newest := 0
	for j, m := range a.members {
		if m.Collection == a.members[i].Collection {
			newest = max(newest, a.w.Client(j).Replay().Policy().Epoch)
		}
	}
	for epoch := range newest + 1 {
		if _, ok := a.w.Client(i).Replay().Key(epoch); !ok {
			return false
		}
	}
	return true
}

// P3: with one branch and nothing injected no alarm is raised, whatever is lost, doubled and reordered; ten rounds behind the last write all agree.
func TestHonest(t *testing.T) {
	onEach(t, func(t *testing.T, real bool) {
		left := 0
		for seed := range 30 {
			members := casts()[seed%len(casts())]
			w := newWorld(t, real, members...)
			a := newAuditor(t, w, members...)
			s := &script{random: rand.New(rand.NewSource(int64(2000 + seed))), w: w, members: members, honest: true, issued: map[int]int{}}
			for range 100 + 20*seed {
				a.do(s.step())
				a.checks()
			}
			if a.seen[api.ErrFork] > 0 || a.seen[api.ErrAlarm] > 0 {
				t.Fatalf("seed %d: there is an alarm", seed)
			}
			left += int(imag(w.Tally()))
			for range 10 {
				for c := range members {
					a.do(world.Op{Kind: push, C: c})
					a.drain()
					a.do(world.Op{Kind: pull, C: c})
					a.drain()
				}
			}
			a.checks()
			a.agreed()
		}
		if left == 0 {
			t.Error("nothing was pending behind any script")
		}
	})
}

// DOC.md's first and second example: tallies, and who may put.
func TestWholeTallyAndRights(t *testing.T) {
	onEach(t, func(t *testing.T, real bool) {
		w := newWorld(t, real, world.Member{7, 1, 1}, world.Member{7, 1, 2})
		issues(t, w, 0, put("a", "b"))
		_, d := w.Client(0).See()
		value(t, d, "a", "b")
		has(t, w, 0, "a", "")
		if w.Tally() != 1i {
			t.Errorf("the tally is %v", w.Tally())
		}
		pushes(t, w, 0)
		pulls(t, w, 0)
		if w.Tally() != 1 {
			t.Errorf("the tally is %v", w.Tally())
		}
		pulls(t, w, 1)
		refuses(t, w, world.Op{Kind: issue, C: 1, Entry: put("c", "d")}, api.ErrRight)
		writes(t, w, 0, grant(2, 2))
		pulls(t, w, 1)
		writes(t, w, 1, put("c", "d"))
		pulls(t, w, 0)
		has(t, w, 0, "c", "d")
	})
}

// DOC.md's eighth example: a revoked member's put that comes behind the revoke, for all.
func TestWholeRevoke(t *testing.T) {
	onEach(t, func(t *testing.T, real bool) {
		w := newWorld(t, real, crew()...)
		writes(t, w, 0, grant(2, 3), grant(3, 1))
		pulls(t, w, 1)
		issues(t, w, 1, put("a", "b"))
		writes(t, w, 0, revoke(2))
		pushes(t, w, 1)
		for c, want := range [][]api.Errno{{api.ErrRight}, {api.OK, api.ErrRight}, {api.OK, api.OK, api.OK, api.ErrRight}} {
			does(t, w, world.Op{Kind: pull, C: c}, api.OK)
			does(t, w, world.Op{Kind: deliver}, api.OK)
			does(t, w, world.Op{Kind: deliver}, api.OK, want...)
			has(t, w, c, "a", "")
		}
	})
}

// DOC.md's ninth example: values of 3 and of 5 bytes, by signs; with a name of a single byte they would be in two buckets.
func TestWholeLengths(t *testing.T) {
	var sent []string
	for _, v := range []string{"abc", "abcde"} {
		w := newWorld(t, false, crew()...)
		writes(t, w, 0, put("name", v), grant(2, 3))
		pulls(t, w, 1)
		writes(t, w, 1, put("last", v))
		sent = append(sent, fmt.Sprintf("%x", w.Sent()))
	}
	if sent[0] != sent[1] {
		t.Errorf("sent is %s, and %s", sent[0], sent[1])
	}
}

// DOC.md's tenth example: a log of MaxLog links.
func TestWholeFull(t *testing.T) {
	onEach(t, func(t *testing.T, real bool) {
		w := full(t, real)
		issues(t, w, 0, put("a", "b"))
		for range 3 {
			does(t, w, world.Op{Kind: push}, api.OK)
			does(t, w, world.Op{Kind: deliver}, api.ErrFull)
		}
		pulls(t, w, 0)
		if w.Tally() != 64+1i || len(w.Log(0, 7)) != mostLinks {
			t.Errorf("the tally is %v", w.Tally())
		}
	})
}

// P1, P3, P20.2: any steps end, and lead to what the document tells.
func FuzzDo(f *testing.F) {
	f.Add([]byte{})
	f.Add([]byte{1, 0, 0, 3, 0, 0, 5, 0, 0, 4, 1, 0, 5, 0, 0, 5, 0, 0})
	f.Add([]byte{1, 0, 200, 2, 0, 0, 3, 0, 0, 7, 0, 0, 5, 0, 0, 10, 0, 1, 9, 1, 1, 4, 1, 0, 5, 0, 1, 5, 0, 1, 11, 2, 0, 8, 1, 0, 8, 0, 1})
	f.Fuzz(func(t *testing.T, b []byte) {
		w, m := newWorld(t, false, crew()...), newModel(t, false, crew()...)
		a := newAuditor(t, w, crew()...)
		for ; len(b) >= 3; b = b[3:] {
			o := world.Op{Kind: int(b[0]) % 13, C: int(b[1])%6 - 1, N: int(b[2]) - 1, Entry: fuzzEntry(b[2])}
			if sent := w.Sent(); o.Kind == inject && len(sent) > 0 {
				o.Data = fuzzData(sent[int(b[2])%len(sent)], w, o.C)
			}
			got := a.do(o)
			e, outcomes := m.do(o)
			if got.E != e || !slices.Equal(got.Outcomes, outcomes) {
				t.Fatalf("%+v tells %v, want %d %v", o, got, e, outcomes)
			}
			a.checks()
		}
		m.agrees(t, w)
		a.alone(m.suite)
	})
}

// fuzzEntry is an entry by a byte.
func fuzzEntry(b byte) entry.Entry {
	name := string(rune('a' + b%4))
	switch b / 64 {
	case 0:
		return put(name, "value")
	case 1:
		return drop(name)
	case 2:
		return revoke(1 + int(b%5))
	}
	return grant(1+int(b%5), 1+int(b/8%8))
}

// fuzzData is a batch of a frame's links, for a client.
func fuzzData(b []byte, w *world.World, c int) []byte {
	f, e := frame.Decode(b)
	if e != api.OK || w.Client(c) == nil {
		return b
	}
	f.Kind, f.Index = frame.Batch, w.Client(c).Head().Index
	made, _ := frame.Encode(f)
	return made
}
