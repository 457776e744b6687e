package policy_test

import (
	"fmt"
	"math"
	"math/rand"
	"slices"
	"strings"
	"testing"

	"locket/api"
	"locket/entry"
	"locket/policy"
)

const (
	mostNumber = 1 << 40
	mostWho    = 16
	mostEpoch  = 16
	boxBytes   = 48
)

// list is members, from pairs of a number and rights.
func list(pairs ...int) []policy.Member {
	var members []policy.Member
	for i := 0; i+1 < len(pairs); i += 2 {
		members = append(members, policy.Member{Who: pairs[i], Rights: pairs[i+1]})
	}
	return members
}

// having is a policy with these members, from pairs of a number and rights.
func having(founder, epoch int, pairs ...int) policy.Policy {
	return policy.Policy{Founder: founder, Epoch: epoch, Members: list(pairs...)}
}

// everyRight is a policy in which 1 to 7 have just the rights of their numbers, and 9 founded it; 8 and 10 to 16 are no members.
func everyRight(epoch int) policy.Policy {
	return having(9, epoch, 1, 1, 2, 2, 3, 3, 4, 4, 5, 5, 6, 6, 7, 7, 9, 7)
}

// crowd is a policy in which all are members, each with the same rights but for the founder.
func crowd(founder, epoch, rights int) policy.Policy {
	p := policy.Policy{Founder: founder, Epoch: epoch}
	for who := 1; who <= mostWho; who++ {
		p.Members = append(p.Members, policy.Member{Who: who, Rights: rights})
	}
	p.Members[founder-1].Rights = 7
	return p
}

// shown is all of a policy as text, nil and empty members as one.
func shown(p policy.Policy) string {
	var all strings.Builder
	fmt.Fprint(&all, p.Founder, " ", p.Epoch, ":")
	for _, m := range p.Members {
		fmt.Fprint(&all, " ", m.Who, "=", m.Rights)
	}
	return all.String()
}

// roomy is the same policy with nothing in common, and spare room behind its members that holds more.
func roomy(p policy.Policy) policy.Policy {
	p.Members = slices.Concat(p.Members, list(3, 7, 90, 91, 16, 1))[:len(p.Members)]
	return p
}

// whole is a policy as text, with the spare room of its members.
func whole(p policy.Policy) string {
	n := len(p.Members)
	p.Members = p.Members[:cap(p.Members)]
	return fmt.Sprint(n, " of ", shown(p))
}

// scribble changes all members, and those of the spare room.
func scribble(p policy.Policy) {
	members := p.Members[:cap(p.Members)]
	for i := range members {
		members[i] = policy.Member{Who: -7, Rights: 99}
	}
}

// box is a wrap's box, another one for each.
func box(who int) []byte {
	b := make([]byte, boxBytes)
	for i := range b {
		b[i] = byte(i*7 + who)
	}
	return b
}

func put(writer int) entry.Entry {
	return entry.Entry{Kind: 1, Writer: writer, Seq: 5, Name: []byte("name"), Value: []byte("value")}
}

func drop(writer int) entry.Entry {
	return entry.Entry{Kind: 2, Writer: writer, Seq: 5, Name: []byte("name")}
}

func grant(writer, who, rights int) entry.Entry {
	return entry.Entry{Kind: 3, Writer: writer, Seq: 5, Who: who, Rights: rights}
}

func revoke(writer, who int) entry.Entry {
	return entry.Entry{Kind: 4, Writer: writer, Seq: 5, Who: who}
}

func rotate(writer, epoch int, readers ...int) entry.Entry {
	e := entry.Entry{Kind: 5, Writer: writer, Seq: 5, Epoch: epoch}
	for _, who := range readers {
		e.Wraps = append(e.Wraps, entry.Wrap{Who: who, Box: box(who)})
	}
	return e
}

// turned is a rotate that fits a policy.
func turned(p policy.Policy, writer int) entry.Entry {
	return rotate(writer, p.Epoch+1, wantReaders(p)...)
}

// past are numbers beyond what is from least to most; some would look right if they were cut.
func past(least, most int) []int {
	all := []int{least - 1, -1, -least, -most, -7, math.MinInt, math.MinInt + 1, most + 1, most + 2, 2*most + 1, 256 + least, 1<<32 + least, 1<<48 + least, mostNumber, math.MaxInt - 1, math.MaxInt}
	return slices.DeleteFunc(all, func(n int) bool { return n >= least && n <= most })
}

// wantReaders are those of a right policy who may read.
func wantReaders(p policy.Policy) []int {
	var readers []int
	for _, m := range p.Members {
		if m.Rights%2 == 1 {
			readers = append(readers, m.Who)
		}
	}
	return readers
}

// someRight are right policies: at the bounds, with one member, with some and with all.
func someRight() []policy.Policy {
	var all []policy.Policy
	for founder := 1; founder <= mostWho; founder++ {
		all = append(all, having(founder, 0, founder, 7), having(founder, mostEpoch, founder, 7))
		for rights := 1; rights <= 7; rights++ {
			all = append(all, crowd(founder, rights, rights))
		}
	}
	for epoch := 0; epoch <= mostEpoch; epoch++ {
		all = append(all, everyRight(epoch), having(5, epoch, 5, 7, 16, 1), having(16, epoch, 1, 2, 16, 7))
	}
	return append(all, having(3, 1, 1, 4, 3, 7, 16, 3), having(1, 2, 1, 7, 2, 7), having(2, 2, 1, 7, 2, 7, 3, 7))
}

// wrongPolicy is one that isn't right, and why.
type wrongPolicy struct {
	what string
	p    policy.Policy
}

// wrongNumbers are policies in which one number alone is past its bounds.
func wrongNumbers() []wrongPolicy {
	var all []wrongPolicy
	for _, n := range past(1, mostWho) {
		all = append(all, wrongPolicy{fmt.Sprint("founder ", n), having(n, 1, 1, 7, 16, 7)},
			wrongPolicy{fmt.Sprint("a founder of its own ", n), having(n, 1, n, 7)},
			wrongPolicy{fmt.Sprint("first member ", n), having(5, 1, n, 1, 5, 7)},
			wrongPolicy{fmt.Sprint("member between ", n), having(5, 1, 5, 7, n, 1, 16, 1)},
			wrongPolicy{fmt.Sprint("last member ", n), having(5, 1, 5, 7, n, 1)})
	}
	for _, n := range past(0, mostEpoch) {
		all = append(all, wrongPolicy{fmt.Sprint("epoch ", n), having(5, n, 5, 7)})
	}
	for _, n := range past(1, 7) {
		all = append(all, wrongPolicy{fmt.Sprint("first member's rights ", n), having(5, 1, 1, n, 5, 7)},
			wrongPolicy{fmt.Sprint("last member's rights ", n), having(5, 1, 5, 7, 16, n)},
			wrongPolicy{fmt.Sprint("rights between ", n), having(5, 1, 1, 2, 3, n, 5, 7)},
			wrongPolicy{fmt.Sprint("founder's rights ", n), having(5, 1, 1, 7, 5, n, 7, 7)})
	}
	return all
}

// someWrong are policies that aren't right, each by one thing alone.
func someWrong() []wrongPolicy {
	all := []wrongPolicy{
		{"nothing", policy.Policy{}},
		{"no members", having(5, 1)},
		{"no members but spare room", policy.Policy{Founder: 5, Members: list(5, 7)[:0]}},
		{"a founder that is no member", having(5, 1, 4, 7, 6, 7)},
		{"one member, another than the founder", having(5, 1, 6, 7)},
		{"all members but the founder", having(9, 0, 1, 7, 2, 7, 3, 7, 4, 7, 5, 7, 6, 7, 7, 7, 8, 7, 10, 7, 11, 7, 12, 7, 13, 7, 14, 7, 15, 7, 16, 7)},
		{"the founder in the spare room", policy.Policy{Founder: 5, Members: list(4, 7, 5, 7)[:1]}},
		{"the founder twice", having(5, 1, 5, 7, 5, 7)},
		{"the founder twice, with other rights first", having(5, 1, 5, 1, 5, 7)},
		{"the founder twice, with other rights last", having(5, 1, 5, 7, 5, 1)},
		{"a member twice", having(5, 1, 2, 1, 2, 1, 5, 7)},
		{"a member twice, with other rights", having(5, 1, 2, 1, 2, 3, 5, 7)},
		{"the last member twice", having(5, 1, 5, 7, 16, 1, 16, 1)},
		{"a member again, others between", having(5, 1, 2, 1, 5, 7, 2, 1)},
		{"falling members", having(5, 1, 5, 7, 4, 1)},
		{"falling at the end", having(5, 1, 5, 7, 16, 1, 15, 1)},
		{"rising and falling", having(5, 1, 1, 1, 3, 1, 2, 1, 5, 7)},
		{"one member too many, the last one again", policy.Policy{Founder: 5, Members: append(crowd(5, 1, 1).Members, policy.Member{Who: 16, Rights: 1})}},
		{"one member too many, 17", policy.Policy{Founder: 5, Members: append(crowd(5, 1, 1).Members, policy.Member{Who: 17, Rights: 1})}},
		{"one member too many, 0", policy.Policy{Founder: 5, Members: append(list(0, 1), crowd(5, 1, 1).Members...)}},
		{"members of nothing", policy.Policy{Founder: 5, Members: make([]policy.Member, 3)}},
		{"a member of nothing ahead", having(5, 1, 0, 0, 5, 7)},
		{"a member of nothing behind", having(5, 1, 5, 7, 0, 0)},
		{"very many members", policy.Policy{Founder: 5, Members: make([]policy.Member, 1<<17)}},
	}
	for rights := 1; rights <= 6; rights++ {
		all = append(all, wrongPolicy{fmt.Sprint("a founder with rights ", rights), having(5, 1, 5, rights)},
			wrongPolicy{fmt.Sprint("a founder among others with rights ", rights), having(5, 1, 4, 7, 5, rights, 6, 7)})
	}
	return append(all, wrongNumbers()...)
}

// someRightEntries are right entries of each kind, by one writer.
func someRightEntries(writer int) []entry.Entry {
	return []entry.Entry{put(writer), drop(writer), grant(writer, 3, 2), grant(writer, 8, 7), revoke(writer, 3), revoke(writer, 8), rotate(writer, 1), rotate(writer, 2, 1, 5), rotate(writer, 16, 1, 2, 3)}
}

// someWrongEntries are entries that aren't right, each by one thing alone.
func someWrongEntries(writer int) []entry.Entry {
	all := []entry.Entry{{}, {Writer: writer, Seq: 1}, {Kind: 6, Writer: writer, Seq: 1}, {Kind: -1, Writer: writer, Seq: 1}, {Kind: 1, Writer: writer, Seq: 1}, {Kind: 2, Writer: writer, Seq: 1}}
	for _, n := range past(1, mostWho) {
		all = append(all, put(n), drop(n), grant(n, 3, 1), revoke(n, 3), rotate(n, 1), grant(writer, n, 1), revoke(writer, n), rotate(writer, 1, n))
	}
	for _, n := range past(1, 7) {
		all = append(all, grant(writer, 3, n))
	}
	for _, n := range past(1, mostEpoch) {
		all = append(all, rotate(writer, n))
	}
	long, unnamed, late, cut := put(writer), grant(writer, 3, 1), revoke(writer, 3), rotate(writer, 1, writer)
	long.Value = make([]byte, 513)
	unnamed.Name = []byte("name")
	late.Seq = mostNumber + 1
	cut.Wraps[0].Box = cut.Wraps[0].Box[1:]
	return append(all, long, unnamed, late, cut, rotate(writer, 1, 2, 2), rotate(writer, 1, 2, 1))
}

// refused wants the error from May and Apply, and nothing beside it.
func refused(t *testing.T, what string, p policy.Policy, e entry.Entry, want api.Errno) {
	t.Helper()
	if f := p.May(e); f != want {
		t.Errorf("%s: May of %.200s tells %d of %+v, want %d", what, shown(p), f, e, want)
	}
	if q, f := p.Apply(e); f != want || shown(q) != shown(policy.Policy{}) {
		t.Errorf("%s: Apply of %.200s tells %.200s, error %d, of %+v, want %d", what, shown(p), shown(q), f, e, want)
	}
}

// applied wants that an entry may be, and that the policy behind it is that one, and right.
func applied(t *testing.T, what string, p policy.Policy, e entry.Entry, want policy.Policy) policy.Policy {
	t.Helper()
	if f := p.May(e); f != api.OK {
		t.Errorf("%s: May of %.200s tells %d of %+v, want OK", what, shown(p), f, e)
	}
	q, f := p.Apply(e)
	if f != api.OK || shown(q) != shown(want) || !q.Right() {
		t.Errorf("%s: %.200s behind %+v is %.200s, right %v, error %d, want %s", what, shown(p), e, shown(q), q.Right(), f, shown(want))
	}
	return q
}

// The chapter's examples.
func TestExamples(t *testing.T) {
	p, f := policy.First(1)
	if f != api.OK || p.Rights(1) != 7 {
		t.Fatal(shown(p), f)
	}
	for _, e := range []entry.Entry{put(1), drop(1), grant(1, 2, 1), revoke(1, 2), rotate(1, 1, 1)} {
		if f := p.May(e); f != api.OK {
			t.Errorf("the founder's %+v: %d", e, f)
		}
	}
	refused(t, "2 may not put", p, put(2), api.ErrRight)
	q := applied(t, "granted 2", p, grant(1, 2, 2), having(1, 0, 1, 7, 2, 2))
	applied(t, "2 may put", q, put(2), q)
	r := applied(t, "granted 1", q, grant(1, 2, 1), having(1, 0, 1, 7, 2, 1))
	refused(t, "2 may not put with 1 alone", r, put(2), api.ErrRight)
	if !slices.Equal(r.Readers(), []int{1, 2}) || r.Rights(2) != 1 || !slices.Equal(q.Readers(), []int{1}) {
		t.Error(r.Readers(), r.Rights(2), q.Readers())
	}
}

// P10.1: founders at both bounds, between them, and past both.
func TestFirst(t *testing.T) {
	for founder := 1; founder <= mostWho; founder++ {
		p, f := policy.First(founder)
		if f != api.OK || shown(p) != shown(having(founder, 0, founder, 7)) || !p.Right() {
			t.Errorf("%d: %s, error %d", founder, shown(p), f)
		}
	}
	for _, founder := range past(1, mostWho) {
		if p, f := policy.First(founder); f != api.ErrForm || shown(p) != shown(policy.Policy{}) {
			t.Errorf("%d: %s, error %d, want ErrForm alone", founder, shown(p), f)
		}
	}
}

// P10.1: right policies, at the bounds and between them.
func TestRight(t *testing.T) {
	for _, p := range someRight() {
		if !p.Right() || !roomy(p).Right() {
			t.Errorf("not right: %s", shown(p))
		}
	}
}

// P10.1: policies that aren't right, each by one thing alone.
func TestNotRight(t *testing.T) {
	for _, w := range someWrong() {
		if w.p.Right() {
			t.Errorf("right: %s", w.what)
		}
	}
}

// P10.1: the rights of members, and of those who are none.
func TestRights(t *testing.T) {
	p := everyRight(3)
	for who, want := range map[int]int{1: 1, 2: 2, 3: 3, 4: 4, 5: 5, 6: 6, 7: 7, 8: 0, 9: 7, 10: 0, 15: 0, 16: 0} {
		if got := p.Rights(who); got != want {
			t.Errorf("%d has %d, want %d", who, got, want)
		}
	}
	for _, p := range someRight() {
		want := make([]int, mostWho+1)
		for _, m := range p.Members {
			want[m.Who] = m.Rights
		}
		for who, rights := range want {
			if got := roomy(p).Rights(who); got != rights {
				t.Errorf("%s: %d has %d", shown(p), who, got)
			}
		}
		for _, who := range past(1, mostWho) {
			if got := roomy(p).Rights(who); got != 0 {
				t.Errorf("%s: %d has %d", shown(p), who, got)
			}
		}
	}
}

// P10.1: readers, where all, some and only the founder have read.
func TestReaders(t *testing.T) {
	everybody := []int{1, 2, 3, 4, 5, 6, 7, 8, 9, 10, 11, 12, 13, 14, 15, 16}
	for _, c := range []struct {
		p    policy.Policy
		want []int
	}{
		{everyRight(0), []int{1, 3, 5, 7, 9}},
		{crowd(1, 0, 1), everybody},
		{crowd(9, 0, 3), everybody},
		{crowd(9, 0, 5), everybody},
		{crowd(16, 0, 7), everybody},
		{crowd(1, 0, 2), []int{1}},
		{crowd(9, 0, 4), []int{9}},
		{crowd(16, 0, 6), []int{16}},
		{having(9, 0, 9, 7), []int{9}},
		{having(9, 0, 1, 1, 2, 6, 9, 7, 15, 4, 16, 5), []int{1, 9, 16}},
	} {
		if got := c.p.Readers(); !slices.Equal(got, c.want) {
			t.Errorf("%s: %v, want %v", shown(c.p), got, c.want)
		}
	}
	for _, p := range someRight() {
		if got := roomy(p).Readers(); !slices.Equal(got, wantReaders(p)) {
			t.Errorf("%s: %v", shown(p), got)
		}
	}
}

// P10.1: a policy that isn't right has members all the same: their rights are told, and its readers, rising.
func TestOfWrongPolicies(t *testing.T) {
	if got := (policy.Policy{}).Readers(); len(got) != 0 {
		t.Error("readers of nothing:", got)
	}
	if (policy.Policy{}).Rights(0) != 0 || (policy.Policy{}).Rights(1) != 0 {
		t.Error("rights of nothing")
	}
	p := having(5, 0, 9, 1, 4, 3, 7, 2, 1, 5)
	if got := p.Readers(); !slices.Equal(got, []int{1, 4, 9}) || shown(p) != shown(having(5, 0, 9, 1, 4, 3, 7, 2, 1, 5)) {
		t.Error("readers of falling members:", got, shown(p))
	}
	p = having(5, 0, 4, 2, 9, 1, 4, 1, 9, 2, 9, 1)
	if got := p.Readers(); !slices.Equal(got, []int{9}) || p.Rights(4) != 2 || p.Rights(9) != 1 {
		t.Error("readers of members twice:", got)
	}
	for _, w := range someWrong() {
		got := w.p.Readers()
		for i, who := range got {
			if w.p.Rights(who)%2 == 0 || i > 0 && who <= got[i-1] {
				t.Errorf("%s: readers %v", w.what, got)
			}
		}
	}
}

// mayByRights tells whether somebody with these rights may write an entry of that kind, by a table.
func mayByRights(kind, rights int) bool {
	ordinary := []bool{false, false, true, true, true, true, true, true}
	looking := []bool{false, false, false, false, true, true, true, true}
	if kind <= 2 {
		return ordinary[rights]
	}
	return looking[rights]
}

// P10.2: each kind by writers with each sum of rights, and by those who are no members.
func TestEachKindByEachRights(t *testing.T) {
	for writer := 1; writer <= mostWho; writer++ {
		p := everyRight(3)
		rights := map[int]int{1: 1, 2: 2, 3: 3, 4: 4, 5: 5, 6: 6, 7: 7, 9: 7}[writer]
		for _, e := range []entry.Entry{put(writer), drop(writer), grant(writer, 12, 3), revoke(writer, 1), rotate(writer, 4, 1, 3, 5, 7, 9)} {
			what := fmt.Sprintf("kind %d by %d with rights %d", e.Kind, writer, rights)
			if mayByRights(e.Kind, rights) {
				applied(t, what, p, e, changed(p, e))
			} else {
				refused(t, what, p, e, api.ErrRight)
			}
		}
	}
	for founder := 1; founder <= mostWho; founder++ {
		p, _ := policy.First(founder)
		for writer := 1; writer <= mostWho; writer++ {
			other := founder%mostWho + 1
			for _, e := range []entry.Entry{put(writer), drop(writer), grant(writer, other, 1), revoke(writer, other), rotate(writer, 1, founder)} {
				if writer == founder {
					applied(t, "the founder alone", p, e, changed(p, e))
				} else {
					refused(t, "not the founder", p, e, api.ErrRight)
				}
			}
		}
	}
}

// P10.2: grants and revokes of the founder may not be, by whomever.
func TestOfTheFounder(t *testing.T) {
	for founder := 1; founder <= mostWho; founder++ {
		for others := 1; others <= 7; others++ {
			p := crowd(founder, 2, others)
			for writer := 1; writer <= mostWho; writer++ {
				for rights := 1; rights <= 7; rights++ {
					refused(t, "a grant of the founder", p, grant(writer, founder, rights), api.ErrRight)
				}
				refused(t, "a revoke of the founder", p, revoke(writer, founder), api.ErrRight)
			}
		}
	}
}

// P10.2: grants and revokes of members, of those who are none, and of the writer itself.
func TestGrantsAndRevokes(t *testing.T) {
	p := having(5, 3, 2, 4, 5, 7, 9, 3)
	for _, c := range []struct {
		what string
		e    entry.Entry
		want policy.Policy
	}{
		{"a member gets more", grant(5, 9, 7), having(5, 3, 2, 4, 5, 7, 9, 7)},
		{"a member gets less", grant(5, 9, 1), having(5, 3, 2, 4, 5, 7, 9, 1)},
		{"a member gets others", grant(5, 9, 4), having(5, 3, 2, 4, 5, 7, 9, 4)},
		{"a member gets what it has", grant(5, 9, 3), p},
		{"a new one stands first", grant(2, 1, 1), having(5, 3, 1, 1, 2, 4, 5, 7, 9, 3)},
		{"a new one stands second", grant(2, 3, 2), having(5, 3, 2, 4, 3, 2, 5, 7, 9, 3)},
		{"a new one stands just ahead of the founder", grant(2, 4, 7), having(5, 3, 2, 4, 4, 7, 5, 7, 9, 3)},
		{"a new one stands just behind the founder", grant(2, 6, 6), having(5, 3, 2, 4, 5, 7, 6, 6, 9, 3)},
		{"a new one stands behind the last", grant(2, 10, 5), having(5, 3, 2, 4, 5, 7, 9, 3, 10, 5)},
		{"the greatest number", grant(2, 16, 4), having(5, 3, 2, 4, 5, 7, 9, 3, 16, 4)},
		{"the writer itself gets more", grant(2, 2, 7), having(5, 3, 2, 7, 5, 7, 9, 3)},
		{"the writer itself gets less", grant(2, 2, 1), having(5, 3, 2, 1, 5, 7, 9, 3)},
		{"the first one goes", revoke(5, 2), having(5, 3, 5, 7, 9, 3)},
		{"the last one goes", revoke(5, 9), having(5, 3, 2, 4, 5, 7)},
		{"the writer itself goes", revoke(2, 2), having(5, 3, 5, 7, 9, 3)},
		{"somebody who isn't there goes", revoke(2, 4), p},
		{"the least number, not there", revoke(2, 1), p},
		{"the greatest number, not there", revoke(2, 16), p},
	} {
		applied(t, c.what, p, c.e, c.want)
		applied(t, c.what+", with spare room", roomy(p), c.e, c.want)
	}
	refused(t, "no admin grants itself", p, grant(9, 9, 7), api.ErrRight)
	refused(t, "no admin revokes itself", p, revoke(9, 9), api.ErrRight)
	refused(t, "no member grants itself", p, grant(1, 1, 1), api.ErrRight)
	refused(t, "no member revokes itself", p, revoke(1, 1), api.ErrRight)
}

// P10.2: behind a grant or a revoke it is the new rights that count.
func TestBehindAChange(t *testing.T) {
	p := having(5, 0, 2, 4, 5, 7)
	less, _ := p.Apply(grant(2, 2, 2))
	refused(t, "no admin any more", less, grant(2, 3, 1), api.ErrRight)
	applied(t, "but a writer", less, put(2), less)
	gone, _ := p.Apply(revoke(2, 2))
	refused(t, "no member any more", gone, put(2), api.ErrRight)
	again, _ := gone.Apply(grant(5, 2, 6))
	applied(t, "a member again", again, put(2), having(5, 0, 2, 6, 5, 7))
	alone, _ := p.Apply(revoke(5, 2))
	applied(t, "the founder alone again", alone, turned(alone, 5), having(5, 1, 5, 7))
}

// P10.2: rotates for each epoch, from each epoch on.
func TestEpochs(t *testing.T) {
	for now := 0; now <= mostEpoch; now++ {
		p := having(5, now, 2, 1, 4, 4, 5, 7)
		for _, writer := range []int{4, 5} {
			for epoch := 1; epoch <= mostEpoch; epoch++ {
				e := rotate(writer, epoch, 2, 5)
				if epoch == now+1 {
					applied(t, "the next epoch", p, e, having(5, epoch, 2, 1, 4, 4, 5, 7))
				} else {
					refused(t, "another epoch", p, e, api.ErrEpoch)
				}
			}
			refused(t, "epoch 0", p, rotate(writer, 0, 2, 5), api.ErrForm)
			refused(t, "behind the last epoch", p, rotate(writer, mostEpoch+1, 2, 5), api.ErrForm)
		}
		refused(t, "no admin", p, rotate(2, min(now+1, mostEpoch), 2, 5), api.ErrRight)
	}
}

// P10.2: wraps for just the readers, and for one less, one more, another one.
func TestWraps(t *testing.T) {
	for _, p := range someRight() {
		if p.Epoch == mostEpoch {
			continue
		}
		readers := wantReaders(p)
		next := p
		next.Epoch++
		applied(t, "just the readers", p, turned(p, p.Founder), next)
		refused(t, "nobody", p, rotate(p.Founder, p.Epoch+1), api.ErrEpoch)
		for who := 1; who <= mostWho; who++ {
			place, found := slices.BinarySearch(readers, who)
			if found {
				refused(t, "one less", p, rotate(p.Founder, p.Epoch+1, slices.Concat(readers[:place], readers[place+1:])...), api.ErrEpoch)
				continue
			}
			more := slices.Insert(slices.Clone(readers), place, who)
			refused(t, "one more", p, rotate(p.Founder, p.Epoch+1, more...), api.ErrEpoch)
			for i := range more {
				if more[i] != who {
					refused(t, "another one", p, rotate(p.Founder, p.Epoch+1, slices.Concat(more[:i], more[i+1:])...), api.ErrEpoch)
				}
			}
		}
	}
}

// P10.2: members that have no read get no wrap, whatever else they have.
func TestWrapsByHand(t *testing.T) {
	p := everyRight(0)
	applied(t, "just the readers", p, rotate(9, 1, 1, 3, 5, 7, 9), everyRight(1))
	applied(t, "by one who has no read", p, rotate(4, 1, 1, 3, 5, 7, 9), everyRight(1))
	refused(t, "one that may write", p, rotate(9, 1, 1, 2, 3, 5, 7, 9), api.ErrEpoch)
	refused(t, "one that may look after", p, rotate(9, 1, 1, 3, 4, 5, 7, 9), api.ErrEpoch)
	refused(t, "the writer, without read", p, rotate(4, 1, 1, 3, 4, 5, 7, 9), api.ErrEpoch)
	refused(t, "one that may both", p, rotate(9, 1, 1, 3, 5, 6, 7, 9), api.ErrEpoch)
	refused(t, "all members", p, rotate(9, 1, 1, 2, 3, 4, 5, 6, 7, 9), api.ErrEpoch)
	refused(t, "no founder", p, rotate(9, 1, 1, 3, 5, 7), api.ErrEpoch)
	refused(t, "no member", p, rotate(9, 1, 1, 3, 5, 7, 9, 10), api.ErrEpoch)
	refused(t, "all that there can be", p, rotate(9, 1, 1, 2, 3, 4, 5, 6, 7, 8, 9, 10, 11, 12, 13, 14, 15, 16), api.ErrEpoch)
	refused(t, "falling", p, rotate(9, 1, 9, 7, 5, 3, 1), api.ErrForm)
	refused(t, "one twice", p, rotate(9, 1, 1, 3, 5, 7, 9, 9), api.ErrForm)
}

// P10.2: ErrForm for a policy that isn't right, ahead of what else is wrong.
func TestWrongPoliciesFirst(t *testing.T) {
	for _, w := range someWrong() {
		if len(w.p.Members) > 100 {
			refused(t, w.what, w.p, put(5), api.ErrForm)
			continue
		}
		for _, writer := range []int{1, 2, 5, 16} {
			for _, e := range someRightEntries(writer) {
				refused(t, w.what, w.p, e, api.ErrForm)
			}
		}
		for _, e := range []entry.Entry{turned(w.p, 5), grant(5, 5, 1), revoke(5, 5), {}, put(0), rotate(5, 17)} {
			refused(t, w.what, w.p, e, api.ErrForm)
		}
	}
}

// P10.2: ErrForm for an entry that isn't right, ahead of what else is wrong.
func TestWrongEntriesFirst(t *testing.T) {
	for _, p := range []policy.Policy{everyRight(0), everyRight(16), having(3, 0, 3, 7), crowd(3, 0, 1)} {
		for writer := 1; writer <= mostWho; writer++ {
			for _, e := range someWrongEntries(writer) {
				refused(t, "a wrong entry", p, e, api.ErrForm)
			}
		}
		// What isn't named of the kind makes an entry wrong, though its kind never looks at it.
		e := put(p.Founder)
		e.Epoch = p.Epoch + 1
		refused(t, "a put with an epoch", p, e, api.ErrForm)
	}
}

// P10.2: ErrRight ahead of ErrEpoch.
func TestRightAheadOfEpoch(t *testing.T) {
	p := everyRight(4)
	for _, writer := range []int{1, 2, 3, 8, 10, 16} {
		for _, e := range []entry.Entry{rotate(writer, 5, 1, 3, 5, 7, 9), rotate(writer, 4, 1, 3, 5, 7, 9), rotate(writer, 6, 1, 3, 5, 7, 9), rotate(writer, 5), rotate(writer, 1, 2)} {
			refused(t, "no admin", p, e, api.ErrRight)
		}
	}
	for _, writer := range []int{4, 5, 6, 7, 9} {
		refused(t, "neither epoch nor wraps fit", p, rotate(writer, 1, 2), api.ErrEpoch)
	}
}

// What is handed in isn't changed, and not kept; what is told is new memory.
func TestMemory(t *testing.T) {
	for _, p := range someRight() {
		entries := []entry.Entry{put(p.Founder), drop(p.Founder), put(0), rotate(p.Founder, 1)}
		for who := 1; who <= mostWho; who++ {
			entries = append(entries, grant(p.Founder, who, 2), revoke(p.Founder, who))
		}
		if p.Epoch < mostEpoch {
			entries = append(entries, turned(p, p.Founder))
		}
		for _, e := range entries {
			apart(t, p, e)
		}
		readersApart(t, p)
	}
	first, _ := policy.First(3)
	second, _ := policy.First(3)
	scribble(first)
	if third, _ := policy.First(3); shown(second) != shown(having(3, 0, 3, 7)) || shown(third) != shown(second) {
		t.Error("two first policies share memory")
	}
}

// apart wants that a policy behind an entry shares nothing with the one ahead, nor with another answer.
func apart(t *testing.T, p policy.Policy, e entry.Entry) {
	t.Helper()
	mine := roomy(p)
	before, asked := whole(mine), fmt.Sprintf("%+v", e)
	mine.May(e)
	first, _ := mine.Apply(e)
	second, _ := mine.Apply(e)
	want := shown(first)
	if whole(mine) != before || fmt.Sprintf("%+v", e) != asked {
		t.Fatalf("%+v changes the policy or entry that was handed in", e)
	}
	scribble(second)
	if whole(mine) != before || shown(first) != want {
		t.Fatalf("%+v: a policy that was told shares memory", e)
	}
	scribble(mine)
	if shown(first) != want {
		t.Fatalf("%+v: a policy that was told hangs on the one ahead", e)
	}
}

// readersApart wants that readers share nothing with another answer, and that being asked changes nothing.
func readersApart(t *testing.T, p policy.Policy) {
	t.Helper()
	mine := roomy(p)
	before := whole(mine)
	first, second := mine.Readers(), mine.Readers()
	second = second[:cap(second)]
	for i := range second {
		second[i] = -9
	}
	mine.Rights(p.Founder)
	mine.Right()
	if whole(mine) != before || !slices.Equal(first, wantReaders(p)) {
		t.Fatalf("%s: readers share memory", shown(p))
	}
}

// changed is a policy behind an entry that may be, by a table of all who there can be.
func changed(p policy.Policy, e entry.Entry) policy.Policy {
	var rights [mostWho + 1]int
	for _, m := range p.Members {
		rights[m.Who] = m.Rights
	}
	next := policy.Policy{Founder: p.Founder, Epoch: p.Epoch}
	switch e.Kind {
	case 3, 4:
		rights[e.Who] = e.Rights
	case 5:
		next.Epoch = p.Epoch + 1
	}
	for who, r := range rights {
		if r != 0 {
			next.Members = append(next.Members, policy.Member{Who: who, Rights: r})
		}
	}
	return next
}

// wantMay is what May should tell of a right policy and a right entry, written as the chapter's sentences go.
func wantMay(p policy.Policy, e entry.Entry) api.Errno {
	rights := 0
	for _, m := range p.Members {
		if m.Who == e.Writer {
			rights = m.Rights
		}
	}
	if !mayByRights(e.Kind, rights) || (e.Kind == 3 || e.Kind == 4) && e.Who == p.Founder {
		return api.ErrRight
	}
	if e.Kind != 5 {
		return api.OK
	}
	var wrapped []int
	for _, w := range e.Wraps {
		wrapped = append(wrapped, w.Who)
	}
	if e.Epoch != p.Epoch+1 || !slices.Equal(wrapped, wantReaders(p)) {
		return api.ErrEpoch
	}
	return api.OK
}

// anyEntry is a right entry by chance; a rotate fits the policy as often as not.
func anyEntry(r *rand.Rand, p policy.Policy) entry.Entry {
	writer, who := 1+r.Intn(mostWho), 1+r.Intn(mostWho)
	if r.Intn(3) == 0 {
		writer = p.Founder
	}
	switch r.Intn(12) {
	case 0:
		return put(writer)
	case 1:
		return drop(writer)
	case 2, 3:
		return revoke(writer, who)
	case 4:
		epoch := min(p.Epoch+1, mostEpoch)
		if r.Intn(4) == 0 {
			epoch = 1 + r.Intn(mostEpoch)
		}
		readers := wantReaders(p)
		if r.Intn(4) == 0 {
			readers = readers[r.Intn(len(readers)):]
		}
		return rotate(writer, epoch, readers...)
	}
	return grant(writer, who, 1+r.Intn(7))
}

// P10.2: long ways by chance, held against the chapter's sentences; the policy is right at every step.
func TestByChance(t *testing.T) {
	r := rand.New(rand.NewSource(10))
	told := map[api.Errno]int{}
	for range 200 {
		p, _ := policy.First(1 + r.Intn(mostWho))
		for range 300 {
			e := anyEntry(r, p)
			want := wantMay(p, e)
			told[want]++
			if want != api.OK {
				refused(t, "by chance", p, e, want)
				continue
			}
			p = applied(t, "by chance", p, e, changed(p, e))
			if !slices.Equal(p.Readers(), wantReaders(p)) || p.Rights(p.Founder) != 7 {
				t.Fatalf("%s: readers %v", shown(p), p.Readers())
			}
		}
	}
	if told[api.OK] < 10000 || told[api.ErrRight] < 10000 || told[api.ErrEpoch] < 500 {
		t.Error("too few of one kind:", told)
	}
}

// rightByModel tells whether a policy is right, written as the chapter's sentence goes.
func rightByModel(p policy.Policy) bool {
	founders := 0
	for i, m := range p.Members {
		if m.Who < 1 || m.Who > mostWho || m.Rights < 1 || m.Rights > 7 || i > 0 && p.Members[i-1].Who >= m.Who {
			return false
		}
		if m.Who == p.Founder && m.Rights == 7 {
			founders++
		}
	}
	return founders == 1 && p.Founder >= 1 && p.Founder <= mostWho && p.Epoch >= 0 && p.Epoch <= mostEpoch
}

// P10.1, P10.2: any policies by chance, right or not, held against the chapter's sentence.
func TestAnyByChance(t *testing.T) {
	r := rand.New(rand.NewSource(11))
	all, right := someRight(), 0
	for range 20000 {
		p := roomy(all[r.Intn(len(all))])
		for r.Intn(3) == 0 {
			n := r.Intn(20) - 1
			m := &p.Members[r.Intn(len(p.Members))]
			*[]*int{&p.Founder, &p.Epoch, &m.Who, &m.Rights}[r.Intn(4)] = n
		}
		want := rightByModel(p)
		if p.Right() != want {
			t.Fatalf("%s: Right tells %v", shown(p), p.Right())
		}
		if e := put(1 + r.Intn(mostWho)); !want {
			refused(t, "by chance", p, e, api.ErrForm)
		} else if right++; p.May(e) != wantMay(p, e) {
			t.Fatalf("%s: %+v: %d", shown(p), e, p.May(e))
		}
	}
	if right < 5000 || right > 19000 {
		t.Error("right ones of 20000:", right)
	}
}
