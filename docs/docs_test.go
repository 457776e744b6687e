package docs_test

import (
	"bytes"
	"fmt"
	"math"
	"math/rand"
	"slices"
	"strings"
	"testing"

	"locket/api"
	"locket/docs"
	"locket/entry"
)

const (
	mostNumber = 1 << 40
	mostName   = 64
	mostValue  = 512
	mostWho    = 16
	mostEpoch  = 16
	boxBytes   = 48
)

func put(name, value string) entry.Entry {
	return entry.Entry{Kind: 1, Writer: 3, Seq: 5, Name: []byte(name), Value: []byte(value)}
}

func drop(name string) entry.Entry {
	return entry.Entry{Kind: 2, Writer: 3, Seq: 5, Name: []byte(name)}
}

func grant(who, rights int) entry.Entry {
	return entry.Entry{Kind: 3, Writer: 3, Seq: 5, Who: who, Rights: rights}
}

func revoke(who int) entry.Entry {
	return entry.Entry{Kind: 4, Writer: 3, Seq: 5, Who: who}
}

func rotate(epoch int, readers ...int) entry.Entry {
	e := entry.Entry{Kind: 5, Writer: 3, Seq: 5, Epoch: epoch}
	for _, who := range readers {
		e.Wraps = append(e.Wraps, entry.Wrap{Who: who, Box: bytes.Repeat([]byte{byte(who)}, boxBytes)})
	}
	return e
}

// by is an entry of another writer, or another of the same.
func by(e entry.Entry, writer, seq int) entry.Entry {
	e.Writer, e.Seq = writer, seq
	return e
}

// text is n bytes, of which no two neighbours are the same.
func text(n, from int) string {
	b := make([]byte, n)
	for i := range b {
		b[i] = byte(i*7 + from)
	}
	return string(b)
}

// pair is a name and a value.
type pair struct{ name, value string }

// apply wants OK of an entry.
func apply(t *testing.T, d *docs.Docs, e entry.Entry) {
	t.Helper()
	if f := d.Apply(e); f != api.OK {
		t.Fatalf("Apply tells %d of %.300s", f, fmt.Sprintf("%+v", e))
	}
}

// having is a collection of these, put in this order.
func having(t *testing.T, pairs ...pair) *docs.Docs {
	t.Helper()
	d := docs.New()
	for _, p := range pairs {
		apply(t, d, put(p.name, p.value))
	}
	return d
}

// shown is all of a collection as text.
func shown(d *docs.Docs) string {
	var all strings.Builder
	fmt.Fprint(&all, d.Len(), ":")
	for _, one := range d.All() {
		fmt.Fprintf(&all, " %q=%q", one.Name, one.Value)
	}
	return all.String()
}

// has wants just these, in this order, of each way to ask.
func has(t *testing.T, what string, d *docs.Docs, pairs ...pair) {
	t.Helper()
	all := d.All()
	if d.Len() != len(pairs) || len(all) != len(pairs) {
		t.Fatalf("%s: %.500s, %d of All, want %d", what, shown(d), len(all), len(pairs))
	}
	for i, p := range pairs {
		if string(all[i].Name) != p.name || string(all[i].Value) != p.value {
			t.Errorf("%s: at %d %q=%q, want %q=%q", what, i, all[i].Name, all[i].Value, p.name, p.value)
		}
		if v, ok := d.Get([]byte(p.name)); !ok || string(v) != p.value {
			t.Errorf("%s: Get tells %q, %v of %q, want %q", what, v, ok, p.name, p.value)
		}
	}
}

// lacks wants that these names aren't there.
func lacks(t *testing.T, what string, d *docs.Docs, names ...string) {
	t.Helper()
	for _, name := range names {
		if v, ok := d.Get([]byte(name)); ok || len(v) != 0 {
			t.Errorf("%s: Get tells %.50q, %v of %.90q, want nothing", what, v, ok, name)
		}
	}
}

// refused wants that error of an entry, and nothing changed.
func refused(t *testing.T, what string, d *docs.Docs, e entry.Entry, want api.Errno) {
	t.Helper()
	before, twin := shown(d), d.Clone()
	if f := d.Apply(e); f != want {
		t.Errorf("%s: Apply tells %d, want %d", what, f, want)
	}
	if shown(d) != before || !docs.Same(d, twin) {
		t.Errorf("%s: %.500s, want %.500s as before", what, shown(d), before)
	}
}

// The chapter's example.
func TestExample(t *testing.T) {
	has(t, "put b, put a", having(t, pair{"b", "1"}, pair{"a", "2"}), pair{"a", "2"}, pair{"b", "1"})
}

// P11.1: a new collection has nothing, and is another one each time.
func TestNew(t *testing.T) {
	d := docs.New()
	has(t, "new", d)
	lacks(t, "new", d, "", "a", "\x00", text(mostName, 0), text(mostName+1, 0))
	if !docs.Same(d, docs.New()) || !docs.Same(d, d.Clone()) {
		t.Error("new ones aren't the same")
	}
	apply(t, d, put("a", "1"))
	has(t, "another new one", docs.New())
}

// P11.1: a put sets a name's value, of a new name or of one that is there.
func TestPut(t *testing.T) {
	d := docs.New()
	apply(t, d, put("m", "first"))
	has(t, "a new name", d, pair{"m", "first"})
	apply(t, d, put("m", "second"))
	has(t, "a name that is there", d, pair{"m", "second"})
	apply(t, d, put("m", "second"))
	has(t, "the same again", d, pair{"m", "second"})
	apply(t, d, put("m", ""))
	has(t, "an empty value", d, pair{"m", ""})
	apply(t, d, put("k", ""))
	has(t, "an empty value of a new name", d, pair{"k", ""}, pair{"m", ""})
	apply(t, d, put("m", text(mostValue, 1)))
	has(t, "a value at its greatest", d, pair{"k", ""}, pair{"m", text(mostValue, 1)})
	apply(t, d, put("m", "s"))
	has(t, "a short value in its place", d, pair{"k", ""}, pair{"m", "s"})
	apply(t, d, entry.Entry{Kind: 1, Writer: 1, Seq: 1, Name: []byte("m")})
	has(t, "a value of nil", d, pair{"k", ""}, pair{"m", ""})
}

// P11.1: names and values of every length that is right, each a thing of its own.
func TestEveryLength(t *testing.T) {
	d := docs.New()
	var want []pair
	for n := 1; n <= mostName; n++ {
		p := pair{strings.Repeat("n", n), text(n, n)}
		apply(t, d, put(p.name, p.value))
		want = append(want, p)
		has(t, fmt.Sprint("a name of ", n), d, want...)
	}
	for n := 0; n <= mostValue; n++ {
		want[n%len(want)].value = text(n, n)
		apply(t, d, put(want[n%len(want)].name, text(n, n)))
		if v, ok := d.Get([]byte(want[n%len(want)].name)); !ok || string(v) != text(n, n) {
			t.Fatalf("a value of %d: %q, %v", n, v, ok)
		}
	}
	has(t, "all lengths", d, want...)
}

// P11.1: a drop takes one name away, and ErrNone is told of one that isn't there.
func TestDrop(t *testing.T) {
	d := docs.New()
	refused(t, "of nothing", d, drop("a"), api.ErrNone)
	d = having(t, pair{"a", "1"}, pair{"ab", ""}, pair{"b", "3"}, pair{text(mostName, 9), "4"})
	for _, name := range []string{"c", "abc", "aba", "A", "\x00", "a\x00", "\x00a", "1", text(mostName, 8), text(mostName-1, 9)} {
		refused(t, fmt.Sprintf("of %q", name), d, drop(name), api.ErrNone)
	}
	apply(t, d, drop("ab"))
	has(t, "one with an empty value", d, pair{text(mostName, 9), "4"}, pair{"a", "1"}, pair{"b", "3"})
	lacks(t, "dropped", d, "ab")
	refused(t, "dropped already", d, drop("ab"), api.ErrNone)
	apply(t, d, drop(text(mostName, 9)))
	apply(t, d, drop("a"))
	has(t, "two more", d, pair{"b", "3"})
	apply(t, d, put("a", "again"))
	has(t, "a put behind a drop", d, pair{"a", "again"}, pair{"b", "3"})
	apply(t, d, put("a", ""))
	apply(t, d, drop("a"))
	apply(t, d, drop("b"))
	has(t, "all", d)
	lacks(t, "all dropped", d, "", "a", "ab", "b", text(mostName, 9))
	refused(t, "of nothing again", d, drop("b"), api.ErrNone)
	apply(t, d, put("b", "3"))
	has(t, "a put behind all drops", d, pair{"b", "3"})
}

// P11.1: grants, revokes and rotates change nothing, of a collection with nothing or with some.
func TestOtherKinds(t *testing.T) {
	all := []entry.Entry{rotate(1), rotate(mostEpoch), rotate(7, 1, 3, 16), rotate(16, 1, 2, 3, 4, 5, 6, 7, 8, 9, 10, 11, 12, 13, 14, 15, 16)}
	for who := 1; who <= mostWho; who++ {
		all = append(all, revoke(who), by(revoke(who), who, mostNumber))
		for rights := 1; rights <= 7; rights++ {
			all = append(all, grant(who, rights), by(grant(who, rights), who, 1))
		}
	}
	for _, d := range []*docs.Docs{docs.New(), having(t, pair{"a", "1"}), having(t, pair{"a", ""}, pair{"b", "2"})} {
		for _, e := range all {
			refused(t, fmt.Sprintf("%+v", e), d, e, api.OK)
		}
	}
}

// P11.1: whose entry it is, and its which one, plays no part: one Seq twice, a lesser one, another writer.
func TestWriters(t *testing.T) {
	d := docs.New()
	for i, seq := range []int{1, 1, mostNumber, 7, 1} {
		for writer := 1; writer <= mostWho; writer++ {
			value := fmt.Sprint(i, " ", writer)
			apply(t, d, by(put("a", value), writer, seq))
			has(t, value, d, pair{"a", value})
		}
	}
	apply(t, d, by(drop("a"), 9, 1))
	has(t, "dropped by another", d)
}

// past are numbers beyond what is from least to most; some would look right if they were cut.
func past(least, most int) []int {
	all := []int{least - 1, -1, -least, -most, math.MinInt, math.MinInt + 1, most + 1, 2*most + 1, 256 + least, 1<<32 + least, 1<<48 + least, mostNumber, math.MaxInt}
	return slices.DeleteFunc(all, func(n int) bool { return n >= least && n <= most })
}

// rightOfEach is a right entry of each kind; the put and the drop are of a.
func rightOfEach() []entry.Entry {
	return []entry.Entry{put("a", "new"), drop("a"), grant(2, 3), revoke(2), rotate(2, 1, 3)}
}

// wrongNumbers are entries of each kind in which one number alone is past its bounds.
func wrongNumbers() []entry.Entry {
	var all []entry.Entry
	for _, e := range rightOfEach() {
		for _, n := range past(1, mostWho) {
			all = append(all, by(e, n, e.Seq))
		}
		for _, n := range []int{0, -1, math.MinInt, mostNumber + 1, 2*mostNumber + 1, math.MaxInt} {
			all = append(all, by(e, e.Writer, n))
		}
		for _, n := range past(1, 5) {
			e.Kind = n
			all = append(all, e)
		}
	}
	for _, n := range past(1, mostWho) {
		all = append(all, grant(n, 3), revoke(n), rotate(2, n), rotate(2, 1, n))
	}
	for _, n := range past(1, 7) {
		all = append(all, grant(2, n))
	}
	for _, n := range past(1, mostEpoch) {
		all = append(all, rotate(n, 1))
	}
	return append(all, rotate(2, 3, 3), rotate(2, 3, 1))
}

// wrongTexts are entries in which one text alone is empty, too long or too short.
func wrongTexts() []entry.Entry {
	all := []entry.Entry{{}, {Kind: 1, Writer: 3, Seq: 5}, put("", ""), put("", "new"), put("a", text(mostValue+1, 0)), put("a", text(1<<16, 0)), drop("")}
	for _, n := range []int{mostName + 1, mostName + 2, 2 * mostName, 256 + 1, 1<<16 + 1} {
		all = append(all, put(strings.Repeat("a", n), "new"), drop(strings.Repeat("a", n)))
	}
	for _, n := range []int{0, 1, boxBytes - 1, boxBytes + 1} {
		e := rotate(2, 1, 3)
		e.Wraps[1].Box = make([]byte, n)
		all = append(all, e)
	}
	return all
}

// unnamed are right entries of each kind, with one thing alone of another kind.
func unnamed() []entry.Entry {
	var all []entry.Entry
	for _, e := range rightOfEach() {
		name, value, who, rights, epoch, wraps := e, e, e, e, e, e
		name.Name, value.Value = []byte("a"), []byte("v")
		who.Who, rights.Rights, epoch.Epoch = 1, 1, 1
		wraps.Wraps = rotate(1, 2).Wraps
		for _, other := range []entry.Entry{name, value, who, rights, epoch, wraps} {
			if !other.Right() {
				all = append(all, other)
			}
		}
	}
	return all
}

// P11.1: entries that are wrong in one thing alone are ErrForm, whether their names are there or not, and change nothing.
func TestWrongEntries(t *testing.T) {
	if n := len(unnamed()); n != 4+5+4+5+4 {
		t.Error(n, "entries with a thing of another kind")
	}
	there := strings.Repeat("a", mostName)
	for _, d := range []*docs.Docs{docs.New(), having(t, pair{"a", "old"}, pair{"b", ""}, pair{there, "long"})} {
		for _, e := range slices.Concat(wrongNumbers(), wrongTexts(), unnamed()) {
			refused(t, fmt.Sprintf("%.200s", fmt.Sprintf("%+v", e)), d, e, api.ErrForm)
		}
	}
}

// P11.1: at their bounds entries are right, and are applied.
func TestBounds(t *testing.T) {
	d := docs.New()
	long := text(mostName, 3)
	for _, writer := range []int{1, 2, mostWho - 1, mostWho} {
		for _, seq := range []int{1, 2, 1 << 32, mostNumber - 1, mostNumber} {
			apply(t, d, by(put("a", text(mostValue, seq)), writer, seq))
			apply(t, d, by(put(long, ""), writer, seq))
			has(t, "put", d, pair{long, ""}, pair{"a", text(mostValue, seq)})
			apply(t, d, by(drop("a"), writer, seq))
			apply(t, d, by(drop(long), writer, seq))
			has(t, "dropped", d)
		}
	}
}

// P11.2: Get tells the value of just that name; nothing of one that isn't there, is empty or is too long.
func TestGet(t *testing.T) {
	long := strings.Repeat("n", mostName)
	d := having(t, pair{"name", "v"}, pair{"empty", ""}, pair{long, "long"}, pair{"\x00", "zero"}, pair{"\xff", "most"}, pair{"v", "name"})
	has(t, "all", d, pair{"\x00", "zero"}, pair{"empty", ""}, pair{"name", "v"}, pair{long, "long"}, pair{"v", "name"}, pair{"\xff", "most"})
	lacks(t, "none", d, "", "nam", "names", "Name", "ame", "name\x00", "\x00name", " name", "\x00\x00", "\xff\xff", "\xfe", "\x01", "zero", "e")
	for _, n := range []int{mostName - 1, mostName + 1, mostName + 2, 2 * mostName, 4096, 1 << 20} {
		lacks(t, fmt.Sprint("a name of ", n), d, strings.Repeat("n", n))
	}
	if v, ok := d.Get(nil); ok || len(v) != 0 {
		t.Errorf("nil: %q, %v", v, ok)
	}
	if v, ok := d.Get([]byte(long + "more")[:mostName]); !ok || string(v) != "long" {
		t.Errorf("a name with more in its spare room: %q, %v", v, ok)
	}
}

// rising are names as All should tell them: bytes at both bounds, and names of which one is the beginning of the other.
func rising() []string {
	return []string{
		"\x00", "\x00\x00", "\x00\x00\x00", "\x00\x01", "\x00\xff", "\x01", "\x01\x00", "A", "B", "Z", "a", "a\x00", "a\x00\x00", "a\x00b", "a\x01", "aa", "aaa", "aab", "ab", "aba", "a\x7f", "a\x80", "a\xff", "b", "ba", "z",
		strings.Repeat("z", mostName-1), strings.Repeat("z", mostName), "\x7f", "\x7f\xff", "\x80", "\x80\x00", "\xc3", "\xc3\xa4", "\xc3\xa4\x00", "\xe2\x82\xac", "\xed\xa0\x80", "\xf0\x9f\x98\x80", "\xff", "\xff\x00", "\xff\x7f", "\xff\xff", "\xff\xff\xff", strings.Repeat("\xff", mostName),
	}
}

// P11.2: All is by rising names, whatever order they were put in.
func TestAllRises(t *testing.T) {
	names := rising()
	var want []pair
	for i, name := range names {
		want = append(want, pair{name, text(i, i)})
	}
	r := rand.New(rand.NewSource(1))
	for turn := range 60 {
		order := slices.Clone(want)
		if turn == 1 {
			slices.Reverse(order)
		} else if turn > 1 {
			r.Shuffle(len(order), func(i, j int) { order[i], order[j] = order[j], order[i] })
		}
		d := having(t, order...)
		has(t, fmt.Sprint("order ", turn), d, want...)
		has(t, fmt.Sprint("clone of order ", turn), d.Clone(), want...)
		r.Shuffle(len(order), func(i, j int) { order[i], order[j] = order[j], order[i] })
		for _, p := range order[:len(order)/2] {
			apply(t, d, drop(p.name))
		}
		for _, p := range order[:len(order)/2] {
			apply(t, d, put(p.name, p.value))
		}
		has(t, fmt.Sprint("half of order ", turn, " dropped and put again"), d, want...)
	}
}

// P11.2: every two names, in both orders; the names' order alone counts, not that of the values.
func TestAllOfTwo(t *testing.T) {
	names := rising()
	for i, a := range names {
		for _, b := range names[i+1:] {
			has(t, "as they rise", having(t, pair{a, "z"}, pair{b, "a"}), pair{a, "z"}, pair{b, "a"})
			has(t, "as they fall", having(t, pair{b, "a"}, pair{a, "z"}), pair{a, "z"}, pair{b, "a"})
		}
	}
	for b := range 256 {
		for _, c := range []int{0, 127, 128, 255} {
			low, high := string([]byte{byte(min(b, c))}), string([]byte{byte(max(b, c))})
			if low != high {
				has(t, "of one byte", having(t, pair{high, ""}, pair{low, ""}), pair{low, ""}, pair{high, ""})
				has(t, "behind one byte", having(t, pair{"q" + high, ""}, pair{"q" + low, ""}), pair{"q" + low, ""}, pair{"q" + high, ""})
			}
		}
	}
}

// P11.2: very many names; nothing says that a collection is ever full.
func TestMany(t *testing.T) {
	d := docs.New()
	const many = 20000
	for i := range many {
		n := i * 7919 % many
		apply(t, d, put(fmt.Sprintf("%05d", n), fmt.Sprint(n)))
		if d.Len() != i+1 {
			t.Fatalf("Len is %d behind %d puts", d.Len(), i+1)
		}
	}
	c := d.Clone()
	for i, one := range d.All() {
		if string(one.Name) != fmt.Sprintf("%05d", i) || string(one.Value) != fmt.Sprint(i) {
			t.Fatalf("at %d %q=%q", i, one.Name, one.Value)
		}
	}
	for i := range many {
		apply(t, d, drop(fmt.Sprintf("%05d", i)))
		if d.Len() != many-1-i {
			t.Fatalf("Len is %d behind %d drops", d.Len(), i+1)
		}
	}
	has(t, "all dropped", d)
	if c.Len() != many || len(c.All()) != many {
		t.Errorf("the clone has %d", c.Len())
	}
}

// P11.2: Len behind each step.
func TestLen(t *testing.T) {
	steps := []struct {
		e    entry.Entry
		want api.Errno
		n    int
	}{
		{drop("a"), api.ErrNone, 0},
		{put("a", ""), api.OK, 1},
		{put("a", "1"), api.OK, 1},
		{put("", "1"), api.ErrForm, 1},
		{put("b", "1"), api.OK, 2},
		{grant(1, 1), api.OK, 2},
		{drop("c"), api.ErrNone, 2},
		{put("ab", "1"), api.OK, 3},
		{revoke(1), api.OK, 3},
		{drop("a"), api.OK, 2},
		{drop("a"), api.ErrNone, 2},
		{put("a", "2"), api.OK, 3},
		{rotate(1, 1), api.OK, 3},
		{drop("ab"), api.OK, 2},
		{drop("b"), api.OK, 1},
		{drop(""), api.ErrForm, 1},
		{drop("a"), api.OK, 0},
		{drop("a"), api.ErrNone, 0},
	}
	d := docs.New()
	for i, s := range steps {
		if f := d.Apply(s.e); f != s.want || d.Len() != s.n || len(d.All()) != s.n {
			t.Errorf("step %d: error %d, want %d; %s, want %d of them", i, f, s.want, shown(d), s.n)
		}
	}
}

// P11.2: a clone has the same; from then on each goes its own way.
func TestClone(t *testing.T) {
	changes := []entry.Entry{put("a", "other"), put("b", "same length"), put("new", ""), drop("a"), drop("b"), put("a", "")}
	for _, e := range changes {
		first := having(t, pair{"a", "1"}, pair{"b", ""})
		before := shown(first)
		second := first.Clone()
		if shown(second) != before || !docs.Same(first, second) || !docs.Same(second, first) {
			t.Fatalf("a clone of %s is %s", before, shown(second))
		}
		third := second.Clone()
		apply(t, second, e)
		if shown(first) != before || shown(third) != before || docs.Same(first, second) || docs.Same(second, third) {
			t.Errorf("%+v of a clone: %s and %s, want %s", e, shown(first), shown(third), before)
		}
		behind := shown(second)
		apply(t, first, drop("a"))
		apply(t, first, put("c", "3"))
		if shown(second) != behind || shown(third) != before {
			t.Errorf("changes of the first one: %s and %s, want %s and %s", shown(second), shown(third), behind, before)
		}
		has(t, "the first one", first, pair{"b", ""}, pair{"c", "3"})
	}
}

// P11.2: a clone of nothing, and one that is emptied.
func TestCloneOfNothing(t *testing.T) {
	d := docs.New()
	c := d.Clone()
	has(t, "a clone of nothing", c)
	apply(t, c, put("a", "1"))
	has(t, "a clone with a put", c, pair{"a", "1"})
	has(t, "the first one", d)
	apply(t, d, put("b", "2"))
	has(t, "the first one with a put", d, pair{"b", "2"})
	has(t, "the clone", c, pair{"a", "1"})
	apply(t, c, drop("a"))
	again := c.Clone()
	has(t, "a clone of one that was emptied", again)
	apply(t, again, put("c", "3"))
	has(t, "that clone with a put", again, pair{"c", "3"})
	has(t, "the emptied one", c)
}

// same wants that answer of Same, both ways round.
func same(t *testing.T, what string, a, b *docs.Docs, want bool) {
	t.Helper()
	if docs.Same(a, b) != want || docs.Same(b, a) != want {
		t.Errorf("%s: Same tells %v and %v of %.300s and %.300s, want %v", what, docs.Same(a, b), docs.Same(b, a), shown(a), shown(b), want)
	}
}

// P11.2: collections that have the same, by unlike ways.
func TestSame(t *testing.T) {
	plain := having(t, pair{"a", "1"}, pair{"b", ""}, pair{"c", "3"})
	turned := having(t, pair{"c", "3"}, pair{"b", ""}, pair{"a", "1"})
	changed := having(t, pair{"b", "x"}, pair{"a", "2"}, pair{"a", "1"}, pair{"c", ""}, pair{"b", ""}, pair{"c", "3"})
	dropped := having(t, pair{"d", "4"}, pair{"a", "0"}, pair{"b", ""}, pair{"c", "3"})
	for _, e := range []entry.Entry{drop("d"), drop("a"), by(put("a", "1"), 16, mostNumber), grant(1, 1), revoke(2), rotate(1, 1)} {
		apply(t, dropped, e)
	}
	refused(t, "none", dropped, drop("d"), api.ErrNone)
	ways := []*docs.Docs{plain, turned, changed, dropped, plain.Clone(), dropped.Clone().Clone()}
	for i, a := range ways {
		for j, b := range ways {
			same(t, fmt.Sprint("ways ", i, " and ", j), a, b, true)
		}
	}
	emptied := having(t, pair{"a", "1"})
	apply(t, emptied, drop("a"))
	same(t, "emptied and new", emptied, docs.New(), true)
	same(t, "emptied and itself", emptied, emptied, true)
}

// P11.2: collections that differ in one name or in one value alone.
func TestNotSame(t *testing.T) {
	d := having(t, pair{"a", "1"}, pair{"b", ""}, pair{"c", text(mostValue, 3)})
	others := map[string]*docs.Docs{
		"nothing":              docs.New(),
		"less the first":       having(t, pair{"b", ""}, pair{"c", text(mostValue, 3)}),
		"less an empty one":    having(t, pair{"a", "1"}, pair{"c", text(mostValue, 3)}),
		"less the last":        having(t, pair{"a", "1"}, pair{"b", ""}),
		"one more":             having(t, pair{"a", "1"}, pair{"b", ""}, pair{"c", text(mostValue, 3)}, pair{"d", "4"}),
		"an empty one more":    having(t, pair{"a", "1"}, pair{"b", ""}, pair{"c", text(mostValue, 3)}, pair{"d", ""}),
		"another name":         having(t, pair{"A", "1"}, pair{"b", ""}, pair{"c", text(mostValue, 3)}),
		"another empty one":    having(t, pair{"a", "1"}, pair{"B", ""}, pair{"c", text(mostValue, 3)}),
		"a longer name":        having(t, pair{"a", "1"}, pair{"b\x00", ""}, pair{"c", text(mostValue, 3)}),
		"another value":        having(t, pair{"a", "2"}, pair{"b", ""}, pair{"c", text(mostValue, 3)}),
		"a longer value":       having(t, pair{"a", "1\x00"}, pair{"b", ""}, pair{"c", text(mostValue, 3)}),
		"an empty value":       having(t, pair{"a", ""}, pair{"b", ""}, pair{"c", text(mostValue, 3)}),
		"a value, not empty":   having(t, pair{"a", "1"}, pair{"b", "\x00"}, pair{"c", text(mostValue, 3)}),
		"a value, cut":         having(t, pair{"a", "1"}, pair{"b", ""}, pair{"c", text(mostValue-1, 3)}),
		"another last byte":    having(t, pair{"a", "1"}, pair{"b", ""}, pair{"c", text(mostValue-1, 3) + "?"}),
		"values changed about": having(t, pair{"a", ""}, pair{"b", "1"}, pair{"c", text(mostValue, 3)}),
	}
	for what, other := range others {
		same(t, what, d, other, false)
		same(t, what+", cloned", d.Clone(), other.Clone(), false)
		same(t, what+" and itself", other, other, true)
	}
	same(t, "bytes over their bound", having(t, pair{"ab", "c"}), having(t, pair{"a", "bc"}), false)
	same(t, "name and value changed about", having(t, pair{"a", "b"}), having(t, pair{"b", "a"}), false)
	same(t, "one of two, each", having(t, pair{"a", ""}), having(t, pair{"b", ""}), false)
}

// roomy is a text with spare room behind it that holds more.
func roomy(s string) []byte {
	return []byte(s + "spare room")[:len(s)]
}

// scribble changes all bytes, and those of the spare room.
func scribble(b []byte) {
	b = b[:cap(b)]
	for i := range b {
		b[i] ^= 0xa5
	}
}

// What is handed in isn't changed, and not kept.
func TestHandedIn(t *testing.T) {
	d := docs.New()
	e := entry.Entry{Kind: 1, Writer: 1, Seq: 1, Name: roomy("name"), Value: roomy("value")}
	apply(t, d, e)
	c := d.Clone()
	if string(e.Name[:cap(e.Name)][:14]) != "namespare room" || string(e.Value[:cap(e.Value)][:15]) != "valuespare room" {
		t.Errorf("Apply changes %q or %q", e.Name[:cap(e.Name)], e.Value[:cap(e.Value)])
	}
	scribble(e.Name)
	scribble(e.Value)
	has(t, "the entry changed behind Apply", d, pair{"name", "value"})
	has(t, "the clone, the entry changed", c, pair{"name", "value"})
	gone := entry.Entry{Kind: 2, Writer: 1, Seq: 1, Name: roomy("name")}
	apply(t, d, gone)
	if string(gone.Name[:cap(gone.Name)][:14]) != "namespare room" {
		t.Errorf("a drop changes %q", gone.Name[:cap(gone.Name)])
	}
	asked := roomy("name")
	c.Get(asked)
	if string(asked[:cap(asked)][:14]) != "namespare room" {
		t.Errorf("Get changes %q", asked[:cap(asked)])
	}
	scribble(asked)
	has(t, "what Get was asked, changed", c, pair{"name", "value"})
}

// One array for a name and its value, and the same one for the next entry.
func TestSharedArray(t *testing.T) {
	d, b := docs.New(), []byte("abcdef")
	apply(t, d, entry.Entry{Kind: 1, Writer: 1, Seq: 1, Name: b[:3], Value: b[1:]})
	copy(b, "xyzuvw")
	apply(t, d, entry.Entry{Kind: 1, Writer: 1, Seq: 1, Name: b[:3], Value: b[1:]})
	has(t, "both", d, pair{"abc", "bcdef"}, pair{"xyz", "yzuvw"})
	if string(b) != "xyzuvw" {
		t.Errorf("the array is %q", b)
	}
}

// What is told is new memory: changed by who asked, it changes neither the collection, nor a clone, nor another answer.
func TestTold(t *testing.T) {
	want := []pair{{"a", "1"}, {"b", ""}, {"c", text(mostValue, 1)}, {text(mostName, 'd'), text(40, 2)}}
	d := having(t, want...)
	c := d.Clone()
	for range 3 {
		for _, p := range want {
			first, _ := d.Get([]byte(p.name))
			second, _ := d.Get([]byte(p.name))
			scribble(second)
			if string(first) != p.value {
				t.Errorf("two values of %q share memory", p.name)
			}
			scribble(first)
		}
		has(t, "values changed", d, want...)
		all, others := d.All(), c.All()
		for i := range all {
			scribble(all[i].Name)
			if string(all[i].Value) != want[i].value {
				t.Errorf("a name of All shares memory with its value, at %d", i)
			}
			scribble(all[i].Value)
			has(t, "a part of All changed", d, want...)
			for k := i + 1; k < len(all); k++ {
				if string(all[k].Name) != want[k].name || string(all[k].Value) != want[k].value {
					t.Errorf("parts %d and %d of All share memory", i, k)
				}
			}
		}
		clear(all[:cap(all)])
		has(t, "All changed", d, want...)
		has(t, "All changed, the clone", c, want...)
		for i, p := range want {
			if string(others[i].Name) != p.name || string(others[i].Value) != p.value {
				t.Errorf("two answers of All share memory, at %d", i)
			}
		}
	}
}

// What was told stays as it is, whatever the collection goes on with.
func TestToldStays(t *testing.T) {
	d := having(t, pair{"a", "1"}, pair{"b", "2"})
	value, _ := d.Get([]byte("a"))
	all := d.All()
	apply(t, d, put("a", "9"))
	apply(t, d, drop("b"))
	apply(t, d, put("0", "0"))
	if string(value) != "1" || len(all) != 2 || string(all[0].Name) != "a" || string(all[0].Value) != "1" || string(all[1].Name) != "b" || string(all[1].Value) != "2" {
		t.Errorf("%q, %q", value, all)
	}
}

// Being asked changes nothing.
func TestAsking(t *testing.T) {
	d := having(t, pair{"b", "2"}, pair{"a", "1"})
	twin := d.Clone()
	for range 5 {
		lacks(t, "asked", d, "", "c", text(mostName+1, 1))
		has(t, "asked", d, pair{"a", "1"}, pair{"b", "2"})
		same(t, "asked", d, twin, true)
		d.Clone()
	}
}

// model is a collection as a list of pairs by rising names, gone through from its beginning.
type model []pair

// place is where a name stands or would stand, and whether it is there.
func (m model) place(name string) (int, bool) {
	i := 0
	for i < len(m) && bytes.Compare([]byte(m[i].name), []byte(name)) < 0 {
		i++
	}
	return i, i < len(m) && m[i].name == name
}

// after is the model behind an entry, and the error, written as the chapter's sentences go.
func (m model) after(e entry.Entry) (model, api.Errno) {
	if !e.Right() {
		return m, api.ErrForm
	}
	i, there := m.place(string(e.Name))
	if e.Kind == 2 && !there {
		return m, api.ErrNone
	}
	next := slices.Clone(m)
	switch {
	case e.Kind == 2:
		next = slices.Delete(next, i, i+1)
	case e.Kind == 1 && there:
		next[i].value = string(e.Value)
	case e.Kind == 1:
		next = slices.Insert(next, i, pair{string(e.Name), string(e.Value)})
	}
	return next, api.OK
}

// anyEntry is an entry by chance, mostly a put or a drop of one of few names, now and then a wrong one.
func anyEntry(r *rand.Rand) entry.Entry {
	name := make([]byte, r.Intn(4))
	for i := range name {
		name[i] = []byte{0, 'a', 255}[r.Intn(3)]
	}
	value := text(r.Intn(3), r.Intn(2))
	switch r.Intn(12) {
	case 0:
		return []entry.Entry{grant(1+r.Intn(mostWho), 1+r.Intn(7)), revoke(r.Intn(mostWho + 2)), rotate(1+r.Intn(mostEpoch), 1)}[r.Intn(3)]
	case 1, 2, 3, 4:
		return drop(string(name))
	case 5:
		return by(put(string(name), value), r.Intn(20), 1)
	}
	return put(string(name), value)
}

// P11.1, P11.2: long ways by chance, held against a plain list, with clones that are left behind on the way.
func TestByChance(t *testing.T) {
	r := rand.New(rand.NewSource(11))
	told := map[api.Errno]int{}
	for range 40 {
		d, m := docs.New(), model{}
		var left *docs.Docs
		var leftModel model
		for range 400 {
			if left == nil || r.Intn(50) == 0 {
				left, leftModel = d.Clone(), m
			}
			if r.Intn(50) == 0 {
				d, left, m, leftModel = left, d, leftModel, m
			}
			e := anyEntry(r)
			next, want := m.after(e)
			if f := d.Apply(e); f != want {
				t.Fatalf("Apply tells %d of %+v, want %d", f, e, want)
			}
			told[want]++
			m = next
			has(t, "by chance", d, m...)
			has(t, "left behind", left, leftModel...)
			same(t, "by chance", d, left, slices.Equal(m, leftModel))
		}
	}
	if told[api.OK] < 5000 || told[api.ErrNone] < 1000 || told[api.ErrForm] < 300 {
		t.Error("too few of one kind:", told)
	}
}
