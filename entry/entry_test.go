package entry_test

import (
	"bytes"
	"encoding/binary"
	"fmt"
	"math"
	"math/rand"
	"slices"
	"testing"

	"locket/api"
	"locket/entry"
)

const (
	mostNumber = 1 << 40
	mostWho    = 16
	mostEpoch  = 16
	mostName   = 64
	mostValue  = 512
	boxBytes   = 48
)

// pattern is n bytes that differ from place to place, and with the seed.
func pattern(n, seed int) []byte {
	b := make([]byte, n)
	for i := range b {
		b[i] = byte(i*7 + i/64*31 + seed)
	}
	return b
}

// roomy is the same bytes, with spare room behind them that holds more.
func roomy(b []byte) []byte {
	return slices.Concat(b, []byte("spare room"))[:len(b)]
}

// scribble changes all bytes, and those of the spare room.
func scribble(b []byte) {
	b = b[:cap(b)]
	for i := range b {
		b[i] ^= 0xa5
	}
}

// scribbleAll changes all that an entry's lists hold, and their spare room.
func scribbleAll(e entry.Entry) {
	scribble(e.Name)
	scribble(e.Value)
	wraps := e.Wraps[:cap(e.Wraps)]
	for i := range wraps {
		scribble(wraps[i].Box)
		wraps[i] = entry.Wrap{Who: -7, Box: []byte("another")}
	}
}

// deep is the same entry, with nothing in common, each list with spare room.
func deep(e entry.Entry) entry.Entry {
	e.Name, e.Value = roomy(e.Name), roomy(e.Value)
	wraps := make([]entry.Wrap, 0, len(e.Wraps)+3)
	for _, w := range e.Wraps {
		wraps = append(wraps, entry.Wrap{Who: w.Who, Box: roomy(w.Box)})
	}
	spare := wraps[len(wraps):cap(wraps)]
	for i := range spare {
		spare[i] = entry.Wrap{Who: 90 + i, Box: []byte("spare")}
	}
	e.Wraps = wraps
	return e
}

// shown is all of an entry as text, spare room too, nil and empty as one.
func shown(e entry.Entry) string {
	all := fmt.Sprint(e.Kind, e.Writer, e.Seq, e.Who, e.Rights, e.Epoch, len(e.Name), len(e.Value), len(e.Wraps))
	all += fmt.Sprintf(" %x %x", e.Name[:cap(e.Name)], e.Value[:cap(e.Value)])
	for _, w := range e.Wraps[:cap(e.Wraps)] {
		all += fmt.Sprintf(" %d:%d:%x", w.Who, len(w.Box), w.Box[:cap(w.Box)])
	}
	return all
}

// plain is an entry without spare room, as text: what Same should go by.
func plain(e entry.Entry) string {
	all := fmt.Sprintf("%d %d %d %x/%x %d %d %d", e.Kind, e.Writer, e.Seq, e.Name, e.Value, e.Who, e.Rights, e.Epoch)
	for _, w := range e.Wraps {
		all += fmt.Sprintf(" %d:%x", w.Who, w.Box)
	}
	return all
}

// wrapsOf are wraps for some members, each with another box.
func wrapsOf(members ...int) []entry.Wrap {
	var wraps []entry.Wrap
	for i, who := range members {
		wraps = append(wraps, entry.Wrap{Who: who, Box: pattern(boxBytes, 11*i+who)})
	}
	return wraps
}

// allMembers are those from one number to another.
func allMembers(from, to int) []int {
	var members []int
	for who := from; who <= to; who++ {
		members = append(members, who)
	}
	return members
}

func put(name, value []byte) entry.Entry {
	return entry.Entry{Kind: 1, Writer: 3, Seq: 5, Name: name, Value: value}
}

func drop(name []byte) entry.Entry {
	return entry.Entry{Kind: 2, Writer: 3, Seq: 5, Name: name}
}

func grant(who, rights int) entry.Entry {
	return entry.Entry{Kind: 3, Writer: 3, Seq: 5, Who: who, Rights: rights}
}

func revoke(who int) entry.Entry {
	return entry.Entry{Kind: 4, Writer: 3, Seq: 5, Who: who}
}

func rotate(epoch int, wraps ...entry.Wrap) entry.Entry {
	return entry.Entry{Kind: 5, Writer: 3, Seq: 5, Epoch: epoch, Wraps: wraps}
}

// ofEachKind is one ordinary right entry of each kind, by its kind; 0 stands for none.
func ofEachKind() []entry.Entry {
	return []entry.Entry{1: put([]byte("name"), []byte("value")), 2: drop([]byte("name")), 3: grant(4, 6), 4: revoke(4), 5: rotate(2, wrapsOf(1, 4, 9)...)}
}

// someRight are right entries: of each kind, at the bounds and between them.
func someRight() []entry.Entry {
	all := ofEachKind()[1:]
	for _, n := range []int{1, 2, 63, mostName} {
		for _, v := range []int{0, 1, 255, 256, 511, mostValue} {
			all = append(all, put(pattern(n, v), pattern(v, n)))
		}
		all = append(all, drop(pattern(n, 1)))
	}
	for who := 1; who <= mostWho; who++ {
		for rights := 1; rights <= 7; rights++ {
			all = append(all, grant(who, rights))
		}
		all = append(all, revoke(who), rotate(1, wrapsOf(who)...), rotate(2, wrapsOf(allMembers(1, who)...)...), rotate(3, wrapsOf(allMembers(who, mostWho)...)...))
	}
	for epoch := 1; epoch <= mostEpoch; epoch++ {
		all = append(all, rotate(epoch), rotate(epoch, wrapsOf(2, 3, 16)...))
	}
	for _, e := range ofEachKind()[1:] {
		for writer := 1; writer <= mostWho; writer++ {
			e.Writer = writer
			all = append(all, e)
		}
		for _, seq := range []int{1, 2, 255, 256, 1 << 24, 1<<32 - 1, 1 << 32, 0x0102030405, mostNumber - 1, mostNumber} {
			e.Seq = seq
			all = append(all, e)
		}
	}
	return all
}

// change is a thing of an entry that is made another one.
type change struct {
	what string
	made func(*entry.Entry)
}

func number(what string, of func(*entry.Entry) *int, values ...int) []change {
	var all []change
	for _, v := range values {
		all = append(all, change{fmt.Sprintf("%s %d", what, v), func(e *entry.Entry) { *of(e) = v }})
	}
	return all
}

func text(what string, of func(*entry.Entry) *[]byte, lengths ...int) []change {
	var all []change
	for _, n := range lengths {
		all = append(all, change{fmt.Sprintf("%s of %d bytes", what, n), func(e *entry.Entry) { *of(e) = pattern(n, 3) }})
	}
	return all
}

func wraps(what string, w ...entry.Wrap) change {
	return change{what, func(e *entry.Entry) { e.Wraps = w }}
}

func kindOf(e *entry.Entry) *int     { return &e.Kind }
func writerOf(e *entry.Entry) *int   { return &e.Writer }
func seqOf(e *entry.Entry) *int      { return &e.Seq }
func whoOf(e *entry.Entry) *int      { return &e.Who }
func rightsOf(e *entry.Entry) *int   { return &e.Rights }
func epochOf(e *entry.Entry) *int    { return &e.Epoch }
func nameOf(e *entry.Entry) *[]byte  { return &e.Name }
func valueOf(e *entry.Entry) *[]byte { return &e.Value }

// boxed is a wrap with a box of so many bytes.
func boxed(who, n int) entry.Wrap {
	return entry.Wrap{Who: who, Box: pattern(n, who)}
}

// past are numbers beyond what is from least to most; some would look right if they were cut.
func past(least, most int) []int {
	all := []int{least - 1, -1, -least, -most, math.MinInt, math.MinInt + 1, most + 1, most + 2, 2*most + 1, 256 + least, 1<<32 + least, 1<<48 + least, math.MaxInt}
	return slices.DeleteFunc(all, func(n int) bool { return n >= least && n <= most })
}

// wrongWraps are lists of wraps that no right entry has.
func wrongWraps() []change {
	all := []change{
		wraps("the same member twice", wrapsOf(2, 2)...),
		wraps("one wrap twice", boxed(2, boxBytes), boxed(2, boxBytes)),
		wraps("the same member twice at the end", wrapsOf(1, 2, 16, 16)...),
		wraps("falling members", wrapsOf(2, 1)...),
		wraps("members that rise and fall", wrapsOf(1, 5, 4, 6)...),
		wraps("a member again, others between", wrapsOf(1, 2, 1)...),
		wraps("one wrap too many, the last one again", wrapsOf(append(allMembers(1, 16), 16)...)...),
		wraps("one wrap too many, from 0", wrapsOf(allMembers(0, 16)...)...),
		wraps("one wrap too many, to 17", wrapsOf(allMembers(1, 17)...)...),
		wraps("many wraps", wrapsOf(allMembers(1, 300)...)...),
		wraps("wraps of nothing", make([]entry.Wrap, 3)...),
		wraps("one wrap of nothing", make([]entry.Wrap, 1)...),
		wraps("no box", entry.Wrap{Who: 1}),
		wraps("no box at the end", boxed(1, boxBytes), entry.Wrap{Who: 2}),
	}
	for _, who := range past(1, mostWho) {
		all = append(all, wraps(fmt.Sprintf("a wrap for %d", who), wrapsOf(who)...), wraps(fmt.Sprintf("a last wrap for %d", who), wrapsOf(3, who)...), wraps(fmt.Sprintf("a first wrap for %d", who), wrapsOf(who, 16)...))
	}
	for _, n := range []int{1, 16, 32, boxBytes - 1, boxBytes + 1, 64, 2 * boxBytes, 256 + boxBytes, 65536 + boxBytes} {
		all = append(all, wraps(fmt.Sprintf("a box of %d bytes", n), boxed(5, n)))
		for place := range 3 {
			list := wrapsOf(1, 4, 16)
			list[place].Box = pattern(n, 1)
			all = append(all, wraps(fmt.Sprintf("a box of %d bytes at place %d", n, place), list...))
		}
	}
	return all
}

// wrongChanges are those that make a right entry of that kind a wrong one, each of one thing alone.
func wrongChanges(kind int) []change {
	all := slices.Concat(number("writer", writerOf, past(1, mostWho)...), number("seq", seqOf, past(1, mostNumber)...))
	names := text("name", nameOf, 1, mostName)
	values := text("value", valueOf, 1, mostValue)
	whos := number("who", whoOf, 1, mostWho, -1, math.MaxInt)
	rights := number("rights", rightsOf, 1, 7, -1, math.MinInt)
	epochs := number("epoch", epochOf, 1, mostEpoch, -1, math.MaxInt)
	lists := []change{wraps("a wrap", boxed(1, boxBytes)), wraps("wraps of nothing", make([]entry.Wrap, 2)...)}
	if kind == 1 || kind == 2 {
		names = text("name", nameOf, 0, mostName+1, mostName+2, 256+5, 4096, 65536+5, 1<<17)
	}
	if kind == 1 {
		values = text("value", valueOf, mostValue+1, mostValue+2, 4096, 4097, 65536, 65536+5)
	}
	if kind == 3 || kind == 4 {
		whos = number("who", whoOf, past(1, mostWho)...)
	}
	if kind == 3 {
		rights = number("rights", rightsOf, past(1, 7)...)
	}
	if kind == 5 {
		epochs = number("epoch", epochOf, past(1, mostEpoch)...)
		lists = wrongWraps()
	}
	return slices.Concat(all, names, values, whos, rights, epochs, lists)
}

// noKinds are numbers of no kind.
var noKinds = []int{0, 6, 7, -1, -2, -5, 255, 256, 257, 261, 1<<32 + 1, 1<<32 + 5, 1<<48 + 1, mostNumber, mostNumber + 1, math.MinInt, math.MaxInt}

// wrongEntry is one that isn't right, and why.
type wrongEntry struct {
	what string
	e    entry.Entry
}

// someWrong are entries that aren't right.
func someWrong() []wrongEntry {
	all := []wrongEntry{{"nothing", entry.Entry{}}, {"nothing but a writer", entry.Entry{Writer: 1, Seq: 1}}}
	for kind, e := range ofEachKind() {
		for _, c := range wrongChanges(kind) {
			if kind == 0 {
				break
			}
			x := deep(e)
			c.made(&x)
			all = append(all, wrongEntry{fmt.Sprintf("kind %d, %s", kind, c.what), x})
		}
		for _, none := range noKinds {
			x := deep(e)
			x.Kind, x.Writer, x.Seq = none, 3, 5
			all = append(all, wrongEntry{fmt.Sprintf("as of kind %d, but %d", kind, none), x})
		}
		for other := 1; other <= 5; other++ {
			x := deep(e)
			x.Kind, x.Writer, x.Seq = other, 3, 5
			// A drop is a put of no value, if it is called one.
			if kind != other && !(kind == 2 && other == 1) {
				all = append(all, wrongEntry{fmt.Sprintf("as of kind %d, but %d", kind, other), x})
			}
		}
	}
	return all
}

// inSix is a number's bytes, by the library.
func inSix(n int) []byte {
	return binary.BigEndian.AppendUint64(nil, uint64(n))[2:]
}

// counted is a text's bytes, by the library.
func counted(text []byte) []byte {
	return append(binary.BigEndian.AppendUint16(nil, uint16(len(text))), text...)
}

// joined is some numbers and texts, one behind the other.
func joined(parts ...any) []byte {
	var all []byte
	for _, part := range parts {
		switch p := part.(type) {
		case int:
			all = append(all, inSix(p)...)
		case []byte:
			all = append(all, counted(p)...)
		case string:
			all = append(all, counted([]byte(p))...)
		}
	}
	return all
}

// wantBytes are an entry's bytes as the document tells them, right or not.
func wantBytes(e entry.Entry) []byte {
	all := joined(e.Kind, e.Writer, e.Seq)
	switch e.Kind {
	case 1:
		return append(all, joined(e.Name, e.Value)...)
	case 2:
		return append(all, joined(e.Name)...)
	case 3:
		return append(all, joined(e.Who, e.Rights)...)
	case 4:
		return append(all, joined(e.Who)...)
	case 5:
		all = append(all, joined(e.Epoch, len(e.Wraps))...)
		for _, w := range e.Wraps {
			all = append(all, joined(w.Who, w.Box)...)
		}
	}
	return all
}

// encoded wants that Encode tells the entry's bytes.
func encoded(t *testing.T, what string, e entry.Entry) []byte {
	t.Helper()
	got, f := entry.Encode(e)
	if want := wantBytes(e); f != api.OK || !bytes.Equal(got, want) {
		t.Errorf("%s: got %x, error %d, want %x", what, got, f, want)
	}
	return got
}

// decoded wants that Decode tells that entry of the bytes.
func decoded(t *testing.T, what string, b []byte, want entry.Entry) entry.Entry {
	t.Helper()
	got, f := entry.Decode(b)
	if f != api.OK || plain(got) != plain(want) {
		t.Errorf("%s: got %+v, error %d, want %+v", what, got, f, want)
	}
	return got
}

// refused wants that Decode tells ErrForm, and nothing beside it.
func refused(t *testing.T, what string, b []byte) {
	t.Helper()
	if got, f := entry.Decode(b); f != api.ErrForm || plain(got) != plain(entry.Entry{}) || len(got.Wraps) != 0 {
		t.Errorf("%s: got %+v, error %d, want ErrForm alone", what, got, f)
	}
}

// The chapter's example and constants.
func TestExample(t *testing.T) {
	kinds := []int{entry.Put, entry.Drop, entry.Grant, entry.Revoke, entry.Rotate}
	if !slices.Equal(kinds, []int{1, 2, 3, 4, 5}) {
		t.Error("kinds", kinds)
	}
	e := entry.Entry{Kind: entry.Drop, Writer: 1, Seq: 1, Name: []byte("a")}
	want := []byte{0, 0, 0, 0, 0, 2, 0, 0, 0, 0, 0, 1, 0, 0, 0, 0, 0, 1, 0, 1, 'a'}
	got, f := entry.Encode(e)
	if !e.Right() || f != api.OK || !bytes.Equal(got, want) || len(got) != 6+6+6+3 {
		t.Errorf("got %x, error %d", got, f)
	}
	decoded(t, "the example", want, e)
}

// P9.1: right entries, of each kind and at the bounds.
func TestRight(t *testing.T) {
	for _, e := range someRight() {
		if !e.Right() {
			t.Errorf("not right: %+v", e)
		}
		if x := deep(e); !x.Right() {
			t.Errorf("with spare room not right: %+v", e)
		}
	}
}

// P9.1: entries that aren't right, each by one thing alone.
func TestNotRight(t *testing.T) {
	for _, w := range someWrong() {
		if w.e.Right() {
			t.Errorf("right: %s", w.what)
		}
	}
}

// P9.1: nil and empty lists are one, in Right as in Same.
func TestNilAndEmpty(t *testing.T) {
	for _, e := range ofEachKind()[1:] {
		x, y := e, e
		if len(e.Name) == 0 {
			x.Name, y.Name = nil, []byte{}
		}
		x.Value, y.Value = nil, roomy(nil)
		x.Wraps, y.Wraps = nil, make([]entry.Wrap, 0, 4)
		if !x.Right() || !y.Right() || !entry.Same(x, y) || !entry.Same(y, x) {
			t.Errorf("kind %d: %v %v %v %v", e.Kind, x.Right(), y.Right(), entry.Same(x, y), entry.Same(y, x))
		}
		encoded(t, "nil", x)
		encoded(t, "empty", y)
	}
	x := entry.Entry{Wraps: []entry.Wrap{{Who: 1}}}
	y := entry.Entry{Wraps: []entry.Wrap{{Who: 1, Box: []byte{}}}}
	if !entry.Same(x, y) || !entry.Same(y, x) {
		t.Error("a box of nil isn't the same as an empty one")
	}
}

// otherThings are changes of one thing alone, of an entry that has something of each.
func otherThings() []change {
	all := slices.Concat(number("kind", kindOf, 0, 2, 257), number("writer", writerOf, 0, 2, 257), number("seq", seqOf, 0, 2, 257),
		number("who", whoOf, 0, 2, 257), number("rights", rightsOf, 0, 2, 257), number("epoch", epochOf, 0, 2, -1, 1<<32+1))
	for _, of := range []func(*entry.Entry) *[]byte{nameOf, valueOf, boxOf(0), boxOf(1)} {
		all = append(all,
			change{"a text's first byte", func(e *entry.Entry) { (*of(e))[0] ^= 1 }},
			change{"a text's last byte", func(e *entry.Entry) { (*of(e))[len(*of(e))-1] ^= 0x80 }},
			change{"a shorter text", func(e *entry.Entry) { *of(e) = (*of(e))[:len(*of(e))-1] }},
			change{"a longer text", func(e *entry.Entry) { *of(e) = (*of(e))[:len(*of(e))+1] }},
			change{"no text", func(e *entry.Entry) { *of(e) = nil }},
		)
	}
	return append(all,
		change{"name and value exchanged", func(e *entry.Entry) { e.Name, e.Value = e.Value, e.Name }},
		change{"name and value with another cut", func(e *entry.Entry) {
			both := slices.Concat(e.Name, e.Value)
			e.Name, e.Value = both[:1], both[1:]
		}},
		change{"the first wrap's who", func(e *entry.Entry) { e.Wraps[0].Who++ }},
		change{"the last wrap's who", func(e *entry.Entry) { e.Wraps[1].Who-- }},
		change{"fewer wraps", func(e *entry.Entry) { e.Wraps = e.Wraps[:1] }},
		change{"more wraps", func(e *entry.Entry) { e.Wraps = e.Wraps[:3] }},
		change{"other wraps ahead", func(e *entry.Entry) { e.Wraps = e.Wraps[1:] }},
		change{"no wraps", func(e *entry.Entry) { e.Wraps = nil }},
		change{"wraps in another order", func(e *entry.Entry) { e.Wraps[0], e.Wraps[1] = e.Wraps[1], e.Wraps[0] }},
		change{"boxes exchanged", func(e *entry.Entry) {
			e.Wraps[0].Box, e.Wraps[1].Box = e.Wraps[1].Box, e.Wraps[0].Box
		}},
	)
}

func boxOf(place int) func(*entry.Entry) *[]byte {
	return func(e *entry.Entry) *[]byte { return &e.Wraps[place].Box }
}

// P9.1: what is the same, right or not; what differs in one thing alone isn't.
func TestSame(t *testing.T) {
	full := entry.Entry{Kind: 1, Writer: 1, Seq: 1, Name: []byte("name"), Value: []byte("value"), Who: 1, Rights: 1, Epoch: 1, Wraps: wrapsOf(1, 4)}
	if a, b := deep(full), deep(full); !entry.Same(a, b) || !entry.Same(a, a) {
		t.Error("the same isn't")
	}
	for _, c := range otherThings() {
		a, b := deep(full), deep(full)
		c.made(&b)
		if entry.Same(a, b) || entry.Same(b, a) {
			t.Errorf("the same but for %s", c.what)
		}
		x := deep(full)
		c.made(&x)
		if !entry.Same(b, x) || !entry.Same(b, b) {
			t.Errorf("not the same, with %s", c.what)
		}
	}
	if !entry.Same(entry.Entry{}, entry.Entry{}) || entry.Same(entry.Entry{}, full) || entry.Same(full, entry.Entry{}) {
		t.Error("nothing")
	}
}

// P9.1: each of many held against each other one.
func TestSameOfMany(t *testing.T) {
	all := someRight()
	for _, w := range someWrong() {
		all = append(all, w.e)
	}
	texts := make([]string, len(all))
	for i, e := range all {
		texts[i] = plain(e)
	}
	for i, a := range all {
		for j, b := range all {
			if entry.Same(a, b) != (texts[i] == texts[j]) {
				t.Fatalf("%.200s and %.200s: Same tells %v", texts[i], texts[j], entry.Same(a, b))
			}
		}
	}
}

// P9.2: the bytes of each kind, written by hand.
func TestBytesByHand(t *testing.T) {
	box, other := pattern(boxBytes, 1), pattern(boxBytes, 100)
	for _, c := range []struct {
		e    entry.Entry
		want []byte
	}{
		{entry.Entry{Kind: 1, Writer: 2, Seq: 0x0102030405, Name: []byte("ab"), Value: []byte("xyz")},
			[]byte("\x00\x00\x00\x00\x00\x01" + "\x00\x00\x00\x00\x00\x02" + "\x00\x01\x02\x03\x04\x05" + "\x00\x02ab" + "\x00\x03xyz")},
		{entry.Entry{Kind: 1, Writer: 1, Seq: 1, Name: []byte{0}},
			[]byte("\x00\x00\x00\x00\x00\x01" + "\x00\x00\x00\x00\x00\x01" + "\x00\x00\x00\x00\x00\x01" + "\x00\x01\x00" + "\x00\x00")},
		{entry.Entry{Kind: 1, Writer: 1, Seq: 1, Name: []byte("n"), Value: bytes.Repeat([]byte("v"), 512)},
			[]byte("\x00\x00\x00\x00\x00\x01" + "\x00\x00\x00\x00\x00\x01" + "\x00\x00\x00\x00\x00\x01" + "\x00\x01n" + "\x02\x00" + string(bytes.Repeat([]byte("v"), 512)))},
		{entry.Entry{Kind: 2, Writer: 16, Seq: 1 << 40, Name: []byte("ab")},
			[]byte("\x00\x00\x00\x00\x00\x02" + "\x00\x00\x00\x00\x00\x10" + "\x01\x00\x00\x00\x00\x00" + "\x00\x02ab")},
		{entry.Entry{Kind: 3, Writer: 1, Seq: 256, Who: 5, Rights: 6},
			[]byte("\x00\x00\x00\x00\x00\x03" + "\x00\x00\x00\x00\x00\x01" + "\x00\x00\x00\x00\x01\x00" + "\x00\x00\x00\x00\x00\x05" + "\x00\x00\x00\x00\x00\x06")},
		{entry.Entry{Kind: 4, Writer: 1, Seq: 3, Who: 16},
			[]byte("\x00\x00\x00\x00\x00\x04" + "\x00\x00\x00\x00\x00\x01" + "\x00\x00\x00\x00\x00\x03" + "\x00\x00\x00\x00\x00\x10")},
		{entry.Entry{Kind: 5, Writer: 1, Seq: 3, Epoch: 16},
			[]byte("\x00\x00\x00\x00\x00\x05" + "\x00\x00\x00\x00\x00\x01" + "\x00\x00\x00\x00\x00\x03" + "\x00\x00\x00\x00\x00\x10" + "\x00\x00\x00\x00\x00\x00")},
		{entry.Entry{Kind: 5, Writer: 1, Seq: 3, Epoch: 9, Wraps: []entry.Wrap{{Who: 2, Box: box}, {Who: 16, Box: other}}},
			[]byte("\x00\x00\x00\x00\x00\x05" + "\x00\x00\x00\x00\x00\x01" + "\x00\x00\x00\x00\x00\x03" + "\x00\x00\x00\x00\x00\x09" + "\x00\x00\x00\x00\x00\x02" +
				"\x00\x00\x00\x00\x00\x02" + "\x00\x30" + string(box) + "\x00\x00\x00\x00\x00\x10" + "\x00\x30" + string(other))},
	} {
		if got, f := entry.Encode(c.e); f != api.OK || !bytes.Equal(got, c.want) {
			t.Errorf("%+v: got %x, error %d, want %x", c.e, got, f, c.want)
		}
		decoded(t, "by hand", c.want, c.e)
	}
}

// P9.2: what was encoded, decoded as it was; the bytes of the longest entries too.
func TestThereAndBack(t *testing.T) {
	for _, e := range someRight() {
		b := encoded(t, "right", e)
		got := decoded(t, "right", b, e)
		decoded(t, "right, with spare room", roomy(b), e)
		if !entry.Same(got, e) || !got.Right() {
			t.Errorf("%+v came back as %+v", e, got)
		}
	}
	if b := encoded(t, "the longest put", put(pattern(mostName, 1), pattern(mostValue, 1))); len(b) != 18+66+514 {
		t.Errorf("the longest put has %d bytes", len(b))
	}
	if b := encoded(t, "the longest rotate", rotate(1, wrapsOf(allMembers(1, mostWho)...)...)); len(b) != 30+16*56 {
		t.Errorf("the longest rotate has %d bytes", len(b))
	}
}

// P9.2: ErrForm for an entry that isn't right, and no bytes beside it.
func TestWrongEntries(t *testing.T) {
	for _, w := range someWrong() {
		if got, f := entry.Encode(w.e); f != api.ErrForm || len(got) != 0 {
			t.Errorf("%s: %d bytes, error %d, want ErrForm alone", w.what, len(got), f)
		}
	}
}

// P9.2: bytes that are cut off, and with more behind.
func TestCutAndLonger(t *testing.T) {
	all := append(ofEachKind()[1:], put(pattern(mostName, 1), pattern(mostValue, 1)), put([]byte("a"), nil), rotate(1), rotate(16, wrapsOf(allMembers(1, mostWho)...)...))
	for _, e := range all {
		b := wantBytes(e)
		for n := range b {
			refused(t, fmt.Sprintf("kind %d, %d of %d bytes", e.Kind, n, len(b)), b[:n])
			refused(t, fmt.Sprintf("kind %d, without the first %d bytes", e.Kind, n+1), b[n+1:])
		}
		for _, more := range [][]byte{{0}, {1}, {0, 0}, make([]byte, 6), inSix(1), counted([]byte("a")), pattern(56, 1), b, make([]byte, 1<<16)} {
			refused(t, fmt.Sprintf("kind %d, %d bytes behind", e.Kind, len(more)), slices.Concat(b, more))
			refused(t, fmt.Sprintf("kind %d, %d bytes ahead", e.Kind, len(more)), slices.Concat(more, b))
		}
	}
	refused(t, "nil", nil)
	refused(t, "no bytes", []byte{})
	refused(t, "no bytes, but spare room", wantBytes(drop([]byte("a")))[:0])
}

// P9.2: bytes whose parts are right by themselves, and make no right entry.
func TestPartsOfNoEntry(t *testing.T) {
	a, box := []byte("a"), pattern(boxBytes, 1)
	for _, parts := range [][]any{
		{1}, {1, 1}, {1, 1, 1}, {2, 1, 1}, {3, 1, 1}, {4, 1, 1}, {5, 1, 1}, {0, 0, 0}, {6, 1, 1}, {6, 1, 1, a}, {0, 1, 1, a}, {mostNumber, 1, 1}, {257, 1, 1, a, a},
		{1, 0, 1, a, a}, {1, 17, 1, a, a}, {1, mostNumber, 1, a, a}, {1, 257, 1, a, a}, {1, 1, 0, a, a}, {1, 1, mostNumber + 1, a, a}, {1, 1, 1<<48 - 1, a, a},
		{1, 1, 1, a}, {1, 1, 1, a, a, a}, {1, 1, 1, "", a}, {1, 1, 1, "", ""}, {1, 1, 1, make([]byte, 65), a}, {1, 1, 1, a, make([]byte, 513)}, {1, 1, 1, a, make([]byte, 4096)}, {1, 1, 1, a, make([]byte, 4097)}, {1, 1, 1, a, make([]byte, 65535)}, {1, 1, 1, a, a, 0}, {1, 1, 1, 1, 1},
		{2, 0, 1, a}, {2, 17, 1, a}, {2, 1, 0, a}, {2, 1, mostNumber + 1, a}, {2, 1, 1, ""}, {2, 1, 1, make([]byte, 65)}, {2, 1, 1, make([]byte, 4097)}, {2, 1, 1, a, ""}, {2, 1, 1, a, a}, {2, 1, 1, 1},
		{3, 0, 1, 1, 1}, {3, 17, 1, 1, 1}, {3, 1, 0, 1, 1}, {3, 1, mostNumber + 1, 1, 1}, {3, 1, 1, 0, 1}, {3, 1, 1, 17, 1}, {3, 1, 1, 1, 0}, {3, 1, 1, 1, 8}, {3, 1, 1, 1, 257}, {3, 1, 1, 1}, {3, 1, 1, 1, 1, 1}, {3, 1, 1, 1, 1, 0}, {3, 1, 1, a, a},
		{4, 0, 1, 1}, {4, 17, 1, 1}, {4, 1, 0, 1}, {4, 1, mostNumber + 1, 1}, {4, 1, 1, 0}, {4, 1, 1, 17}, {4, 1, 1, 257}, {4, 1, 1, 1, 0}, {4, 1, 1, 1, 1}, {4, 1, 1, a},
		{5, 0, 1, 1, 0}, {5, 17, 1, 1, 0}, {5, 1, 0, 1, 0}, {5, 1, mostNumber + 1, 1, 0}, {5, 1, 1, 0, 0}, {5, 1, 1, 17, 0}, {5, 1, 1, 257, 0}, {5, 1, 1, 1}, {5, 1, 1, 1, 1}, {5, 1, 1, 1, mostNumber}, {5, 1, 1, 1, 1<<48 - 1}, {5, 1, 1, 1, 17},
		{5, 1, 1, 1, 0, 1, box}, {5, 1, 1, 1, 1, 1, box, 2, box}, {5, 1, 1, 1, 2, 1, box}, {5, 1, 1, 1, 1, 1}, {5, 1, 1, 1, 1, box}, {5, 1, 1, 1, 1, 0, box}, {5, 1, 1, 1, 1, 17, box}, {5, 1, 1, 1, 1, 257, box},
		{5, 1, 1, 1, 1, 1, box[1:]}, {5, 1, 1, 1, 1, 1, pattern(boxBytes+1, 1)}, {5, 1, 1, 1, 1, 1, ""}, {5, 1, 1, 1, 1, 1, pattern(4097, 1)}, {5, 1, 1, 1, 2, 1, box, 1, box}, {5, 1, 1, 1, 2, 2, box, 1, box}, {5, 1, 1, 1, 2, 1, 2, box, box}, {5, 1, 1, 1, 2, 1, box, 2, box[1:]}, {5, 1, 1, 1, 2, 1, box[1:], 2, box},
	} {
		refused(t, fmt.Sprintf("%.60v", parts), joined(parts...))
	}
	for _, count := range []int{0, 15, 17, 18, 256 + 16, 1<<32 + 16} {
		b := wantBytes(rotate(1, wrapsOf(allMembers(1, mostWho)...)...))
		copy(b[24:], inSix(count))
		refused(t, fmt.Sprintf("16 wraps, counted as %d", count), b)
	}
	refused(t, "17 wraps", wantBytes(rotate(1, wrapsOf(allMembers(1, 17)...)...)))
	refused(t, "17 wraps, counted as 16", slices.Concat(wantBytes(rotate(1, wrapsOf(allMembers(1, 16)...)...)), joined(17, box)))
}

// P9.2: the bytes that an entry would have which isn't right by what is named of its kind.
func TestBytesOfWrongEntries(t *testing.T) {
	for kind, e := range ofEachKind() {
		for _, c := range wrongChanges(kind) {
			if kind == 0 {
				break
			}
			x := deep(e)
			c.made(&x)
			b := wantBytes(x)
			if bytes.Equal(b, wantBytes(e)) || tooLong(x) || outOfSix(x) {
				continue
			}
			refused(t, fmt.Sprintf("kind %d, %s", kind, c.what), b)
		}
	}
}

// tooLong tells whether a text of it has no count in two bytes.
func tooLong(e entry.Entry) bool {
	return len(e.Name) > 65535 || len(e.Value) > 65535 || slices.ContainsFunc(e.Wraps, func(w entry.Wrap) bool { return len(w.Box) > 65535 })
}

// outOfSix tells whether a number of it doesn't go into six bytes, and would be cut to another one.
func outOfSix(e entry.Entry) bool {
	out := func(n int) bool { return n < 0 || n >= 1<<48 }
	return out(e.Writer) || out(e.Seq) || out(e.Who) || out(e.Rights) || out(e.Epoch) || slices.ContainsFunc(e.Wraps, func(w entry.Wrap) bool { return out(w.Who) })
}

// P9.2: each byte changed by itself: another right entry with just these bytes, or ErrForm.
func TestOneByteChanged(t *testing.T) {
	for _, e := range ofEachKind()[1:] {
		b := wantBytes(e)
		for place := range b {
			for value := range 256 {
				old := b[place]
				b[place] = byte(value)
				consistent(t, b)
				b[place] = old
			}
		}
	}
}

// consistent wants that bytes are those of the entry that is told, which is right; or that nothing is.
func consistent(t *testing.T, b []byte) bool {
	t.Helper()
	e, f := entry.Decode(b)
	if f != api.OK {
		refused(t, "changed", b)
		return false
	}
	if !e.Right() || !bytes.Equal(wantBytes(e), b) {
		t.Errorf("%x is told to be %+v", b, e)
	}
	encoded(t, "decoded", e)
	return true
}

// What is handed in isn't changed, and not kept; what is told is new memory.
func TestMemory(t *testing.T) {
	for _, e := range someRight() {
		mine := deep(e)
		before := shown(mine)
		first, _ := entry.Encode(mine)
		second, _ := entry.Encode(mine)
		mine.Right()
		entry.Same(mine, mine)
		if shown(mine) != before {
			t.Fatalf("kind %d: an entry that was handed in is changed", e.Kind)
		}
		scribble(first)
		if shown(mine) != before || !bytes.Equal(second, wantBytes(e)) {
			t.Fatalf("kind %d: what was told shares memory", e.Kind)
		}
		scribbleAll(mine)
		if !bytes.Equal(second, wantBytes(e)) {
			t.Fatalf("kind %d: bytes hang on the entry", e.Kind)
		}
		decodedApart(t, e)
	}
}

// decodedApart wants that what Decode tells shares nothing with the bytes, nor with another answer.
func decodedApart(t *testing.T, e entry.Entry) {
	t.Helper()
	b := roomy(wantBytes(e))
	whole := b[:cap(b)]
	before := bytes.Clone(whole)
	first, _ := entry.Decode(b)
	second, _ := entry.Decode(b)
	scribbleAll(second)
	if !bytes.Equal(whole, before) || plain(first) != plain(e) {
		t.Fatalf("kind %d: what was told shares memory", e.Kind)
	}
	scribble(b)
	if plain(first) != plain(e) {
		t.Fatalf("kind %d: the entry hangs on the bytes", e.Kind)
	}
	listsApart(t, first, e)
}

// listsApart wants that no list of an answer reaches another one of it, by its spare room neither.
func listsApart(t *testing.T, got, want entry.Entry) {
	t.Helper()
	scribble(got.Name)
	got.Name = bytes.Clone(want.Name)
	if plain(got) != plain(want) {
		t.Fatalf("kind %d: the name reaches others", want.Kind)
	}
	scribble(got.Value)
	got.Value = bytes.Clone(want.Value)
	if plain(got) != plain(want) {
		t.Fatalf("kind %d: the value reaches others", want.Kind)
	}
	for i := range got.Wraps {
		scribble(got.Wraps[i].Box)
		got.Wraps[i].Box = bytes.Clone(want.Wraps[i].Box)
		if plain(got) != plain(want) {
			t.Fatalf("the box at %d reaches others", i)
		}
	}
}

// modelRight tells whether an entry is right, written as the chapter's sentence goes.
func modelRight(e entry.Entry) bool {
	name := len(e.Name) >= 1 && len(e.Name) <= mostName
	noName, noValue, noWraps := len(e.Name) == 0, len(e.Value) == 0, len(e.Wraps) == 0
	who := e.Who >= 1 && e.Who <= mostWho
	if e.Writer < 1 || e.Writer > mostWho || e.Seq < 1 || e.Seq > mostNumber {
		return false
	}
	switch e.Kind {
	case 1:
		return name && len(e.Value) <= mostValue && e.Who == 0 && e.Rights == 0 && e.Epoch == 0 && noWraps
	case 2:
		return name && noValue && e.Who == 0 && e.Rights == 0 && e.Epoch == 0 && noWraps
	case 3:
		return who && e.Rights >= 1 && e.Rights <= 7 && noName && noValue && e.Epoch == 0 && noWraps
	case 4:
		return who && noName && noValue && e.Rights == 0 && e.Epoch == 0 && noWraps
	case 5:
		if e.Epoch < 1 || e.Epoch > mostEpoch || len(e.Wraps) > mostWho || !noName || !noValue || e.Who != 0 || e.Rights != 0 {
			return false
		}
		for i, w := range e.Wraps {
			if w.Who < 1 || w.Who > mostWho || len(w.Box) != boxBytes || i > 0 && w.Who <= e.Wraps[i-1].Who {
				return false
			}
		}
		return true
	}
	return false
}

// anyEntry is an entry by chance: right as often as not.
func anyEntry(r *rand.Rand) entry.Entry {
	kinds := ofEachKind()
	e := kinds[1+r.Intn(5)]
	e.Writer, e.Seq = r.Intn(mostWho)+1, r.Intn(mostNumber)+1
	if e.Kind == 5 {
		e.Epoch = 1 + r.Intn(mostEpoch)
		var members []int
		for who := 1; who <= mostWho; who++ {
			if r.Intn(2) == 0 {
				members = append(members, who)
			}
		}
		e.Wraps = wrapsOf(members...)
	}
	for r.Intn(2) == 0 {
		n := r.Intn(20) - 1
		*[]*int{&e.Kind, &e.Writer, &e.Seq, &e.Who, &e.Rights, &e.Epoch}[r.Intn(6)] = n
		if r.Intn(2) == 0 {
			*[]*[]byte{&e.Name, &e.Value}[r.Intn(2)] = pattern(r.Intn(70), n)
		}
		if len(e.Wraps) > 0 && r.Intn(2) == 0 {
			e.Wraps[r.Intn(len(e.Wraps))] = boxed(n, boxBytes-r.Intn(2))
		}
	}
	return e
}

// P9.1, P9.2: by chance, held against the chapter's sentence.
func TestByChance(t *testing.T) {
	r := rand.New(rand.NewSource(9))
	right := 0
	for range 20000 {
		e, other := anyEntry(r), anyEntry(r)
		want := modelRight(e)
		if e.Right() != want || entry.Same(e, other) != (plain(e) == plain(other)) {
			t.Fatalf("%+v: Right tells %v", e, e.Right())
		}
		if !want {
			if b, f := entry.Encode(e); f != api.ErrForm || len(b) != 0 {
				t.Fatalf("%+v: %x, error %d", e, b, f)
			}
			continue
		}
		right++
		decoded(t, "by chance", encoded(t, "by chance", e), e)
	}
	if right < 5000 || right > 18000 {
		t.Error("right ones of 20000:", right)
	}
}

// Whatever bytes it is given: a right entry whose bytes they are, or ErrForm.
func FuzzDecode(f *testing.F) {
	for _, e := range ofEachKind() {
		f.Add(wantBytes(e))
	}
	f.Add([]byte{})
	f.Add(bytes.Repeat([]byte{0xff}, 100))
	f.Fuzz(func(t *testing.T, b []byte) {
		before := bytes.Clone(b)
		consistent(t, b)
		if !bytes.Equal(b, before) {
			t.Error("bytes that were handed in are changed")
		}
	})
}
