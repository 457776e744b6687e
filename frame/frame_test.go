package frame_test

import (
	"bytes"
	"encoding/binary"
	"fmt"
	"math"
	"math/rand"
	"slices"
	"testing"

	"locket/api"
	"locket/frame"
)

const (
	mostNumber = 1 << 40
	mostLog    = 64
	mostBatch  = 8
	mostText   = 4096
	sumBytes   = 32
	mostFrame  = 32768

	// What a frame without links and without a sum has: four numbers, and the count of the sum.
	bareBytes = 4*6 + 2
)

// pattern is n bytes that differ from place to place, and with the seed.
func pattern(n, seed int) []byte {
	b := make([]byte, n)
	for i := range b {
		b[i] = byte(i*7 + i/64*31 + seed)
	}
	return b
}

// roomy is the same bytes, with spare room behind them that holds more.
func roomy(b []byte) []byte {
	return slices.Concat(b, []byte("spare room"))[:len(b)]
}

// scribble changes all bytes, and those of the spare room.
func scribble(b []byte) {
	b = b[:cap(b)]
	for i := range b {
		b[i] ^= 0xa5
	}
}

// scribbleAll changes all that a frame's lists hold, and their spare room.
func scribbleAll(f frame.Frame) {
	scribble(f.Sum)
	links := f.Links[:cap(f.Links)]
	for i := range links {
		scribble(links[i])
		links[i] = []byte("another")
	}
}

// deep is the same frame, with nothing in common, each list with spare room.
func deep(f frame.Frame) frame.Frame {
	f.Sum = roomy(f.Sum)
	links := make([][]byte, 0, len(f.Links)+2)
	for _, link := range f.Links {
		links = append(links, roomy(link))
	}
	links = append(links, []byte("spare"), nil)
	f.Links = links[:len(links)-2]
	return f
}

// shown is all of a frame as text, spare room too.
func shown(f frame.Frame) string {
	all := fmt.Sprint(f.Kind, f.Collection, f.Index, len(f.Links), len(f.Sum))
	for _, link := range f.Links[:cap(f.Links)] {
		all += fmt.Sprintf(" %d:%x", len(link), link[:cap(link)])
	}
	return all + fmt.Sprintf(" %x", f.Sum[:cap(f.Sum)])
}

// plain is a frame without spare room, as text, nil and empty as one: what Same should go by.
func plain(f frame.Frame) string {
	all := fmt.Sprint(f.Kind, f.Collection, f.Index, len(f.Links))
	for _, link := range f.Links {
		all += fmt.Sprintf(" %d:%x", len(link), link)
	}
	return all + fmt.Sprintf(" %x", f.Sum)
}

// linksOf are links of some lengths, each with other bytes.
func linksOf(lengths ...int) [][]byte {
	var links [][]byte
	for i, n := range lengths {
		links = append(links, pattern(n, 13*i+n))
	}
	return links
}

// alike is one length again and again.
func alike(count, n int) []int {
	return slices.Repeat([]int{n}, count)
}

func push(links ...[]byte) frame.Frame {
	return frame.Frame{Kind: 1, Collection: 7, Links: links}
}

func pull(index int) frame.Frame {
	return frame.Frame{Kind: 2, Collection: 7, Index: index}
}

func batch(index int, links ...[]byte) frame.Frame {
	return frame.Frame{Kind: 3, Collection: 7, Index: index, Links: links}
}

func head(index int, sum []byte) frame.Frame {
	return frame.Frame{Kind: 4, Collection: 7, Index: index, Sum: sum}
}

// ofEachKind is one ordinary right frame of each kind, by its kind; 0 stands for none.
func ofEachKind() []frame.Frame {
	return []frame.Frame{1: push(linksOf(5, 1, 9)...), 2: pull(3), 3: batch(3, linksOf(4, 2)...), 4: head(3, pattern(sumBytes, 1))}
}

// longest are links with which a frame has just so many bytes more or fewer than MaxFrame.
func longest(more int) [][]byte {
	return linksOf(append(alike(7, mostText), mostFrame-bareBytes-7*(2+mostText)-2+more)...)
}

// someRight are right frames that have bytes: of each kind, at the bounds and between them.
func someRight() []frame.Frame {
	all := ofEachKind()[1:]
	for _, f := range ofEachKind()[1:] {
		for _, collection := range []int{1, 2, 255, 256, 1 << 24, 1<<32 - 1, 1 << 32, 0x0102030405, mostNumber - 1, mostNumber} {
			f.Collection = collection
			all = append(all, f)
		}
	}
	for index := range mostLog + 1 {
		all = append(all, pull(index), batch(index), batch(index, linksOf(1)...), head(index, pattern(sumBytes, index)))
	}
	for count := 1; count <= mostBatch; count++ {
		for _, n := range []int{1, 2, 255, 256, 2064} {
			all = append(all, push(linksOf(alike(count, n)...)...), batch(mostLog, linksOf(alike(count, n)...)...))
		}
	}
	for _, n := range []int{1, 2, 80, 4095, mostText} {
		all = append(all, push(linksOf(n)...), batch(0, linksOf(n)...), push(linksOf(1, n, 2)...), batch(1, linksOf(3, 3, n)...))
	}
	all = append(all, push([]byte{0}), push([]byte{0}, []byte{0}), push(linksOf(alike(7, mostText)...)...), batch(5, linksOf(alike(7, mostText)...)...))
	for _, less := range []int{0, -1, -2, -100} {
		all = append(all, push(longest(less)...), batch(mostLog, longest(less)...))
	}
	return append(all, head(0, make([]byte, sumBytes)), head(1, bytes.Repeat([]byte{0xff}, sumBytes)))
}

// tooLong are right frames that have more bytes than MaxFrame.
func tooLong() []frame.Frame {
	all := []frame.Frame{push(linksOf(alike(8, mostText)...)...), batch(0, linksOf(alike(8, mostText)...)...), batch(mostLog, linksOf(alike(8, mostText)...)...)}
	for _, more := range []int{1, 2, 10, 41, 42} {
		all = append(all, push(longest(more)...), batch(3, longest(more)...))
	}
	return all
}

// change is a thing of a frame that is made another one.
type change struct {
	what string
	made func(*frame.Frame)
}

func number(what string, of func(*frame.Frame) *int, values ...int) []change {
	var all []change
	for _, v := range values {
		all = append(all, change{fmt.Sprintf("%s %d", what, v), func(f *frame.Frame) { *of(f) = v }})
	}
	return all
}

func links(what string, l ...[]byte) change {
	return change{what, func(f *frame.Frame) { f.Links = l }}
}

func sums(lengths ...int) []change {
	var all []change
	for _, n := range lengths {
		all = append(all, change{fmt.Sprintf("a sum of %d bytes", n), func(f *frame.Frame) { f.Sum = pattern(n, 3) }})
	}
	return all
}

func kindOf(f *frame.Frame) *int       { return &f.Kind }
func collectionOf(f *frame.Frame) *int { return &f.Collection }
func indexOf(f *frame.Frame) *int      { return &f.Index }

// past are numbers beyond what is from least to most; some would look right if they were cut.
func past(least, most int) []int {
	all := []int{least - 1, -1, -2, -most, math.MinInt, math.MinInt + 1, most + 1, most + 2, 2*most + 1, 256 + least, 1<<32 + least, 1<<48 + least, math.MaxInt}
	return slices.DeleteFunc(all, func(n int) bool { return n >= least && n <= most })
}

// wrongLinks are lists of links that no right frame has.
func wrongLinks() []change {
	all := []change{
		links("a link of nil", nil),
		links("an empty link", []byte{}),
		links("an empty link with spare room", roomy(nil)),
		links("links of nil", nil, nil, nil),
		links("eight empty links", make([][]byte, mostBatch)...),
		links("nine empty links", make([][]byte, mostBatch+1)...),
	}
	for _, count := range []int{mostBatch + 1, mostBatch + 2, 16, 256, 256 + 1, 4097} {
		all = append(all, links(fmt.Sprintf("%d links", count), linksOf(alike(count, 1)...)...))
	}
	for _, n := range []int{0, mostText + 1, mostText + 2, 2 * mostText, mostFrame, 65535, 65536, 65536 + 1} {
		all = append(all, links(fmt.Sprintf("a link of %d bytes", n), linksOf(n)...))
		for place := range 3 {
			list := linksOf(3, 4, 5)
			list[place] = pattern(n, 1)
			all = append(all, links(fmt.Sprintf("a link of %d bytes at place %d", n, place), list...))
		}
		all = append(all, links(fmt.Sprintf("an eighth link of %d bytes", n), linksOf(append(alike(7, 1), n)...)...))
	}
	return all
}

// anyLinks are lists that have links, each right where links are named.
func anyLinks() []change {
	return []change{links("a link", []byte{1}), links("a link of nought", []byte{0}), links("two links", linksOf(3, 4)...), links("eight links", linksOf(alike(8, 2)...)...)}
}

// wrongChanges are those that make a right frame of that kind a wrong one, each of one thing alone.
func wrongChanges(kind int) []change {
	all := number("collection", collectionOf, append(past(1, mostNumber), 0)...)
	if kind == 1 {
		all = append(all, number("index", indexOf, 1, mostLog, mostLog+1, -1, math.MinInt, math.MaxInt, 256, 1<<32)...)
		all = append(all, links("no links"), links("no links, but spare room", linksOf(1)[:0]...))
	} else {
		all = append(all, number("index", indexOf, past(0, mostLog)...)...)
	}
	if kind == 2 || kind == 4 {
		all = append(all, anyLinks()...)
	}
	all = append(all, wrongLinks()...)
	if kind == 4 {
		return append(all, sums(0, 1, 16, sumBytes-1, sumBytes+1, 2*sumBytes, 256+sumBytes, mostText, mostText+1, 65536, 65536+sumBytes)...)
	}
	return append(all, sums(1, sumBytes-1, sumBytes, sumBytes+1, 256, mostText, mostText+1, 65536)...)
}

// noKinds are numbers of no kind.
var noKinds = []int{0, 5, 6, -1, -2, -4, 255, 256, 257, 260, 1<<32 + 1, 1<<32 + 4, 1<<48 + 1, mostNumber, mostNumber + 1, math.MinInt, math.MinInt + 1, math.MaxInt}

// wrongFrame is one that isn't right, and why.
type wrongFrame struct {
	what string
	f    frame.Frame
}

// someWrong are frames that aren't right.
func someWrong() []wrongFrame {
	all := []wrongFrame{{"nothing", frame.Frame{}}, {"nothing but a collection", frame.Frame{Collection: 1}}, {"nothing but a kind", frame.Frame{Kind: 2}}}
	for kind, f := range ofEachKind() {
		for _, c := range wrongChanges(kind) {
			if kind == 0 {
				break
			}
			x := deep(f)
			c.made(&x)
			all = append(all, wrongFrame{fmt.Sprintf("kind %d, %s", kind, c.what), x})
		}
		for _, none := range noKinds {
			x := deep(f)
			x.Kind, x.Collection = none, 7
			all = append(all, wrongFrame{fmt.Sprintf("as of kind %d, but %d", kind, none), x})
		}
		for other := 1; other <= 4; other++ {
			x := deep(f)
			x.Kind, x.Collection = other, 7
			// A push or a pull is a batch, if it is called one; so is nothing a pull or a batch from 0 on.
			called := other == 3 && kind != 4 || other == 2 && kind == 0
			if kind != other && !called {
				all = append(all, wrongFrame{fmt.Sprintf("as of kind %d, but %d", kind, other), x})
			}
		}
	}
	return all
}

// inSix is a number's bytes, by the library.
func inSix(n int) []byte {
	return binary.BigEndian.AppendUint64(nil, uint64(n))[2:]
}

// counted is a text's bytes, by the library.
func counted(text []byte) []byte {
	return append(binary.BigEndian.AppendUint16(nil, uint16(len(text))), text...)
}

// joined is some numbers and texts, one behind the other.
func joined(parts ...any) []byte {
	var all []byte
	for _, part := range parts {
		switch p := part.(type) {
		case int:
			all = append(all, inSix(p)...)
		case []byte:
			all = append(all, counted(p)...)
		case string:
			all = append(all, counted([]byte(p))...)
		default:
			panic("neither a number nor a text")
		}
	}
	return all
}

// wantBytes are a frame's bytes as the document tells them, right or not.
func wantBytes(f frame.Frame) []byte {
	all := joined(f.Kind, f.Collection, f.Index, len(f.Links))
	for _, link := range f.Links {
		all = append(all, counted(link)...)
	}
	return append(all, counted(f.Sum)...)
}

// hasBytes tells whether six bytes hold each number of it, and two the count of each text, so that none is cut to another one.
func hasBytes(f frame.Frame) bool {
	out := func(n int) bool { return n < 0 || n >= 1<<48 }
	long := func(text []byte) bool { return len(text) > 65535 }
	return !out(f.Kind) && !out(f.Collection) && !out(f.Index) && !long(f.Sum) && !slices.ContainsFunc(f.Links, long)
}

// encoded wants that Encode tells the frame's bytes.
func encoded(t *testing.T, what string, f frame.Frame) []byte {
	t.Helper()
	got, e := frame.Encode(f)
	if want := wantBytes(f); e != api.OK || !bytes.Equal(got, want) {
		t.Errorf("%s: got %.200x, error %d, want %.200x", what, got, e, want)
	}
	return got
}

// notEncoded wants that Encode tells that error, and no bytes beside it.
func notEncoded(t *testing.T, what string, f frame.Frame, want api.Errno) {
	t.Helper()
	if got, e := frame.Encode(f); e != want || len(got) != 0 {
		t.Errorf("%s: %d bytes, error %d, want error %d alone", what, len(got), e, want)
	}
}

// decoded wants that Decode tells that frame of the bytes.
func decoded(t *testing.T, what string, b []byte, want frame.Frame) frame.Frame {
	t.Helper()
	got, e := frame.Decode(b)
	if e != api.OK || plain(got) != plain(want) {
		t.Errorf("%s: got %.200s, error %d, want %.200s", what, plain(got), e, plain(want))
	}
	return got
}

// notDecoded wants that Decode tells that error, and a frame of nothing beside it.
func notDecoded(t *testing.T, what string, b []byte, want api.Errno) {
	t.Helper()
	got, e := frame.Decode(b)
	if e != want || got.Kind != 0 || got.Collection != 0 || got.Index != 0 || len(got.Links) != 0 || len(got.Sum) != 0 {
		t.Errorf("%s: got %.200s, error %d, want error %d alone", what, plain(got), e, want)
	}
}

// refused wants that Decode tells why these bytes, which are no right frame's, aren't: by their length first.
func refused(t *testing.T, what string, b []byte) {
	t.Helper()
	want := api.ErrForm
	if len(b) > mostFrame {
		want = api.ErrSize
	}
	notDecoded(t, what, b, want)
}

// The chapter's example and constants.
func TestExample(t *testing.T) {
	kinds := []int{frame.Push, frame.Pull, frame.Batch, frame.Head}
	if !slices.Equal(kinds, []int{1, 2, 3, 4}) {
		t.Error("kinds", kinds)
	}
	f := frame.Frame{Kind: frame.Pull, Collection: 1, Index: 3}
	want := []byte{0, 0, 0, 0, 0, 2, 0, 0, 0, 0, 0, 1, 0, 0, 0, 0, 0, 3, 0, 0, 0, 0, 0, 0, 0, 0}
	got, e := frame.Encode(f)
	if !f.Right() || e != api.OK || !bytes.Equal(got, want) || len(got) != 26 {
		t.Errorf("got %x, error %d", got, e)
	}
	decoded(t, "the example", want, f)
}

// P17.1: right frames, of each kind and at the bounds.
func TestRight(t *testing.T) {
	for _, f := range append(someRight(), tooLong()...) {
		if !f.Right() {
			t.Errorf("not right: %.200s", plain(f))
		}
		if x := deep(f); !x.Right() {
			t.Errorf("with spare room not right: %.200s", plain(f))
		}
	}
}

// P17.1: frames that aren't right, each by one thing alone.
func TestNotRight(t *testing.T) {
	for _, w := range someWrong() {
		if w.f.Right() {
			t.Errorf("right: %s", w.what)
		}
	}
}

// P17.1: both sides of each bound that the chapter names, one by one.
func TestBounds(t *testing.T) {
	for kind, f := range ofEachKind() {
		if kind == 0 {
			continue
		}
		for value, want := range map[int]bool{math.MinInt: false, -1: false, 0: false, 1: true, mostNumber: true, mostNumber + 1: false, math.MaxInt: false} {
			x := f
			if x.Collection = value; x.Right() != want {
				t.Errorf("kind %d, collection %d: %v", kind, value, x.Right())
			}
		}
		for value, want := range map[int]bool{math.MinInt: false, -1: false, 0: true, 1: kind != 1, mostLog: kind != 1, mostLog + 1: false, math.MaxInt: false} {
			x := f
			if x.Index = value; x.Right() != want {
				t.Errorf("kind %d, index %d: %v", kind, value, x.Right())
			}
		}
		for count, want := range map[int]bool{0: kind != 1, 1: kind%2 == 1, mostBatch: kind%2 == 1, mostBatch + 1: false} {
			x := f
			if x.Links = linksOf(alike(count, 3)...); x.Right() != want {
				t.Errorf("kind %d, %d links: %v", kind, count, x.Right())
			}
		}
		for n, want := range map[int]bool{0: false, 1: kind%2 == 1, mostText: kind%2 == 1, mostText + 1: false} {
			x := f
			if x.Links = linksOf(n); x.Right() != want {
				t.Errorf("kind %d, a link of %d bytes: %v", kind, n, x.Right())
			}
		}
		for n, want := range map[int]bool{0: kind != 4, 1: false, sumBytes - 1: false, sumBytes: kind == 4, sumBytes + 1: false} {
			x := f
			if x.Sum = pattern(n, 5); x.Right() != want {
				t.Errorf("kind %d, a sum of %d bytes: %v", kind, n, x.Right())
			}
		}
	}
}

// Nil and empty lists are one, in Right, Same and Encode alike.
func TestNilAndEmpty(t *testing.T) {
	for _, f := range []frame.Frame{push([]byte{1}), pull(3), batch(3), head(3, pattern(sumBytes, 1))} {
		x, y := f, f
		if len(f.Links) == 0 {
			x.Links, y.Links = nil, make([][]byte, 0, 4)
		}
		if len(f.Sum) == 0 {
			x.Sum, y.Sum = nil, roomy(nil)
		}
		if !x.Right() || !y.Right() || !frame.Same(x, y) || !frame.Same(y, x) {
			t.Errorf("kind %d: %v %v %v %v", f.Kind, x.Right(), y.Right(), frame.Same(x, y), frame.Same(y, x))
		}
		decoded(t, "nil", encoded(t, "nil", x), y)
		decoded(t, "empty", encoded(t, "empty", y), x)
	}
	x, y := push(nil, []byte{1}), push([]byte{}, []byte{1})
	if !frame.Same(x, y) || !frame.Same(y, x) {
		t.Error("a link of nil isn't the same as an empty one")
	}
	if frame.Same(push(), push(nil)) || frame.Same(push(nil), push()) || frame.Same(push(nil), push(nil, nil)) {
		t.Error("no link is the same as a link of nothing")
	}
}

// otherThings are changes of one thing alone, of a frame that has something of each.
func otherThings() []change {
	all := slices.Concat(number("kind", kindOf, 0, 2, -1, 257), number("collection", collectionOf, 0, 2, -1, 257, 1<<32+1), number("index", indexOf, 0, 2, -1, 257, math.MinInt))
	for _, of := range []func(*frame.Frame) *[]byte{sumOf, linkOf(0), linkOf(1)} {
		all = append(all,
			change{"a text's first byte", func(f *frame.Frame) { (*of(f))[0] ^= 1 }},
			change{"a text's last byte", func(f *frame.Frame) { (*of(f))[len(*of(f))-1] ^= 0x80 }},
			change{"a shorter text", func(f *frame.Frame) { *of(f) = (*of(f))[:len(*of(f))-1] }},
			change{"a longer text", func(f *frame.Frame) { *of(f) = (*of(f))[:len(*of(f))+1] }},
			change{"no text", func(f *frame.Frame) { *of(f) = nil }},
		)
	}
	return append(all,
		change{"fewer links", func(f *frame.Frame) { f.Links = f.Links[:1] }},
		change{"more links", func(f *frame.Frame) { f.Links = f.Links[:3] }},
		change{"one more link, of nothing", func(f *frame.Frame) { f.Links = append(f.Links, nil) }},
		change{"other links ahead", func(f *frame.Frame) { f.Links = f.Links[1:] }},
		change{"no links", func(f *frame.Frame) { f.Links = nil }},
		change{"links in another order", func(f *frame.Frame) { f.Links[0], f.Links[1] = f.Links[1], f.Links[0] }},
		change{"links with another cut", func(f *frame.Frame) {
			both := slices.Concat(f.Links...)
			f.Links = [][]byte{both[:1], both[1:]}
		}},
		change{"links as one", func(f *frame.Frame) { f.Links = [][]byte{slices.Concat(f.Links...)} }},
		change{"a link and the sum exchanged", func(f *frame.Frame) { f.Links[0], f.Sum = f.Sum, f.Links[0] }},
		change{"index and collection exchanged", func(f *frame.Frame) { f.Index, f.Collection = f.Collection, f.Index }},
	)
}

func sumOf(f *frame.Frame) *[]byte { return &f.Sum }

func linkOf(place int) func(*frame.Frame) *[]byte {
	return func(f *frame.Frame) *[]byte { return &f.Links[place] }
}

// P17.1: what is the same, right or not; what differs in one thing alone isn't.
func TestSame(t *testing.T) {
	full := frame.Frame{Kind: 1, Collection: 1, Index: 3, Links: linksOf(4, 7), Sum: pattern(sumBytes, 2)}
	if a, b := deep(full), deep(full); !frame.Same(a, b) || !frame.Same(a, a) {
		t.Error("the same isn't")
	}
	for _, c := range otherThings() {
		a, b := deep(full), deep(full)
		c.made(&b)
		if frame.Same(a, b) || frame.Same(b, a) {
			t.Errorf("the same but for %s", c.what)
		}
		x := deep(full)
		c.made(&x)
		if !frame.Same(b, x) || !frame.Same(b, b) {
			t.Errorf("not the same, with %s", c.what)
		}
	}
	if !frame.Same(frame.Frame{}, frame.Frame{}) || frame.Same(frame.Frame{}, full) || frame.Same(full, frame.Frame{}) {
		t.Error("nothing")
	}
}

// P17.1: each of many held against each other one.
func TestSameOfMany(t *testing.T) {
	all := append(someRight(), tooLong()...)
	for _, w := range someWrong() {
		all = append(all, w.f)
	}
	numbers, texts := map[string]int{}, make([]int, len(all))
	for i, f := range all {
		text := plain(f)
		if numbers[text] == 0 {
			numbers[text] = i + 1
		}
		texts[i] = numbers[text]
	}
	for i, a := range all {
		for j, b := range all {
			if frame.Same(a, b) != (texts[i] == texts[j]) {
				t.Fatalf("%.200s and %.200s: Same tells %v", plain(a), plain(b), frame.Same(a, b))
			}
		}
	}
}

// P17.2: the bytes of each kind, written by hand.
func TestBytesByHand(t *testing.T) {
	sum := pattern(sumBytes, 1)
	for _, c := range []struct {
		f    frame.Frame
		want string
	}{
		{frame.Frame{Kind: 1, Collection: 0x0102030405, Links: [][]byte{[]byte("ab"), {0}}},
			"\x00\x00\x00\x00\x00\x01" + "\x00\x01\x02\x03\x04\x05" + "\x00\x00\x00\x00\x00\x00" + "\x00\x00\x00\x00\x00\x02" + "\x00\x02ab" + "\x00\x01\x00" + "\x00\x00"},
		{frame.Frame{Kind: 1, Collection: 1, Links: [][]byte{bytes.Repeat([]byte("v"), 4096)}},
			"\x00\x00\x00\x00\x00\x01" + "\x00\x00\x00\x00\x00\x01" + "\x00\x00\x00\x00\x00\x00" + "\x00\x00\x00\x00\x00\x01" + "\x10\x00" + string(bytes.Repeat([]byte("v"), 4096)) + "\x00\x00"},
		{frame.Frame{Kind: 2, Collection: 1 << 40, Index: 64},
			"\x00\x00\x00\x00\x00\x02" + "\x01\x00\x00\x00\x00\x00" + "\x00\x00\x00\x00\x00\x40" + "\x00\x00\x00\x00\x00\x00" + "\x00\x00"},
		{frame.Frame{Kind: 2, Collection: 1},
			"\x00\x00\x00\x00\x00\x02" + "\x00\x00\x00\x00\x00\x01" + "\x00\x00\x00\x00\x00\x00" + "\x00\x00\x00\x00\x00\x00" + "\x00\x00"},
		{frame.Frame{Kind: 3, Collection: 256, Index: 7},
			"\x00\x00\x00\x00\x00\x03" + "\x00\x00\x00\x00\x01\x00" + "\x00\x00\x00\x00\x00\x07" + "\x00\x00\x00\x00\x00\x00" + "\x00\x00"},
		{frame.Frame{Kind: 3, Collection: 2, Index: 9, Links: [][]byte{[]byte("one"), []byte("second"), []byte("x")}},
			"\x00\x00\x00\x00\x00\x03" + "\x00\x00\x00\x00\x00\x02" + "\x00\x00\x00\x00\x00\x09" + "\x00\x00\x00\x00\x00\x03" + "\x00\x03one" + "\x00\x06second" + "\x00\x01x" + "\x00\x00"},
		{frame.Frame{Kind: 4, Collection: 3, Index: 2, Sum: sum},
			"\x00\x00\x00\x00\x00\x04" + "\x00\x00\x00\x00\x00\x03" + "\x00\x00\x00\x00\x00\x02" + "\x00\x00\x00\x00\x00\x00" + "\x00\x20" + string(sum)},
	} {
		if got, e := frame.Encode(c.f); e != api.OK || string(got) != c.want {
			t.Errorf("%.200s: got %.200x, error %d, want %.200x", plain(c.f), got, e, c.want)
		}
		decoded(t, "by hand", []byte(c.want), c.f)
	}
}

// P17.2: what was encoded, decoded as it was.
func TestThereAndBack(t *testing.T) {
	for _, f := range someRight() {
		b := encoded(t, "right", f)
		if x := encoded(t, "right, with spare room", deep(f)); !bytes.Equal(x, b) {
			t.Errorf("%.200s: spare room is told", plain(f))
		}
		got := decoded(t, "right", b, f)
		decoded(t, "right, with spare room", roomy(b), f)
		if !frame.Same(got, f) || !got.Right() {
			t.Errorf("%.200s came back as %.200s", plain(f), plain(got))
		}
	}
}

// P17.2: right frames of just MaxFrame bytes, and of more.
func TestSizes(t *testing.T) {
	for less, want := range map[int]int{0: mostFrame, -1: mostFrame - 1} {
		for _, f := range []frame.Frame{push(longest(less)...), batch(mostLog, longest(less)...)} {
			b := encoded(t, "the longest", f)
			if len(b) != want {
				t.Errorf("kind %d has %d bytes, want %d", f.Kind, len(b), want)
			}
			decoded(t, "the longest", b, f)
		}
	}
	for _, f := range tooLong() {
		notEncoded(t, "too long", f, api.ErrSize)
		notEncoded(t, "too long, with spare room", deep(f), api.ErrSize)
		b := wantBytes(f)
		if len(b) <= mostFrame {
			t.Errorf("kind %d has %d bytes alone", f.Kind, len(b))
		}
		notDecoded(t, "too long", b, api.ErrSize)
		notDecoded(t, "too long, cut off", b[:mostFrame], api.ErrForm)
	}
}

// P17.2: ErrForm for a frame that isn't right, and no bytes beside it; it is told ahead of ErrSize.
func TestWrongFrames(t *testing.T) {
	for _, w := range someWrong() {
		notEncoded(t, w.what, w.f, api.ErrForm)
	}
	for _, f := range tooLong() {
		for _, c := range wrongChanges(f.Kind) {
			x := deep(f)
			c.made(&x)
			notEncoded(t, fmt.Sprintf("too long, of kind %d, %s", f.Kind, c.what), x, api.ErrForm)
		}
		for _, none := range noKinds {
			x := deep(f)
			x.Kind = none
			notEncoded(t, fmt.Sprintf("too long, of kind %d", none), x, api.ErrForm)
		}
	}
}

// P17.2: bytes that are cut off, and with more ahead and behind.
func TestCutAndLonger(t *testing.T) {
	all := append(ofEachKind()[1:], push([]byte{0}), push(linksOf(alike(8, 3)...)...), batch(mostLog), batch(0, linksOf(300)...), head(0, make([]byte, sumBytes)), frame.Frame{Kind: 2, Collection: mostNumber})
	for _, f := range all {
		b := wantBytes(f)
		for n := range b {
			refused(t, fmt.Sprintf("kind %d, %d of %d bytes", f.Kind, n, len(b)), b[:n])
			refused(t, fmt.Sprintf("kind %d, %d of %d bytes, with spare room", f.Kind, n, len(b)), roomy(b[:n]))
			refused(t, fmt.Sprintf("kind %d, without the first %d bytes", f.Kind, n+1), b[n+1:])
		}
		for _, more := range [][]byte{{0}, {1}, {0, 0}, make([]byte, 6), inSix(1), counted([]byte("a")), pattern(26, 1), b, make([]byte, mostFrame-len(b)), make([]byte, mostFrame-len(b)+1), make([]byte, 1<<16)} {
			refused(t, fmt.Sprintf("kind %d, %d bytes behind", f.Kind, len(more)), slices.Concat(b, more))
			refused(t, fmt.Sprintf("kind %d, %d bytes ahead", f.Kind, len(more)), slices.Concat(more, b))
		}
	}
	refused(t, "nil", nil)
	refused(t, "no bytes", []byte{})
	refused(t, "no bytes, but spare room", wantBytes(pull(3))[:0])
}

// P17.2: the longest bytes of a frame, cut off anywhere.
func TestCutOfTheLongest(t *testing.T) {
	for _, f := range []frame.Frame{push(longest(0)...), batch(3, longest(0)...)} {
		b := wantBytes(f)
		for n := range b {
			if got, e := frame.Decode(b[:n]); e != api.ErrForm || plain(got) != plain(frame.Frame{}) {
				t.Fatalf("kind %d, the first %d bytes: got %.200s, error %d", f.Kind, n, plain(got), e)
			}
		}
		refused(t, "one byte more", append(bytes.Clone(b), 0))
		refused(t, "one byte more, ahead", append([]byte{0}, b...))
	}
}

// P17.2: rows of bytes that are no frame's, about MaxFrame: their length is told first.
func TestSizeIsToldFirst(t *testing.T) {
	for _, value := range []byte{0, 1, 2, 0x80, 0xff} {
		for size, want := range map[int]api.Errno{1: api.ErrForm, 26: api.ErrForm, mostFrame - 1: api.ErrForm, mostFrame: api.ErrForm, mostFrame + 1: api.ErrSize, 2 * mostFrame: api.ErrSize, 3 * mostFrame: api.ErrSize, 1<<20 + 26: api.ErrSize} {
			notDecoded(t, fmt.Sprintf("%d bytes of %d", size, value), bytes.Repeat([]byte{value}, size), want)
		}
	}
	// Spare room is no part of it.
	decoded(t, "much spare room", append(make([]byte, 0, 3*mostFrame), wantBytes(pull(3))...), pull(3))
}

// P17.2: bytes whose parts are right by themselves, and make no right frame.
func TestPartsOfNoFrame(t *testing.T) {
	a, sum := []byte("a"), pattern(sumBytes, 1)
	for _, parts := range [][]any{
		{1}, {2, 1}, {2, 1, 3}, {2, 1, 3, 0}, {3, 1, 0, 0}, {4, 1, 0, 0}, {0, 0, 0, 0, ""}, {0, 1, 0, 0, ""}, {0, 1, 0, 1, a, ""}, {5, 1, 0, 0, ""}, {5, 1, 0, 0, sum}, {5, 1, 0, 1, a, ""}, {6, 1, 0, 0, ""}, {256 + 2, 1, 0, 0, ""}, {mostNumber, 1, 0, 0, ""},
		{1, 1, 0, 0, ""}, {1, 0, 0, 1, a, ""}, {1, mostNumber + 1, 0, 1, a, ""}, {1, 1<<48 - 1, 0, 1, a, ""}, {1, 1, 1, 1, a, ""}, {1, 1, 64, 1, a, ""}, {1, 1, 0, 1, a, sum}, {1, 1, 0, 1, a, a}, {1, 1, 0, 1, "", ""}, {1, 1, 0, 2, a, "", ""}, {1, 1, 0, 2, "", a, ""},
		{1, 1, 0, 1, a}, {1, 1, 0, 2, a, ""}, {1, 1, 0, 1, a, a, ""}, {1, 1, 0, 0, a, ""}, {1, 1, 0, a, ""}, {1, 1, 1, a, ""}, {1, 1, 0, 1, a, "", ""}, {1, 1, 0, 1, a, "", 0}, {1, 1, 0, 1, 1, ""},
		{1, 1, 0, 1, make([]byte, 4097), ""}, {1, 1, 0, 1, make([]byte, 65535), ""}, {1, 1, 0, 2, a, make([]byte, 4097), ""}, {3, 1, 0, 1, make([]byte, 4097), ""}, {3, 1, 0, 2, make([]byte, 4097), a, ""},
		{2, 0, 3, 0, ""}, {2, mostNumber + 1, 3, 0, ""}, {2, 1, 65, 0, ""}, {2, 1, 256, 0, ""}, {2, 1, mostNumber, 0, ""}, {2, 1, 1<<48 - 1, 0, ""}, {2, 1, 3, 1, a, ""}, {2, 1, 3, 1, "", ""}, {2, 1, 3, 0, sum}, {2, 1, 3, 0, a}, {2, 1, 3, 1, ""}, {2, 1, 3, 0, "", ""}, {2, 1, 3, 0, "", 0}, {2, 1, 3, ""}, {2, 1, 3, 0, 0},
		{3, 0, 3, 0, ""}, {3, mostNumber + 1, 3, 0, ""}, {3, 1, 65, 0, ""}, {3, 1, 65, 1, a, ""}, {3, 1, 3, 0, sum}, {3, 1, 3, 1, a, sum}, {3, 1, 3, 1, "", ""}, {3, 1, 3, 1, ""}, {3, 1, 3, 0, a, ""}, {3, 1, 3, 2, a, ""}, {3, 1, 3, 1, a, "", ""},
		{4, 0, 2, 0, sum}, {4, mostNumber + 1, 2, 0, sum}, {4, 1, 65, 0, sum}, {4, 1, 2, 1, a, sum}, {4, 1, 2, 1, "", sum}, {4, 1, 2, 1, sum}, {4, 1, 2, 0, ""}, {4, 1, 2, 0, sum[1:]}, {4, 1, 2, 0, pattern(33, 1)}, {4, 1, 2, 0, pattern(256+32, 1)}, {4, 1, 2, 0, pattern(4096, 1)}, {4, 1, 2, 0, sum, ""}, {4, 1, 2, 0, sum, sum}, {4, 1, 2, sum}, {4, 1, 2, 0, 0, sum},
	} {
		refused(t, fmt.Sprintf("%.60v", parts), joined(parts...))
	}
	for _, count := range []int{0, 1, 7, 9, 10, 256 + 8, 1<<32 + 8, 1<<40 + 8, 1<<48 - 1} {
		b := wantBytes(push(linksOf(alike(mostBatch, 3)...)...))
		copy(b[18:], inSix(count))
		refused(t, fmt.Sprintf("8 links, counted as %d", count), b)
	}
	for _, count := range []int{9, 10, 100} {
		for _, f := range []frame.Frame{push(linksOf(alike(count, 3)...)...), batch(2, linksOf(alike(count, 3)...)...)} {
			b := wantBytes(f)
			refused(t, fmt.Sprintf("%d links", count), b)
			copy(b[18:], inSix(mostBatch))
			refused(t, fmt.Sprintf("%d links, counted as 8", count), b)
		}
	}
}

// P17.2: the bytes that a frame would have which isn't right.
func TestBytesOfWrongFrames(t *testing.T) {
	tried := 0
	for _, w := range someWrong() {
		if !hasBytes(w.f) {
			continue
		}
		tried++
		refused(t, w.what, wantBytes(w.f))
	}
	if tried < 200 {
		t.Error("wrong frames with bytes:", tried)
	}
}

// taker takes numbers and texts off bytes; once they lack, it is out of them for good.
type taker struct {
	b   []byte
	out bool
}

func (k *taker) take(n int) []byte {
	if k.out || len(k.b) < n {
		k.out = true
		return nil
	}
	taken := k.b[:n]
	k.b = k.b[n:]
	return taken
}

func (k *taker) number() int {
	all := 0
	for _, x := range k.take(6) {
		all = all*256 + int(x)
	}
	return all
}

func (k *taker) text() []byte {
	n := 0
	for _, x := range k.take(2) {
		n = n*256 + int(x)
	}
	return k.take(n)
}

// modelDecode is the frame of some bytes, written as the chapter's sentences go.
func modelDecode(b []byte) (frame.Frame, api.Errno) {
	if len(b) > mostFrame {
		return frame.Frame{}, api.ErrSize
	}
	k := &taker{b: bytes.Clone(b)}
	f := frame.Frame{}
	f.Kind, f.Collection, f.Index = k.number(), k.number(), k.number()
	for count := k.number(); count > 0 && !k.out; count-- {
		f.Links = append(f.Links, k.text())
	}
	f.Sum = k.text()
	if k.out || len(k.b) > 0 || !modelRight(f) {
		return frame.Frame{}, api.ErrForm
	}
	return f, api.OK
}

// modelRight tells whether a frame is right, written as the chapter's sentence goes.
func modelRight(f frame.Frame) bool {
	if f.Collection < 1 || f.Collection > mostNumber {
		return false
	}
	named := f.Index >= 0 && f.Index <= mostLog
	each := true
	for _, link := range f.Links {
		each = each && len(link) >= 1 && len(link) <= mostText
	}
	switch f.Kind {
	case 1:
		return f.Index == 0 && len(f.Links) >= 1 && len(f.Links) <= mostBatch && each && len(f.Sum) == 0
	case 2:
		return named && len(f.Links) == 0 && len(f.Sum) == 0
	case 3:
		return named && len(f.Links) <= mostBatch && each && len(f.Sum) == 0
	case 4:
		return named && len(f.Links) == 0 && len(f.Sum) == sumBytes
	}
	return false
}

// asModel wants that Decode tells what the model does, and that a frame that is told is right and has just these bytes.
func asModel(t *testing.T, b []byte) bool {
	t.Helper()
	want, e := modelDecode(b)
	if e != api.OK {
		notDecoded(t, fmt.Sprintf("%.100x", b), b, e)
		return false
	}
	got := decoded(t, "as the model", b, want)
	if again := encoded(t, "as the model", got); !got.Right() || !bytes.Equal(again, b) {
		t.Errorf("%.100x is told to be %.200s", b, plain(got))
	}
	return true
}

// P17.2: each byte turned by itself, to all values: just what is another right frame's bytes is told.
func TestOneByteTurned(t *testing.T) {
	right := 0
	for _, f := range ofEachKind()[1:] {
		b := wantBytes(f)
		for place := range b {
			for value := range 256 {
				old := b[place]
				b[place] = byte(value)
				if asModel(t, b) && byte(value) != old {
					right++
				}
				b[place] = old
			}
		}
	}
	// All that a link or a sum has, and all but the highest byte of the collection, may be any; so there are many.
	if right < 255*(15+6+sumBytes+3*5) {
		t.Error("right ones with a turned byte:", right)
	}
	b := wantBytes(batch(3, longest(0)...))
	for place := 0; place < len(b); place += 1 + place/32*29 {
		b[place] ^= 0x10
		asModel(t, b)
		b[place] ^= 0x10
	}
}

// What is handed in isn't changed, and not kept; what is told is new memory.
func TestMemory(t *testing.T) {
	for _, f := range someRight() {
		mine := deep(f)
		before := shown(mine)
		first, _ := frame.Encode(mine)
		second, _ := frame.Encode(mine)
		mine.Right()
		frame.Same(mine, deep(f))
		if shown(mine) != before {
			t.Fatalf("kind %d: a frame that was handed in is changed", f.Kind)
		}
		scribble(first)
		if shown(mine) != before || !bytes.Equal(second, wantBytes(f)) {
			t.Fatalf("kind %d: what was told shares memory", f.Kind)
		}
		scribbleAll(mine)
		if !bytes.Equal(second, wantBytes(f)) {
			t.Fatalf("kind %d: bytes hang on the frame", f.Kind)
		}
		decodedApart(t, f)
	}
	for _, w := range append(someWrong(), wrongFrame{"too long", tooLong()[0]}) {
		mine := deep(w.f)
		before := shown(mine)
		frame.Encode(mine)
		mine.Right()
		if shown(mine) != before {
			t.Fatalf("%s: a frame that was handed in is changed", w.what)
		}
	}
}

// decodedApart wants that what Decode tells shares nothing with the bytes, nor with another answer.
func decodedApart(t *testing.T, f frame.Frame) {
	t.Helper()
	b := roomy(wantBytes(f))
	whole := b[:cap(b)]
	before := bytes.Clone(whole)
	first, _ := frame.Decode(b)
	second, _ := frame.Decode(b)
	scribbleAll(second)
	if !bytes.Equal(whole, before) || plain(first) != plain(f) {
		t.Fatalf("kind %d: what was told shares memory", f.Kind)
	}
	scribble(b)
	if plain(first) != plain(f) {
		t.Fatalf("kind %d: the frame hangs on the bytes", f.Kind)
	}
	listsApart(t, first, f)
}

// listsApart wants that no list of an answer reaches another one of it, by its spare room neither.
func listsApart(t *testing.T, got, want frame.Frame) {
	t.Helper()
	for i := range got.Links {
		scribble(got.Links[i])
		got.Links[i] = bytes.Clone(want.Links[i])
		if plain(got) != plain(want) {
			t.Fatalf("the link at %d reaches others", i)
		}
	}
	scribble(got.Sum)
	got.Sum = bytes.Clone(want.Sum)
	if plain(got) != plain(want) {
		t.Fatalf("kind %d: the sum reaches others", want.Kind)
	}
}

// Bytes that are refused aren't changed either.
func TestRefusedBytesStay(t *testing.T) {
	for _, b := range [][]byte{wantBytes(pull(65)), wantBytes(push()), pattern(mostFrame, 1), pattern(mostFrame+1, 1), wantBytes(tooLong()[0])} {
		mine := roomy(b)
		whole := bytes.Clone(mine[:cap(mine)])
		frame.Decode(mine)
		if !bytes.Equal(mine[:cap(mine)], whole) {
			t.Errorf("%d bytes that were handed in are changed", len(b))
		}
	}
}

// anyFrame is a frame by chance: right as often as not.
func anyFrame(r *rand.Rand) frame.Frame {
	f := ofEachKind()[1+r.Intn(4)]
	f.Collection = 1 + r.Intn(mostNumber)
	if f.Kind != 1 {
		f.Index = r.Intn(mostLog + 1)
	}
	if f.Kind == 1 || f.Kind == 3 {
		f.Links = nil
		for range 1 + r.Intn(mostBatch) {
			f.Links = append(f.Links, pattern(1+r.Intn(1<<r.Intn(13)), r.Intn(256)))
		}
	}
	for r.Intn(2) == 0 {
		n := r.Intn(12) - 2
		*[]*int{&f.Kind, &f.Collection, &f.Index}[r.Intn(3)] = n
		if r.Intn(3) == 0 {
			f.Sum = pattern(r.Intn(3)*sumBytes/2, n)
		}
		if r.Intn(3) == 0 {
			f.Links = linksOf(alike(r.Intn(10), r.Intn(3))...)
		}
	}
	return f
}

// P17.1, P17.2: by chance, held against the chapter's sentences.
func TestByChance(t *testing.T) {
	r := rand.New(rand.NewSource(17))
	right := 0
	for range 20000 {
		f, other := anyFrame(r), anyFrame(r)
		want := modelRight(f)
		if f.Right() != want || frame.Same(f, other) != (plain(f) == plain(other)) {
			t.Fatalf("%.200s: Right tells %v", plain(f), f.Right())
		}
		if !want {
			notEncoded(t, "by chance", f, api.ErrForm)
			continue
		}
		right++
		if len(wantBytes(f)) > mostFrame {
			notEncoded(t, "by chance", f, api.ErrSize)
			continue
		}
		decoded(t, "by chance", encoded(t, "by chance", f), f)
	}
	if right < 5000 || right > 18000 {
		t.Error("right ones of 20000:", right)
	}
}

// Whatever bytes it is given: the right frame whose bytes they are, or an error.
func FuzzDecode(f *testing.F) {
	for _, x := range append(ofEachKind(), push(longest(0)...), tooLong()[0]) {
		f.Add(wantBytes(x))
	}
	f.Add([]byte{})
	f.Add(bytes.Repeat([]byte{0xff}, 100))
	f.Fuzz(func(t *testing.T, b []byte) {
		before := bytes.Clone(b)
		asModel(t, b)
		if !bytes.Equal(b, before) {
			t.Error("bytes that were handed in are changed")
		}
	})
}
