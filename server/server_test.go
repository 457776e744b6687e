package server_test

import (
	"bytes"
	"fmt"
	"maps"
	"math"
	"math/rand"
	"slices"
	"strings"
	"testing"

	"locket/api"
	"locket/frame"
	"locket/server"
)

const (
	mostNumber = 1 << 40
	mostLog    = 64
	mostBatch  = 8
	mostText   = 4096
	mostFrame  = 32768

	// What a batch without links has: four numbers, and the count of the sum; each link has the count of its bytes ahead.
	bareBytes  = 4*6 + 2
	countBytes = 2
)

// noBranches are numbers of no branch.
var noBranches = []int{-1, 2, 3, 256, 257, -2, -256, 1 << 32, 1<<32 + 1, math.MinInt, math.MinInt + 1, math.MaxInt - 1, math.MaxInt}

// scribble changes all bytes, and those of the spare room.
func scribble(b []byte) {
	b = b[:cap(b)]
	for i := range b {
		b[i] ^= 0xa5
	}
}

// scribbleAll changes all links, their spare room, and that of the list.
func scribbleAll(links [][]byte) {
	links = links[:cap(links)]
	for i := range links {
		scribble(links[i])
		links[i] = []byte("another")
	}
}

// wire is a frame's bytes, with spare room behind them.
func wire(t testing.TB, f frame.Frame) []byte {
	t.Helper()
	b, e := frame.Encode(f)
	if e != api.OK {
		t.Fatalf("a frame of kind %d with %d links can't be written: %d", f.Kind, len(f.Links), e)
	}
	return slices.Concat(b, []byte("spare room"))[:len(b)]
}

// linksOf are links, by their texts.
func linksOf(texts ...string) [][]byte {
	var links [][]byte
	for _, text := range texts {
		links = append(links, []byte(text))
	}
	return links
}

// textsOf are texts, by their links.
func textsOf(links [][]byte) []string {
	texts := []string{}
	for _, link := range links {
		texts = append(texts, string(link))
	}
	return texts
}

// counted are so many texts from a number on, no two the same.
func counted(from, n int) []string {
	var texts []string
	for i := range n {
		texts = append(texts, fmt.Sprint("link ", from+i))
	}
	return texts
}

// long is a text of n bytes, another one for each mark.
func long(n, mark int) string {
	return strings.Repeat("x", n-1) + string([]byte{byte(mark)})
}

func pushFrame(collection int, texts ...string) frame.Frame {
	return frame.Frame{Kind: 1, Collection: collection, Links: linksOf(texts...)}
}

func pullFrame(collection, index int) frame.Frame {
	return frame.Frame{Kind: 2, Collection: collection, Index: index}
}

// push pushes, and looks at what is told.
func push(t testing.TB, s *server.Server, want api.Errno, branch, collection int, texts ...string) {
	t.Helper()
	reply, e := s.Handle(branch, wire(t, pushFrame(collection, texts...)))
	if e != want {
		t.Fatalf("push of %d links on branch %d: error %d, want %d", len(texts), branch, e, want)
	}
	if len(reply) != 0 {
		t.Fatalf("push of %d links on branch %d: a reply %x", len(texts), branch, reply)
	}
}

// fill pushes however many texts, a batch at a time.
func fill(t testing.TB, s *server.Server, branch, collection int, texts ...string) {
	t.Helper()
	for part := range slices.Chunk(texts, mostBatch) {
		push(t, s, api.OK, branch, collection, part...)
	}
}

// pull pulls, and looks whether the reply is a batch of just these links from the index on.
func pull(t testing.TB, s *server.Server, branch, collection, index int, want ...string) {
	t.Helper()
	reply, e := s.Handle(branch, wire(t, pullFrame(collection, index)))
	if e != api.OK {
		t.Fatalf("pull of branch %d from %d: error %d", branch, index, e)
	}
	expected := wire(t, frame.Frame{Kind: 3, Collection: collection, Index: index, Links: linksOf(want...)})
	if !bytes.Equal(reply, expected) {
		f, e := frame.Decode(reply)
		t.Fatalf("pull of branch %d from %d: kind %d, collection %d, index %d, %d links, error %d; want %d links", branch, index, f.Kind, f.Collection, f.Index, len(f.Links), e, len(want))
	}
}

// pullError pulls, and looks at the error.
func pullError(t testing.TB, s *server.Server, branch, collection, index int, want api.Errno) {
	t.Helper()
	refused(t, s, branch, wire(t, pullFrame(collection, index)), want)
}

// refused looks whether bytes are refused, with just that error.
func refused(t testing.TB, s *server.Server, branch int, b []byte, want api.Errno) {
	t.Helper()
	reply, e := s.Handle(branch, b)
	if e != want || len(reply) != 0 {
		t.Fatalf("branch %d, %.40x: error %d with a reply of %d bytes, want %d with none", branch, b, e, len(reply), want)
	}
}

// fork forks, and looks at the error.
func fork(t testing.TB, s *server.Server, n int, want api.Errno) {
	t.Helper()
	if e := s.Fork(n); e != want {
		t.Fatalf("fork of %d: error %d, want %d", n, e, want)
	}
}

// logIs looks whether a log has just these links.
func logIs(t testing.TB, s *server.Server, branch, collection int, want ...string) {
	t.Helper()
	if got := textsOf(s.Log(branch, collection)); !slices.Equal(got, want) && len(got)+len(want) > 0 {
		t.Fatalf("the log of branch %d and collection %d is %.60q, want %.60q", branch, collection, got, want)
	}
}

// The chapter's example.
func TestExample(t *testing.T) {
	s := server.New()
	push(t, s, api.OK, 0, 1, "a", "b")
	push(t, s, api.OK, 0, 1, "b", "c")
	logIs(t, s, 0, 1, "a", "b", "c")
}

// P19.1: a new server has no link anywhere.
func TestNewHasNothing(t *testing.T) {
	s := server.New()
	for _, branch := range append([]int{0, 1}, noBranches...) {
		for _, collection := range []int{1, 2, mostNumber, 0, -1, mostNumber + 1, math.MinInt, math.MaxInt} {
			logIs(t, s, branch, collection)
		}
	}
	for _, branch := range []int{0, 1} {
		pull(t, s, branch, 1, 0)
		pull(t, s, branch, mostNumber, 0)
		pullError(t, s, branch, 1, 1, api.ErrMore)
		logIs(t, s, branch, 1)
	}
	fork(t, s, 5, api.OK)
	logIs(t, s, 0, 1)
	logIs(t, s, 1, 1)
}

// P19.1: what is no branch, and what nothing was pushed to, has no links, whatever the logs have.
func TestLogOfNone(t *testing.T) {
	s := server.New()
	for _, collection := range []int{1, 2, 3, 256, mostNumber} {
		push(t, s, api.OK, 0, collection, "a", "b")
		push(t, s, api.OK, 1, collection, "c")
	}
	for _, branch := range noBranches {
		for _, collection := range []int{1, 2, 3, 256, mostNumber, 0, -1} {
			logIs(t, s, branch, collection)
		}
	}
	for _, branch := range []int{0, 1} {
		for _, collection := range []int{0, -1, -2, 4, 255, 257, 1<<32 + 1, mostNumber - 1, mostNumber + 1, math.MinInt, math.MaxInt} {
			logIs(t, s, branch, collection)
		}
	}
	logIs(t, s, 0, 256, "a", "b")
	logIs(t, s, 1, 256, "c")
}

// P19.1: two servers have nothing in common.
func TestServersAreApart(t *testing.T) {
	one, other := server.New(), server.New()
	push(t, one, api.OK, 0, 1, "a")
	logIs(t, other, 0, 1)
	push(t, other, api.OK, 0, 1, "b")
	fork(t, one, 1, api.OK)
	logIs(t, one, 0, 1, "a")
	logIs(t, one, 1, 1, "a")
	logIs(t, other, 0, 1, "b")
	logIs(t, other, 1, 1)
}

// badBytes are bytes of no frame, with the error of layer 17.
func badBytes(t testing.TB) map[api.Errno][][]byte {
	good := wire(t, pushFrame(1, "a", "b"))
	empty := slices.Concat(good[:24], []byte{0, 0, 0, 1, 'b', 0, 0})
	bad := map[api.Errno][][]byte{
		api.ErrForm: {nil, {}, {0}, []byte("x"), good[:len(good)-1], append(slices.Clone(good), 0), make([]byte, mostFrame), empty},
		api.ErrSize: {make([]byte, mostFrame+1), append(slices.Clone(good), make([]byte, mostFrame)...)},
	}
	for kind := range 6 {
		if kind < 1 || kind > 4 {
			other := slices.Clone(good)
			other[5] = byte(kind)
			bad[api.ErrForm] = append(bad[api.ErrForm], other)
		}
	}
	return bad
}

// P19.2: no branch is ErrRange, whatever the bytes are; nothing is kept.
func TestHandleOfNoBranch(t *testing.T) {
	s := server.New()
	fill(t, s, 0, 1, counted(0, mostLog)...)
	push(t, s, api.OK, 0, 2, "a")
	all := [][]byte{
		wire(t, pushFrame(1, "new")), wire(t, pushFrame(2, "new")), wire(t, pullFrame(2, 0)), wire(t, pullFrame(2, 2)),
		wire(t, frame.Frame{Kind: 3, Collection: 2}), wire(t, frame.Frame{Kind: 4, Collection: 2, Sum: make([]byte, 32)}),
	}
	for _, bad := range badBytes(t) {
		all = append(all, bad...)
	}
	for _, branch := range noBranches {
		for _, b := range all {
			refused(t, s, branch, b, api.ErrRange)
		}
		logIs(t, s, branch, 1)
		logIs(t, s, branch, 2)
	}
	logIs(t, s, 0, 1, counted(0, mostLog)...)
	logIs(t, s, 0, 2, "a")
	logIs(t, s, 1, 1)
	logIs(t, s, 1, 2)
}

// P19.2: of bytes that are no frame's, layer 17's error; nothing is kept.
func TestHandleOfNoFrame(t *testing.T) {
	s := server.New()
	push(t, s, api.OK, 0, 1, "a")
	for want, bad := range badBytes(t) {
		for _, b := range bad {
			if _, e := frame.Decode(b); e != want {
				t.Fatalf("%.40x: layer 17 tells %d, not %d", b, e, want)
			}
			refused(t, s, 0, b, want)
			refused(t, s, 1, b, want)
		}
	}
	logIs(t, s, 0, 1, "a")
	logIs(t, s, 1, 1)
}

// P19.2: an empty link is in no frame; no link, or more than MaxBatch, neither.
func TestPushOfWrongLinks(t *testing.T) {
	s := server.New()
	number := func(n int) []byte { return []byte{0, 0, 0, 0, byte(n >> 8), byte(n)} }
	written := func(texts ...string) []byte {
		b := slices.Concat(number(1), number(1), number(0), number(len(texts)))
		for _, text := range texts {
			b = append(b, byte(len(text)>>8), byte(len(text)))
			b = append(b, text...)
		}
		return append(b, 0, 0)
	}
	for _, texts := range [][]string{{}, {""}, {"a", ""}, {"", "a"}, {"a", "", "b"}, counted(0, mostBatch+1), {long(mostText+1, 0)}} {
		refused(t, s, 0, written(texts...), api.ErrForm)
		logIs(t, s, 0, 1)
	}
	for _, texts := range [][]string{{"a"}, counted(0, mostBatch), {long(mostText, 0)}} {
		if _, e := s.Handle(0, written(texts...)); e != api.OK {
			t.Fatal(e)
		}
	}
	logIs(t, s, 0, 1, slices.Concat([]string{"a"}, counted(0, mostBatch), []string{long(mostText, 0)})...)
}

// P19.2: of other kinds than push and pull: ErrKind, whatever their index is; nothing is kept.
func TestHandleOfOtherKinds(t *testing.T) {
	s := server.New()
	push(t, s, api.OK, 0, 1, "a")
	fill(t, s, 0, 2, counted(0, mostLog)...)
	for _, branch := range []int{0, 1} {
		for _, collection := range []int{1, 2, 3} {
			for _, index := range []int{0, 1, 2, mostLog} {
				refused(t, s, branch, wire(t, frame.Frame{Kind: 3, Collection: collection, Index: index}), api.ErrKind)
				refused(t, s, branch, wire(t, frame.Frame{Kind: 3, Collection: collection, Index: index, Links: linksOf("b", "c")}), api.ErrKind)
				refused(t, s, branch, wire(t, frame.Frame{Kind: 4, Collection: collection, Index: index, Sum: make([]byte, 32)}), api.ErrKind)
			}
		}
	}
	logIs(t, s, 0, 1, "a")
	logIs(t, s, 0, 2, counted(0, mostLog)...)
	logIs(t, s, 1, 1)
	logIs(t, s, 0, 3)
}

// P19.2: what the log hasn't is put behind its last one, in order, each once.
func TestPush(t *testing.T) {
	s := server.New()
	push(t, s, api.OK, 0, 1, "m")
	logIs(t, s, 0, 1, "m")
	push(t, s, api.OK, 0, 1, "z", "a", "k")
	logIs(t, s, 0, 1, "m", "z", "a", "k")
	push(t, s, api.OK, 0, 1, "a")
	push(t, s, api.OK, 0, 1, "k", "z", "m", "a", "a", "m")
	logIs(t, s, 0, 1, "m", "z", "a", "k")
	push(t, s, api.OK, 0, 1, "a", "b", "a", "b", "z", "c", "b", "c")
	logIs(t, s, 0, 1, "m", "z", "a", "k", "b", "c")
	push(t, s, api.OK, 0, 1, "q", "q", "q", "q", "q", "q", "q", "q")
	logIs(t, s, 0, 1, "m", "z", "a", "k", "b", "c", "q")
}

// P19.2: links are the same just if all their bytes are.
func TestPushOfAlmostTheSame(t *testing.T) {
	texts := []string{"a", "aa", "aaa", "ab", "ba", "A", "a\x00", "\x00a", "\x00", "\x00\x00", "\xff", "\u00e4", "b"}
	texts = append(texts, long(mostText, 1), long(mostText, 2), long(mostText-1, 1), "y"+long(mostText, 1)[1:])
	s := server.New()
	for _, text := range texts {
		push(t, s, api.OK, 0, 1, text)
		push(t, s, api.OK, 0, 1, text)
	}
	logIs(t, s, 0, 1, texts...)
}

// P19.2: a push of so many links, at a log of each length: just the new ones count, and all of them are there, or none.
func TestPushAtTheBound(t *testing.T) {
	for length := mostLog - mostBatch - 1; length <= mostLog; length++ {
		for fresh := range mostBatch + 1 {
			for old := range mostBatch - fresh + 1 {
				if fresh+old == 0 {
					continue
				}
				s := server.New()
				had := counted(0, length)
				fill(t, s, 0, 1, had...)
				news := counted(length, fresh)
				pushed := slices.Concat(had[:old/2], news, had[length-(old-old/2):])
				want := api.OK
				if length+fresh > mostLog {
					want, news = api.ErrFull, nil
				}
				push(t, s, want, 0, 1, pushed...)
				logIs(t, s, 0, 1, slices.Concat(had, news)...)
			}
		}
	}
}

// P19.2: one link twice counts once, at the bound too.
func TestPushTwiceAtTheBound(t *testing.T) {
	s := server.New()
	had := counted(0, mostLog-1)
	fill(t, s, 0, 1, had...)
	push(t, s, api.ErrFull, 0, 1, "p", "q", "p")
	logIs(t, s, 0, 1, had...)
	push(t, s, api.ErrFull, 0, 1, "p", had[0], "p", "q")
	logIs(t, s, 0, 1, had...)
	push(t, s, api.OK, 0, 1, "q", "q", had[3], "q")
	logIs(t, s, 0, 1, append(had, "q")...)
	push(t, s, api.OK, 0, 1, "q", had[62], had[0])
	push(t, s, api.ErrFull, 0, 1, "p")
	push(t, s, api.ErrFull, 0, 1, "q", "p", "p")
	logIs(t, s, 0, 1, append(had, "q")...)
	push(t, s, api.OK, 0, 2, "p")
	push(t, s, api.OK, 1, 1, "p")
	logIs(t, s, 0, 2, "p")
	logIs(t, s, 1, 1, "p")
}

// P19.2: a pull from each index of logs of each length: at most MaxBatch links, or ErrMore.
func TestPull(t *testing.T) {
	s := server.New()
	texts := counted(0, mostLog)
	for length := range mostLog + 1 {
		for index := range mostLog + 1 {
			if index > length {
				pullError(t, s, 0, 1, index, api.ErrMore)
				continue
			}
			pull(t, s, 0, 1, index, texts[index:min(index+mostBatch, length)]...)
		}
		logIs(t, s, 0, 1, texts[:length]...)
		if length < mostLog {
			push(t, s, api.OK, 0, 1, texts[length])
		}
	}
}

// P19.2: a reply is of the collection that is asked for.
func TestPullOfCollections(t *testing.T) {
	s := server.New()
	for _, collection := range []int{1, 255, 256, 1 << 32, mostNumber - 1, mostNumber} {
		pull(t, s, 0, collection, 0)
		push(t, s, api.OK, 0, collection, fmt.Sprint("of ", collection), "b")
		pull(t, s, 0, collection, 0, fmt.Sprint("of ", collection), "b")
		pull(t, s, 0, collection, 1, "b")
		pull(t, s, 0, collection, 2)
		pullError(t, s, 0, collection, 3, api.ErrMore)
		pullError(t, s, 1, collection, 1, api.ErrMore)
	}
}

// fitting is how many links, of these lengths, a frame has room for.
func fitting(lengths ...int) int {
	size := bareBytes
	for i, n := range lengths {
		size += countBytes + n
		if i >= mostBatch || size > mostFrame {
			return i
		}
	}
	return len(lengths)
}

// pullLong looks at what is pulled of links of these lengths, from each index on.
func pullLong(t *testing.T, lengths ...int) {
	t.Helper()
	s := server.New()
	var texts []string
	for i, n := range lengths {
		texts = append(texts, long(n, i))
		push(t, s, api.OK, 0, 1, texts[i])
	}
	for index := range len(lengths) + 1 {
		pull(t, s, 0, 1, index, texts[index:index+fitting(lengths[index:]...)]...)
	}
}

// P19.2: a reply has at most MaxFrame bytes: just at the bound, below and above it, by the last link, by the first, by all.
func TestPullAtMaxFrame(t *testing.T) {
	room := mostFrame - bareBytes - 7*(countBytes+mostText) - countBytes
	for more := -2; more <= 2; more++ {
		if n := fitting(append(slices.Repeat([]int{mostText}, 7), room+more)...); more <= 0 && n != 8 || more > 0 && n != 7 {
			t.Fatalf("%d bytes more than a frame has: %d links", more, n)
		}
		for place := range mostBatch {
			lengths := slices.Repeat([]int{mostText}, mostBatch)
			lengths[place] = room + more
			pullLong(t, lengths...)
			pullLong(t, append(lengths, 1, 1)...)
		}
		same := (mostFrame-bareBytes)/mostBatch - countBytes
		pullLong(t, slices.Repeat([]int{same + more}, 20)...)
	}
	pullLong(t, slices.Repeat([]int{mostText}, mostLog)...)
	pullLong(t, mostText, mostText, 1, mostText, mostText, mostText, mostText, mostText, mostText, 1, 2, mostText)
	// One that doesn't fit ends the batch, though a later one would fit.
	pullLong(t, append(slices.Repeat([]int{mostText}, 8), 1, 1, 1)...)
}

// P19.2: branches have nothing to do with one another, nor have collections.
func TestLogsAreApart(t *testing.T) {
	s := server.New()
	places := [][2]int{{0, 1}, {1, 1}, {0, 2}, {1, 2}, {0, mostNumber}, {1, mostNumber}}
	for i, at := range places {
		push(t, s, api.OK, at[0], at[1], "same", fmt.Sprint("of ", i))
	}
	for i, at := range places {
		logIs(t, s, at[0], at[1], "same", fmt.Sprint("of ", i))
		pull(t, s, at[0], at[1], 1, fmt.Sprint("of ", i))
	}
	for i, at := range places {
		fill(t, s, at[0], at[1], counted(100*i, mostLog-2)...)
		push(t, s, api.ErrFull, at[0], at[1], "one more")
	}
	for i, at := range places {
		logIs(t, s, at[0], at[1], slices.Concat([]string{"same", fmt.Sprint("of ", i)}, counted(100*i, mostLog-2))...)
	}
}

// P19.3: below 0 is ErrRange, and nothing is changed.
func TestForkBelowNothing(t *testing.T) {
	s := server.New()
	push(t, s, api.OK, 0, 1, "a", "b")
	push(t, s, api.OK, 1, 1, "c")
	push(t, s, api.OK, 1, 2, "d")
	for _, n := range []int{-1, -2, -64, -1 << 32, math.MinInt + 1, math.MinInt} {
		fork(t, s, n, api.ErrRange)
		logIs(t, s, 0, 1, "a", "b")
		logIs(t, s, 1, 1, "c")
		logIs(t, s, 1, 2, "d")
	}
}

// P19.3: each log of the branch 1 is the first n links of the branch 0's, whatever it had.
func TestFork(t *testing.T) {
	for _, n := range []int{0, 1, 2, 3, 4, 5, 6, 63, 64, 65, 1 << 32, math.MaxInt - 1, math.MaxInt} {
		s := server.New()
		logs := map[int][]string{1: counted(0, 3), 2: counted(10, 5), 3: counted(20, 1), 4: counted(100, mostLog), mostNumber: counted(30, 4)}
		for collection, texts := range logs {
			fill(t, s, 0, collection, texts...)
		}
		fill(t, s, 1, 1, counted(200, 2)...)
		fill(t, s, 1, 2, counted(300, 9)...)
		fill(t, s, 1, 7, "of the branch 1 alone")
		// A second time it is the same, as the branch 0 is.
		for range 2 {
			fork(t, s, n, api.OK)
			for collection, texts := range logs {
				logIs(t, s, 0, collection, texts...)
				logIs(t, s, 1, collection, texts[:min(n, len(texts))]...)
			}
			logIs(t, s, 0, 7)
			logIs(t, s, 1, 7)
			pull(t, s, 1, 7, 0)
			pullError(t, s, 1, 7, 1, api.ErrMore)
		}
	}
}

// P19.3: behind a fork each branch goes its own way, and another fork joins them anew.
func TestPushBehindFork(t *testing.T) {
	for length := range 12 {
		for n := range 14 {
			s := server.New()
			texts := counted(0, length)
			fill(t, s, 0, 1, texts...)
			fork(t, s, n, api.OK)
			begun := slices.Clone(texts[:min(n, length)])
			push(t, s, api.OK, 1, 1, "x", "y")
			logIs(t, s, 0, 1, texts...)
			push(t, s, api.OK, 0, 1, "z", "x")
			logIs(t, s, 0, 1, append(slices.Clone(texts), "z", "x")...)
			logIs(t, s, 1, 1, append(slices.Clone(begun), "x", "y")...)
			pull(t, s, 1, 1, len(begun), "x", "y")
			pull(t, s, 0, 1, length, "z", "x")
			if n < length {
				// What is past the fork is new to the branch 1.
				push(t, s, api.OK, 1, 1, texts[n])
				logIs(t, s, 1, 1, append(slices.Clone(begun), "x", "y", texts[n])...)
			}
			fork(t, s, length+1, api.OK)
			logIs(t, s, 1, 1, append(slices.Clone(texts), "z")...)
			logIs(t, s, 0, 1, append(slices.Clone(texts), "z", "x")...)
			push(t, s, api.OK, 0, 1, "v")
			push(t, s, api.OK, 1, 1, "w")
			logIs(t, s, 1, 1, append(slices.Clone(texts), "z", "w")...)
			logIs(t, s, 0, 1, append(slices.Clone(texts), "z", "x", "v")...)
		}
	}
}

// P19.3: a log that was full is not so behind a fork to fewer; a fork to all of a full one makes a full one.
func TestForkOfFull(t *testing.T) {
	s := server.New()
	fill(t, s, 0, 1, counted(0, mostLog)...)
	fill(t, s, 1, 1, counted(500, mostLog)...)
	fork(t, s, mostLog-1, api.OK)
	push(t, s, api.OK, 1, 1, "x")
	push(t, s, api.ErrFull, 1, 1, "y")
	push(t, s, api.ErrFull, 0, 1, "x")
	fork(t, s, mostLog, api.OK)
	push(t, s, api.ErrFull, 1, 1, "x")
	fork(t, s, 0, api.OK)
	fill(t, s, 1, 1, counted(500, mostLog)...)
	logIs(t, s, 0, 1, counted(0, mostLog)...)
	logIs(t, s, 1, 1, counted(500, mostLog)...)
}

// What is handed in is neither changed nor kept, its spare room neither.
func TestArgumentsStay(t *testing.T) {
	s := server.New()
	frames := []frame.Frame{
		pushFrame(1, "a", "b"), pullFrame(1, 0), pushFrame(1, "b", "c", long(4000, 1)), pullFrame(1, 9), {Kind: 3, Collection: 1, Links: linksOf("d")}, pullFrame(1, 2),
	}
	for _, branch := range []int{0, 1, 2} {
		for _, f := range frames {
			b := wire(t, f)
			was := slices.Clone(b[:cap(b)])
			s.Handle(branch, b)
			if !bytes.Equal(b[:cap(b)], was) {
				t.Errorf("a frame of kind %d was changed", f.Kind)
			}
			scribble(b)
		}
	}
	for _, branch := range []int{0, 1} {
		logIs(t, s, branch, 1, "a", "b", "c", long(4000, 1))
		pull(t, s, branch, 1, 1, "b", "c", long(4000, 1))
		push(t, s, api.OK, branch, 1, "a", "b", "c", long(4000, 1))
		logIs(t, s, branch, 1, "a", "b", "c", long(4000, 1))
	}
}

// What is told is new memory: changed, it changes nothing in the server and nothing else that was told.
func TestAnswersAreApart(t *testing.T) {
	s := server.New()
	texts := append(counted(0, 20), long(mostText, 1))
	fill(t, s, 0, 1, texts...)
	fork(t, s, 30, api.OK)
	for _, branch := range []int{0, 1} {
		other := s.Log(1-branch, 1)
		one, two := s.Log(branch, 1), s.Log(branch, 1)
		for i := range one {
			scribble(one[i])
			if string(two[i]) != texts[i] || i+1 < len(one) && string(one[i+1]) != texts[i+1] {
				t.Fatal("two links that were told share memory")
			}
		}
		scribbleAll(one)
		if !slices.Equal(textsOf(two), texts) || !slices.Equal(textsOf(other), texts) {
			t.Fatal("two logs that were told share memory")
		}
		first, _ := s.Handle(branch, wire(t, pullFrame(1, 0)))
		again, _ := s.Handle(branch, wire(t, pullFrame(1, 0)))
		was := slices.Clone(again)
		scribble(first)
		if !bytes.Equal(again, was) {
			t.Fatal("two replies share memory")
		}
		scribble(again)
		logIs(t, s, 0, 1, texts...)
		logIs(t, s, 1, 1, texts...)
		pull(t, s, branch, 1, 0, texts[:mostBatch]...)
	}
}

// What was told stays, whatever comes behind it.
func TestToldStays(t *testing.T) {
	s := server.New()
	fill(t, s, 0, 1, counted(0, 5)...)
	fork(t, s, 5, api.OK)
	logs := [][][]byte{s.Log(0, 1), s.Log(1, 1)}
	reply, _ := s.Handle(1, wire(t, pullFrame(1, 0)))
	was := slices.Clone(reply)
	fill(t, s, 0, 1, counted(5, 3)...)
	fill(t, s, 1, 1, counted(50, 3)...)
	fork(t, s, 2, api.OK)
	fill(t, s, 1, 1, counted(60, 3)...)
	for _, log := range logs {
		if !slices.Equal(textsOf(log), counted(0, 5)) {
			t.Error("a log that was told was changed")
		}
	}
	if !bytes.Equal(reply, was) {
		t.Error("a reply that was told was changed")
	}
}

// model is a server as the document's words say it, with texts in place of bytes.
type model map[[2]int][]string

func (m model) handle(branch int, f frame.Frame, decoded api.Errno) (frame.Frame, api.Errno) {
	if branch != 0 && branch != 1 {
		return frame.Frame{}, api.ErrRange
	}
	if decoded != api.OK {
		return frame.Frame{}, decoded
	}
	at := [2]int{branch, f.Collection}
	switch f.Kind {
	case 1:
		var news []string
		for _, text := range textsOf(f.Links) {
			if !slices.Contains(m[at], text) && !slices.Contains(news, text) {
				news = append(news, text)
			}
		}
		if len(m[at])+len(news) > mostLog {
			return frame.Frame{}, api.ErrFull
		}
		m[at] = slices.Concat(m[at], news)
		return frame.Frame{}, api.OK
	case 2:
		if f.Index > len(m[at]) {
			return frame.Frame{}, api.ErrMore
		}
		var lengths []int
		for _, text := range m[at][f.Index:] {
			lengths = append(lengths, len(text))
		}
		return frame.Frame{Kind: 3, Collection: f.Collection, Index: f.Index, Links: linksOf(m[at][f.Index : f.Index+fitting(lengths...)]...)}, api.OK
	}
	return frame.Frame{}, api.ErrKind
}

func (m model) fork(n int) api.Errno {
	if n < 0 {
		return api.ErrRange
	}
	for _, at := range slices.Collect(maps.Keys(m)) {
		log := m[[2]int{0, at[1]}]
		m[[2]int{1, at[1]}] = slices.Clone(log[:min(n, len(log))])
	}
	return api.OK
}

// handled hands bytes to both, and looks whether they answer alike.
func handled(t testing.TB, s *server.Server, m model, branch int, b []byte) {
	t.Helper()
	f, decoded := frame.Decode(b)
	reply, e := s.Handle(branch, b)
	told, want := m.handle(branch, f, decoded)
	if e != want {
		t.Fatalf("branch %d, frame of kind %d: error %d, want %d", branch, f.Kind, e, want)
	}
	if told.Kind == 0 {
		if len(reply) != 0 {
			t.Fatalf("branch %d, frame of kind %d: a reply", branch, f.Kind)
		}
		return
	}
	if !bytes.Equal(reply, wire(t, told)) {
		t.Fatalf("branch %d, pull from %d: another batch", branch, f.Index)
	}
}

// byChance is some frame, or bytes that are none.
func byChance(t testing.TB, r *rand.Rand, sizes []int) []byte {
	t.Helper()
	f := frame.Frame{Kind: 1, Collection: 1 + r.Intn(4)}
	switch r.Intn(12) {
	case 0, 1, 2, 3:
		f.Kind, f.Index = 2, r.Intn(mostLog+1)
		if r.Intn(2) == 0 {
			f.Index = r.Intn(12)
		}
		return wire(t, f)
	case 4:
		return wire(t, frame.Frame{Kind: 4, Collection: f.Collection, Sum: make([]byte, 32)})
	case 5:
		b := wire(t, pullFrame(1, 0))
		return b[:r.Intn(len(b))]
	}
	for range 1 + r.Intn(7) {
		f.Links = append(f.Links, []byte(long(sizes[r.Intn(len(sizes))], r.Intn(40))))
	}
	return wire(t, f)
}

// All of it, by chance, held against the document's words.
func TestByChance(t *testing.T) {
	for seed := range int64(60) {
		r := rand.New(rand.NewSource(seed))
		s, m := server.New(), model{}
		sizes := [][]int{{1, 2, 3}, {1}, {4096, 4095, 4094}, {1, 100, 4096}}[seed%4]
		for range 250 {
			branch := r.Intn(2)
			switch r.Intn(30) {
			case 0:
				n := r.Intn(mostLog+4) - 2
				if e, want := s.Fork(n), m.fork(n); e != want {
					t.Fatalf("fork of %d: error %d, want %d", n, e, want)
				}
			case 1:
				branch = r.Intn(5) - 2
			}
			handled(t, s, m, branch, byChance(t, r, sizes))
			at := [2]int{r.Intn(4) - 1, r.Intn(6)}
			logIs(t, s, at[0], at[1], m[at]...)
		}
		for branch := range 2 {
			for collection := range 6 {
				logIs(t, s, branch, collection, m[[2]int{branch, collection}]...)
			}
		}
	}
}

// P1: whatever the bytes are, it answers as the document says.
func FuzzHandle(f *testing.F) {
	f.Add(0, []byte(nil), 0)
	f.Add(0, wire(f, pushFrame(1, "a", "b", "a")), 1)
	f.Add(1, wire(f, pullFrame(1, 1)), -1)
	f.Add(-1, wire(f, frame.Frame{Kind: 3, Collection: 5}), 64)
	f.Fuzz(func(t *testing.T, branch int, b []byte, n int) {
		s, m := server.New(), model{}
		for _, first := range []frame.Frame{pushFrame(1, "a", "c"), pushFrame(2, long(4096, 1))} {
			handled(t, s, m, 0, wire(t, first))
		}
		handled(t, s, m, branch, b)
		handled(t, s, m, branch, b)
		if e, want := s.Fork(n), m.fork(n); e != want {
			t.Fatalf("fork of %d: error %d, want %d", n, e, want)
		}
		handled(t, s, m, 1, b)
		for at, log := range m {
			logIs(t, s, at[0], at[1], log...)
		}
	})
}
