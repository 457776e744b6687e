package chain_test

import (
	"bytes"
	"crypto/sha256"
	"fmt"
	"math"
	"math/rand"
	"slices"
	"testing"

	"locket/api"
	"locket/chain"
	"locket/suite"
)

const (
	mostNumber = 1 << 40
	mostText   = 4096
	mostLog    = 64
)

// suites are the kinds of them, each made anew.
var suites = []struct {
	name string
	make func() *suite.Suite
}{
	{"signs", suite.Signs},
	{"real", func() *suite.Suite { return suite.Real([]byte("a seed")) }},
}

// onEach runs a test with a suite of each kind.
func onEach(t *testing.T, run func(t *testing.T, s *suite.Suite)) {
	t.Helper()
	for _, kind := range suites {
		t.Run(kind.name, func(t *testing.T) { run(t, kind.make()) })
	}
}

// text is n bytes, of which no two neighbours are the same.
func text(n, from int) []byte {
	b := make([]byte, n)
	for i := range b {
		b[i] = byte(i*7 + from)
	}
	return b
}

// begun wants OK of New.
func begun(t *testing.T, s *suite.Suite, collection int) *chain.Chain {
	t.Helper()
	c, e := chain.New(s, collection)
	if e != api.OK || c == nil {
		t.Fatalf("New of %d: %v, error %d", collection, c, e)
	}
	return c
}

// add wants OK of Append.
func add(t *testing.T, c *chain.Chain, links ...[]byte) {
	t.Helper()
	for _, b := range links {
		if e := c.Append(b); e != api.OK {
			t.Fatalf("Append of %d bytes to %d links: error %d", len(b), c.Len(), e)
		}
	}
}

// having is a chain of these links.
func having(t *testing.T, s *suite.Suite, collection int, links ...[]byte) *chain.Chain {
	t.Helper()
	c := begun(t, s, collection)
	add(t, c, links...)
	return c
}

// short are n links of a byte each.
func short(n int) [][]byte {
	var links [][]byte
	for i := range n {
		links = append(links, []byte{byte(i)})
	}
	return links
}

// inSix is a number in six bytes, the highest first.
func inSix(n int) []byte {
	return []byte{byte(n >> 40), byte(n >> 32), byte(n >> 24), byte(n >> 16), byte(n >> 8), byte(n)}
}

// sumsOf are the sums for each length, by a function that sums bytes.
func sumsOf(sum func([]byte) []byte, collection int, links [][]byte) [][]byte {
	sums := [][]byte{sum(append([]byte("locket"), inSix(collection)...))}
	for i, b := range links {
		sums = append(sums, sum(slices.Concat(sums[i], b)))
	}
	return sums
}

// bySHA sums by the library.
func bySHA(b []byte) []byte {
	sum := sha256.Sum256(b)
	return sum[:]
}

// holds wants a chain to tell just these links, and these sums for their lengths.
func holds(t *testing.T, what string, c *chain.Chain, links, sums [][]byte) {
	t.Helper()
	if c.Len() != len(links) {
		t.Fatalf("%s: Len is %d of %d", what, c.Len(), len(links))
	}
	for i, want := range links {
		if b, ok := c.Link(i); !ok || !bytes.Equal(b, want) {
			t.Fatalf("%s: link %d is %.40x, %v", what, i, b, ok)
		}
	}
	for i, want := range sums {
		h, ok := c.At(i)
		if !ok || h.Index != i || !bytes.Equal(h.Sum, want) {
			t.Fatalf("%s: at %d is %v, %v, not %x", what, i, h, ok, want)
		}
		if e := c.Check(chain.Head{Index: i, Sum: want}); e != api.OK {
			t.Fatalf("%s: Check of its own head %d: error %d", what, i, e)
		}
	}
	if h := c.Head(); h.Index != len(links) || !bytes.Equal(h.Sum, sums[len(links)]) {
		t.Fatalf("%s: head %v", what, h)
	}
}

// checks wants an answer of Check.
func checks(t *testing.T, what string, c *chain.Chain, h chain.Head, want api.Errno) {
	t.Helper()
	if e := c.Check(h); e != want {
		t.Errorf("%s: Check tells %d, not %d", what, e, want)
	}
}

// at wants a head of a length.
func at(t *testing.T, c *chain.Chain, i int) chain.Head {
	t.Helper()
	h, ok := c.At(i)
	if !ok {
		t.Fatalf("no head of %d", i)
	}
	return h
}

func TestExample(t *testing.T) {
	onEach(t, func(t *testing.T, s *suite.Suite) {
		one := having(t, s, 7, []byte("a"), []byte("b"))
		other := having(t, s, 7, []byte("a"), []byte("c"))
		for i, want := range []api.Errno{api.OK, api.OK, api.ErrFork} {
			checks(t, fmt.Sprint("one of ", i), one, at(t, other, i), want)
			checks(t, fmt.Sprint("other of ", i), other, at(t, one, i), want)
		}
	})
}

func TestNewBounds(t *testing.T) {
	onEach(t, func(t *testing.T, s *suite.Suite) {
		for _, n := range []int{1, 2, 255, 256, 65536, mostNumber - 1, mostNumber} {
			holds(t, fmt.Sprint(n), begun(t, s, n), nil, sumsOf(func(b []byte) []byte { return s.Sum(b) }, n, nil))
		}
		before := s.Count()
		for _, n := range []int{0, -1, -mostNumber, mostNumber + 1, 1 << 48, 1<<48 + 1, math.MaxInt, math.MinInt} {
			if c, e := chain.New(s, n); c != nil || e != api.ErrRange {
				t.Errorf("New of %d: %v, error %d", n, c, e)
			}
		}
		if s.Count() != before {
			t.Errorf("refused News ask for %d sums", s.Count()-before)
		}
	})
}

func TestAppendSizes(t *testing.T) {
	onEach(t, func(t *testing.T, s *suite.Suite) {
		c := begun(t, s, 3)
		links := [][]byte{}
		sums := func() [][]byte {
			return sumsOf(func(b []byte) []byte { return s.Sum(b) }, 3, links)
		}
		for _, n := range []int{1, 2, 31, 32, 33, 1000, mostText - 1, mostText} {
			links = append(links, text(n, n))
			add(t, c, links[len(links)-1])
			holds(t, fmt.Sprint(n), c, links, sums())
		}
		before := s.Count()
		for _, b := range [][]byte{nil, {}, text(mostText+1, 1), text(mostText*2, 1), text(65537, 1)} {
			if e := c.Append(b); e != api.ErrSize {
				t.Errorf("Append of %d bytes: error %d", len(b), e)
			}
		}
		if s.Count() != before {
			t.Error("refused Appends ask for sums")
		}
		holds(t, "refused", c, links, sums())
	})
}

func TestAppendIsFull(t *testing.T) {
	onEach(t, func(t *testing.T, s *suite.Suite) {
		c := begun(t, s, 3)
		links := short(mostLog)
		add(t, c, links...)
		sums := sumsOf(func(b []byte) []byte { return s.Sum(b) }, 3, links)
		holds(t, "full", c, links, sums)
		before := s.Count()
		for _, n := range []int{1, 2, mostText} {
			if e := c.Append(text(n, 9)); e != api.ErrFull {
				t.Errorf("Append of %d bytes to a full one: error %d", n, e)
			}
		}
		// Of both errors the size is named first.
		for _, n := range []int{0, mostText + 1} {
			if e := c.Append(text(n, 9)); e != api.ErrSize {
				t.Errorf("Append of %d bytes to a full one: error %d", n, e)
			}
		}
		if s.Count() != before {
			t.Error("refused Appends ask for sums")
		}
		holds(t, "still full", c, links, sums)
	})
}

func TestSumsBySHA(t *testing.T) {
	s := suite.Real(nil)
	for _, collection := range []int{1, 258, 1<<32 + 5, mostNumber} {
		links := [][]byte{[]byte("a"), []byte("locket"), text(mostText, 3), text(64, 9), []byte("a")}
		holds(t, fmt.Sprint(collection), having(t, s, collection, links...), links, sumsOf(bySHA, collection, links))
	}
	if s.Count() != 0 {
		t.Error("keys were drawn")
	}
}

func TestSumsAreAskedOnce(t *testing.T) {
	s := suite.Signs()
	c := begun(t, s, 9)
	if s.Count() != 1 {
		t.Fatalf("New leaves %d signs", s.Count())
	}
	for i := range mostLog {
		add(t, c, text(i+1, i))
		if s.Count() != i+2 {
			t.Fatalf("Append %d leaves %d signs", i, s.Count())
		}
		h := c.Head()
		// A sign tells its number last.
		if h.Sum[31] != byte(i+2) {
			t.Fatalf("head %v", h)
		}
		c.At(i)
		c.At(-1)
		c.At(i + 2)
		c.Link(i)
		c.Len()
		c.Append(nil)
		c.Check(h)
		c.Check(chain.Head{})
		c.Check(chain.Head{Index: -1})
		c.Check(chain.Head{Index: 99, Sum: h.Sum})
		if s.Count() != i+2 {
			t.Fatalf("what asks leaves %d signs", s.Count())
		}
	}
}

func TestLinkAndAtBeyond(t *testing.T) {
	onEach(t, func(t *testing.T, s *suite.Suite) {
		for _, n := range []int{0, 1, 5, mostLog} {
			c := having(t, s, 2, short(n)...)
			for _, i := range []int{-1, n, n + 1, mostLog, mostLog + 1, -mostLog, math.MaxInt, math.MinInt} {
				if b, ok := c.Link(i); len(b) != 0 || ok {
					t.Errorf("of %d the link %d is %x, %v", n, i, b, ok)
				}
			}
			for _, i := range []int{-1, n + 1, n + 2, mostLog + 1, -mostLog, math.MaxInt, math.MinInt} {
				if h, ok := c.At(i); h.Index != 0 || len(h.Sum) != 0 || ok {
					t.Errorf("of %d the head %d is %v, %v", n, i, h, ok)
				}
			}
		}
	})
}

func TestCheckIndex(t *testing.T) {
	onEach(t, func(t *testing.T, s *suite.Suite) {
		c := having(t, s, 2, short(3)...)
		right := c.Head().Sum
		for _, i := range []int{-1, -2, -3, math.MinInt} {
			checks(t, fmt.Sprint(i), c, chain.Head{Index: i, Sum: right}, api.ErrRange)
			checks(t, fmt.Sprint(i, " without a sum"), c, chain.Head{Index: i}, api.ErrRange)
		}
		for _, i := range []int{4, 5, mostLog, mostLog + 1, math.MaxInt} {
			checks(t, fmt.Sprint(i), c, chain.Head{Index: i, Sum: right}, api.ErrMore)
			checks(t, fmt.Sprint(i, " without a sum"), c, chain.Head{Index: i}, api.ErrMore)
		}
	})
}

func TestCheckSum(t *testing.T) {
	onEach(t, func(t *testing.T, s *suite.Suite) {
		c := having(t, s, 2, short(mostLog)...)
		for i := range mostLog + 1 {
			sum := at(t, c, i).Sum
			what := fmt.Sprint("length ", i)
			checks(t, what, c, chain.Head{Index: i, Sum: sum}, api.OK)
			wrong := [][]byte{nil, {}, sum[:1], sum[:31], sum[1:], append(bytes.Clone(sum), 0), slices.Concat(sum, sum), make([]byte, 32)}
			for place := range sum {
				other := bytes.Clone(sum)
				other[place] ^= 1 << (place % 8)
				wrong = append(wrong, other)
			}
			for _, b := range wrong {
				checks(t, fmt.Sprintf("%s, %x", what, b), c, chain.Head{Index: i, Sum: b}, api.ErrFork)
			}
			for j := range mostLog + 1 {
				want := api.ErrFork
				if i == j {
					want = api.OK
				}
				checks(t, fmt.Sprintf("%s, sum of %d", what, j), c, chain.Head{Index: j, Sum: sum}, want)
			}
		}
	})
}

func TestCheckOfAnother(t *testing.T) {
	onEach(t, func(t *testing.T, s *suite.Suite) {
		links := [][]byte{[]byte("a"), []byte("bb"), []byte("a"), text(mostText, 1), []byte("d")}
		c := having(t, s, 5, links...)
		same := having(t, s, 5, links...)
		for i := range links {
			checks(t, "the same", c, at(t, same, i), api.OK)
		}
		checks(t, "the same", c, same.Head(), api.OK)
		for differs := range links {
			changed := slices.Clone(links)
			changed[differs] = append(bytes.Clone(links[differs][1:]), 'x')
			other := having(t, s, 5, changed...)
			for i := range len(links) + 1 {
				want := api.OK
				if i > differs {
					want = api.ErrFork
				}
				checks(t, fmt.Sprintf("link %d differs, length %d", differs, i), c, at(t, other, i), want)
				checks(t, fmt.Sprintf("link %d differs, length %d", differs, i), other, at(t, c, i), want)
			}
		}
		for _, number := range []int{1, 4, 6, 5 << 8, mostNumber} {
			other := having(t, s, number, links...)
			for i := range len(links) + 1 {
				checks(t, fmt.Sprintf("number %d, length %d", number, i), c, at(t, other, i), api.ErrFork)
			}
		}
		shorter := having(t, s, 5, links[:2]...)
		checks(t, "a shorter one", c, shorter.Head(), api.OK)
		checks(t, "a longer one", shorter, c.Head(), api.ErrMore)
	})
}

// The bytes of two links together are those of one: the sums must differ all the same.
func TestLinksAreApart(t *testing.T) {
	onEach(t, func(t *testing.T, s *suite.Suite) {
		one := having(t, s, 5, []byte("ab"), []byte("c"))
		other := having(t, s, 5, []byte("a"), []byte("bc"))
		checks(t, "length 2", one, other.Head(), api.ErrFork)
		checks(t, "length 1", one, at(t, other, 1), api.ErrFork)
		swapped := having(t, s, 5, []byte("c"), []byte("ab"))
		checks(t, "swapped", one, swapped.Head(), api.ErrFork)
	})
}

func TestChainsOfOtherSuites(t *testing.T) {
	// Real sums hang on no seed; signs are those of their suite.
	one := having(t, suite.Real([]byte("a")), 5, short(3)...)
	other := having(t, suite.Real([]byte("b")), 5, short(3)...)
	checks(t, "real", one, other.Head(), api.OK)
	signs := having(t, suite.Signs(), 5, short(3)...)
	checks(t, "signs", one, signs.Head(), api.ErrFork)
	checks(t, "real", signs, one.Head(), api.ErrFork)
}

// scribble changes bytes and their spare room.
func scribble(b []byte) {
	for i := range b[:cap(b)] {
		b[:cap(b)][i] ^= 0xff
	}
}

func TestMemory(t *testing.T) {
	onEach(t, func(t *testing.T, s *suite.Suite) {
		links := [][]byte{[]byte("a"), text(100, 1), text(mostText, 2)}
		sums := sumsOf(func(b []byte) []byte { return s.Sum(b) }, 5, links)
		c := begun(t, s, 5)
		for _, b := range links {
			room := append(make([]byte, 0, 2*len(b)), b...)
			whole := bytes.Clone(room[:cap(room)])
			add(t, c, room)
			if !bytes.Equal(room[:cap(room)], whole) {
				t.Error("Append changes what it is handed")
			}
			scribble(room)
		}
		holds(t, "links scribbled", c, links, sums)
		for i := range links {
			b, _ := c.Link(i)
			again, _ := c.Link(i)
			scribble(b)
			if !bytes.Equal(again, links[i]) {
				t.Error("two answers of Link share memory")
			}
		}
		for i := range sums {
			h := at(t, c, i)
			again := at(t, c, i)
			scribble(h.Sum)
			if !bytes.Equal(again.Sum, sums[i]) {
				t.Error("two answers of At share memory")
			}
		}
		h, again := c.Head(), c.Head()
		scribble(h.Sum)
		if !bytes.Equal(again.Sum, sums[3]) {
			t.Error("two answers of Head share memory")
		}
		holds(t, "answers scribbled", c, links, sums)
		add(t, c, []byte("z"))
		links = append(links, []byte("z"))
		holds(t, "gone on", c, links, sumsOf(func(b []byte) []byte { return s.Sum(b) }, 5, links))
	})
}

func TestCheckMemory(t *testing.T) {
	c := having(t, suite.Signs(), 5, short(3)...)
	for i := range 4 {
		room := append(make([]byte, 0, 99), at(t, c, i).Sum...)
		whole := bytes.Clone(room[:cap(room)])
		checks(t, "room", c, chain.Head{Index: i, Sum: room}, api.OK)
		if !bytes.Equal(room[:cap(room)], whole) {
			t.Error("Check changes what it is handed")
		}
		scribble(room)
		checks(t, "scribbled", c, at(t, c, i), api.OK)
		checks(t, "scribbled", c, chain.Head{Index: i, Sum: room}, api.ErrFork)
	}
}

// plain is a chain as the document tells it, its links alone.
type plain struct {
	collection int
	links      [][]byte
}

// agrees tells whether two have the same number and links up to a length.
func (p plain) agrees(q plain, length int) bool {
	return p.collection == q.collection && slices.EqualFunc(p.links[:length], q.links[:length], bytes.Equal)
}

func TestLongWays(t *testing.T) {
	onEach(t, func(t *testing.T, s *suite.Suite) {
		rng := rand.New(rand.NewSource(12))
		var chains []*chain.Chain
		var plains []plain
		for range 12 {
			n := 1 + rng.Intn(2)
			chains = append(chains, begun(t, s, n))
			plains = append(plains, plain{collection: n})
		}
		for range 1500 {
			k := rng.Intn(len(chains))
			b := bytes.Repeat([]byte{byte(rng.Intn(2))}, rng.Intn(3))
			want := api.OK
			switch {
			case len(b) == 0:
				want = api.ErrSize
			case len(plains[k].links) == mostLog:
				want = api.ErrFull
			default:
				plains[k].links = append(plains[k].links, b)
			}
			if e := chains[k].Append(b); e != want {
				t.Fatalf("Append tells %d, not %d", e, want)
			}
			j := rng.Intn(len(chains))
			i := rng.Intn(len(plains[j].links) + 1)
			expect := api.OK
			if i > len(plains[k].links) {
				expect = api.ErrMore
			} else if !plains[k].agrees(plains[j], i) {
				expect = api.ErrFork
			}
			checks(t, fmt.Sprint("length ", i), chains[k], at(t, chains[j], i), expect)
		}
		for k, c := range chains {
			holds(t, fmt.Sprint("chain ", k), c, plains[k].links, sumsOf(func(b []byte) []byte { return s.Sum(b) }, plains[k].collection, plains[k].links))
		}
	})
}
