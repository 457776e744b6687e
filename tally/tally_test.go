package tally_test

import (
	"math"
	"math/big"
	"slices"
	"testing"

	"locket/api"
	"locket/tally"
)

const most = 1 << 40

// counts are those at the bounds and about them, and some between.
var counts = []int{0, 1, 2, 3, 1000, 1<<32 - 1, 1 << 32, 1<<39 + 1, most - 1, most}

// beyond are ints that are no counts.
var beyond = []int{-1, -2, -most, -most - 1, math.MinInt32, math.MinInt, math.MinInt + 1, most + 1, 2 * most, 1 << 53, 1<<53 + 1, math.MaxInt - 1, math.MaxInt}

// noParts are no part of a tally nor of a step.
var noParts = []float64{
	0.5, -0.5, 1.5, 0.1, -0.1, most - 0.5, -most + 0.5, math.Nextafter(1, 0), math.Nextafter(1, 2), math.Nextafter(most, 0),
	math.SmallestNonzeroFloat64, -math.SmallestNonzeroFloat64, 0x1p-1022,
	most + 1, -most - 1, math.Nextafter(most, math.Inf(1)), math.Nextafter(-most, math.Inf(-1)), most + 0.5,
	2 * most, -2 * most, 1 << 53, 1 << 62, 0x1p63, -0x1p63, 0x1p64, 1e300, math.MaxFloat64, -math.MaxFloat64,
	math.Inf(1), math.Inf(-1), math.NaN(),
}

// below are parts of steps, but not of tallies.
var below = []float64{-1, -2, -1000, -1 << 32, -most + 1, -most}

// noSteps are numbers of which a part, or both, are no part of a step.
func noSteps() []complex128 {
	var all []complex128
	for _, p := range noParts {
		all = append(all, complex(p, 0), complex(0, p), complex(p, p), complex(p, 5), complex(most, p), complex(p, -1))
	}
	return all
}

// noTallies are numbers that are no tallies; some of them are steps.
func noTallies() []complex128 {
	all := noSteps()
	for _, p := range below {
		all = append(all, complex(p, 0), complex(0, p), complex(p, p), complex(p, most), complex(3, p))
	}
	return all
}

// pair is a tally of two counts.
func pair(done, open int) complex128 {
	return complex(float64(done), float64(open))
}

// tallies are the tallies of all pairs of counts.
func tallies() []complex128 {
	var all []complex128
	for _, done := range counts {
		for _, open := range counts {
			all = append(all, pair(done, open))
		}
	}
	return all
}

// check wants an answer beside OK, or 0 beside an error.
func check(t *testing.T, what string, got complex128, e api.Errno, want complex128, wantE api.Errno) {
	t.Helper()
	if wantE != api.OK {
		want = 0
	}
	if got != want || e != wantE {
		t.Errorf("%s: got %v, error %d; want %v, error %d", what, got, e, want, wantE)
	}
}

// The chapter's examples.
func TestExamples(t *testing.T) {
	two, e := tally.Make(2, 3)
	check(t, "Make(2, 3)", two, e, 2+3i, api.OK)
	three, e := tally.Finish(two, 1)
	check(t, "Finish by 1", three, e, 3+2i, api.OK)
	step, e := tally.Step(two, three)
	check(t, "Step", step, e, 1-1i, api.OK)
}

// P6.1: Make answers the tally of two counts.
func TestMake(t *testing.T) {
	for _, done := range counts {
		for _, open := range counts {
			got, e := tally.Make(done, open)
			check(t, "Make", got, e, pair(done, open), api.OK)
		}
	}
}

// P6.1: Make refuses a count beyond a bound, in either place and in both.
func TestMakeBeyond(t *testing.T) {
	for _, bad := range beyond {
		for _, n := range append(slices.Clone(counts), beyond...) {
			got, e := tally.Make(bad, n)
			check(t, "Make with too few or too many done", got, e, 0, api.ErrRange)
			got, e = tally.Make(n, bad)
			check(t, "Make with too few or too many open", got, e, 0, api.ErrRange)
		}
	}
}

// P6.1: Parts tells a tally's parts, each in its place.
func TestParts(t *testing.T) {
	for _, done := range counts {
		for _, open := range counts {
			d, o, ok := tally.Parts(pair(done, open))
			if d != done || o != open || !ok {
				t.Errorf("Parts of %d and %d: got %d, %d, %v", done, open, d, o, ok)
			}
		}
	}
}

// P6.1: Parts tells nothing of what is no tally.
func TestPartsOfNone(t *testing.T) {
	for _, bad := range noTallies() {
		if done, open, ok := tally.Parts(bad); done != 0 || open != 0 || ok {
			t.Errorf("Parts of %v: got %d, %d, %v", bad, done, open, ok)
		}
	}
}

// P6.1: 0 is a count by either sign.
func TestPartsOfNoughtBelow(t *testing.T) {
	nought := math.Copysign(0, -1)
	for _, z := range []complex128{complex(nought, 7), complex(7, nought), complex(nought, nought)} {
		done, open, ok := tally.Parts(z)
		if !ok || pair(done, open) != z {
			t.Errorf("Parts of %v: got %d, %d, %v", z, done, open, ok)
		}
		got, e := tally.Sum(z, z)
		check(t, "Sum", got, e, z+z, api.OK)
	}
}

// P6.2: Sum without steps stays where it is.
func TestSumOfNone(t *testing.T) {
	for _, at := range tallies() {
		got, e := tally.Sum(at)
		check(t, "Sum without steps", got, e, at, api.OK)
		got, e = tally.Sum(at, []complex128{}...)
		check(t, "Sum of an empty list", got, e, at, api.OK)
		got, e = tally.Sum(at, 0, 0, 0)
		check(t, "Sum of steps by 0", got, e, at, api.OK)
	}
}

// P6.2: Sum goes several steps, and both parts by themselves.
func TestSum(t *testing.T) {
	for _, c := range []struct {
		at    complex128
		steps []complex128
		want  complex128
		wantE api.Errno
	}{
		{2 + 3i, []complex128{1 - 1i}, 3 + 2i, api.OK},
		{2 + 3i, []complex128{1 - 1i, -3, 4i}, 6i, api.OK},
		{0, []complex128{1, 1i, 1, 1i, -2 - 2i}, 0, api.OK},
		{0, []complex128{most}, most, api.OK},
		{0, []complex128{most, most * 1i, -most - most*1i}, 0, api.OK},
		{0, []complex128{most, -most, most, -most, most * 1i}, most * 1i, api.OK},
		{most + most*1i, []complex128{-1, -1i, 1, 1i}, most + most*1i, api.OK},
		{1, []complex128{most - 1, 1i, 2i}, most + 3i, api.OK},
		// One step beyond, at the first, between and at the last.
		{0, []complex128{-1}, 0, api.ErrRange},
		{0, []complex128{-1i}, 0, api.ErrRange},
		{most, []complex128{1}, 0, api.ErrRange},
		{most * 1i, []complex128{1i}, 0, api.ErrRange},
		{most, []complex128{most}, 0, api.ErrRange},
		{0, []complex128{-most - most*1i}, 0, api.ErrRange},
		{2 + 3i, []complex128{1, 1, -5}, 0, api.ErrRange},
		{2 + 3i, []complex128{1, 1, -5i}, 0, api.ErrRange},
		// Beyond in between, and back again.
		{2 + 3i, []complex128{-3, 5}, 0, api.ErrRange},
		{2 + 3i, []complex128{5i, -9i, 4i}, 0, api.ErrRange},
		{most, []complex128{1, -1}, 0, api.ErrRange},
		{most * 1i, []complex128{1i, -1i}, 0, api.ErrRange},
		{most + most*1i, []complex128{most, -most}, 0, api.ErrRange},
		// The order of the steps matters.
		{0, []complex128{1, -1}, 0, api.OK},
		{0, []complex128{-1, 1}, 0, api.ErrRange},
	} {
		given := slices.Clone(c.steps)
		got, e := tally.Sum(c.at, c.steps...)
		check(t, "Sum", got, e, c.want, c.wantE)
		if !slices.Equal(c.steps, given) {
			t.Errorf("Sum changed its steps: %v, were %v", c.steps, given)
		}
	}
}

// P6.2: Sum refuses to begin at what is no tally, with and without steps.
func TestSumFromNone(t *testing.T) {
	for _, bad := range noTallies() {
		for _, steps := range [][]complex128{nil, {0}, {1 + 1i}, {most + most*1i}, {-1}, {bad}} {
			got, e := tally.Sum(bad, steps...)
			check(t, "Sum from none", got, e, 0, api.ErrForm)
		}
	}
}

// P6.2: Sum refuses what is no step in any place, ahead of a step that leads beyond.
func TestSumOfNoStep(t *testing.T) {
	for _, bad := range noSteps() {
		for _, steps := range [][]complex128{
			{bad}, {bad, 1, 1i}, {1, bad, 1i}, {1, 1i, bad}, {bad, bad},
			{-1, bad}, {bad, -1}, {1, most, bad}, {-1i, 1i, bad},
		} {
			got, e := tally.Sum(0, steps...)
			check(t, "Sum of no step", got, e, 0, api.ErrForm)
		}
	}
}

// P6.2: a step's parts may be below 0, unlike a tally's.
func TestSumBelow(t *testing.T) {
	for _, p := range below {
		n := -p
		got, e := tally.Sum(complex(n, 5), complex(p, 0))
		check(t, "Sum down to 0 done", got, e, 5i, api.OK)
		got, e = tally.Sum(complex(5, n), complex(0, p))
		check(t, "Sum down to 0 open", got, e, 5, api.OK)
		got, e = tally.Sum(complex(n-1, 5), complex(p, 0))
		check(t, "Sum below 0 done", got, e, 0, api.ErrRange)
		got, e = tally.Sum(complex(5, n-1), complex(0, p))
		check(t, "Sum below 0 open", got, e, 0, api.ErrRange)
	}
}

// P6.2: a great many steps end.
func TestSumOfMany(t *testing.T) {
	steps := slices.Repeat([]complex128{1 + 2i}, 100000)
	got, e := tally.Sum(0, steps...)
	check(t, "Sum of many", got, e, 100000+200000i, api.OK)
	got, e = tally.Sum(0, append(steps, -100001)...)
	check(t, "Sum of many and one beyond", got, e, 0, api.ErrRange)
	got, e = tally.Sum(most, append(steps, 0.5)...)
	check(t, "Sum of many and none", got, e, 0, api.ErrForm)
}

// P6.2: Sum counts on nothing behind its steps, and changes nothing there.
func TestSumSpareRoom(t *testing.T) {
	room := []complex128{1, 2i, -0.5, 7}
	got, e := tally.Sum(0, room[:2]...)
	check(t, "Sum with spare room", got, e, 1+2i, api.OK)
	if !slices.Equal(room, []complex128{1, 2i, -0.5, 7}) {
		t.Errorf("Sum changed its steps or their spare room: %v", room)
	}
}

// P6.2: Step leads from each tally to each other one, and is a step.
func TestStep(t *testing.T) {
	for _, from := range tallies() {
		for _, to := range tallies() {
			step, e := tally.Step(from, to)
			check(t, "Step", step, e, complex(real(to)-real(from), imag(to)-imag(from)), api.OK)
			got, e := tally.Sum(from, step)
			check(t, "Sum of a Step", got, e, to, api.OK)
		}
	}
}

// P6.2: Step refuses what is no tally on either side, and on both.
func TestStepOfNone(t *testing.T) {
	for _, bad := range noTallies() {
		for _, other := range []complex128{0, 2 + 3i, most + most*1i, -1, 0.5, bad} {
			got, e := tally.Step(bad, other)
			check(t, "Step from none", got, e, 0, api.ErrForm)
			got, e = tally.Step(other, bad)
			check(t, "Step to none", got, e, 0, api.ErrForm)
		}
	}
}

// P6.3: Within holds if neither part of a is above b's.
func TestWithin(t *testing.T) {
	for _, done := range counts {
		for _, open := range counts {
			for _, b := range tallies() {
				want := done <= int(real(b)) && open <= int(imag(b))
				if got := tally.Within(pair(done, open), b); got != want {
					t.Errorf("Within(%d + %di, %v): got %v", done, open, b, got)
				}
			}
		}
	}
}

// P6.3: Within of tallies of which one part is above and the other is not.
func TestWithinOnePart(t *testing.T) {
	for _, c := range []struct {
		a, b complex128
		want bool
	}{
		{0, 0, true}, {2 + 3i, 2 + 3i, true}, {most + most*1i, most + most*1i, true},
		{1 + 2i, 1 + 3i, true}, {1 + 3i, 2 + 3i, true},
		{2 + 2i, 1 + 3i, false}, {1 + 4i, 1 + 3i, false}, {1 + 4i, 2 + 3i, false}, {2 + 4i, 1 + 3i, false},
		{3 + 0i, 0 + 3i, false}, {0 + 3i, 3 + 0i, false},
	} {
		if got := tally.Within(c.a, c.b); got != c.want {
			t.Errorf("Within(%v, %v): got %v", c.a, c.b, got)
		}
	}
}

// P6.3: Within doesn't hold with what is no tally on either side, nor on both.
func TestWithinNone(t *testing.T) {
	for _, bad := range noTallies() {
		for _, other := range []complex128{0, 2 + 3i, most + most*1i, -1, 0.5, bad} {
			if tally.Within(bad, other) || tally.Within(other, bad) {
				t.Errorf("Within holds of %v and %v", bad, other)
			}
		}
	}
}

// P6.3: Finish lets none, some or all of the open ones be done, and no more than may be.
func TestFinish(t *testing.T) {
	for _, done := range counts {
		for _, open := range counts {
			for _, n := range append(slices.Clone(counts), open-1, open, open+1, most-done, most-done+1) {
				wantE := api.OK
				if n < 0 || n > open || done+n > most {
					wantE = api.ErrRange
				}
				got, e := tally.Finish(pair(done, open), n)
				check(t, "Finish", got, e, pair(done+n, open-n), wantE)
			}
		}
	}
}

// P6.3: the edges of Finish, one by one.
func TestFinishEdges(t *testing.T) {
	for _, c := range []struct {
		at    complex128
		n     int
		want  complex128
		wantE api.Errno
	}{
		{0, 0, 0, api.OK},
		{1 + 2i, 0, 1 + 2i, api.OK},
		{1 + 2i, 1, 2 + 1i, api.OK},
		{1 + 2i, 2, 3, api.OK},
		{1 + 2i, 3, 0, api.ErrRange},
		{1 + 2i, -1, 0, api.ErrRange},
		{0, 1, 0, api.ErrRange},
		{5, 1, 0, api.ErrRange},
		{most * 1i, most, most, api.OK},
		{most * 1i, most + 1, 0, api.ErrRange},
		{most + 1i, 0, most + 1i, api.OK},
		{most + 1i, 1, 0, api.ErrRange},
		{most - 1 + 2i, 1, most + 1i, api.OK},
		{most - 1 + 2i, 2, 0, api.ErrRange},
		{most + most*1i, most, 0, api.ErrRange},
	} {
		got, e := tally.Finish(c.at, c.n)
		check(t, "Finish", got, e, c.want, c.wantE)
	}
}

// P6.3: Finish refuses an n that is no count, however far off.
func TestFinishBeyond(t *testing.T) {
	for _, n := range beyond {
		for _, at := range tallies() {
			got, e := tally.Finish(at, n)
			check(t, "Finish beyond", got, e, 0, api.ErrRange)
		}
	}
}

// P6.3: Finish refuses what is no tally, ahead of an n that it would refuse.
func TestFinishNone(t *testing.T) {
	for _, bad := range noTallies() {
		for _, n := range []int{0, 1, -1, most, math.MinInt, math.MaxInt} {
			got, e := tally.Finish(bad, n)
			check(t, "Finish of none", got, e, 0, api.ErrForm)
		}
	}
}

// P6.3: Mirror exchanges the parts of a tally, and answers 0 of what is none.
func TestMirror(t *testing.T) {
	for _, done := range counts {
		for _, open := range counts {
			if got := tally.Mirror(pair(done, open)); got != pair(open, done) {
				t.Errorf("Mirror of %d and %d: got %v", done, open, got)
			}
		}
	}
	for _, bad := range noTallies() {
		if got := tally.Mirror(bad); got != 0 {
			t.Errorf("Mirror of %v: got %v", bad, got)
		}
	}
}

// between tells, by exact numbers, whether a part is whole and from low to most.
func between(part float64, low int64) (*big.Int, bool) {
	if math.IsNaN(part) || math.IsInf(part, 0) {
		return nil, false
	}
	n, exact := big.NewFloat(part).Int(nil)
	ok := exact == big.Exact && n.Cmp(big.NewInt(low)) >= 0 && n.Cmp(big.NewInt(most)) <= 0
	return n, ok
}

// split is a number's parts as exact numbers, if it is a tally (low 0) or a step (low -2^40).
func split(z complex128, low int64) (re, im *big.Int, ok bool) {
	re, ok1 := between(real(z), low)
	im, ok2 := between(imag(z), low)
	return re, im, ok1 && ok2
}

// FuzzTally holds all calls against exact numbers, at any two numbers.
func FuzzTally(f *testing.F) {
	f.Add(2.0, 3.0, 1.0, -1.0, 1)
	f.Add(0.0, 0.0, float64(most), float64(most), 0)
	f.Add(float64(most), 1.0, 1.0, 0.0, 1)
	f.Add(math.NaN(), 0.5, math.Inf(1), -1.0, math.MinInt)
	f.Fuzz(func(t *testing.T, a, b, c, d float64, n int) {
		x, y := complex(a, b), complex(c, d)
		re, im, xOK := split(x, 0)
		_, _, yOK := split(y, 0)
		sr, si, step := split(y, -most)

		done, open, ok := tally.Parts(x)
		if ok != xOK || ok && (int64(done) != re.Int64() || int64(open) != im.Int64()) || !ok && (done != 0 || open != 0) {
			t.Errorf("Parts of %v: got %d, %d, %v", x, done, open, ok)
		}

		want, wantE := complex128(0), api.ErrForm
		if xOK && step {
			toRe, toIm := re.Int64()+sr.Int64(), im.Int64()+si.Int64()
			want, wantE = complex(float64(toRe), float64(toIm)), api.OK
			if toRe < 0 || toIm < 0 || toRe > most || toIm > most {
				wantE = api.ErrRange
			}
		}
		got, e := tally.Sum(x, y)
		check(t, "Sum", got, e, want, wantE)

		want, wantE = 0, api.ErrForm
		if xOK && yOK {
			want, wantE = complex(c-a, d-b), api.OK
		}
		got, e = tally.Step(x, y)
		check(t, "Step", got, e, want, wantE)

		if within := tally.Within(x, y); within != (xOK && yOK && a <= c && b <= d) {
			t.Errorf("Within(%v, %v): got %v", x, y, within)
		}

		want, wantE = 0, api.ErrForm
		if xOK {
			want, wantE = pair(done+n, open-n), api.OK
			if n < 0 || n > open || n > most-done {
				wantE = api.ErrRange
			}
		}
		got, e = tally.Finish(x, n)
		check(t, "Finish", got, e, want, wantE)

		want = 0
		if xOK {
			want = complex(b, a)
		}
		if mirror := tally.Mirror(x); mirror != want {
			t.Errorf("Mirror of %v: got %v, want %v", x, mirror, want)
		}
	})
}
