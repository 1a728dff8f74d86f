package mode_test

import (
	"math"
	"math/big"
	"math/rand"
	"reflect"
	"testing"

	"bullion/api"
	"bullion/mode"
	"bullion/param"
)

const top = 1<<64 - 1

// simple are the parameters of the document's examples.
func simple() api.Params {
	return api.Params{
		Inc: 10, MaxEff: 30, Floor: 10, Cap: 40, Up: 10, Down: 5,
		Bias: 4, Quot: 100, BiasEm: 8, QuotEm: 50, Recover: 2, ScoreCap: 100,
		Rate: 1 << 20, Bond: 1, Delay: 2, Streak: 4, Boost: 100, Absent: 100, Burn: 5000,
		Churn: 2, Wait: 2, Poll: 2, Enact: 1, Quorum: 3000,
	}
}

// delayed are simple parameters with this delay.
func delayed(ticks int) api.Params {
	p := simple()
	p.Delay = ticks
	return p
}

// right asks that parameters are right.
func right(t *testing.T, p api.Params) api.Params {
	t.Helper()
	if e := param.Check(p); e != api.OK {
		t.Fatalf("%d of %+v", e, p)
	}
	return p
}

// all are parameters with each number at the least, at the greatest, and at another one of its type, one by one; with nothing, and with all of them at the greatest.
func all() []api.Params {
	var full api.Params
	list := []api.Params{simple(), {}}
	for i := range reflect.TypeFor[api.Params]().NumField() {
		set(&full, i, top, math.MaxInt)
		for _, x := range []struct {
			word  uint64
			whole int
		}{{0, math.MinInt}, {0, -1}, {0, 0}, {1, 1}, {top, math.MaxInt}} {
			p := simple()
			set(&p, i, x.word, x.whole)
			list = append(list, p)
		}
	}
	return append(list, full)
}

// set sets the i-th number of parameters, whichever type it has.
func set(p *api.Params, i int, word uint64, whole int) {
	if f := reflect.ValueOf(p).Elem().Field(i); f.CanUint() {
		f.SetUint(word)
	} else {
		f.SetInt(int64(whole))
	}
}

// calms are those at which something changes in Step, in Of by one of these delays, and those around them.
func calms(delays ...int) []int {
	list := []int{
		math.MinInt, math.MinInt + 1, -api.MaxEpoch - 1, -api.MaxEpoch, -1000, -3, -2, -1, 0, 1, 2, 3, 4, 1000,
		api.MaxEpoch - 2, api.MaxEpoch - 1, api.MaxEpoch, api.MaxEpoch + 1, api.MaxEpoch + 2,
		1<<32 - 1, 1 << 32, 1<<32 + 1, math.MaxInt - 1, math.MaxInt,
	}
	for _, n := range delays {
		list = append(list, n)
		if n > math.MinInt {
			list = append(list, n-1)
		}
		if n < math.MaxInt {
			list = append(list, n+1)
		}
	}
	return list
}

// actives are what may be active: small numbers, those of a ledger, and those whose double or triple has more than 64 bits.
func actives() []uint64 {
	list := []uint64{
		0, 1, 2, 3, 4, 5, 6, 7, 8, 9, 10, 29, 30, 31, 99, 100, 101, 300, 1<<32 - 1, 1 << 32, 1<<32 + 1,
		api.MaxStake, api.MaxMembers * api.MaxStake, api.MaxMoney - 1, api.MaxMoney, api.MaxMoney + 1,
		top / 3, top/3 + 1, 1<<63 - 1, 1 << 63, 1<<63 + 1, 3 << 62, top / 3 * 2, top/3*2 + 1,
	}
	for n := range uint64(7) {
		list = append(list, top-n)
	}
	return list
}

// presents are what may be present of what is active: all around two thirds of it, around it, and anything else.
func presents(active uint64) []uint64 {
	third, rest := active/3, active%3
	at := 2*third + 2*rest/3
	list := []uint64{0, 1, 2, 3, third, third + rest, active / 2, active, 1 << 62, 1 << 63, top / 3, top/3 + 1, top - 1, top}
	for n := range uint64(3) {
		if at >= n {
			list = append(list, at-n)
		}
		if active >= n {
			list = append(list, active-n)
		}
		if at <= top-n {
			list = append(list, at+n)
		}
		if active <= top-n {
			list = append(list, active+n)
		}
	}
	return list
}

func num(n uint64) *big.Int { return new(big.Int).SetUint64(n) }

// quorumOf is whether there is a quorum, by the words of chapters 12 and 2, over whole numbers.
func quorumOf(present, active uint64) bool {
	three, two := num(present), num(active)
	three.Mul(three, big.NewInt(3))
	two.Mul(two, big.NewInt(2))
	return active != 0 && three.Cmp(two) > 0
}

// nextOf is how calm it is behind a tick, by the chapter's words, over whole numbers.
func nextOf(calm int, quorum bool) int {
	if quorum {
		return 0
	}
	n := big.NewInt(int64(calm))
	if n.Sign() < 0 {
		n.SetInt64(0)
	}
	n.Add(n, big.NewInt(1))
	if most := big.NewInt(1 << 30); n.Cmp(most) > 0 {
		n = most
	}
	return int(n.Int64())
}

// modeOf is the chapter's Of, each of its cases by itself.
func modeOf(delay, calm int, emergency bool) int {
	if emergency {
		return 4
	}
	if calm > delay {
		return 3
	}
	if calm > 0 {
		return 2
	}
	return 1
}

func stepped(t *testing.T, p api.Params, calm int, present, active uint64) {
	t.Helper()
	want := quorumOf(present, active)
	if next, quorum := mode.Step(p, calm, present, active); quorum != want || next != nextOf(calm, want) {
		t.Fatalf("Step(%d, %d, %d): %d, %t; want %d, %t; of %+v", calm, present, active, next, quorum, nextOf(calm, want), want, p)
	}
}

func told(t *testing.T, p api.Params, calm int, emergency bool) {
	t.Helper()
	if got, want := mode.Of(p, calm, emergency), modeOf(p.Delay, calm, emergency); got != want {
		t.Fatalf("Of(%d, %t): %d, want %d of %+v", calm, emergency, got, want, p)
	}
}

// leaks says whether a tick in a mode leaks, by the document's words.
func leaks(m int) bool { return m == api.ModeLeak || m == api.ModeEmergency }

// P12.1: just at two thirds there is no quorum, above them there is one; of nothing there is none.
func TestQuorum(t *testing.T) {
	for _, x := range []struct {
		present, active uint64
		want            bool
	}{
		{0, 0, false}, {1, 0, false}, {top, 0, false}, {0, 1, false}, {0, top, false},
		{1, 1, true}, {1, 2, false}, {2, 2, true},
		{1, 3, false}, {2, 3, false}, {3, 3, true},
		{2, 4, false}, {3, 4, true}, {3, 5, false}, {4, 5, true},
		{19, 30, false}, {20, 30, false}, {21, 30, true}, {30, 30, true}, {31, 30, true},
		{66, 100, false}, {67, 100, true}, {67, 101, false}, {68, 101, true}, {68, 102, false}, {69, 102, true},
		{2, 1, true}, {100, 3, true}, {top, 1, true}, {top, top - 1, true}, {1 << 63, 1 << 62, true},
		{1 << 62, 1 << 63, false}, {1<<63 - 1, 3 << 62, false}, {1 << 63, 3 << 62, false}, {1<<63 + 1, 3 << 62, true},
		{top/3*2 - 1, top, false}, {top / 3 * 2, top, false}, {top/3*2 + 1, top, true}, {top - 1, top, true}, {top, top, true},
		{top/3*2 - 1, top - 1, false}, {top / 3 * 2, top - 1, true}, {top / 3, top, false}, {top/3 + 1, top, false},
	} {
		want := 8
		if x.want {
			want = 0
		}
		if next, quorum := mode.Step(simple(), 7, x.present, x.active); next != want || quorum != x.want {
			t.Errorf("%d of %d: %d, %t; want %d, %t", x.present, x.active, next, quorum, want, x.want)
		}
	}
}

// P12.1: without a quorum calm is one more, from 0 on where it was below, and up to MaxEpoch.
func TestCalmRises(t *testing.T) {
	for _, x := range []struct{ calm, want int }{
		{math.MinInt, 1}, {math.MinInt + 1, 1}, {-1 << 32, 1}, {-1 << 30, 1}, {-3, 1}, {-2, 1}, {-1, 1},
		{0, 1}, {1, 2}, {2, 3}, {3, 4}, {999, 1000}, {1000, 1001}, {1001, 1002}, {1<<20 - 1, 1 << 20},
		{1<<30 - 3, 1<<30 - 2}, {1<<30 - 2, 1<<30 - 1}, {1<<30 - 1, 1 << 30}, {1 << 30, 1 << 30},
		{1<<30 + 1, 1 << 30}, {1<<30 + 2, 1 << 30}, {1<<31 - 1, 1 << 30}, {1 << 32, 1 << 30},
		{math.MaxInt - 1, 1 << 30}, {math.MaxInt, 1 << 30},
	} {
		for _, part := range []struct{ present, active uint64 }{{20, 30}, {0, 30}, {0, 0}, {9, 0}, {top / 3 * 2, top}} {
			if next, quorum := mode.Step(simple(), x.calm, part.present, part.active); next != x.want || quorum {
				t.Errorf("%d with %d of %d: %d, %t; want %d", x.calm, part.present, part.active, next, quorum, x.want)
			}
		}
	}
}

// P12.1: with a quorum calm is 0 again, whatever it was.
func TestCalmAgain(t *testing.T) {
	for _, calm := range calms(2, api.MaxTicks) {
		for _, part := range []struct{ present, active uint64 }{{21, 30}, {30, 30}, {31, 30}, {1, 1}, {top, 1}, {top, top}} {
			if next, quorum := mode.Step(simple(), calm, part.present, part.active); next != 0 || !quorum {
				t.Errorf("%d with %d of %d: %d, %t", calm, part.present, part.active, next, quorum)
			}
		}
	}
}

// P12.1: p doesn't matter to Step, whether it is right or not.
func TestAnyParams(t *testing.T) {
	for _, p := range all() {
		for _, calm := range calms(p.Delay) {
			for _, active := range []uint64{0, 1, 3, 30, 31, top} {
				for _, present := range presents(active) {
					stepped(t, p, calm, present, active)
				}
			}
		}
	}
}

// P12.1: all that is active, with all that is present around two thirds of it, from each calm, held against whole numbers.
func TestStepAgainstWholeNumbers(t *testing.T) {
	for _, active := range actives() {
		for _, present := range presents(active) {
			for _, calm := range calms(2) {
				stepped(t, simple(), calm, present, active)
			}
		}
	}
	for active := range uint64(100) {
		for present := range uint64(110) {
			for calm := -2; calm < 5; calm++ {
				stepped(t, simple(), calm, present, active)
			}
		}
	}
}

// P12.2: in an emergency it is ModeEmergency, whatever the calm and the delay are.
func TestEmergency(t *testing.T) {
	for _, delay := range []int{math.MinInt, -1, 0, 1, 2, 1000, api.MaxEpoch, math.MaxInt} {
		for _, calm := range calms(delay) {
			if got := mode.Of(delayed(delay), calm, true); got != api.ModeEmergency {
				t.Errorf("calm %d of the delay %d: %d", calm, delay, got)
			}
		}
	}
}

// P12.2: without one it is the leak above the delay, the delay above 0, and else normal.
func TestOf(t *testing.T) {
	const normal, delay, leak = api.ModeNormal, api.ModeDelay, api.ModeLeak
	for _, x := range []struct{ delay, calm, want int }{
		{2, math.MinInt, normal}, {2, -3, normal}, {2, -1, normal}, {2, 0, normal},
		{2, 1, delay}, {2, 2, delay}, {2, 3, leak}, {2, 4, leak}, {2, api.MaxEpoch, leak}, {2, math.MaxInt, leak},
		{1, 0, normal}, {1, 1, delay}, {1, 2, leak},
		{0, math.MinInt, normal}, {0, -1, normal}, {0, 0, normal}, {0, 1, leak}, {0, 2, leak}, {0, math.MaxInt, leak},
		{1000, 0, normal}, {1000, 1, delay}, {1000, 999, delay}, {1000, 1000, delay}, {1000, 1001, leak},
		{api.MaxEpoch, api.MaxEpoch - 1, delay}, {api.MaxEpoch, api.MaxEpoch, delay}, {api.MaxEpoch, api.MaxEpoch + 1, leak},
		{math.MaxInt, math.MinInt, normal}, {math.MaxInt, -1, normal}, {math.MaxInt, 0, normal},
		{math.MaxInt, 1, delay}, {math.MaxInt, math.MaxInt - 1, delay}, {math.MaxInt, math.MaxInt, delay},
		// A delay below 0 is held against the calm as it is, and so is a calm below 0.
		{-1, math.MinInt, normal}, {-1, -2, normal}, {-1, -1, normal}, {-1, 0, leak}, {-1, 1, leak}, {-1, math.MaxInt, leak},
		{-5, -6, normal}, {-5, -5, normal}, {-5, -4, leak}, {-5, -1, leak}, {-5, 0, leak},
		{math.MinInt, math.MinInt, normal}, {math.MinInt, math.MinInt + 1, leak}, {math.MinInt, 0, leak}, {math.MinInt, math.MaxInt, leak},
	} {
		if got := mode.Of(delayed(x.delay), x.calm, false); got != x.want {
			t.Errorf("calm %d of the delay %d: %d, want %d", x.calm, x.delay, got, x.want)
		}
	}
}

// P12.2: of all parameters the delay alone matters, whether they are right or not.
func TestDelayAlone(t *testing.T) {
	for _, p := range all() {
		for _, delay := range []int{math.MinInt, -2, -1, 0, 1, 2, 1000, 1001, api.MaxEpoch, math.MaxInt} {
			p.Delay = delay
			for _, calm := range calms(delay) {
				told(t, p, calm, false)
				told(t, p, calm, true)
			}
		}
	}
}

// P12.2: each delay by each calm, of a few below and above 0.
func TestOfSmall(t *testing.T) {
	for delay := -20; delay < 20; delay++ {
		for calm := -25; calm < 25; calm++ {
			told(t, delayed(delay), calm, false)
			told(t, delayed(delay), calm, true)
		}
	}
}

// P12.3: each mode's word, and nothing of any other number.
func TestWord(t *testing.T) {
	for _, x := range []struct {
		mode int
		want string
	}{
		{1, "normal"}, {2, "delay"}, {3, "leak"}, {4, "emergency"},
		{api.ModeNormal, "normal"}, {api.ModeDelay, "delay"}, {api.ModeLeak, "leak"}, {api.ModeEmergency, "emergency"},
		{0, ""}, {5, ""}, {6, ""}, {7, ""}, {8, ""}, {100, ""}, {256 + 1, ""}, {1<<32 + 1, ""}, {1<<32 + 4, ""},
		{-1, ""}, {-2, ""}, {-3, ""}, {-4, ""}, {-5, ""}, {-1<<32 + 2, ""},
		{math.MinInt, ""}, {math.MinInt + 1, ""}, {math.MinInt + 4, ""}, {math.MaxInt - 1, ""}, {math.MaxInt, ""},
	} {
		if got := mode.Word(x.mode); got != x.want {
			t.Errorf("%d: %q, want %q", x.mode, got, x.want)
		}
	}
}

// P12.3: numbers around the modes, and mixed ones.
func TestNoWord(t *testing.T) {
	dice := rand.New(rand.NewSource(12))
	asked := func(m int) {
		if got := mode.Word(m); (got != "") != (m >= 1 && m <= 4) {
			t.Errorf("%d: %q", m, got)
		}
	}
	for m := -300; m <= 300; m++ {
		asked(m)
	}
	for range 10000 {
		asked(int(dice.Uint64() >> dice.Intn(64)))
	}
}

// P12.2, P12.3: whatever Of answers has a word.
func TestWordOfAny(t *testing.T) {
	for _, p := range all() {
		for _, calm := range calms(p.Delay) {
			for _, emergency := range []bool{false, true} {
				if m := mode.Of(p, calm, emergency); mode.Word(m) == "" {
					t.Fatalf("%d of calm %d of %+v", m, calm, p)
				}
			}
		}
	}
}

// quiet is how many of so many ticks without a quorum don't leak. All of them are to be ahead of those that do.
func quiet(t *testing.T, p api.Params, calm, ticks int, emergency bool) int {
	t.Helper()
	count := 0
	for tick := range ticks {
		next, quorum := mode.Step(p, calm, 20, 30)
		if quorum {
			t.Fatalf("a quorum of 20 of 30 in the tick %d", tick)
		}
		if calm = next; leaks(mode.Of(p, calm, emergency)) {
			continue
		}
		if count != tick {
			t.Fatalf("the tick %d doesn't leak, behind one that does, of the delay %d", tick, p.Delay)
		}
		count++
	}
	return count
}

// P12.4: from any calm on, the first Delay ticks at most don't leak, and all behind them do.
func TestWithoutQuorum(t *testing.T) {
	for _, delay := range []int{0, 1, 2, 3, 10, 63, 500, api.MaxTicks - 1, api.MaxTicks} {
		p := right(t, delayed(delay))
		for _, calm := range calms(delay) {
			// So many ticks as the delay has above what calm is ahead of them, at least none.
			want := max(0, delay-max(0, calm))
			if got := quiet(t, p, calm, delay+10, false); got != want {
				t.Errorf("from calm %d: %d ticks of the delay %d don't leak, want %d", calm, got, delay, want)
			}
			if got := quiet(t, p, calm, delay+10, true); got != 0 {
				t.Errorf("from calm %d: %d ticks of the emergency don't leak", calm, got)
			}
		}
	}
}

// P12.4: each delay that is right, from calm 0 on.
func TestEachDelay(t *testing.T) {
	for delay := range api.MaxTicks + 1 {
		if got := quiet(t, right(t, delayed(delay)), 0, delay+3, false); got != delay {
			t.Errorf("%d ticks of the delay %d don't leak", got, delay)
		}
	}
}

// P12.4: where calm has come to its most it stays there, and it leaks on and on.
func TestLeaksOn(t *testing.T) {
	p := right(t, delayed(api.MaxTicks))
	if got := quiet(t, p, api.MaxEpoch-3, 1000, false); got != 0 {
		t.Errorf("%d ticks don't leak", got)
	}
}

// P12.1, P12.4: a quorum ends the leak at once, and the next ones without one have the whole delay again.
func TestQuorumAgain(t *testing.T) {
	for _, delay := range []int{0, 1, 2, 7, api.MaxTicks} {
		p := right(t, delayed(delay))
		for _, calm := range calms(delay) {
			next, quorum := mode.Step(p, calm, 21, 30)
			if m := mode.Of(p, next, false); next != 0 || !quorum || m != api.ModeNormal {
				t.Errorf("from calm %d: %d, %t, the mode %d of the delay %d", calm, next, quorum, m, delay)
			}
			if got := quiet(t, p, next, delay+3, false); got != delay {
				t.Errorf("behind it %d ticks of the delay %d don't leak", got, delay)
			}
		}
	}
}

// anyNumber is a number of up to 64 bits, of all lengths alike.
func anyNumber(dice *rand.Rand) uint64 {
	return dice.Uint64() >> dice.Intn(64)
}

// P12.1, P12.2: mixed numbers of all lengths, and calms that come by quorums coming and going at random.
func TestMixed(t *testing.T) {
	dice := rand.New(rand.NewSource(120))
	calm := 0
	for range 100000 {
		p := delayed(int(anyNumber(dice)))
		active := anyNumber(dice)
		for _, present := range []uint64{anyNumber(dice), active / 3 * 2, active/3*2 + dice.Uint64()%4} {
			odd := int(anyNumber(dice))
			stepped(t, p, odd, present, active)
			told(t, p, odd, dice.Intn(2) == 0)
			stepped(t, p, calm, present, active)
			told(t, p, calm, dice.Intn(2) == 0)
			calm, _ = mode.Step(p, calm, present, active)
		}
	}
}

// The chapter's examples, and the words of them.
func TestExamples(t *testing.T) {
	p := right(t, simple())
	for calm, want := range []string{"normal", "delay", "delay", "leak"} {
		if got := mode.Word(mode.Of(p, calm, false)); got != want {
			t.Errorf("calm %d: %s, want %s", calm, got, want)
		}
	}
}

// The document's examples of the whole: nobody there is a delay, and so is who is there alone with two fifths, until it leaks in the third tick; both of them are a quorum.
func TestExamplesOfTheWhole(t *testing.T) {
	p := right(t, simple())
	next, quorum := mode.Step(p, 0, 0, 50)
	if m := mode.Of(p, next, false); quorum || m != api.ModeDelay {
		t.Errorf("nobody marked: %t, the mode %d", quorum, m)
	}
	calm := 0
	for tick, want := range []int{api.ModeDelay, api.ModeDelay, api.ModeLeak, api.ModeLeak} {
		calm, quorum = mode.Step(p, calm, 20, 50)
		if m := mode.Of(p, calm, false); quorum || m != want {
			t.Errorf("one of two, the tick %d: %t, the mode %d, want %d", tick, quorum, m, want)
		}
	}
	if next, quorum := mode.Step(p, calm, 50, 50); next != 0 || !quorum {
		t.Errorf("both marked: %d, %t", next, quorum)
	}
}
