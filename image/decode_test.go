package image_test

import (
	"bytes"
	"math/rand"
	"slices"
	"testing"

	"bullion/api"
)

// samples are states of which each part of their images is tried: one with something in every field, and one with almost nothing.
func samples() []api.State {
	small := bare(1)
	small.Motions = []api.Motion{about(api.MoveParams, api.MotionPassed)}
	small.Motions[0].Params = vast()
	small.Emergency = true
	return []api.State{full(), bare(2), small}
}

// P26.2: bytes of MaxBytes are read, of one more they aren't, whatever they are.
func TestSize(t *testing.T) {
	just := text(measured(t, api.MaxBytes))
	if _, e := decoded(t, just); e != api.OK {
		t.Fatal(e)
	}
	long := slices.Concat(text(full()), make([]byte, api.MaxBytes))
	undecoded(t, long[:api.MaxBytes], api.ErrLeft)
	undecoded(t, long[:api.MaxBytes+1], api.ErrBig)
	for b, e := range map[byte]api.Errno{0: api.ErrParam, 1: api.ErrParam, 128: api.ErrForm, 255: api.ErrForm} {
		undecoded(t, slices.Repeat([]byte{b}, api.MaxBytes), e)
		for _, size := range []int{api.MaxBytes + 1, api.MaxBytes + 2, 1 << 18} {
			undecoded(t, slices.Repeat([]byte{b}, size), api.ErrBig)
		}
	}
	for _, more := range []byte{0, 1, 255} {
		undecoded(t, append(slices.Clone(just), more), api.ErrBig)
	}
	undecoded(t, nil, api.ErrEnd)
	undecoded(t, []byte{}, api.ErrEnd)
}

// P26.2, P26.3: an image that is cut off at any place is refused, and so is one with any byte more.
func TestCut(t *testing.T) {
	list := samples()
	for _, s := range sorts() {
		if len(text(s)) < 2000 {
			list = append(list, s)
		}
	}
	for _, s := range list {
		b := text(s)
		for size := range b {
			undecoded(t, b[:size], api.ErrEnd)
		}
		for more := range 256 {
			undecoded(t, append(slices.Clone(b), byte(more)), api.ErrLeft)
		}
		undecoded(t, slices.Concat(b, b), api.ErrLeft)
		undecoded(t, slices.Concat([]byte{128}, b), api.ErrParam)
	}
}

// P26.3: also a great one, cut off at any place of its front and of its end, and at some between them.
func TestCutGreat(t *testing.T) {
	b := text(great())
	for size := 0; size < len(b); size += 1999 {
		undecoded(t, b[:size], api.ErrEnd)
	}
	for size := range 300 {
		undecoded(t, b[:size], api.ErrEnd)
		undecoded(t, b[:len(b)-size-1], api.ErrEnd)
	}
	for _, more := range []byte{0, 1, 128, 255} {
		undecoded(t, append(slices.Clone(b), more), api.ErrLeft)
	}
}

// fault is bytes that aren't a thing, and what they are answered with.
type fault struct {
	b []byte
	e api.Errno
}

// faultsOf are bytes that can't be read in the place of a part, whatever is behind them.
func faultsOf(p part) []fault {
	over := slices.Clone(p.b[:1])
	if p.kind != raw {
		over = slices.Clone(p.b)
	}
	// A byte more than it needs.
	over[len(over)-1] += 128
	list := []fault{
		{append(over, 0), api.ErrForm},
		{[]byte{128, 0}, api.ErrForm},
		{[]byte{128, 128, 128, 0}, api.ErrForm},
		{[]byte{255, 255, 255, 255, 255, 255, 255, 255, 255, 2}, api.ErrForm},
		{[]byte{128, 128, 128, 128, 128, 128, 128, 128, 128, 128}, api.ErrForm},
		{append(number(mostOf(p.kind)+1), 0), api.ErrForm},
		{number(mostOf(p.kind) + 1), api.ErrForm},
		{number(1<<63 + mostOf(p.kind)), api.ErrForm},
		{number(top), api.ErrForm},
	}
	if p.kind == wide {
		// Each number of 64 bits can be read.
		return list[:5]
	}
	return list
}

// mostOf is the greatest number that can be read in the place of a part.
func mostOf(k kind) uint64 {
	switch k {
	case wide:
		return top
	case short:
		return mostTime
	case flag:
		return 1
	case count:
		return api.MaxBytes
	default:
		return api.MaxBits / 8
	}
}

// ends are bytes behind which a number would go on.
func ends() [][]byte {
	return [][]byte{nil, {128}, {255}, {129, 128, 128}, {255, 255, 255, 255, 255, 255, 255, 255, 255}}
}

// P26.2: each thing of an image that can't be read is told, whatever is behind it.
func TestFaults(t *testing.T) {
	for _, s := range samples() {
		list := partsOf(s)
		for i, p := range list {
			ahead, behind := list[:i].join(), list[i+1:].join()
			for _, end := range ends() {
				undecoded(t, slices.Concat(ahead, end), api.ErrEnd)
			}
			for _, f := range faultsOf(p) {
				undecoded(t, slices.Concat(ahead, f.b), f.e)
				undecoded(t, slices.Concat(ahead, f.b, behind), f.e)
				undecoded(t, slices.Concat(ahead, f.b, []byte{128, 0}), f.e)
			}
		}
	}
}

// P26.2: the greatest number that can be read in each place is read; what follows from it comes behind.
func TestMosts(t *testing.T) {
	seen := map[api.Errno]int{}
	for _, s := range samples() {
		list := partsOf(s)
		for i, p := range list {
			ahead, behind := list[:i].join(), list[i+1:].join()
			most := number(mostOf(p.kind))
			if p.kind == raw {
				undecoded(t, slices.Concat(ahead, most), api.ErrEnd)
				undecoded(t, slices.Concat(ahead, most, make([]byte, 31)), api.ErrEnd)
				most = append(most, make([]byte, 32)...)
			}
			_, e := decoded(t, slices.Concat(ahead, most, behind))
			seen[e]++
			// The next thing is to be read: there is none, or it was the last one of all, or of parameters.
			if _, e := decoded(t, slices.Concat(ahead, most)); e == api.ErrForm || e == api.OK {
				t.Fatalf("%d of the part %d, %+v", e, i, p)
			}
			if p.kind == flag {
				undecoded(t, slices.Concat(ahead, []byte{1}), api.ErrEnd)
				undecoded(t, slices.Concat(ahead, []byte{0}), api.ErrEnd)
			}
		}
	}
	if seen[api.ErrState] < 50 || seen[api.ErrParam] < 20 || seen[api.ErrForm] > 60 {
		t.Fatal(seen)
	}
}

// P26.2: lists are told by numbers up to MaxBytes, and then they end.
func TestCounts(t *testing.T) {
	for _, s := range samples() {
		list := partsOf(s)
		for i, p := range list {
			if p.kind != count {
				continue
			}
			ahead := list[:i].join()
			for _, n := range []uint64{api.MaxBytes - 1, api.MaxBytes} {
				undecoded(t, slices.Concat(ahead, number(n)), api.ErrEnd)
			}
			undecoded(t, slices.Concat(ahead, number(api.MaxBytes), make([]byte, 20000)), api.ErrEnd)
			for _, n := range []uint64{api.MaxBytes + 1, 1 << 18, 1 << 31, 1 << 32, 1 << 63, top} {
				undecoded(t, slices.Concat(ahead, number(n)), api.ErrForm)
				undecoded(t, slices.Concat(ahead, number(n), make([]byte, 1000)), api.ErrForm)
			}
		}
	}
}

// P26.2: lists of more things than fit are read, and only then refused.
func TestLongLists(t *testing.T) {
	for _, long := range []func(s *api.State){
		func(s *api.State) { s.Purses = make([]uint64, 50000) },
		func(s *api.State) { s.Members = make([]api.Member, 5000) },
		func(s *api.State) { s.Entry = make([]int, 50000) },
		func(s *api.State) { s.Exit = make([]int, 120000) },
		func(s *api.State) { s.Pool = make([]api.Deposit, 10000) },
		func(s *api.State) { s.Dues = make([]api.Due, 30000) },
		func(s *api.State) { s.Motions = make([]api.Motion, 4000) },
		func(s *api.State) { s.Ring = make([][]byte, 20000) },
	} {
		s := full()
		long(&s)
		b := text(s)
		undecoded(t, b, api.ErrState)
		undecoded(t, b[:len(b)-1], api.ErrEnd)
		undecoded(t, append(b, 0), api.ErrLeft)
	}
}

// P26.2: strings of bytes of up to MaxBits / 8 bytes are read, and those that are no marks refused behind all else.
func TestRaws(t *testing.T) {
	for _, s := range samples() {
		list := partsOf(s)
		for i, p := range list {
			if p.kind != raw {
				continue
			}
			for n := range 40 {
				x := list.other(i, append(number(uint64(n)), make([]byte, n)...))
				want := api.ErrState
				if n > 32 {
					want = api.ErrForm
				}
				if n != 16 {
					undecoded(t, x.join(), want)
				}
				if n > 32 {
					// Ahead of its bytes.
					undecoded(t, slices.Concat(x[:i].join(), number(uint64(n))), want)
				}
			}
		}
	}
}

// frontOf is how many parts parameters have.
const frontOf = 24

// motionAt is the place of the first part of the parameters in a sample's motion.
func motionAt(list parts) int {
	for i, p := range list {
		if i >= frontOf && p.of == "Params" {
			return i
		}
	}
	return -1
}

// swapped are parts in which parameters are others.
func swapped(list parts, at int, p api.Params) parts {
	var x parts
	x.params(p)
	return slices.Concat(list[:at], x, list[at+frontOf:])
}

// P26.2: parameters that aren't right are told as soon as they were read, at the front and in a motion, whatever is behind them.
func TestParams(t *testing.T) {
	for _, s := range samples() {
		list := partsOf(s)
		for _, at := range []int{0, motionAt(list)} {
			if at < 0 {
				continue
			}
			for _, p := range wrong() {
				x := swapped(list, at, p)
				ahead, behind := x[:at+frontOf].join(), x[at+frontOf:].join()
				for _, b := range [][]byte{nil, {128}, {128, 0}, {255, 255, 255, 255, 255, 255, 255, 255, 255, 2}, behind, append(behind, 7), number(1 << 40)} {
					undecoded(t, slices.Concat(ahead, b), api.ErrParam)
				}
				// One byte less, and they aren't read.
				undecoded(t, ahead[:len(ahead)-1], api.ErrEnd)
			}
		}
	}
}

// P26.2: parameters that aren't right, and a thing that can't be read, ahead of them, in them, and behind them: the first one is told.
func TestParamsAndFaults(t *testing.T) {
	p := with(func(p *api.Params) { p.Inc = 0 })
	for _, s := range samples() {
		list := partsOf(s)
		for _, at := range []int{0, motionAt(list)} {
			if at < 0 {
				continue
			}
			x := swapped(list, at, p)
			for i := range x {
				for _, f := range faultsOf(x[i]) {
					want := f.e
					if i >= at+frontOf {
						want = api.ErrParam
					}
					undecoded(t, x.other(i, f.b).join(), want)
				}
			}
			for i := range at + frontOf {
				undecoded(t, x[:i].join(), api.ErrEnd)
			}
		}
	}
}

// P26.2: of two motions, and of what is in force and a motion, whatever is wrong with the second one, the first one is told.
func TestParamsTwice(t *testing.T) {
	for _, bad := range wrong() {
		front := changed(func(s *api.State) { s.Params = bad })
		undecoded(t, text(front), api.ErrParam)
		front.Motions[0].Params = wrong()[1]
		undecoded(t, text(front), api.ErrParam)
		for _, others := range [][]api.Params{{bad, simple()}, {simple(), bad}, {bad, bad}, {simple(), bad, simple()}, {bad, simple(), simple()}} {
			s := full()
			s.Motions = nil
			for _, p := range others {
				m := about(api.MoveParams, api.MotionOpen)
				m.Params = p
				s.Motions = append(s.Motions, m, about(api.MoveOn, api.MotionOpen))
			}
			b := text(s)
			undecoded(t, b, api.ErrParam)
			undecoded(t, append(b, 1), api.ErrParam)
			undecoded(t, b[:len(b)-1], api.ErrParam)
			s.Treasury++
			undecoded(t, text(s), api.ErrParam)
		}
	}
}

// P26.2: a thing that can't be read, and then an end, or a state that doesn't fit: the first one is told.
func TestTwoFaults(t *testing.T) {
	for _, s := range samples() {
		list := partsOf(s)
		for i := range list {
			for j := i + 1; j <= len(list); j += 1 + len(list)/20 {
				undecoded(t, list.other(i, []byte{128, 0})[:j].join(), api.ErrForm)
			}
		}
		s.Treasury++
		list = partsOf(s)
		for i, p := range list {
			undecoded(t, list[:i].join(), api.ErrEnd)
			undecoded(t, append(list[:i].join(), 128), api.ErrEnd)
			for _, f := range faultsOf(p) {
				undecoded(t, list.other(i, f.b).join(), f.e)
			}
		}
	}
}

// P26.2: a motion has parameters just if its What is MoveParams; any What can be read, and one that there isn't doesn't fit.
func TestWhat(t *testing.T) {
	for what := range 300 {
		m := about(api.MoveSpend, api.MotionOpen)
		m.What = what
		s := changed(func(s *api.State) { s.Motions = []api.Motion{m} })
		switch _, e := decoded(t, text(s)); {
		case what == api.MoveParams && e != api.ErrParam, what >= api.MoveSpend && what <= api.MoveOff && e != api.OK:
			t.Fatal(what, e)
		case (what == 0 || what > api.MoveOff) && e != api.ErrState:
			t.Fatal(what, e)
		}
	}
}

// P26.2: what is left behind all is told ahead of a state that doesn't fit, and behind what can't be read.
func TestLeft(t *testing.T) {
	for _, s := range append(reasons(), full(), bare(1)) {
		b := text(s)
		for _, more := range [][]byte{{0}, {1}, {128}, {255, 255}, b} {
			undecoded(t, slices.Concat(b, more), api.ErrLeft)
		}
	}
	for _, p := range wrong() {
		undecoded(t, append(text(changed(func(s *api.State) { s.Params = p })), 0), api.ErrParam)
	}
	list := partsOf(full())
	for i, p := range list {
		for _, f := range faultsOf(p) {
			undecoded(t, append(list.other(i, f.b).join(), 0), f.e)
		}
	}
}

// P26.2: a state that doesn't fit and has nothing else wrong, for each reason.
func TestState(t *testing.T) {
	for _, s := range reasons() {
		undecoded(t, text(s), api.ErrState)
	}
	for _, s := range unreadable() {
		if _, e := decoded(t, text(s)); e != api.ErrForm && e != api.ErrParam {
			t.Fatal(e, brief(s))
		}
	}
}

// P26.2, P26.3: of any bytes that are almost those of an image; what is decoded has just these bytes.
func TestAlmost(t *testing.T) {
	dice := rand.New(rand.NewSource(26))
	seen := map[api.Errno]int{}
	images := [][]byte{text(full()), text(bare(1)), text(bare(3)), text(samples()[2])}
	for range 25000 {
		b := slices.Clone(images[dice.Intn(len(images))])
		for range dice.Intn(3) {
			b[dice.Intn(len(b))] = byte(dice.Intn(1 + dice.Intn(256)))
		}
		at := dice.Intn(len(b))
		switch dice.Intn(6) {
		case 0:
			b = slices.Delete(b, at, at+1)
		case 1:
			b = slices.Insert(b, at, byte(dice.Intn(256)))
		case 2:
			b = b[:at]
		case 3:
			b[at] ^= 1 << dice.Intn(8)
		}
		_, e := decoded(t, b)
		seen[e]++
	}
	for _, e := range []api.Errno{api.OK, api.ErrEnd, api.ErrForm, api.ErrParam, api.ErrLeft, api.ErrState} {
		if seen[e] < 100 {
			t.Fatal(seen)
		}
	}
}

// P26.2: bytes that are any at all, and any behind parameters that are right.
func TestAnyBytes(t *testing.T) {
	dice := rand.New(rand.NewSource(62))
	front := partsOf(bare(1))[:frontOf].join()
	for range 15000 {
		b := make([]byte, dice.Intn(60))
		for i := range b {
			b[i] = byte(dice.Intn(1 + dice.Intn(256)))
		}
		if dice.Intn(2) == 0 {
			b = slices.Concat(front, b)
		}
		decoded(t, b)
	}
}

// P26.3: there is one image of each state: each byte that is another one makes another state, or none.
func TestEachByte(t *testing.T) {
	for _, s := range samples() {
		b := text(s)
		for i := range b {
			for _, x := range []byte{0, 1, 2, 3, 127, 128, 255, b[i] + 1, b[i] - 1, b[i] ^ 128} {
				other := slices.Clone(b)
				other[i] = x
				after, e := decoded(t, other)
				if e == api.OK && alike(after, s) != bytes.Equal(other, b) {
					t.Fatal("the same state:", brief(other), brief(b))
				}
			}
		}
	}
}
