package line_test

import (
	"math"
	"math/rand"
	"slices"
	"testing"

	"bullion/api"
	"bullion/line"
)

// upTo are the numbers from 0 on, so many of them.
func upTo(n int) []int {
	list := make([]int, n)
	for i := range list {
		list[i] = i
	}
	return list
}

// put is a list with some of its places written over.
func put(list []int, x int, places ...int) []int {
	list = slices.Clone(list)
	for _, place := range places {
		list[place] = x
	}
	return list
}

// of is a line of some.
func of(t *testing.T, list ...int) *line.Line {
	t.Helper()
	l, e := line.New(list...)
	if e != api.OK || l == nil {
		t.Fatalf("New(%v): %v, %d", list, l, e)
	}
	return l
}

// full is a line of MaxLine, from 0 on.
func full(t *testing.T) *line.Line {
	t.Helper()
	return of(t, upTo(api.MaxLine)...)
}

// held asks that just these wait, in that order, each at its place, and that no question changes that.
func held(t *testing.T, l *line.Line, want ...int) {
	t.Helper()
	for range 2 {
		if got := l.List(); !slices.Equal(got, want) {
			t.Fatalf("List: %v, want %v", got, want)
		}
		if n := l.Len(); n != len(want) {
			t.Fatalf("Len: %d, want %d of %v", n, len(want), want)
		}
		for place, x := range want {
			if at, ok := l.Place(x); at != place || !ok {
				t.Fatalf("Place(%d): %d, %t, want %d of %v", x, at, ok, place, want)
			}
		}
		for _, x := range []int{-1, math.MinInt, 0, 1, 2, 7, api.MaxLine, 1 << 32, math.MaxInt - 1, math.MaxInt} {
			if at, ok := l.Place(x); !slices.Contains(want, x) && (at != 0 || ok) {
				t.Fatalf("Place(%d): %d, %t of %v", x, at, ok, want)
			}
		}
	}
}

// pushed, popped and dropped ask what is answered.
func pushed(t *testing.T, l *line.Line, x int, want api.Errno) {
	t.Helper()
	if e := l.Push(x); e != want {
		t.Fatalf("Push(%d): %d, want %d", x, e, want)
	}
}

func popped(t *testing.T, l *line.Line, most int, want ...int) {
	t.Helper()
	if got := l.Pop(most); !slices.Equal(got, want) {
		t.Fatalf("Pop(%d): %v, want %v", most, got, want)
	}
}

func dropped(t *testing.T, l *line.Line, x int, want bool) {
	t.Helper()
	if got := l.Drop(x); got != want {
		t.Fatalf("Drop(%d): %t, want %t", x, got, want)
	}
}

// refused asks that there is no line of these.
func refused(t *testing.T, want api.Errno, list ...int) {
	t.Helper()
	if l, e := line.New(list...); l != nil || e != want {
		t.Errorf("New of %d, first %v: %v, %d, want %d", len(list), list[:min(len(list), 9)], l, e, want)
	}
}

// P16.1: a line of none at all, of one, of some, of MaxLine; of one more there is none.
func TestNew(t *testing.T) {
	held(t, of(t))
	held(t, of(t, []int(nil)...))
	held(t, of(t, []int{}...))
	for _, list := range [][]int{{0}, {1}, {math.MaxInt}, {4, 7, 9}, {9, 7, 4}, {0, math.MaxInt}, {math.MaxInt, 0, math.MaxInt - 1}, {2, 0, 1}} {
		held(t, of(t, list...), list...)
	}
	for _, n := range []int{2, api.MaxLine - 1, api.MaxLine} {
		list := upTo(n)
		held(t, of(t, list...), list...)
		slices.Reverse(list)
		held(t, of(t, list...), list...)
	}
	refused(t, api.ErrFull, upTo(api.MaxLine+1)...)
	refused(t, api.ErrFull, upTo(2*api.MaxLine)...)
	refused(t, api.ErrFull, upTo(1<<20)...)
}

// P16.1: a number below 0 is refused, at the first, each middle and the last place.
func TestNewBelowNought(t *testing.T) {
	for _, x := range []int{-1, -2, -5, math.MinInt + 1, math.MinInt} {
		refused(t, api.ErrArg, x)
		for _, n := range []int{2, 3, 7, api.MaxLine} {
			for place := range n {
				refused(t, api.ErrArg, put(upTo(n), x, place)...)
			}
		}
	}
}

// P16.1: two that are the same are refused, side by side and far from each other.
func TestNewTwice(t *testing.T) {
	refused(t, api.ErrTwice, 0, 0)
	refused(t, api.ErrTwice, math.MaxInt, math.MaxInt)
	refused(t, api.ErrTwice, 5, 5, 5)
	refused(t, api.ErrTwice, 5, 6, 5, 6)
	for _, n := range []int{3, 4, 9} {
		for first := range n {
			for second := range first {
				refused(t, api.ErrTwice, put(upTo(n), 12, first, second)...)
				refused(t, api.ErrTwice, put(upTo(n), second, first)...)
			}
		}
	}
	most := upTo(api.MaxLine)
	for place := range api.MaxLine - 1 {
		refused(t, api.ErrTwice, put(most, 999, place, place+1)...)
		refused(t, api.ErrTwice, put(most, place, api.MaxLine-1)...)
		refused(t, api.ErrTwice, put(most, api.MaxLine-1, place)...)
	}
	refused(t, api.ErrTwice, make([]int, api.MaxLine)...)
}

// P16.1: of several faults the first one in the chapter's order is told, wherever they stand.
func TestNewOfSeveralFaults(t *testing.T) {
	// Below 0 and twice, also the same number below 0.
	refused(t, api.ErrArg, 3, 3, -1)
	refused(t, api.ErrArg, -1, 3, 3)
	refused(t, api.ErrArg, 3, -1, 3)
	refused(t, api.ErrArg, -1, -1)
	refused(t, api.ErrArg, math.MinInt, 4, math.MinInt)
	for _, n := range []int{api.MaxLine + 1, api.MaxLine + 2, 3 * api.MaxLine, 1 << 18} {
		list := upTo(n)
		middle, last := n/2, n-1
		for _, place := range []int{0, 1, middle, api.MaxLine - 1, api.MaxLine, last} {
			// Below 0 and too many.
			refused(t, api.ErrArg, put(list, -1, place)...)
		}
		for _, x := range []struct{ from, to int }{{0, 1}, {0, last}, {middle, middle - 1}, {last - 1, last}, {api.MaxLine, api.MaxLine - 1}, {api.MaxLine, 0}} {
			// Twice and too many.
			refused(t, api.ErrTwice, put(list, x.from, x.to)...)
		}
		// All three.
		refused(t, api.ErrArg, put(put(list, 0, last), -1, middle)...)
		refused(t, api.ErrArg, put(put(list, 0, 1), -1, last)...)
		refused(t, api.ErrArg, put(put(list, last, middle), -1, 0)...)
		refused(t, api.ErrTwice, make([]int, n)...)
		refused(t, api.ErrArg, put(make([]int, n), -7, last)...)
	}
}

// P16.1: who is pushed waits as the last one: 0, the greatest number, and others, into a line of none and of some.
func TestPush(t *testing.T) {
	for _, list := range [][]int{{}, {5}, {5, 3, 8}} {
		for _, x := range []int{0, 1, 4, 9, 1 << 32, math.MaxInt - 1, math.MaxInt} {
			l := of(t, list...)
			pushed(t, l, x, api.OK)
			held(t, l, append(slices.Clone(list), x)...)
		}
	}
	l := of(t)
	for x := range api.MaxLine {
		pushed(t, l, api.MaxLine-x, api.OK)
		if at, ok := l.Place(api.MaxLine - x); at != x || !ok {
			t.Fatal(x, at, ok)
		}
	}
	want := upTo(api.MaxLine + 1)[1:]
	slices.Reverse(want)
	held(t, l, want...)
}

// P16.1: a number below 0 can't wait, whoever does.
func TestPushBelowNought(t *testing.T) {
	for _, n := range []int{0, 1, 3, api.MaxLine - 1, api.MaxLine} {
		l := of(t, upTo(n)...)
		for _, x := range []int{-1, -2, -api.MaxLine, math.MinInt + 1, math.MinInt} {
			pushed(t, l, x, api.ErrArg)
		}
		held(t, l, upTo(n)...)
	}
}

// P16.1: who waits can't wait twice, at the first, each middle and the last place.
func TestPushTwice(t *testing.T) {
	for _, list := range [][]int{{0}, {math.MaxInt}, {5, 3, 8}, {0, math.MaxInt, 7, 1}} {
		l := of(t, list...)
		for _, x := range list {
			pushed(t, l, x, api.ErrTwice)
			held(t, l, list...)
		}
	}
	l := of(t)
	pushed(t, l, 6, api.OK)
	pushed(t, l, 6, api.ErrTwice)
	held(t, l, 6)
}

// P16.1: who waited and went may wait again, as the last one.
func TestPushAgain(t *testing.T) {
	l := of(t, 5, 3, 8)
	popped(t, l, 1, 5)
	pushed(t, l, 5, api.OK)
	held(t, l, 3, 8, 5)
	pushed(t, l, 5, api.ErrTwice)
	for _, x := range []int{8, 3, 5} {
		dropped(t, l, x, true)
		pushed(t, l, x, api.OK)
		pushed(t, l, x, api.ErrTwice)
	}
	held(t, l, 8, 3, 5)
	popped(t, l, 9, 8, 3, 5)
	for _, x := range []int{3, 5, 8} {
		pushed(t, l, x, api.OK)
	}
	held(t, l, 3, 5, 8)
}

// P16.1: where MaxLine wait nobody comes behind them, until somebody goes.
func TestPushFull(t *testing.T) {
	l := full(t)
	for _, x := range []int{api.MaxLine, 1 << 32, math.MaxInt} {
		pushed(t, l, x, api.ErrFull)
	}
	for _, x := range []int{0, 100, api.MaxLine - 1} {
		pushed(t, l, x, api.ErrTwice)
	}
	pushed(t, l, -1, api.ErrArg)
	held(t, l, upTo(api.MaxLine)...)
	popped(t, l, 1, 0)
	pushed(t, l, api.MaxLine, api.OK)
	pushed(t, l, 0, api.ErrFull)
	dropped(t, l, 100, true)
	pushed(t, l, 0, api.OK)
	pushed(t, l, 100, api.ErrFull)
	want := append(upTo(api.MaxLine + 1)[1:], 0)
	held(t, l, slices.Delete(want, 99, 100)...)

	grown := of(t, upTo(api.MaxLine-1)...)
	pushed(t, grown, math.MaxInt, api.OK)
	pushed(t, grown, api.MaxLine, api.ErrFull)
	held(t, grown, append(upTo(api.MaxLine-1), math.MaxInt)...)
}

// P16.2: a pop is of the first ones: none below 1, else so many, or all.
func TestPop(t *testing.T) {
	for _, list := range [][]int{{}, {0}, {math.MaxInt}, {5, 3, 8}, {9, 0, 4, 2, 7}, upTo(api.MaxLine)} {
		for _, most := range []int{math.MinInt, math.MinInt + 1, -api.MaxLine, -3, -1, 0, 1, 2, len(list) - 1, len(list), len(list) + 1, 1 << 32, math.MaxInt - 1, math.MaxInt} {
			l := of(t, list...)
			n := min(max(most, 0), len(list))
			popped(t, l, most, list[:n]...)
			held(t, l, list[n:]...)
			// Who went doesn't wait any more.
			for _, x := range list[:n] {
				if at, ok := l.Place(x); at != 0 || ok {
					t.Fatalf("Pop(%d) of %v: %d at %d, %t", most, list, x, at, ok)
				}
				dropped(t, l, x, false)
			}
			held(t, l, list[n:]...)
		}
	}
}

// P16.2: again and again, till nobody waits, and behind that.
func TestPopTillEmpty(t *testing.T) {
	for _, n := range []int{1, 2, 7, api.MaxLine} {
		for _, most := range []int{1, 2, 3, 100, n} {
			l := of(t, upTo(n)...)
			for left := upTo(n); len(left) > 0; {
				out := min(most, len(left))
				popped(t, l, 0)
				popped(t, l, most, left[:out]...)
				left = left[out:]
				held(t, l, left...)
			}
			for range 3 {
				popped(t, l, most)
				popped(t, l, math.MaxInt)
				held(t, l)
			}
			pushed(t, l, 3, api.OK)
			popped(t, l, most, 3)
			held(t, l)
		}
	}
}

// P16.2: who is dropped doesn't wait any more, and the others wait as they did: the first one, each middle one, the last one.
func TestDrop(t *testing.T) {
	for _, list := range [][]int{{0}, {math.MaxInt}, {5, 3}, {5, 3, 8}, {0, math.MaxInt, 7, 1, 6}, upTo(api.MaxLine)} {
		for place, x := range list {
			l := of(t, list...)
			dropped(t, l, x, true)
			left := slices.Delete(slices.Clone(list), place, place+1)
			held(t, l, left...)
			dropped(t, l, x, false)
			held(t, l, left...)
		}
	}
}

// P16.2: of one that doesn't wait nothing is dropped.
func TestDropOfNone(t *testing.T) {
	for _, list := range [][]int{{}, {5}, {5, 3, 8}} {
		l := of(t, list...)
		for _, x := range []int{0, 1, 2, 4, 9, -1, -5, math.MinInt, math.MaxInt, 1<<32 + 5} {
			dropped(t, l, x, false)
		}
		held(t, l, list...)
	}
	l := full(t)
	dropped(t, l, api.MaxLine, false)
	dropped(t, l, -1, false)
	held(t, l, upTo(api.MaxLine)...)
}

// P16.2: all are dropped one by one, from the first on, from the last on, and from the middle on.
func TestDropTillEmpty(t *testing.T) {
	for _, pick := range []func(n int) int{
		func(int) int { return 0 },
		func(n int) int { return n - 1 },
		func(n int) int { return n / 2 },
	} {
		list := []int{4, 0, 9, math.MaxInt, 2}
		l := of(t, list...)
		for len(list) > 0 {
			place := pick(len(list))
			dropped(t, l, list[place], true)
			list = slices.Delete(list, place, place+1)
			held(t, l, list...)
		}
		popped(t, l, 3)
		pushed(t, l, 9, api.OK)
		held(t, l, 9)
	}
}

// placed asks at which place somebody waits, or -1, if they don't.
func placed(t *testing.T, l *line.Line, x, want int) {
	t.Helper()
	if at, ok := l.Place(x); at != max(want, 0) || ok != (want >= 0) {
		t.Fatalf("Place(%d): %d, %t, want %d of %v", x, at, ok, want, l.List())
	}
}

// P16.2: places of the first one, of middle ones, of the last one, of who doesn't wait, and behind a pop, a drop and a push.
func TestPlace(t *testing.T) {
	l := of(t, 5, 3, 8, 0, 6)
	for place, x := range []int{5, 3, 8, 0, 6} {
		placed(t, l, x, place)
	}
	for _, x := range []int{1, 2, 4, 7, 9, -1, -5, math.MinInt, math.MaxInt} {
		placed(t, l, x, -1)
	}
	popped(t, l, 1, 5)
	for place, x := range []int{3, 8, 0, 6} {
		placed(t, l, x, place)
	}
	placed(t, l, 5, -1)
	dropped(t, l, 8, true)
	for place, x := range []int{3, 0, 6} {
		placed(t, l, x, place)
	}
	placed(t, l, 8, -1)
	pushed(t, l, 8, api.OK)
	placed(t, l, 8, 3)
	pushed(t, l, 5, api.OK)
	placed(t, l, 5, 4)
	popped(t, l, 4, 3, 0, 6, 8)
	placed(t, l, 5, 0)
	popped(t, l, 4, 5)
	placed(t, l, 5, -1)
	most := full(t)
	for x := range api.MaxLine {
		placed(t, most, x, x)
	}
	placed(t, most, api.MaxLine, -1)
}

// P16.2: all, and how many, of an empty line, and behind each of the others, also where it did nothing.
func TestListAndLen(t *testing.T) {
	l := of(t)
	held(t, l)
	pushed(t, l, 4, api.OK)
	held(t, l, 4)
	pushed(t, l, 0, api.OK)
	held(t, l, 4, 0)
	pushed(t, l, 4, api.ErrTwice)
	held(t, l, 4, 0)
	pushed(t, l, -4, api.ErrArg)
	held(t, l, 4, 0)
	pushed(t, l, 2, api.OK)
	held(t, l, 4, 0, 2)
	dropped(t, l, 0, true)
	held(t, l, 4, 2)
	dropped(t, l, 0, false)
	held(t, l, 4, 2)
	popped(t, l, 0)
	held(t, l, 4, 2)
	popped(t, l, 1, 4)
	held(t, l, 2)
	placed(t, l, 2, 0)
	held(t, l, 2)
	popped(t, l, 1, 2)
	held(t, l)
}

// A Line{} is empty, and goes on as one that was made of none.
func TestLineOfNoCall(t *testing.T) {
	held(t, &line.Line{})
	for _, most := range []int{math.MinInt, -1, 0, 1, math.MaxInt} {
		l := line.Line{}
		popped(t, &l, most)
		held(t, &l)
	}
	for _, x := range []int{math.MinInt, -1, 0, 7, math.MaxInt} {
		l := line.Line{}
		dropped(t, &l, x, false)
		placed(t, &l, x, -1)
		held(t, &l)
		if x < 0 {
			pushed(t, &l, x, api.ErrArg)
			held(t, &l)
			continue
		}
		pushed(t, &l, x, api.OK)
		pushed(t, &l, x, api.ErrTwice)
		held(t, &l, x)
		dropped(t, &l, x, true)
		held(t, &l)
	}
	var l line.Line
	for x := range api.MaxLine {
		pushed(t, &l, x, api.OK)
	}
	pushed(t, &l, api.MaxLine, api.ErrFull)
	held(t, &l, upTo(api.MaxLine)...)
	popped(t, &l, math.MaxInt, upTo(api.MaxLine)...)
	held(t, &l)
}

// Of a line that is nil a push is ErrNil, whatever is pushed, and all else is nothing.
func TestNil(t *testing.T) {
	var l *line.Line
	for range 2 {
		for _, x := range []int{math.MinInt, -1, 0, 1, api.MaxLine, math.MaxInt} {
			pushed(t, l, x, api.ErrNil)
			popped(t, l, x)
			dropped(t, l, x, false)
			placed(t, l, x, -1)
		}
		if list, n := l.List(), l.Len(); len(list) != 0 || n != 0 {
			t.Fatal(list, n)
		}
	}
}

// outIn is in the how manieth pop of so many somebody is out; between the pops something is done.
func outIn(t *testing.T, l *line.Line, x, most int, between func(pop int)) int {
	t.Helper()
	for pop := 1; pop <= 2*api.MaxLine; pop++ {
		if slices.Contains(l.Pop(most), x) {
			placed(t, l, x, -1)
			return pop
		}
		if at, ok := l.Place(x); !ok || at < 0 {
			t.Fatalf("%d neither waits nor is out behind %d pops of %d", x, pop, most)
		}
		between(pop)
	}
	t.Fatalf("%d doesn't come out by %d at a time", x, most)
	return 0
}

// P16.3: who waits behind k others is in the pop behind k / most others, for each k and several most.
func TestOut(t *testing.T) {
	for k := range api.MaxLine {
		for _, most := range []int{1, 2, 3, 7, api.MaxChurn, api.MaxLine, k, k + 1, k + 2, math.MaxInt} {
			if most < 1 {
				continue
			}
			l := full(t)
			if pop := outIn(t, l, k, most, func(int) {}); pop != k/most+1 {
				t.Fatalf("%d by %d: in pop %d", k, most, pop)
			}
		}
	}
}

// P16.3: with others that come and are dropped behind it, it is as soon; with one dropped ahead of it, it is as soon as with one less ahead.
func TestOutWithOthers(t *testing.T) {
	for _, k := range []int{0, 1, 2, 5, 6, 7, 59, 60, 199} {
		for _, most := range []int{1, 2, 3, 7, 64} {
			l := of(t, upTo(k+1)...)
			pop := outIn(t, l, k, most, func(pop int) {
				pushed(t, l, 1000+pop, api.OK)
				pushed(t, l, 2000+pop, api.OK)
				dropped(t, l, 1000+pop, true)
			})
			if pop != k/most+1 {
				t.Fatalf("%d by %d: in pop %d", k, most, pop)
			}
			l = of(t, upTo(k+1)...)
			gone := 0
			pop = outIn(t, l, k, most, func(pop int) {
				if at, _ := l.Place(k); at > 0 && gone < 3 {
					gone++
					dropped(t, l, k-1-(gone-1), true)
				}
				pushed(t, l, 1000+pop, api.OK)
			})
			if pop != (k-gone)/most+1 || gone == 0 && k > most {
				t.Fatalf("%d by %d without %d: in pop %d", k, most, gone, pop)
			}
		}
	}
}

// P16.3: whoever comes, and whoever goes in between, who waits comes out in the order in which they came.
func TestOrder(t *testing.T) {
	dice := rand.New(rand.NewSource(16))
	for range 200 {
		l, next, last := of(t), 0, -1
		for range 600 {
			for range dice.Intn(4) {
				if l.Len() < api.MaxLine {
					pushed(t, l, next, api.OK)
					next++
				}
			}
			if dice.Intn(3) == 0 {
				l.Drop(dice.Intn(next + 1))
			}
			for _, x := range l.Pop(dice.Intn(5) - 1) {
				if x <= last {
					t.Fatalf("%d behind %d", x, last)
				}
				last = x
			}
		}
	}
}

// queue is a line by the chapter's words.
type queue []int

func (q *queue) push(x int) api.Errno {
	switch {
	case x < 0:
		return api.ErrArg
	case slices.Contains(*q, x):
		return api.ErrTwice
	case len(*q) == api.MaxLine:
		return api.ErrFull
	}
	*q = append(*q, x)
	return api.OK
}

func (q *queue) pop(most int) []int {
	var out []int
	for len(out) < most && len(*q) > 0 {
		out = append(out, (*q)[0])
		*q = slices.Clone((*q)[1:])
	}
	return out
}

func (q *queue) drop(x int) bool {
	n := len(*q)
	*q = slices.DeleteFunc(*q, func(y int) bool { return y == x })
	return len(*q) < n
}

// P16.1 to P16.3: mixed calls, of a line and of one by the chapter's words.
func TestMixed(t *testing.T) {
	dice := rand.New(rand.NewSource(116))
	for _, wide := range []int{3, 12, 300} {
		for range 40 {
			q := queue(dice.Perm(wide)[:dice.Intn(min(wide, api.MaxLine)+1)])
			l := of(t, q...)
			for range 400 {
				x := dice.Intn(wide+2) - 1
				switch dice.Intn(8) {
				case 0:
					most := []int{-1, 0, 1, 2, 3, wide / 3, math.MaxInt}[dice.Intn(7)]
					popped(t, l, most, q.pop(most)...)
				case 1, 2:
					dropped(t, l, x, q.drop(x))
				default:
					pushed(t, l, x, q.push(x))
				}
				if n := l.Len(); n != len(q) {
					t.Fatal(n, len(q))
				}
				placed(t, l, x, slices.Index(q, x))
				if dice.Intn(20) == 0 {
					held(t, l, q...)
				}
			}
			held(t, l, q...)
		}
	}
}

// Rules 4 and 8: a list that is handed in may be written over, spare room too, and stays as it was.
func TestListHandedIn(t *testing.T) {
	room := []int{4, 7, 9, -1, 7, math.MaxInt}
	list := room[:3]
	l := of(t, list...)
	held(t, l, 4, 7, 9)
	pushed(t, l, 6, api.OK)
	popped(t, l, 1, 4)
	dropped(t, l, 7, true)
	if !slices.Equal(room, []int{4, 7, 9, -1, 7, math.MaxInt}) {
		t.Fatal(room)
	}
	for i := range room {
		room[i] = 70 + i
	}
	held(t, l, 9, 6)

	for _, refused := range [][]int{{8, 3, -1, 3}, {8, 3, 5, 3}, append(upTo(api.MaxLine)[1:], 999, 0)} {
		was := slices.Clone(refused)
		line.New(refused...)
		if !slices.Equal(refused, was) {
			t.Fatal(refused)
		}
	}
	unsorted := []int{9, 2, 5, 0}
	of(t, unsorted...)
	if !slices.Equal(unsorted, []int{9, 2, 5, 0}) {
		t.Fatal(unsorted)
	}
}

// spoil writes over all that a list has room for.
func spoil(list []int) {
	list = list[:cap(list)]
	for i := range list {
		list[i] = -7 - i
	}
}

// Rule 4: a list that is handed out may be written over, spare room too, and the line and what it handed out ahead stay.
func TestListsHandedOut(t *testing.T) {
	for n := range 20 {
		for most := range n + 2 {
			l, want := of(t, upTo(n)...), upTo(n)
			first, second := l.List(), l.List()
			spoil(first)
			held(t, l, want...)
			out := l.Pop(most)
			k := min(most, n)
			if !slices.Equal(second, want) || !slices.Equal(out, want[:k]) {
				t.Fatal(second, out)
			}
			spoil(second)
			third := l.List()
			if !slices.Equal(out, want[:k]) {
				t.Fatal(out)
			}
			spoil(out)
			held(t, l, want[k:]...)
			pushed(t, l, 88, api.OK)
			pushed(t, l, 99, api.OK)
			want = append(want[k:], 88, 99)
			if !slices.Equal(third, want[:n-k]) {
				t.Fatal(third)
			}
			spoil(third)
			held(t, l, want...)
			dropped(t, l, want[0], true)
			held(t, l, want[1:]...)
		}
	}
}

// A line that is copied as a value, and the one that it was copied from, go on each by itself: behind a push, a pop, a drop, and what they hand out.
func TestLinesAreValues(t *testing.T) {
	for n := 1; n < 12; n++ {
		for k := range n {
			l, was := of(t, upTo(n)...), upTo(n)
			other := *l
			pushed(t, l, 60, api.OK)
			pushed(t, &other, 70, api.OK)
			pushed(t, &other, 80, api.OK)
			held(t, l, append(was, 60)...)
			held(t, &other, append(was, 70, 80)...)

			other = *l
			dropped(t, l, k, true)
			held(t, &other, append(was, 60)...)
			pushed(t, l, k, api.OK)
			held(t, &other, append(was, 60)...)

			l = of(t, was...)
			other = *l
			spoil(l.Pop(k))
			held(t, l, was[k:]...)
			held(t, &other, was...)
			spoil(other.List())
			popped(t, &other, n-k, was[:n-k]...)
			pushed(t, &other, 90, api.OK)
			held(t, l, was[k:]...)
			held(t, &other, append(upTo(n)[n-k:], 90)...)
		}
	}
}

// Rule 5: what is answered of a line hangs on that line alone.
func TestLinesBesideEachOther(t *testing.T) {
	a, b, c := of(t, 1, 2, 3), of(t, 3, 2, 1), &line.Line{}
	pushed(t, a, 4, api.OK)
	held(t, b, 3, 2, 1)
	held(t, c)
	popped(t, b, 2, 3, 2)
	held(t, a, 1, 2, 3, 4)
	dropped(t, b, 4, false)
	dropped(t, a, 1, true)
	pushed(t, c, 1, api.OK)
	held(t, a, 2, 3, 4)
	held(t, b, 1)
	held(t, c, 1)
	refused(t, api.ErrTwice, 2, 2)
	held(t, a, 2, 3, 4)
	held(t, of(t))
}

// The chapter's examples.
func TestExamples(t *testing.T) {
	l := of(t, 4, 7, 9)
	popped(t, l, 2, 4, 7)
	dropped(t, l, 9, true)
	pushed(t, l, 9, api.OK)
	placed(t, l, 9, 0)
}
