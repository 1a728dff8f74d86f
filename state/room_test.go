package state_test

import (
	"bytes"
	"reflect"
	"slices"
	"testing"

	"bullion/api"
	"bullion/state"
)

// padded is a list with spare room on both sides, full of other things, and all the memory in which it stands.
func padded[T any](list []T, guard T) (inner, memory []T) {
	memory = slices.Concat(slices.Repeat([]T{guard}, 2), list, slices.Repeat([]T{guard}, 3))
	return memory[2 : 2+len(list)], memory
}

// room is a state or a genesis all of whose lists have spare room, and all the memory in which these stand.
type room struct {
	inner, memory    api.State
	begin, beginning api.Genesis
	raw              [][]byte // the memory of all that is made of bytes
}

func (r *room) pad(b []byte) []byte {
	inner, memory := padded(b, 0x51)
	r.raw = append(r.raw, memory)
	return inner
}

// roomy is a state with spare room around each of its lists.
func roomy(s api.State) *room {
	r := &room{inner: s}
	r.inner.Purses, r.memory.Purses = padded(s.Purses, 0x5151)
	r.inner.Members, r.memory.Members = padded(s.Members, api.Member{Standing: api.Standing{Balance: 0x5151}})
	r.inner.Entry, r.memory.Entry = padded(s.Entry, 0x5151)
	r.inner.Exit, r.memory.Exit = padded(s.Exit, 0x5151)
	r.inner.Pool, r.memory.Pool = padded(s.Pool, api.Deposit{Amount: 0x5151})
	r.inner.Dues, r.memory.Dues = padded(s.Dues, api.Due{Amount: 0x5151})
	r.inner.Motions, r.memory.Motions = padded(s.Motions, api.Motion{Amount: 0x5151})
	for i, m := range r.memory.Motions {
		r.memory.Motions[i].Yes, r.memory.Motions[i].No = r.pad(m.Yes), r.pad(m.No)
	}
	r.inner.Ring, r.memory.Ring = padded(s.Ring, nil)
	for i, b := range r.memory.Ring {
		r.memory.Ring[i] = r.pad(b)
	}
	r.inner.Marks = r.pad(s.Marks)
	return r
}

// roomyGenesis is a genesis likewise.
func roomyGenesis(g api.Genesis) *room {
	r := &room{begin: g}
	r.begin.Purses, r.beginning.Purses = padded(g.Purses, 0x5151)
	r.begin.Founders, r.beginning.Founders = padded(g.Founders, api.Founder{Owner: 0x51, Balance: 0x5151})
	return r
}

// fresh is a list in memory of its own that isn't nil.
func fresh[T any](list []T) []T { return append(make([]T, 0, len(list)), list...) }

// plain is a state in memory of its own, in which no list is nil.
func plain(s api.State) api.State {
	s.Purses, s.Members = fresh(s.Purses), fresh(s.Members)
	s.Entry, s.Exit = fresh(s.Entry), fresh(s.Exit)
	s.Pool, s.Dues, s.Motions = fresh(s.Pool), fresh(s.Dues), fresh(s.Motions)
	for i, m := range s.Motions {
		s.Motions[i].Yes, s.Motions[i].No = fresh(m.Yes), fresh(m.No)
	}
	s.Marks, s.Ring = fresh(s.Marks), fresh(s.Ring)
	for i, b := range s.Ring {
		s.Ring[i] = fresh(b)
	}
	return s
}

// plainReport is a report likewise.
func plainReport(r api.Report) api.Report {
	r.Out, r.Left, r.Started, r.Done = fresh(r.Out), fresh(r.Left), fresh(r.Started), fresh(r.Done)
	return r
}

// alike says whether two states are the same; a nil list is as empty.
func alike(a, b api.State) bool { return reflect.DeepEqual(plain(a), plain(b)) }

// alikeReports says whether two reports are, likewise.
func alikeReports(a, b api.Report) bool {
	return reflect.DeepEqual(plainReport(a), plainReport(b))
}

// heads are all lists of bytes that a state holds.
func heads(s api.State) [][]byte {
	list := append([][]byte{s.Marks}, s.Ring...)
	for _, m := range s.Motions {
		list = append(list, m.Yes, m.No)
	}
	return list
}

// one says whether two lists are one, in one memory.
func one(a, b []byte) bool {
	return len(a) == len(b) && cap(a) == cap(b) && (len(a) == 0 || &a[0] == &b[0])
}

// watch notes how all that is handed in is, and answers what asks that it stays so, its spare room too.
func (r *room) watch(t *testing.T) func() {
	inner, memory, raw, list := plain(r.inner), plain(r.memory), plain(api.State{Ring: r.raw}).Ring, heads(r.memory)
	purses, founders := fresh(r.beginning.Purses), fresh(r.beginning.Founders)
	return func() {
		t.Helper()
		if !alike(r.inner, inner) || !alike(r.memory, memory) || !slices.EqualFunc(r.raw, raw, bytes.Equal) || !slices.EqualFunc(heads(r.memory), list, one) {
			t.Fatalf("what was handed in was %+v, and is %+v", inner, r.inner)
		}
		if !slices.Equal(r.beginning.Purses, purses) || !slices.Equal(r.beginning.Founders, founders) {
			t.Fatalf("what was handed in was %v, %v, and is %+v", purses, founders, r.beginning)
		}
	}
}

// fill writes over a list and all its spare room.
func fill[T any](list []T, with T) {
	list = list[:cap(list)]
	for i := range list {
		list[i] = with
	}
}

// spoil writes over all that a state has, what its lists hold ahead of the lists.
func spoil(s api.State) {
	for _, m := range s.Motions[:cap(s.Motions)] {
		fill(m.Yes, 0x77)
		fill(m.No, 0x77)
	}
	for _, b := range s.Ring[:cap(s.Ring)] {
		fill(b, 0x77)
	}
	fill(s.Motions, api.Motion{What: 7, Yes: []byte{7}})
	fill(s.Ring, []byte{7})
	fill(s.Marks, 0x77)
	fill(s.Purses, 0x7777)
	fill(s.Members, api.Member{Status: 0x7777})
	fill(s.Entry, 0x7777)
	fill(s.Exit, 0x7777)
	fill(s.Pool, api.Deposit{Amount: 0x7777})
	fill(s.Dues, api.Due{Amount: 0x7777})
}

// spoilAll writes over a room, whatever it holds.
func (r *room) spoilAll() {
	spoil(r.memory)
	for _, b := range r.raw {
		fill(b, 0x66)
	}
	fill(r.beginning.Purses, 0x7777)
	fill(r.beginning.Founders, api.Founder{Owner: 0x77})
}

// eachIts asks that no two lists share memory: each is written over with what is its own.
func eachIts[T comparable](t *testing.T, lists [][]T, own func(i int) T) {
	t.Helper()
	for i, list := range lists {
		fill(list, own(i))
	}
	for i, list := range lists {
		if slices.ContainsFunc(list[:cap(list)], func(x T) bool { return x != own(i) }) {
			t.Fatalf("list %d of %d shares memory with another one", i, len(lists))
		}
	}
}

// apart asks that no two lists of an answer share memory.
func apart(t *testing.T, s api.State, r api.Report) {
	t.Helper()
	eachIts(t, heads(s), func(i int) byte { return byte(i) })
	eachIts(t, [][]int{s.Entry, s.Exit, r.Out, r.Left, r.Started, r.Done}, func(i int) int { return 1000 + i })
}

// fits asks whether a state fits, with spare room and without, and that it stays as it was.
func fits(t *testing.T, s api.State, want bool) {
	t.Helper()
	r := roomy(s)
	stays := r.watch(t)
	if got := state.Fits(r.inner); got != want {
		t.Fatalf("Fits: %v, want %v, of %+v", got, want, s)
	}
	if got := state.Fits(s); got != want {
		t.Fatalf("Fits: %v, want %v, of %+v", got, want, s)
	}
	if fitsOf(s) != want {
		t.Fatalf("by the chapter's words it is not %v, of %+v", want, s)
	}
	stays()
}

// founded asks for the state of a genesis, by the chapter's words, and for rule 4.
func founded(t *testing.T, g api.Genesis) (api.State, api.Errno) {
	t.Helper()
	want, wantE := newOf(g)
	want = plain(want)
	r := roomyGenesis(g)
	stays := r.watch(t)
	got, e := state.New(r.begin)
	again, _ := state.New(r.begin)
	if e != wantE || !alike(got, want) {
		t.Fatalf("New(%+v): %+v, %d, want %+v, %d", g, got, e, want, wantE)
	}
	apart(t, got, api.Report{})
	spoil(got)
	stays()
	r.spoilAll()
	if !alike(again, want) {
		t.Fatalf("what was handed in is handed out: %+v", again)
	}
	if e == api.OK {
		fits(t, want, true)
	}
	return want, e
}

// refused asks that there is no such beginning.
func refused(t *testing.T, g api.Genesis) {
	t.Helper()
	if _, e := founded(t, g); e != api.ErrGenesis {
		t.Fatalf("New(%+v): %d", g, e)
	}
	if s, e := state.New(g); e != api.ErrGenesis || !reflect.DeepEqual(s, api.State{}) {
		t.Fatalf("New(%+v): %+v, %d", g, s, e)
	}
}

// begins asks for a beginning that is right.
func begins(t *testing.T, g api.Genesis) api.State {
	t.Helper()
	s, e := founded(t, g)
	if e != api.OK {
		t.Fatalf("New(%+v): %d", g, e)
	}
	return s
}

// owned asks for a state in memory of its own.
func owned(t *testing.T, s api.State) {
	t.Helper()
	want := plain(s)
	r := roomy(s)
	stays := r.watch(t)
	got, again := state.Own(r.inner), state.Own(r.inner)
	if !alike(got, want) || !alike(state.Own(s), want) {
		t.Fatalf("Own(%+v): %+v", s, got)
	}
	apart(t, got, api.Report{})
	spoil(got)
	stays()
	r.spoilAll()
	if !alike(again, want) {
		t.Fatalf("what was handed in is handed out: %+v", again)
	}
}

// ticks asks for the state behind a tick and the report, by the chapter's words, and for rule 4.
func ticks(t *testing.T, s api.State) (api.State, api.Report) {
	t.Helper()
	want, wantR, wantE := tickOf(s)
	if wantE != api.OK {
		t.Fatalf("%d of %+v", wantE, s)
	}
	r := roomy(s)
	stays := r.watch(t)
	got, told, e := state.Tick(r.inner)
	again, toldAgain, _ := state.Tick(r.inner)
	if e != api.OK || !alike(got, want) || !alikeReports(told, wantR) {
		t.Fatalf("Tick(%+v):\n%+v\n%+v, %d, want\n%+v\n%+v", s, got, told, e, want, wantR)
	}
	apart(t, got, told)
	spoil(got)
	for _, list := range [][]int{told.Out, told.Left, told.Started, told.Done} {
		fill(list, 0x7777)
	}
	stays()
	r.spoilAll()
	if !alike(again, want) || !alikeReports(toldAgain, wantR) {
		t.Fatalf("what was handed in, or out ahead, is handed out: %+v, %+v", again, toldAgain)
	}
	sound(t, again)
	return again, toldAgain
}

// sound asks of a state behind a tick for what P24.3 says.
func sound(t *testing.T, s api.State) {
	t.Helper()
	fits(t, s, true)
	if !accounted(s) {
		t.Fatalf("not all money is accounted for: %+v", s)
	}
	for _, m := range s.Members {
		if counts(m) && (m.Balance <= s.Params.Floor || m.Balance > s.Params.Cap || !effFits(s.Params, m.Eff, m.Balance)) {
			t.Fatalf("a member of %+v: %+v", s, m)
		}
	}
}

// stops asks for an error of a tick, and nothing beside it.
func stops(t *testing.T, s api.State, want api.Errno) {
	t.Helper()
	r := roomy(s)
	stays := r.watch(t)
	got, told, e := state.Tick(r.inner)
	if e != want || !reflect.DeepEqual(got, api.State{}) || !reflect.DeepEqual(told, api.Report{}) {
		t.Fatalf("Tick(%+v): %+v, %+v, %d, want %d", s, got, told, e, want)
	}
	if _, _, e := tickOf(s); e != want {
		t.Fatalf("by the chapter's words it is %d, of %+v", e, s)
	}
	stays()
}
