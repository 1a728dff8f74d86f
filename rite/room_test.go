package rite_test

import (
	"bytes"
	"reflect"
	"slices"
	"testing"

	"bullion/api"
	"bullion/rite"
	"bullion/state"
)

// padded is a list with spare room on both sides, full of other things, and all the memory in which it stands.
func padded[T any](list []T, guard T) (inner, memory []T) {
	memory = slices.Concat(slices.Repeat([]T{guard}, 2), list, slices.Repeat([]T{guard}, 3))
	return memory[2 : 2+len(list)], memory
}

// room is what is handed in, all of whose lists have spare room, and all the memory in which these stand.
type room struct {
	inner, memory api.State
	raw           [][]byte // the memory of all that is made of bytes
}

func (r *room) pad(b []byte) []byte {
	inner, memory := padded(b, 0x51)
	r.raw = append(r.raw, memory)
	return inner
}

// roomy is a state with spare room around each of its lists.
func roomy(s api.State) *room {
	r := &room{inner: s}
	r.inner.Purses, r.memory.Purses = padded(s.Purses, 0x5151)
	r.inner.Members, r.memory.Members = padded(s.Members, api.Member{Standing: api.Standing{Balance: 0x5151}})
	r.inner.Entry, r.memory.Entry = padded(s.Entry, 0x5151)
	r.inner.Exit, r.memory.Exit = padded(s.Exit, 0x5151)
	r.inner.Pool, r.memory.Pool = padded(s.Pool, api.Deposit{Amount: 0x5151})
	r.inner.Dues, r.memory.Dues = padded(s.Dues, api.Due{Amount: 0x5151})
	r.inner.Motions, r.memory.Motions = padded(s.Motions, api.Motion{Amount: 0x5151})
	for i, m := range r.memory.Motions {
		r.memory.Motions[i].Yes, r.memory.Motions[i].No = r.pad(m.Yes), r.pad(m.No)
	}
	r.inner.Ring, r.memory.Ring = padded(s.Ring, nil)
	for i, b := range r.memory.Ring {
		r.memory.Ring[i] = r.pad(b)
	}
	r.inner.Marks = r.pad(s.Marks)
	return r
}

// fresh is a list in memory of its own that isn't nil.
func fresh[T any](list []T) []T { return append(make([]T, 0, len(list)), list...) }

// plain is a state in memory of its own, in which no list is nil.
func plain(s api.State) api.State {
	s.Purses, s.Members = fresh(s.Purses), fresh(s.Members)
	s.Entry, s.Exit = fresh(s.Entry), fresh(s.Exit)
	s.Pool, s.Dues, s.Motions = fresh(s.Pool), fresh(s.Dues), fresh(s.Motions)
	for i, m := range s.Motions {
		s.Motions[i].Yes, s.Motions[i].No = fresh(m.Yes), fresh(m.No)
	}
	s.Marks, s.Ring = fresh(s.Marks), fresh(s.Ring)
	for i, b := range s.Ring {
		s.Ring[i] = fresh(b)
	}
	return s
}

// alike says whether two states are the same; a nil list is as empty.
func alike(a, b api.State) bool { return reflect.DeepEqual(plain(a), plain(b)) }

// heads are all lists of bytes that a state holds.
func heads(s api.State) [][]byte {
	list := append([][]byte{s.Marks}, s.Ring...)
	for _, m := range s.Motions {
		list = append(list, m.Yes, m.No)
	}
	return list
}

// one says whether two lists are one, in one memory.
func one(a, b []byte) bool {
	return len(a) == len(b) && cap(a) == cap(b) && (len(a) == 0 || &a[0] == &b[0])
}

// watch notes how all that is handed in is, and answers what asks that it stays so, its spare room too.
func (r *room) watch(t *testing.T) func() {
	inner, memory, raw, list := plain(r.inner), plain(r.memory), plain(api.State{Ring: r.raw}).Ring, heads(r.memory)
	return func() {
		t.Helper()
		if !alike(r.inner, inner) || !alike(r.memory, memory) || !slices.EqualFunc(r.raw, raw, bytes.Equal) || !slices.EqualFunc(heads(r.memory), list, one) {
			t.Fatalf("what was handed in was %+v, %v, and is %+v, %v", inner, raw, r.inner, r.raw)
		}
	}
}

// fill writes over a list and all its spare room.
func fill[T any](list []T, with T) {
	list = list[:cap(list)]
	for i := range list {
		list[i] = with
	}
}

// spoil writes over all that a state has, what its lists hold ahead of the lists.
func spoil(s api.State) {
	for _, m := range s.Motions[:cap(s.Motions)] {
		fill(m.Yes, 0x77)
		fill(m.No, 0x77)
	}
	for _, b := range s.Ring[:cap(s.Ring)] {
		fill(b, 0x77)
	}
	fill(s.Motions, api.Motion{What: 7, Yes: []byte{7}})
	fill(s.Ring, []byte{7})
	fill(s.Marks, 0x77)
	fill(s.Purses, 0x7777)
	fill(s.Members, api.Member{Status: 0x7777})
	fill(s.Entry, 0x7777)
	fill(s.Exit, 0x7777)
	fill(s.Pool, api.Deposit{Amount: 0x7777})
	fill(s.Dues, api.Due{Amount: 0x7777})
}

// spoilAll writes over a room, whatever it holds.
func (r *room) spoilAll() {
	spoil(r.memory)
	for _, b := range r.raw {
		fill(b, 0x66)
	}
}

// eachIts asks that no two lists share memory: each is written over with what is its own.
func eachIts[T comparable](t *testing.T, lists [][]T, own func(i int) T) {
	t.Helper()
	for i, list := range lists {
		fill(list, own(i))
	}
	for i, list := range lists {
		if slices.ContainsFunc(list[:cap(list)], func(x T) bool { return x != own(i) }) {
			t.Fatalf("list %d of %d shares memory with another one", i, len(lists))
		}
	}
}

// apart asks that no two lists of an answer share memory.
func apart(t *testing.T, s api.State) {
	t.Helper()
	eachIts(t, heads(s), func(i int) byte { return byte(i) })
	eachIts(t, [][]int{s.Entry, s.Exit}, func(i int) int { return 1000 + i })
}

// answer is what a call hands out.
type answer struct {
	s  api.State
	at int
	e  api.Errno
}

// asked asks for an answer, and for rule 4: call is called twice, with a state and bytes that have spare room.
func asked(t *testing.T, s api.State, b []byte, want answer, call func(s api.State, b []byte) answer) {
	t.Helper()
	want.s = plain(want.s)
	bare := call(s, b)
	r := roomy(s)
	b = r.pad(b)
	stays := r.watch(t)
	got, again := call(r.inner, b), call(r.inner, b)
	for _, a := range []answer{bare, got, again} {
		if a.e != want.e || a.at != want.at || !alike(a.s, want.s) {
			t.Fatalf("%+v, %d, %d, want\n%+v, %d, %d, of\n%+v, %v", a.s, a.at, a.e, want.s, want.at, want.e, s, b)
		}
		if a.e != api.OK && !reflect.DeepEqual(a.s, api.State{}) {
			t.Fatalf("beside %d there is %+v", a.e, a.s)
		}
	}
	stays()
	apart(t, got.s)
	spoil(got.s)
	stays()
	r.spoilAll()
	if !alike(again.s, want.s) {
		t.Fatalf("what was handed in, or out ahead, is handed out: %+v", again.s)
	}
	if want.e == api.OK {
		sound(t, s, again.s)
	}
}

// sound asks of a state and the one behind it for what P25.3 says.
func sound(t *testing.T, was, now api.State) {
	t.Helper()
	if !state.Fits(now) || !accounted(now) {
		t.Fatalf("it doesn't fit: %+v, behind %+v", now, was)
	}
	if now.Minted != was.Minted || now.Burned != was.Burned || now.Genesis != was.Genesis || now.Most != was.Most {
		t.Fatalf("money comes, or goes: %+v, behind %+v", now, was)
	}
	if now.Params != was.Params || now.Epoch != was.Epoch || now.Calm != was.Calm || now.Emergency != was.Emergency {
		t.Fatalf("what only a tick changes: %+v, behind %+v", now, was)
	}
	standing := func(a, b api.Member) bool { return a.Standing == b.Standing && a.Owner == b.Owner }
	if !slices.EqualFunc(now.Members, was.Members, standing) {
		t.Fatalf("a member's balance: %+v, behind %+v", now, was)
	}
	if !slices.Equal(now.Entry, was.Entry) || !slices.Equal(now.Dues, was.Dues) || !slices.EqualFunc(now.Ring, was.Ring, bytes.Equal) {
		t.Fatalf("what no deed changes: %+v, behind %+v", now, was)
	}
}

// done asks for a deed's doing, by the chapter's words, and for rule 4.
func done(t *testing.T, s api.State, d api.Deed) (api.State, api.Errno) {
	t.Helper()
	after, e := doOf(s, d)
	asked(t, s, d.Bits, answer{after, 0, e}, func(s api.State, b []byte) answer {
		d.Bits = b
		got, e := rite.Do(s, d)
		return answer{got, 0, e}
	})
	return after, e
}

// does asks for a deed that is done, and for what is behind it.
func does(t *testing.T, s api.State, d api.Deed) api.State {
	t.Helper()
	after, e := done(t, s, d)
	if e != api.OK {
		t.Fatalf("%d of %+v, in %+v", e, d, s)
	}
	return after
}

// refuses asks for a deed that is refused, with this error.
func refuses(t *testing.T, s api.State, d api.Deed, want api.Errno) {
	t.Helper()
	if _, e := done(t, s, d); e != want {
		t.Fatalf("%d of %+v, want %d, in %+v", e, d, want, s)
	}
}

// blocks asks for what is behind a block's bytes, by the chapter's words, and for rule 4.
func blocks(t *testing.T, s api.State, b []byte) answer {
	t.Helper()
	want := blockOf(s, b)
	asked(t, s, b, want, func(s api.State, b []byte) answer {
		got, at, e := rite.Block(s, b)
		return answer{got, at, e}
	})
	return want
}
