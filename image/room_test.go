package image_test

import (
	"bytes"
	"fmt"
	"reflect"
	"slices"
	"testing"

	"bullion/api"
	"bullion/image"
)

// padded is a list with spare room on both sides, full of other things, and all the memory in which it stands.
func padded[T any](list []T, guard T) (inner, memory []T) {
	memory = slices.Concat(slices.Repeat([]T{guard}, 2), list, slices.Repeat([]T{guard}, 3))
	return memory[2 : 2+len(list)], memory
}

// room is a state all of whose lists have spare room, and all the memory in which these stand.
type room struct {
	inner, memory api.State
	raw           [][]byte // the memory of all that is made of bytes
}

func (r *room) pad(b []byte) []byte {
	inner, memory := padded(b, 0x51)
	r.raw = append(r.raw, memory)
	return inner
}

// roomy is a state with spare room around each of its lists.
func roomy(s api.State) *room {
	r := &room{inner: s}
	r.inner.Purses, r.memory.Purses = padded(s.Purses, 0x5151)
	r.inner.Members, r.memory.Members = padded(s.Members, api.Member{Standing: api.Standing{Balance: 0x5151}})
	r.inner.Entry, r.memory.Entry = padded(s.Entry, 0x5151)
	r.inner.Exit, r.memory.Exit = padded(s.Exit, 0x5151)
	r.inner.Pool, r.memory.Pool = padded(s.Pool, api.Deposit{Amount: 0x5151})
	r.inner.Dues, r.memory.Dues = padded(s.Dues, api.Due{Amount: 0x5151})
	r.inner.Motions, r.memory.Motions = padded(s.Motions, api.Motion{Amount: 0x5151})
	for i, m := range r.memory.Motions {
		r.memory.Motions[i].Yes, r.memory.Motions[i].No = r.pad(m.Yes), r.pad(m.No)
	}
	r.inner.Ring, r.memory.Ring = padded(s.Ring, nil)
	for i, b := range r.memory.Ring {
		r.memory.Ring[i] = r.pad(b)
	}
	r.inner.Marks = r.pad(s.Marks)
	return r
}

// fresh is a list in memory of its own that isn't nil.
func fresh[T any](list []T) []T { return append(make([]T, 0, len(list)), list...) }

// plain is a state in memory of its own, in which no list is nil.
func plain(s api.State) api.State {
	s.Purses, s.Members = fresh(s.Purses), fresh(s.Members)
	s.Entry, s.Exit = fresh(s.Entry), fresh(s.Exit)
	s.Pool, s.Dues, s.Motions = fresh(s.Pool), fresh(s.Dues), fresh(s.Motions)
	for i, m := range s.Motions {
		s.Motions[i].Yes, s.Motions[i].No = fresh(m.Yes), fresh(m.No)
	}
	s.Marks, s.Ring = fresh(s.Marks), fresh(s.Ring)
	for i, b := range s.Ring {
		s.Ring[i] = fresh(b)
	}
	return s
}

// alike says whether two states are the same; a nil list is as empty.
func alike(a, b api.State) bool { return reflect.DeepEqual(plain(a), plain(b)) }

// heads are all lists of bytes that a state holds.
func heads(s api.State) [][]byte {
	list := append([][]byte{s.Marks}, s.Ring...)
	for _, m := range s.Motions {
		list = append(list, m.Yes, m.No)
	}
	return list
}

// one says whether two lists are one, in one memory.
func one(a, b []byte) bool {
	return len(a) == len(b) && cap(a) == cap(b) && (len(a) == 0 || &a[0] == &b[0])
}

// watch notes how all that is handed in is, and answers what asks that it stays so, its spare room too.
func (r *room) watch(t *testing.T) func() {
	inner, memory, raw, list := plain(r.inner), plain(r.memory), plain(api.State{Ring: r.raw}).Ring, heads(r.memory)
	return func() {
		t.Helper()
		if !alike(r.inner, inner) || !alike(r.memory, memory) || !slices.EqualFunc(r.raw, raw, bytes.Equal) || !slices.EqualFunc(heads(r.memory), list, one) {
			t.Fatal("what was handed in is changed:", brief(r.inner, inner))
		}
	}
}

// fill writes over a list and all its spare room.
func fill[T any](list []T, with T) {
	list = list[:cap(list)]
	for i := range list {
		list[i] = with
	}
}

// spoil writes over all that a state has, what its lists hold ahead of the lists.
func spoil(s api.State) {
	for _, m := range s.Motions[:cap(s.Motions)] {
		fill(m.Yes, 0x77)
		fill(m.No, 0x77)
	}
	for _, b := range s.Ring[:cap(s.Ring)] {
		fill(b, 0x77)
	}
	fill(s.Motions, api.Motion{What: 7, Yes: []byte{7}})
	fill(s.Ring, []byte{7})
	fill(s.Marks, 0x77)
	fill(s.Purses, 0x7777)
	fill(s.Members, api.Member{Status: 0x7777})
	fill(s.Entry, 0x7777)
	fill(s.Exit, 0x7777)
	fill(s.Pool, api.Deposit{Amount: 0x7777})
	fill(s.Dues, api.Due{Amount: 0x7777})
}

// spoilAll writes over a room, whatever it holds.
func (r *room) spoilAll() {
	spoil(r.memory)
	for _, b := range r.raw {
		fill(b, 0x66)
	}
}

// eachIts asks that no two lists share memory: each is written over with what is its own.
func eachIts[T comparable](t *testing.T, lists [][]T, own func(i int) T) {
	t.Helper()
	for i, list := range lists {
		fill(list, own(i))
	}
	for i, list := range lists {
		if slices.ContainsFunc(list[:cap(list)], func(x T) bool { return x != own(i) }) {
			t.Fatalf("list %d of %d shares memory with another one", i, len(lists))
		}
	}
}

// apart asks that no two lists of an answer share memory.
func apart(t *testing.T, s api.State) {
	t.Helper()
	eachIts(t, heads(s), func(i int) byte { return byte(i) })
	eachIts(t, [][]int{s.Entry, s.Exit}, func(i int) int { return 1000 + i })
}

// brief is what is told of things that may be long.
func brief(things ...any) string {
	return fmt.Sprintf("%.3000s", fmt.Sprintf("%+v", things))
}

// encoded asks for what Encode answers, by the chapter's words, and for rule 4.
func encoded(t *testing.T, s api.State) ([]byte, api.Errno) {
	t.Helper()
	want, wantE := encodeOf(s)
	bare, bareE := image.Encode(s)
	r := roomy(s)
	stays := r.watch(t)
	got, e := image.Encode(r.inner)
	again, againE := image.Encode(r.inner)
	for _, b := range [][]byte{bare, got, again} {
		if !bytes.Equal(b, want) || bareE != wantE || e != wantE || againE != wantE {
			t.Fatal(bareE, e, againE, "want", wantE, brief(b), brief(want), brief(s))
		}
	}
	stays()
	fill(got, 0x77)
	stays()
	r.spoilAll()
	if !bytes.Equal(again, want) {
		t.Fatal("what was handed in, or out ahead, is handed out:", brief(again))
	}
	return want, wantE
}

// encodes asks for an image, and that it is decoded as what it is of, and that as the same bytes.
func encodes(t *testing.T, s api.State) []byte {
	t.Helper()
	b, e := encoded(t, s)
	if e != api.OK {
		t.Fatal(e, brief(s))
	}
	if after, e := decoded(t, b); e != api.OK || !alike(after, s) {
		t.Fatal(e, brief(after), "want", brief(s))
	}
	return b
}

// unencoded asks that there is no image.
func unencoded(t *testing.T, s api.State, want api.Errno) {
	t.Helper()
	if b, e := encoded(t, s); e != want || len(b) != 0 {
		t.Fatal(e, "want", want, brief(b), brief(s))
	}
}

// decoded asks for what Decode answers, by the chapter's words, for rule 4, and that a state has just these bytes.
func decoded(t *testing.T, b []byte) (api.State, api.Errno) {
	t.Helper()
	want, wantE := decodeOf(b)
	inner, memory := padded(b, 0x51)
	was := slices.Clone(memory)
	bare, bareE := image.Decode(b)
	got, e := image.Decode(inner)
	again, againE := image.Decode(inner)
	for _, s := range []api.State{bare, got, again} {
		if bareE != wantE || e != wantE || againE != wantE {
			t.Fatal(bareE, e, againE, "want", wantE, brief(b))
		}
		if !alike(s, want) || wantE != api.OK && !reflect.DeepEqual(s, api.State{}) {
			t.Fatal(wantE, brief(s), "want", brief(want), brief(b))
		}
	}
	apart(t, got)
	spoil(got)
	if !bytes.Equal(memory, was) {
		t.Fatal("what was handed in is changed:", brief(memory), brief(was))
	}
	fill(memory, 0x66)
	if !alike(again, want) {
		t.Fatal("what was handed in, or out ahead, is handed out:", brief(again))
	}
	if wantE == api.OK {
		if own, e := image.Encode(again); e != api.OK || !bytes.Equal(own, b) {
			t.Fatal(e, brief(own), "want", brief(b))
		}
	}
	return want, wantE
}

// undecoded asks that there is no state, with this error.
func undecoded(t *testing.T, b []byte, want api.Errno) {
	t.Helper()
	if s, e := decoded(t, b); e != want || want == api.OK {
		t.Fatal(e, "want", want, brief(s), brief(b))
	}
}
