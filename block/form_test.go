package block_test

import (
	"bytes"
	"encoding/binary"
	"math/rand"
	"slices"
	"testing"

	"bullion/api"
	"bullion/block"
	"bullion/coder"
	"bullion/deed"
)

// undecoded asks that bytes are no block.
func undecoded(t *testing.T, b []byte, at int, e api.Errno) {
	t.Helper()
	if list, place, why := block.Decode(b); len(list) != 0 || place != at || why != e {
		t.Fatalf("%+v, %d, %d, want %d, %d of %v", list, place, why, at, e, b[:min(len(b), 200)])
	}
}

// fault is bytes that are no deed, and why.
type fault struct {
	b []byte
	e api.Errno
}

// faults are no deeds, whatever is behind them.
func faults() []fault {
	return []fault{
		{[]byte{128, 0}, api.ErrForm},
		{[]byte{128, 2}, api.ErrForm},
		{[]byte{255, 255, 255, 255, 255, 255, 255, 255, 255, 2}, api.ErrForm},
		{[]byte{1, 64}, api.ErrForm},
		{[]byte{2, 0, 129, 0}, api.ErrForm},
		{[]byte{4, 0, 128, 1}, api.ErrForm},
		{[]byte{5, 0, 33}, api.ErrForm},
		{[]byte{6, 64, 5}, api.ErrForm},
		{[]byte{7, 0, 0, 0, 2}, api.ErrForm},
		{[]byte{0}, api.ErrDeed},
		{[]byte{8}, api.ErrDeed},
		{[]byte{255, 1}, api.ErrDeed},
		{[]byte{1, 0, 0, 0}, api.ErrDeed},
		{[]byte{2, 0, 0}, api.ErrDeed},
		{[]byte{6, 0, 0}, api.ErrDeed},
		{[]byte{6, 0, 5}, api.ErrDeed},
		{append([]byte{6, 0, 1}, make([]byte, 24)...), api.ErrParam},
		{append([]byte{6, 63, 1}, slices.Repeat([]byte{1}, 24)...), api.ErrParam},
	}
}

// cuts are the beginnings of deeds: the bytes end ahead of the rest.
func cuts() [][]byte {
	list := [][]byte{{}, {128}, {5, 0, 2, 9}}
	for _, d := range samples() {
		b := text(d)
		for size := range b {
			list = append(list, b[:size])
		}
	}
	return list
}

// wrongNumbers are no number of deeds, with what layer 5 says of each.
func wrongNumbers() []fault {
	return []fault{
		{nil, api.ErrEnd},
		{[]byte{128}, api.ErrEnd},
		{[]byte{255, 255}, api.ErrEnd},
		{[]byte{255, 255, 255, 255, 255, 255, 255, 255, 255}, api.ErrEnd},
		{[]byte{65}, api.ErrForm},
		{[]byte{66}, api.ErrForm},
		{[]byte{127}, api.ErrForm},
		{[]byte{128, 1}, api.ErrForm},
		{[]byte{192, 1}, api.ErrForm},
		{[]byte{128, 2}, api.ErrForm},
		{[]byte{129, 128, 128, 128, 16}, api.ErrForm},
		{[]byte{255, 255, 255, 255, 255, 255, 255, 255, 255, 1}, api.ErrForm},
		{[]byte{255, 255, 255, 255, 255, 255, 255, 255, 255, 2}, api.ErrForm},
		{[]byte{129, 128, 128, 128, 128, 128, 128, 128, 128, 2}, api.ErrForm},
		{[]byte{128, 0}, api.ErrForm},
		{[]byte{129, 0}, api.ErrForm},
		{[]byte{192, 0}, api.ErrForm},
		{[]byte{129, 128, 0}, api.ErrForm},
	}
}

// P9.2: the number of deeds is read as layer 5 reads it, up to MaxDeeds; what it says stands beside 0.
func TestNumber(t *testing.T) {
	for _, x := range wrongNumbers() {
		undecoded(t, x.b, 0, x.e)
		if x.e == api.ErrForm {
			undecoded(t, slices.Concat(x.b, texts(row(0, 64))), 0, x.e)
			undecoded(t, slices.Concat(x.b, make([]byte, api.MaxBytes-len(x.b))), 0, x.e)
		}
	}
	for count := range 300 {
		b := slices.Concat(number(count), texts(row(0, count)))
		list, at, e := block.Decode(b)
		if count > 64 {
			undecoded(t, b, 0, api.ErrForm)
		} else if !same(list, row(0, count)) || at != 0 || e != api.OK {
			t.Fatal(count, list, at, e)
		}
	}
}

// P9.2: bytes of just MaxBytes are read: deeds behind which the rest is left; of one more, and of many more: ErrBig beside 0, ahead of all that is wrong in them.
func TestTooBig(t *testing.T) {
	var heads [][]byte
	for _, count := range []int{0, 1, 2, 63, 64} {
		b := whole(row(0, count))
		undecoded(t, append(b, make([]byte, api.MaxBytes-len(b))...), count, api.ErrLeft)
		heads = append(heads, b)
	}
	for _, x := range wrongNumbers() {
		heads = append(heads, x.b)
	}
	for _, x := range faults() {
		heads = append(heads, slices.Concat([]byte{2, 4, 1, 3}, x.b))
	}
	for _, b := range heads {
		for _, size := range []int{api.MaxBytes + 1, api.MaxBytes + 2, 2 * api.MaxBytes, 1 << 20} {
			undecoded(t, append(slices.Clone(b), make([]byte, size-len(b))...), 0, api.ErrBig)
			undecoded(t, slices.Concat(b, slices.Repeat([]byte{255}, size-len(b))), 0, api.ErrBig)
		}
	}
	undecoded(t, make([]byte, api.MaxBytes), 0, api.ErrLeft)
	undecoded(t, slices.Repeat([]byte{255}, api.MaxBytes), 0, api.ErrForm)
	undecoded(t, slices.Repeat([]byte{4}, api.MaxBytes), 4, api.ErrLeft)
	undecoded(t, slices.Concat([]byte{2, 4, 1, 3}, make([]byte, api.MaxBytes-4)), 1, api.ErrDeed)
}

// P9.2: each of layer 8's errors at each place, whatever is behind it.
func TestFaults(t *testing.T) {
	for at := range api.MaxDeeds {
		ahead := texts(row(at, at))
		for _, count := range []int{at + 1, at + 2, 64} {
			if count > 64 {
				continue
			}
			for _, x := range faults() {
				b := slices.Concat(number(count), ahead, x.b)
				undecoded(t, b, at, x.e)
				undecoded(t, slices.Concat(b, texts(row(0, 64))), at, x.e)
				undecoded(t, append(b, 128, 0), at, x.e)
			}
			for _, cut := range cuts() {
				undecoded(t, slices.Concat(number(count), ahead, cut), at, api.ErrEnd)
			}
		}
	}
}

// P9.2: bytes that end at each place of a block of deeds of all kinds: ErrEnd beside the place of the deed that isn't whole.
func TestCut(t *testing.T) {
	for _, list := range [][]api.Deed{nil, row(0, 1), row(3, 2), samples(), row(7, 64)} {
		b := whole(list)
		ends, end := []int{}, len(number(len(list)))
		for _, d := range list {
			end += len(text(d))
			ends = append(ends, end)
		}
		for size := range b {
			at := slices.IndexFunc(ends, func(end int) bool { return size < end })
			undecoded(t, b[:size], max(at, 0), api.ErrEnd)
		}
	}
}

// P9.2: of two deeds that can't be read the first one tells, whatever is wrong with the second one.
func TestTwoFaults(t *testing.T) {
	for _, one := range faults() {
		for _, two := range faults() {
			undecoded(t, slices.Concat([]byte{3, 4, 1, 3}, one.b, two.b), 1, one.e)
			undecoded(t, slices.Concat([]byte{2}, one.b, two.b), 0, one.e)
			undecoded(t, slices.Concat([]byte{4, 4, 1, 3}, one.b, []byte{4, 1, 3}, two.b), 1, one.e)
		}
	}
}

// P9.2: bytes left behind the last deed: ErrLeft beside the number of deeds, whatever they are; a number of deeds that is one too small, or one too great.
func TestLeft(t *testing.T) {
	for count := range api.MaxDeeds + 1 {
		b := whole(row(count, count))
		for _, more := range [][]byte{{0}, {1}, {128}, {255}, {128, 0}, {4, 1, 3}, make([]byte, 300)} {
			undecoded(t, slices.Concat(b, more), count, api.ErrLeft)
		}
		deeds := texts(row(0, count))
		if count > 0 {
			undecoded(t, slices.Concat(number(count-1), deeds), count-1, api.ErrLeft)
		}
		if count < api.MaxDeeds {
			undecoded(t, slices.Concat(number(count+1), deeds), count, api.ErrEnd)
		}
	}
}

// decode is what the chapter's words say of bytes, deed by deed.
func decode(b []byte) (list []api.Deed, at int, e api.Errno) {
	if len(b) > 1<<17 {
		return nil, 0, api.ErrBig
	}
	n, size := binary.Uvarint(b)
	if size == 0 {
		return nil, 0, api.ErrEnd
	}
	if size < 0 || size > 1 && b[size-1] == 0 || n > 64 {
		return nil, 0, api.ErrForm
	}
	b = b[size:]
	for at := range int(n) {
		r := coder.Open(b)
		d, e := deed.Read(r)
		if e != api.OK {
			return nil, at, e
		}
		list, b = append(list, d), b[r.At():]
	}
	if len(b) > 0 {
		return nil, int(n), api.ErrLeft
	}
	return list, 0, api.OK
}

// anyBytes asks that bytes are decoded as the chapter's words say, and that what is decoded has just these bytes.
func anyBytes(t *testing.T, b []byte) api.Errno {
	t.Helper()
	want, at, e := decode(b)
	list, place, why := block.Decode(b)
	if !same(list, want) || place != at || why != e {
		t.Fatalf("%+v, %d, %d, want %+v, %d, %d of %v", list, place, why, want, at, e, b)
	}
	if e != api.OK {
		return e
	}
	if again, at, e := block.Encode(list); !bytes.Equal(again, b) || at != 0 || e != api.OK {
		t.Fatalf("%v, %d, %d, want %v", again, at, e, b)
	}
	return api.OK
}

// P9.2, P9.4: of all texts of one and two bytes, and of those of up to five bytes at which something changes.
func TestShortBytes(t *testing.T) {
	seen := map[api.Errno]int{}
	var every func(b []byte, more int, values []byte)
	every = func(b []byte, more int, values []byte) {
		seen[anyBytes(t, b)]++
		for _, x := range values {
			if more > 0 {
				every(append(b, x), more-1, values)
			}
		}
	}
	var all []byte
	for x := range 256 {
		all = append(all, byte(x))
	}
	every(nil, 2, all)
	every(nil, 5, []byte{0, 1, 2, 3, 4, 5, 6, 7, 63, 64, 65, 128, 255})
	if seen[api.OK] < 100 || seen[api.ErrEnd] < 1000 || seen[api.ErrForm] < 1000 || seen[api.ErrDeed] < 1000 || seen[api.ErrLeft] < 1000 {
		t.Fatal(seen)
	}
}

// P9.2, P9.4: of any bytes that are almost those of a block.
func TestAnyBytes(t *testing.T) {
	dice := rand.New(rand.NewSource(29))
	seen := map[api.Errno]int{}
	for range 40000 {
		b := whole(row(dice.Intn(len(samples())), dice.Intn(1+dice.Intn(api.MaxDeeds+1))))
		for range dice.Intn(3) {
			b[dice.Intn(len(b))] = byte(dice.Intn(256))
		}
		if dice.Intn(9) == 0 {
			b[0] = byte(dice.Intn(70))
		}
		b = b[:len(b)-dice.Intn(2)*dice.Intn(min(4, len(b)))]
		b = append(b, make([]byte, dice.Intn(2)*dice.Intn(2))...)
		seen[anyBytes(t, b)]++
	}
	for _, e := range []api.Errno{api.OK, api.ErrEnd, api.ErrForm, api.ErrLeft, api.ErrDeed, api.ErrParam} {
		if seen[e] < 100 {
			t.Fatal(seen)
		}
	}
}

// spoil writes over all of what was handed out, its spare room and its deeds' Bits too.
func spoil(list []api.Deed) {
	list = list[:cap(list)]
	for i := range list {
		scrawl(list[i].Bits)
		list[i] = api.Deed{Kind: 99, Bits: []byte{99}}
	}
}

func scrawl(b []byte) {
	b = b[:cap(b)]
	for i := range b {
		b[i] = 99
	}
	_ = append(b, 98)
}

// Rule 4: what is handed in is not changed, its spare room neither, and not kept; what lies behind its length is not read; what is handed out is new memory.
func TestMemoryOfEncode(t *testing.T) {
	bits := []byte{1, 2, 3, 201, 202}
	room := []api.Deed{{Kind: 4, Member: 3}, {Kind: 5, Epoch: 9, Bits: bits[:3]}, {Kind: 99, Bits: bits}, {Kind: 2, Amount: 1}}
	was, wasBits := slices.Clone(room), slices.Clone(bits)
	want := []byte{2, 4, 0, 3, 5, 9, 3, 1, 2, 3}
	for range 2 {
		b, at, e := block.Encode(room[:2])
		if !bytes.Equal(b, want) || at != 0 || e != api.OK {
			t.Fatal(b, at, e)
		}
		scrawl(b)
		refused(t, room[:3], 2, api.ErrDeed)
		if got := block.Kinds(room[:2]); got != [8]int{4: 1, 5: 1} {
			t.Fatal(got)
		}
		if !same(room, was) || !bytes.Equal(bits, wasBits) || len(room[1].Bits) != 3 {
			t.Fatal(room, bits)
		}
	}
	b, _, _ := block.Encode(room[:2])
	clear(bits)
	clear(room)
	if !bytes.Equal(b, want) {
		t.Fatal(b)
	}
}

// Rule 4: of Decode likewise; no two deeds' Bits share memory.
func TestMemoryOfDecode(t *testing.T) {
	room := []byte{2, 5, 9, 3, 1, 2, 3, 5, 8, 2, 6, 7, 201, 202}
	was := slices.Clone(room)
	want := []api.Deed{{Kind: 5, Epoch: 9, Bits: []byte{1, 2, 3}}, {Kind: 5, Epoch: 8, Bits: []byte{6, 7}}}
	for range 2 {
		list, at, e := block.Decode(room[:12])
		if !same(list, want) || at != 0 || e != api.OK {
			t.Fatal(list, at, e)
		}
		for _, d := range list {
			if spare := d.Bits[len(d.Bits):cap(d.Bits)]; slices.ContainsFunc(spare, func(x byte) bool { return x != 0 }) {
				t.Fatal(spare)
			}
		}
		scrawl(list[0].Bits)
		if !sameDeed(list[1], want[1]) {
			t.Fatal(list)
		}
		spoil(list)
		undecoded(t, room[:11], 1, api.ErrEnd)
		undecoded(t, room, 2, api.ErrLeft)
		if !bytes.Equal(room, was) {
			t.Fatal(room)
		}
	}
	list, _, _ := block.Decode(room[:12])
	clear(room)
	if !same(list, want) {
		t.Fatal(list)
	}
}
