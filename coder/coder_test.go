package coder_test

import (
	"bytes"
	"math"
	"math/big"
	"slices"
	"testing"

	"bullion/api"
	"bullion/coder"
)

const top = 1<<64 - 1

// edges are numbers, and the bytes that each of them is written in.
var edges = []struct {
	n    uint64
	text []byte
}{
	{0, []byte{0}},
	{1, []byte{1}},
	{2, []byte{2}},
	{126, []byte{126}},
	{127, []byte{127}},
	{128, []byte{128, 1}},
	{129, []byte{129, 1}},
	{255, []byte{255, 1}},
	{256, []byte{128, 2}},
	{300, []byte{172, 2}},
	{1<<14 - 1, []byte{255, 127}},
	{1 << 14, []byte{128, 128, 1}},
	{1<<21 - 1, []byte{255, 255, 127}},
	{1 << 21, []byte{128, 128, 128, 1}},
	{1<<32 - 1, []byte{255, 255, 255, 255, 15}},
	{1<<49 - 1, []byte{255, 255, 255, 255, 255, 255, 127}},
	{1<<56 - 1, []byte{255, 255, 255, 255, 255, 255, 255, 127}},
	{1 << 56, []byte{128, 128, 128, 128, 128, 128, 128, 128, 1}},
	{1<<63 - 1, []byte{255, 255, 255, 255, 255, 255, 255, 255, 127}},
	{1 << 63, []byte{128, 128, 128, 128, 128, 128, 128, 128, 128, 1}},
	{top - 1, []byte{254, 255, 255, 255, 255, 255, 255, 255, 255, 1}},
	{top, []byte{255, 255, 255, 255, 255, 255, 255, 255, 255, 1}},
}

func out(t *testing.T, w *coder.Writer) []byte {
	t.Helper()
	b, e := w.Out()
	if e != api.OK {
		t.Fatal("refused:", e)
	}
	return b
}

// written is what a new writer has written.
func written(t *testing.T, do func(w *coder.Writer)) []byte {
	t.Helper()
	var w coder.Writer
	do(&w)
	return out(t, &w)
}

// failed asks that a writer has failed, and how.
func failed(t *testing.T, w *coder.Writer, want api.Errno) {
	t.Helper()
	if b, e := w.Out(); len(b) != 0 || e != want {
		t.Fatal(len(b), e, "want", want)
	}
}

// P5.1: each number is written in its bytes, by Num and by Int.
func TestNumbersAreWritten(t *testing.T) {
	for _, x := range edges {
		if b := written(t, func(w *coder.Writer) { w.Num(x.n) }); !bytes.Equal(b, x.text) {
			t.Fatal(x.n, b, x.text)
		}
		if x.n > math.MaxInt {
			continue
		}
		if b := written(t, func(w *coder.Writer) { w.Int(int(x.n)) }); !bytes.Equal(b, x.text) {
			t.Fatal(x.n, b, x.text)
		}
	}
}

// P5.1: a flag is the number 0 or 1, a string of bytes the number of its bytes, and they.
func TestFlagsAndBytesAreWritten(t *testing.T) {
	long := slices.Repeat([]byte{0, 255, 7}, 100)
	for _, x := range []struct {
		do   func(w *coder.Writer)
		want []byte
	}{
		{func(w *coder.Writer) { w.Flag(false) }, []byte{0}},
		{func(w *coder.Writer) { w.Flag(true) }, []byte{1}},
		{func(w *coder.Writer) { w.Raw(nil) }, []byte{0}},
		{func(w *coder.Writer) { w.Raw([]byte{}) }, []byte{0}},
		{func(w *coder.Writer) { w.Raw([]byte{0}) }, []byte{1, 0}},
		{func(w *coder.Writer) { w.Raw([]byte{255, 128}) }, []byte{2, 255, 128}},
		{func(w *coder.Writer) { w.Raw(long) }, append([]byte{172, 2}, long...)},
	} {
		if b := written(t, x.do); !bytes.Equal(b, x.want) {
			t.Fatal(b, x.want)
		}
	}
}

// P5.1: what is written stands behind what was written, whatever was asked in between.
func TestWrittenBehind(t *testing.T) {
	var w coder.Writer
	var want []byte
	for round := range 200 {
		for _, x := range edges {
			w.Num(x.n)
			want = append(want, x.text...)
			w.Flag(x.n%2 == 0)
			want = append(want, byte(1-x.n%2))
			w.Raw(x.text)
			want = append(append(want, byte(len(x.text))), x.text...)
			w.Int(round % 128)
			want = append(want, byte(round%128))
			if round%50 == 0 && !bytes.Equal(out(t, &w), want) {
				t.Fatal(round, x.n)
			}
		}
	}
	if !bytes.Equal(out(t, &w), want) || !bytes.Equal(out(t, &w), want) {
		t.Fatal("not what was written")
	}
}

// P5.1: of an Int below 0 nothing is written, and the writer has failed.
func TestIntBelowNought(t *testing.T) {
	for _, n := range []int{-1, -2, -128, math.MinInt} {
		var fresh, used coder.Writer
		fresh.Int(n)
		failed(t, &fresh, api.ErrArg)
		used.Num(7)
		used.Int(n)
		failed(t, &used, api.ErrArg)
	}
}

// filled is a writer that has written so many bytes.
func filled(t *testing.T, n int) *coder.Writer {
	t.Helper()
	w := new(coder.Writer)
	for range n {
		w.Num(5)
	}
	if len(out(t, w)) != n {
		t.Fatal(n)
	}
	return w
}

// P5.1: MaxBytes bytes are just enough room, whatever is written last; one more is too much.
func TestMaxBytes(t *testing.T) {
	lasts := []struct {
		size int
		do   func(w *coder.Writer)
	}{
		{1, func(w *coder.Writer) { w.Num(127) }},
		{1, func(w *coder.Writer) { w.Int(0) }},
		{1, func(w *coder.Writer) { w.Flag(true) }},
		{1, func(w *coder.Writer) { w.Flag(false) }},
		{1, func(w *coder.Writer) { w.Raw(nil) }},
		{2, func(w *coder.Writer) { w.Num(128) }},
		{2, func(w *coder.Writer) { w.Raw([]byte{1}) }},
		{9, func(w *coder.Writer) { w.Int(math.MaxInt) }},
		{10, func(w *coder.Writer) { w.Num(top) }},
		{130, func(w *coder.Writer) { w.Raw(make([]byte, 128)) }},
	}
	for _, last := range lasts {
		w := filled(t, api.MaxBytes-last.size)
		last.do(w)
		full := out(t, w)
		alone := written(t, last.do)
		if len(full) != api.MaxBytes || !bytes.Equal(full[api.MaxBytes-last.size:], alone) {
			t.Fatal(last.size, len(full))
		}
		w.Flag(false)
		failed(t, w, api.ErrBig)

		over := filled(t, api.MaxBytes-last.size+1)
		last.do(over)
		failed(t, over, api.ErrBig)
	}
}

// P5.1: a string of bytes fills MaxBytes bytes together with the number of its bytes.
func TestMaxBytesAtOnce(t *testing.T) {
	const head = 3
	var just, more, whole, far coder.Writer
	just.Raw(make([]byte, api.MaxBytes-head))
	if b := out(t, &just); len(b) != api.MaxBytes {
		t.Fatal(len(b))
	}
	more.Raw(make([]byte, api.MaxBytes-head+1))
	failed(t, &more, api.ErrBig)
	whole.Raw(make([]byte, api.MaxBytes))
	failed(t, &whole, api.ErrBig)
	far.Raw(make([]byte, 4*api.MaxBytes))
	failed(t, &far, api.ErrBig)
}

// P5.1: behind its first failure a writer writes nothing, and keeps that failure.
func TestWriterStaysFailed(t *testing.T) {
	behind := func(w *coder.Writer, want api.Errno) {
		t.Helper()
		for _, do := range []func(){
			func() { w.Num(1) },
			func() { w.Int(1) },
			func() { w.Int(-1) },
			func() { w.Flag(true) },
			func() { w.Raw([]byte{1}) },
			func() { w.Raw(nil) },
			func() { w.Raw(make([]byte, api.MaxBytes)) },
		} {
			do()
			failed(t, w, want)
		}
	}
	var arg, big coder.Writer
	arg.Int(-1)
	behind(&arg, api.ErrArg)
	big.Raw(make([]byte, api.MaxBytes))
	behind(&big, api.ErrBig)
	full := filled(t, api.MaxBytes)
	full.Int(-1)
	behind(full, api.ErrArg)
}

// P5.1: a Writer{} has written nothing; by a nil one nothing is written.
func TestNoWriter(t *testing.T) {
	if b := out(t, &coder.Writer{}); len(b) != 0 {
		t.Fatal(b)
	}
	var w *coder.Writer
	w.Num(1)
	w.Int(1)
	w.Int(-1)
	w.Flag(true)
	w.Raw([]byte{1})
	w.Raw(make([]byte, api.MaxBytes))
	failed(t, w, api.ErrNil)
}

// P5.1: a writer that is copied as a value, and the one that it was copied from, write each by itself.
func TestWritersAreValues(t *testing.T) {
	for size := range 200 {
		w := filled(t, size)
		was := out(t, w)
		a, b := *w, *w
		a.Raw([]byte{1, 2, 3})
		b.Raw([]byte{4, 5, 6})
		w.Raw([]byte{7, 8, 9})
		held := *w
		*w = b
		w.Num(1)
		b.Int(-1)
		for _, x := range []struct {
			w    *coder.Writer
			want []byte
		}{{&a, []byte{3, 1, 2, 3}}, {w, []byte{3, 4, 5, 6, 1}}, {&held, []byte{3, 7, 8, 9}}} {
			if got := out(t, x.w); !bytes.Equal(got, append(slices.Clone(was), x.want...)) {
				t.Fatal(size, got, x.want)
			}
		}
		failed(t, &b, api.ErrArg)
	}
}

// Rule 4: a writer changes and keeps nothing of what is handed in, and hands out new memory.
func TestWriterMemory(t *testing.T) {
	room := []byte{1, 2, 3, 77, 78, 79}
	var w coder.Writer
	w.Raw(room[:3])
	w.Num(4)
	if !bytes.Equal(room, []byte{1, 2, 3, 77, 78, 79}) {
		t.Fatal(room)
	}
	clear(room)
	want := []byte{3, 1, 2, 3, 4}
	first := out(t, &w)
	if !bytes.Equal(first, want) {
		t.Fatal(first)
	}
	first = first[:cap(first)]
	for i := range first {
		first[i] = 99
	}
	second := out(t, &w)
	_ = append(second, 98)
	w.Num(5)
	if b := out(t, &w); !bytes.Equal(b, append(want, 5)) || !bytes.Equal(second, want) {
		t.Fatal(b, second)
	}
}

// telling is what a read tells: its number, where it ends, and why it failed.
type telling struct {
	n   uint64
	end int
	e   api.Errno
}

// told is how the bytes' number is read by the chapter's words, over whole numbers.
func told(b []byte, most *big.Int) telling {
	n := new(big.Int)
	for i, c := range b {
		part := new(big.Int).Lsh(big.NewInt(int64(c%128)), uint(7*i))
		n.Add(n, part)
		last := c < 128
		if last && c == 0 && i > 0 || i == 9 && c > 1 {
			return telling{0, 0, api.ErrForm}
		}
		if last && n.Cmp(most) > 0 {
			return telling{0, 0, api.ErrForm}
		}
		if last {
			return telling{n.Uint64(), i + 1, api.OK}
		}
	}
	return telling{0, 0, api.ErrEnd}
}

func whole(n uint64) *big.Int { return new(big.Int).SetUint64(n) }

var mosts = []uint64{0, 1, 126, 127, 128, 129, 255, 256, 299, 300, 301, 1<<14 - 1, 1 << 14, 1 << 32, 1<<63 - 1, 1 << 63, top - 1, top}

// held asks that a read tells what the chapter's words tell, at a place behind others too.
func held(t *testing.T, text []byte) {
	t.Helper()
	for _, ahead := range []int{0, 3} {
		b := append(slices.Repeat([]byte{9}, ahead), text...)
		for _, most := range mosts {
			heldAt(t, b, ahead, told(text, whole(most)), func(r *coder.Reader) uint64 { return r.Num(most) })
		}
		for _, most := range []int{math.MinInt, -1, 0, 1, 127, 128, 300, 1 << 40, math.MaxInt} {
			heldAt(t, b, ahead, told(text, big.NewInt(int64(most))), func(r *coder.Reader) uint64 { return uint64(r.Int(most)) })
		}
	}
}

func heldAt(t *testing.T, b []byte, ahead int, want telling, read func(r *coder.Reader) uint64) {
	t.Helper()
	r := coder.Open(b)
	for range ahead {
		r.Num(top)
	}
	n := read(r)
	if n != want.n || r.At() != ahead+want.end || r.Err() != want.e {
		t.Fatal(b, n, r.At(), r.Err(), "want", want)
	}
}

// P5.2: texts of one byte and of two, all of them.
func TestShortTexts(t *testing.T) {
	held(t, nil)
	for a := range 256 {
		held(t, []byte{byte(a)})
		for b := range 256 {
			held(t, []byte{byte(a), byte(b)})
		}
	}
}

// P5.2: texts up to twelve bytes, of the bytes at which something changes.
func TestLongTexts(t *testing.T) {
	ends := []byte{0, 1, 2, 127, 128, 129, 130, 255}
	for size := range 12 {
		for _, body := range []byte{128, 129, 255} {
			text := slices.Repeat([]byte{body}, size)
			held(t, text)
			for _, last := range ends {
				held(t, append(slices.Clone(text), last))
				held(t, append(slices.Clone(text), last, 0))
				held(t, append(slices.Clone(text), last, 1))
			}
		}
	}
	for _, x := range edges {
		held(t, x.text)
		held(t, append(slices.Clone(x.text), 7))
		held(t, x.text[:len(x.text)-1])
	}
}

// P5.2: the bytes end in the midst of a number, or ahead of it, also where none would be allowed.
func TestBytesEnd(t *testing.T) {
	for _, text := range [][]byte{nil, {128}, {255, 255}, slices.Repeat([]byte{255}, 9)} {
		for _, read := range reads() {
			r := coder.Open(text)
			if !read(r) || r.Err() != api.ErrEnd || r.At() != 0 {
				t.Fatal(text, r.Err(), r.At())
			}
		}
		r := coder.Open(text)
		if r.Int(-1) != 0 || r.Err() != api.ErrEnd {
			t.Fatal(text, r.Err())
		}
	}
}

// reads are all ways to read, each with whether it answered 0, false or nothing.
func reads() []func(r *coder.Reader) bool {
	return []func(r *coder.Reader) bool{
		func(r *coder.Reader) bool { return r.Num(top) == 0 },
		func(r *coder.Reader) bool { return r.Num(0) == 0 },
		func(r *coder.Reader) bool { return r.Int(math.MaxInt) == 0 },
		func(r *coder.Reader) bool { return r.Int(-1) == 0 },
		func(r *coder.Reader) bool { return !r.Flag() },
		func(r *coder.Reader) bool { return len(r.Raw(math.MaxInt)) == 0 },
		func(r *coder.Reader) bool { return len(r.Raw(-1)) == 0 },
	}
}

// P5.2: a flag is 0 or 1; 2 and above, and what isn't a number, are none.
func TestFlagsAreRead(t *testing.T) {
	for _, x := range []struct {
		text []byte
		on   bool
		at   int
		e    api.Errno
	}{
		{[]byte{0}, false, 1, api.OK},
		{[]byte{1}, true, 1, api.OK},
		{[]byte{1, 1}, true, 1, api.OK},
		{[]byte{2}, false, 0, api.ErrForm},
		{[]byte{127}, false, 0, api.ErrForm},
		{[]byte{129, 1}, false, 0, api.ErrForm},
		{[]byte{129, 0}, false, 0, api.ErrForm},
		{[]byte{128}, false, 0, api.ErrEnd},
		{nil, false, 0, api.ErrEnd},
	} {
		r := coder.Open(x.text)
		if on := r.Flag(); on != x.on || r.At() != x.at || r.Err() != x.e {
			t.Fatal(x.text, on, r.At(), r.Err())
		}
	}
}

// P5.2: a string of bytes of at most so many; a number above that fails ahead of its bytes.
func TestBytesAreRead(t *testing.T) {
	for _, x := range []struct {
		text []byte
		most int
		want []byte
		at   int
		e    api.Errno
	}{
		{[]byte{0}, 0, nil, 1, api.OK},
		{[]byte{0, 1}, 5, nil, 1, api.OK},
		{[]byte{1, 9}, 1, []byte{9}, 2, api.OK},
		{[]byte{2, 8, 0, 7}, 2, []byte{8, 0}, 3, api.OK},
		{[]byte{2, 8, 128}, math.MaxInt, []byte{8, 128}, 3, api.OK},
		{[]byte{2, 8, 9}, 1, nil, 0, api.ErrForm},
		{[]byte{2}, 1, nil, 0, api.ErrForm},
		{[]byte{1, 9}, 0, nil, 0, api.ErrForm},
		{[]byte{0}, -1, nil, 0, api.ErrForm},
		{[]byte{1, 9}, math.MinInt, nil, 0, api.ErrForm},
		{[]byte{129, 0, 9}, 9, nil, 0, api.ErrForm},
		{[]byte{1}, 1, nil, 0, api.ErrEnd},
		{[]byte{2, 8}, 2, nil, 0, api.ErrEnd},
		{[]byte{3, 8, 9}, math.MaxInt, nil, 0, api.ErrEnd},
		{[]byte{128}, 9, nil, 0, api.ErrEnd},
		{[]byte{}, -1, nil, 0, api.ErrEnd},
		{[]byte{255, 255, 255, 255, 255, 255, 255, 255, 127, 1}, math.MaxInt, nil, 0, api.ErrEnd},
		{[]byte{255, 255, 255, 255, 255, 255, 255, 255, 255, 1, 1}, math.MaxInt, nil, 0, api.ErrForm},
	} {
		r := coder.Open(x.text)
		if b := r.Raw(x.most); !bytes.Equal(b, x.want) || r.At() != x.at || r.Err() != x.e {
			t.Fatal(x.text, x.most, b, r.At(), r.Err())
		}
	}
	long := slices.Repeat([]byte{3, 200}, 150)
	r := coder.Open(append([]byte{172, 2}, long...))
	if b := r.Raw(300); !bytes.Equal(b, long) || r.Done() != api.OK || r.At() != 302 {
		t.Fatal(len(b), r.At(), r.Err())
	}
}

// P5.2: from a failure on nothing is read any more, and the first failure stays.
func TestReaderStaysFailed(t *testing.T) {
	for _, x := range []struct {
		text []byte
		fail func(r *coder.Reader)
		e    api.Errno
	}{
		{[]byte{7, 2, 1, 1, 1}, func(r *coder.Reader) { r.Flag() }, api.ErrForm},
		{[]byte{7, 1, 1, 1, 1}, func(r *coder.Reader) { r.Num(0) }, api.ErrForm},
		{[]byte{7, 0, 1, 1, 1}, func(r *coder.Reader) { r.Int(-1) }, api.ErrForm},
		{[]byte{7, 1, 1, 1, 1}, func(r *coder.Reader) { r.Raw(0) }, api.ErrForm},
		{[]byte{7, 9, 1, 1, 1}, func(r *coder.Reader) { r.Raw(9) }, api.ErrEnd},
		{[]byte{7, 128, 0, 1, 1}, func(r *coder.Reader) { r.Num(9) }, api.ErrForm},
		{[]byte{7, 128, 129, 255}, func(r *coder.Reader) { r.Num(9) }, api.ErrEnd},
		{[]byte{7}, func(r *coder.Reader) { r.Num(9) }, api.ErrEnd},
	} {
		r := coder.Open(x.text)
		if r.Num(9) != 7 {
			t.Fatal(x.text)
		}
		x.fail(r)
		for range 2 {
			for _, read := range reads() {
				if !read(r) || r.At() != 1 || r.Err() != x.e || r.Done() != x.e {
					t.Fatal(x.text, r.At(), r.Err(), r.Done())
				}
			}
		}
	}
}

// P5.2: of a nil reader nothing is read; a Reader{} is one of no bytes, as one of an empty list is.
func TestNoReader(t *testing.T) {
	for _, read := range reads() {
		var none *coder.Reader
		if !read(none) || none.At() != 0 || none.Err() != api.ErrNil || none.Done() != api.ErrNil {
			t.Fatal(none.At(), none.Err(), none.Done())
		}
		for _, r := range []*coder.Reader{{}, new(coder.Reader), coder.Open(nil), coder.Open([]byte{})} {
			if r.At() != 0 || r.Err() != api.OK || r.Done() != api.OK {
				t.Fatal(r.At(), r.Err(), r.Done())
			}
			if !read(r) || r.At() != 0 || r.Err() != api.ErrEnd || r.Done() != api.ErrEnd {
				t.Fatal(r.At(), r.Err(), r.Done())
			}
		}
	}
}

// P5.3: At, Err and Done ahead of a failure, with bytes left, at the end and behind a failure.
func TestWhereAReaderIs(t *testing.T) {
	r := coder.Open([]byte{172, 2, 1, 2, 50, 60, 0, 5})
	at := func(place int, e, done api.Errno) {
		t.Helper()
		for range 2 {
			if r.At() != place || r.Err() != e || r.Done() != done {
				t.Fatal(r.At(), r.Err(), r.Done(), "want", place, e, done)
			}
		}
	}
	at(0, api.OK, api.ErrLeft)
	if r.Num(300) != 300 {
		t.Fatal()
	}
	at(2, api.OK, api.ErrLeft)
	if !r.Flag() {
		t.Fatal()
	}
	at(3, api.OK, api.ErrLeft)
	if !bytes.Equal(r.Raw(2), []byte{50, 60}) {
		t.Fatal()
	}
	at(6, api.OK, api.ErrLeft)
	if len(r.Raw(0)) != 0 {
		t.Fatal()
	}
	at(7, api.OK, api.ErrLeft)
	copied := *r
	if r.Int(5) != 5 {
		t.Fatal()
	}
	at(8, api.OK, api.OK)
	if r.Flag() {
		t.Fatal()
	}
	at(8, api.ErrEnd, api.ErrEnd)
	r = &copied
	at(7, api.OK, api.ErrLeft)
	if r.Int(4) != 0 {
		t.Fatal()
	}
	at(7, api.ErrForm, api.ErrForm)
}

// P5.4: what is written is read as it was.
func TestReadAsWritten(t *testing.T) {
	var w coder.Writer
	for _, x := range edges {
		w.Num(x.n)
		w.Int(int(x.n >> 1))
		w.Flag(x.n%2 == 1)
		w.Raw(x.text)
		w.Raw(nil)
	}
	r := coder.Open(out(t, &w))
	for _, x := range edges {
		if n := r.Num(x.n); n != x.n {
			t.Fatal(x.n, n, r.Err())
		}
		if n := r.Int(int(x.n >> 1)); n != int(x.n>>1) {
			t.Fatal(x.n, n, r.Err())
		}
		if r.Flag() != (x.n%2 == 1) {
			t.Fatal(x.n, r.Err())
		}
		if b := r.Raw(len(x.text)); !bytes.Equal(b, x.text) {
			t.Fatal(x.n, b, r.Err())
		}
		if b := r.Raw(0); len(b) != 0 {
			t.Fatal(x.n, b, r.Err())
		}
	}
	if r.Done() != api.OK {
		t.Fatal(r.Done())
	}
}

// P5.4: there is one form of each number: what is read is written in the bytes that it was read from.
func TestOneForm(t *testing.T) {
	some := []byte{0, 1, 2, 127, 128, 129, 255}
	texts := [][]byte{nil}
	for i := 0; i < len(texts); i++ {
		text := texts[i]
		r := coder.Open(text)
		n := r.Num(top)
		if r.Done() == api.OK && !bytes.Equal(written(t, func(w *coder.Writer) { w.Num(n) }), text) {
			t.Fatal(text, n)
		}
		if len(text) == 5 {
			continue
		}
		for _, b := range some {
			texts = append(texts, append(slices.Clone(text), b))
		}
	}
	for _, ahead := range []byte{128, 129, 255} {
		for last := range 256 {
			text := append(slices.Repeat([]byte{ahead}, 9), byte(last))
			r := coder.Open(text)
			n := r.Num(top)
			if r.Done() == api.OK && !bytes.Equal(written(t, func(w *coder.Writer) { w.Num(n) }), text) {
				t.Fatal(text, n)
			}
		}
	}
}

// Rule 4: a reader changes and keeps nothing of what is handed in, and hands out new memory.
func TestReaderMemory(t *testing.T) {
	room := []byte{2, 8, 9, 2, 8, 9, 5, 77, 78}
	was := slices.Clone(room)
	r := coder.Open(room[:7])
	if !bytes.Equal(room, was) {
		t.Fatal(room)
	}
	clear(room)
	first := r.Raw(2)
	if !bytes.Equal(first, []byte{8, 9}) {
		t.Fatal(first)
	}
	first = append(first[:cap(first)], 99, 99, 99)
	for i := range first {
		first[i] = 99
	}
	second := r.Raw(2)
	second = second[:cap(second)]
	clear(second)
	if n := r.Num(9); n != 5 || r.Done() != api.OK {
		t.Fatal(n, r.Done())
	}
	if !bytes.Equal(room, make([]byte, len(room))) {
		t.Fatal(room)
	}
}

// Rule 4: of a list with spare room its bytes alone are read.
func TestSpareRoomIsNotRead(t *testing.T) {
	room := []byte{128, 1, 1}
	r := coder.Open(room[:1])
	if r.Num(top) != 0 || r.Err() != api.ErrEnd {
		t.Fatal(r.Err())
	}
	r = coder.Open([]byte{2, 5, 6}[:2])
	if r.Raw(9) != nil || r.Err() != api.ErrEnd {
		t.Fatal(r.Err())
	}
	back := coder.Open([]byte{1, 5, 6, 7})
	if b := back.Raw(9); len(b[:cap(b)]) > 1 && slices.Contains(b[:cap(b)], 6) {
		t.Fatal(b[:cap(b)])
	}
}

// The chapter's examples.
func TestExamples(t *testing.T) {
	if b := written(t, func(w *coder.Writer) { w.Num(300) }); !bytes.Equal(b, []byte{172, 2}) {
		t.Fatal(b)
	}
	for _, x := range []struct {
		text []byte
		e    api.Errno
	}{{[]byte{128, 0}, api.ErrForm}, {[]byte{128}, api.ErrEnd}} {
		r := coder.Open(x.text)
		if r.Num(top) != 0 || r.Err() != x.e {
			t.Fatal(x.text, r.Err())
		}
	}
}
