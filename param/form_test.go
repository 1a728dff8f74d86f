package param_test

import (
	"bytes"
	"encoding/binary"
	"math"
	"math/rand"
	"reflect"
	"slices"
	"testing"

	"bullion/api"
	"bullion/coder"
	"bullion/param"
)

// fields are the numbers of api's struct, in its order: of each its bytes.
func fields(p api.Params) [][]byte {
	var list [][]byte
	v := reflect.ValueOf(p)
	for i := range v.NumField() {
		n := uint64(0)
		if f := v.Field(i); f.CanUint() {
			n = f.Uint()
		} else {
			n = uint64(f.Int())
		}
		list = append(list, binary.AppendUvarint(nil, n))
	}
	return list
}

// isInt says whether a field of api's struct is Go's int.
func isInt(i int) bool {
	return reflect.TypeFor[api.Params]().Field(i).Type.Kind() == reflect.Int
}

// text is parameters as bytes.
func text(p api.Params) []byte { return slices.Concat(fields(p)...) }

// with is parameters as bytes, with other bytes in the place of one field.
func with(p api.Params, i int, part ...byte) []byte {
	list := fields(p)
	list[i] = part
	return slices.Concat(list...)
}

// several are parameters that are right.
func several() []api.Params {
	list := []api.Params{simple(), roomy(), longest(), least(), most(), widest()}
	for _, x := range edges() {
		if p := x.of(); x.right {
			x.change(&p)
			list = append(list, p)
		}
	}
	dice := rand.New(rand.NewSource(13))
	for len(list) < 500 {
		if p := mixed(dice); right(p) {
			list = append(list, p)
		}
	}
	return list
}

// wrong are parameters that aren't.
func wrong() []api.Params {
	list := []api.Params{{}, full(top, math.MaxInt), full(0, math.MinInt)}
	for _, x := range edges() {
		if p := x.of(); !x.right {
			x.change(&p)
			list = append(list, p)
		}
	}
	return list
}

func out(t *testing.T, w *coder.Writer) []byte {
	t.Helper()
	b, e := w.Out()
	if e != api.OK {
		t.Fatal("refused:", e)
	}
	return b
}

// P7.3, P7.4: the numbers of all fields in the order of api's struct, written, encoded, read and decoded.
func TestForm(t *testing.T) {
	for _, p := range several() {
		want := text(p)
		if b, e := param.Encode(p); e != api.OK || !bytes.Equal(b, want) {
			t.Fatalf("%v, %d, want %v of %+v", b, e, want, p)
		}
		var w coder.Writer
		if e := param.Write(&w, p); e != api.OK || !bytes.Equal(out(t, &w), want) {
			t.Fatalf("Write: %d of %+v", e, p)
		}
		if got, n, e := param.Decode(want); got != p || n != len(want) || e != api.OK {
			t.Fatalf("%+v, %d, %d, want %+v", got, n, e, p)
		}
		r := coder.Open(want)
		if got, e := param.Read(r); got != p || e != api.OK || r.Done() != api.OK || r.At() != len(want) {
			t.Fatalf("%+v, %d, want %+v", got, e, p)
		}
	}
}

// P7.3: of what isn't right nothing is written, and the writer goes on.
func TestWrongIsNotWritten(t *testing.T) {
	for _, p := range wrong() {
		if b, e := param.Encode(p); b != nil || e != api.ErrParam {
			t.Fatalf("%v, %d of %+v", b, e, p)
		}
		var w coder.Writer
		w.Num(300)
		if e := param.Write(&w, p); e != api.ErrParam || !bytes.Equal(out(t, &w), []byte{172, 2}) {
			t.Fatalf("%d of %+v", e, p)
		}
		w.Num(7)
		if b := out(t, &w); !bytes.Equal(b, []byte{172, 2, 7}) {
			t.Fatal(b)
		}
		if e := param.Write(nil, p); e != api.ErrParam {
			t.Fatalf("by no writer: %d of %+v", e, p)
		}
	}
}

// P7.3: by a writer that is nil nothing is written: OK.
func TestNoWriter(t *testing.T) {
	for _, p := range several() {
		if e := param.Write(nil, p); e != api.OK {
			t.Fatal(e)
		}
	}
}

// P7.3: what a writer's own failure is, its Out tells.
func TestFailedWriter(t *testing.T) {
	var failed, full coder.Writer
	failed.Int(-1)
	full.Raw(make([]byte, api.MaxBytes-3-20))
	for _, x := range []struct {
		w *coder.Writer
		e api.Errno
	}{{&failed, api.ErrArg}, {&full, api.ErrBig}} {
		for range 2 {
			if e := param.Write(x.w, simple()); e != api.OK {
				t.Fatal(e)
			}
			if e := param.Write(x.w, api.Params{}); e != api.ErrParam {
				t.Fatal(e)
			}
			if b, e := x.w.Out(); len(b) != 0 || e != x.e {
				t.Fatal(len(b), e)
			}
		}
	}
}

// P7.3: they stand behind what was written, and are read at the place where the last call ended.
func TestAmongOthers(t *testing.T) {
	var w coder.Writer
	var want []byte
	list := several()
	for _, p := range list {
		w.Num(300)
		if e := param.Write(&w, p); e != api.OK {
			t.Fatal(e)
		}
		want = append(append(want, 172, 2), text(p)...)
	}
	b := out(t, &w)
	if !bytes.Equal(b, want) {
		t.Fatal("other bytes")
	}
	r := coder.Open(b)
	for _, p := range list {
		if n := r.Num(300); n != 300 {
			t.Fatal(n)
		}
		if got, e := param.Read(r); got != p || e != api.OK {
			t.Fatalf("%+v, %d, want %+v", got, e, p)
		}
	}
	if e := r.Done(); e != api.OK {
		t.Fatal(e)
	}
}

// P7.3: bytes behind the parameters are left, whatever they are.
func TestBytesBehind(t *testing.T) {
	for _, p := range []api.Params{simple(), longest(), most(), least()} {
		b := text(p)
		for _, behind := range [][]byte{{0}, {7}, {128}, {255, 255}, {128, 0}, b, make([]byte, api.MaxBytes)} {
			all := slices.Concat(b, behind)
			if got, n, e := param.Decode(all); got != p || n != len(b) || e != api.OK {
				t.Fatalf("%+v, %d, %d, want %+v", got, n, e, p)
			}
			r := coder.Open(all)
			if got, e := param.Read(r); got != p || e != api.OK || r.At() != len(b) || r.Done() != api.ErrLeft {
				t.Fatalf("%+v, %d, want %+v", got, e, p)
			}
		}
	}
}

// unread asks that bytes are refused by layer 5, at the beginning of which number, and that a reader stays failed there.
func unread(t *testing.T, b []byte, at int, want api.Errno) {
	t.Helper()
	if p, n, e := param.Decode(b); p != (api.Params{}) || n != 0 || e != want {
		t.Fatalf("%+v, %d, %d, want %d of %v", p, n, e, want, b)
	}
	r := coder.Open(b)
	for range 2 {
		if p, e := param.Read(r); p != (api.Params{}) || e != want || r.Err() != want || r.At() != at {
			t.Fatalf("%+v, %d at %d, want %d at %d of %v", p, e, r.At(), want, at, b)
		}
	}
}

// ahead is how many bytes the fields ahead of one have.
func ahead(p api.Params, i int) int { return len(slices.Concat(fields(p)[:i]...)) }

// P7.3: bytes that end too soon, in each field: ErrEnd.
func TestBytesEnd(t *testing.T) {
	unread(t, nil, 0, api.ErrEnd)
	unread(t, []byte{}, 0, api.ErrEnd)
	for _, p := range []api.Params{simple(), longest(), most(), least()} {
		b := text(p)
		for i, part := range fields(p) {
			at := ahead(p, i)
			for cut := range part {
				unread(t, b[:at+cut], at, api.ErrEnd)
			}
			unread(t, append(slices.Clone(b[:at]), 128), at, api.ErrEnd)
			unread(t, append(slices.Clone(b[:at]), 255, 255), at, api.ErrEnd)
		}
	}
}

// P7.3: a number in no right form, in each field; of Go's ints also one above 2^31 - 1: ErrForm.
func TestNoNumbers(t *testing.T) {
	p := simple()
	for i := range fields(p) {
		at := ahead(p, i)
		for _, part := range [][]byte{
			{128, 0},
			{129, 0},
			{255, 128, 0},
			{255, 255, 255, 255, 255, 255, 255, 255, 255, 2},
			{255, 255, 255, 255, 255, 255, 255, 255, 255, 255},
			{128, 128, 128, 128, 128, 128, 128, 128, 128, 128, 1},
		} {
			unread(t, with(p, i, part...), at, api.ErrForm)
		}
		if !isInt(i) {
			continue
		}
		for _, n := range []uint64{1 << 31, 1<<31 + 1, 1 << 32, 1<<63 - 1, 1 << 63, top} {
			unread(t, with(p, i, binary.AppendUvarint(nil, n)...), at, api.ErrForm)
		}
	}
}

// misread asks that bytes are read, and refused as not right.
func misread(t *testing.T, b []byte) {
	t.Helper()
	if p, n, e := param.Decode(b); p != (api.Params{}) || n != 0 || e != api.ErrParam {
		t.Fatalf("%+v, %d, %d of %v", p, n, e, b)
	}
	r := coder.Open(b)
	if p, e := param.Read(r); p != (api.Params{}) || e != api.ErrParam || r.Done() != api.OK {
		t.Fatalf("%+v, %d of %v", p, e, b)
	}
}

// P7.3: the greatest numbers that each field is read up to, which aren't right: ErrParam.
func TestGreatestNumbers(t *testing.T) {
	p := simple()
	for i := range fields(p) {
		n := uint64(top)
		if isInt(i) {
			n = 1<<31 - 1
		}
		misread(t, with(p, i, binary.AppendUvarint(nil, n)...))
		misread(t, with(p, i, binary.AppendUvarint(nil, n-1)...))
	}
	misread(t, text(full(top, 1<<31-1)))
}

// P7.3: numbers that are read, but aren't right.
func TestReadButWrong(t *testing.T) {
	count := 0
	for _, p := range wrong() {
		below := false
		for i, v := 0, reflect.ValueOf(p); i < v.NumField(); i++ {
			below = below || v.Field(i).CanInt() && (v.Field(i).Int() < 0 || v.Field(i).Int() > math.MaxInt32)
		}
		if !below {
			misread(t, text(p))
			count++
		}
	}
	if count < 50 {
		t.Fatal(count)
	}
}

// P7.3: what can't be read goes ahead of what isn't right, wherever it stands.
func TestUnreadAheadOfWrong(t *testing.T) {
	p := simple()
	p.Inc = 0
	last := len(fields(p)) - 1
	unread(t, with(p, last, 128, 0), ahead(p, last), api.ErrForm)
	unread(t, with(p, last), ahead(p, last), api.ErrEnd)
	unread(t, with(p, last, binary.AppendUvarint(nil, 1<<31)...), ahead(p, last), api.ErrForm)
	p = simple()
	p.Quorum = api.MaxRate + 1
	unread(t, with(p, 0, 128, 0), 0, api.ErrForm)
}

// P7.3: of no reader ErrNil; a Reader{} is one of no bytes; one that has failed keeps its failure.
func TestNoReader(t *testing.T) {
	if p, e := param.Read(nil); p != (api.Params{}) || e != api.ErrNil {
		t.Fatal(p, e)
	}
	if p, e := param.Read(&coder.Reader{}); p != (api.Params{}) || e != api.ErrEnd {
		t.Fatal(p, e)
	}
	r := coder.Open(append([]byte{9}, text(simple())...))
	r.Num(8)
	if p, e := param.Read(r); p != (api.Params{}) || e != api.ErrForm || r.At() != 0 {
		t.Fatal(p, e)
	}
}

// P7.3, P7.4: of any bytes what is decoded is right, and is encoded as the same bytes.
func TestAnyBytes(t *testing.T) {
	dice := rand.New(rand.NewSource(17))
	base := text(simple())
	good, bad := 0, 0
	for range 30000 {
		b := slices.Clone(base)
		for range 1 + dice.Intn(3) {
			b[dice.Intn(len(b))] = byte(dice.Intn(256))
		}
		b = b[:len(b)-dice.Intn(2)*dice.Intn(3)]
		p, n, e := param.Decode(b)
		if e != api.OK {
			bad++
			if p != (api.Params{}) || n != 0 {
				t.Fatal(p, n, e)
			}
			continue
		}
		good++
		if again, e := param.Encode(p); !right(p) || e != api.OK || !bytes.Equal(again, b[:n]) {
			t.Fatal(b, n, again, e)
		}
	}
	if good < 1000 || bad < 1000 {
		t.Fatal(good, bad)
	}
}

// Rule 4: what is handed in is not changed, its spare room neither, and not read; what is handed out is new memory.
func TestMemory(t *testing.T) {
	p := simple()
	first, _ := param.Encode(p)
	want := slices.Clone(first)
	first = first[:cap(first)]
	for i := range first {
		first[i] = 99
	}
	_ = append(first, 98)
	second, e := param.Encode(p)
	if e != api.OK || !bytes.Equal(second, want) || p != simple() {
		t.Fatal(second, e)
	}

	room := append(slices.Clone(want), 1, 2, 3)
	was := slices.Clone(room)
	got, n, e := param.Decode(room[:len(want)])
	if got != p || n != len(want) || e != api.OK || !bytes.Equal(room, was) {
		t.Fatal(got, n, e)
	}
	if got, n, e := param.Decode(room[:len(want)-1]); got != (api.Params{}) || n != 0 || e != api.ErrEnd || !bytes.Equal(room, was) {
		t.Fatal(got, n, e)
	}
	clear(room)
	if got != p {
		t.Fatal(got)
	}

	var w coder.Writer
	if e := param.Write(&w, p); e != api.OK {
		t.Fatal(e)
	}
	p.Inc, p.Quorum = 77, 78
	if b := out(t, &w); !bytes.Equal(b, want) {
		t.Fatal(b)
	}
}
