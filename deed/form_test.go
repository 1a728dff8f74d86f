package deed_test

import (
	"bytes"
	"encoding/binary"
	"math"
	"math/rand"
	"reflect"
	"slices"
	"testing"

	"bullion/api"
	"bullion/coder"
	"bullion/deed"
	"bullion/param"
)

// number is a number's bytes.
func number(n uint64) []byte { return binary.AppendUvarint(nil, n) }

// numbers are the numbers of all fields of parameters, each as its bytes.
func numbers(p api.Params) [][]byte {
	var list [][]byte
	for i, v := 0, reflect.ValueOf(p); i < v.NumField(); i++ {
		if f := v.Field(i); f.CanUint() {
			list = append(list, number(f.Uint()))
		} else {
			list = append(list, number(uint64(f.Int())))
		}
	}
	return list
}

// parts are what layer 5 reads of a deed one by one, each as its bytes: its kind, its fields, and of its parameters theirs.
func parts(d api.Deed) [][]byte {
	list := [][]byte{number(uint64(d.Kind))}
	uses, _ := usedBy(d)
	for _, name := range uses {
		v := value(&d, name)
		switch {
		case name == "Params":
			list = append(list, numbers(d.Params)...)
		case name == "Bits":
			list = append(list, append(number(uint64(len(d.Bits))), d.Bits...))
		case name == "Yes" && d.Yes:
			list = append(list, []byte{1})
		case name == "Yes":
			list = append(list, []byte{0})
		case v.CanUint():
			list = append(list, number(v.Uint()))
		default:
			list = append(list, number(uint64(v.Int())))
		}
	}
	return list
}

// text is a deed as bytes.
func text(d api.Deed) []byte { return slices.Concat(parts(d)...) }

// place is the place of a field's part: the kind's is 0.
func place(k kind, name string) int { return 1 + slices.Index(k.uses, name) }

// other is a deed as bytes, with other bytes in the place of one part.
func other(d api.Deed, i int, part ...byte) []byte {
	list := parts(d)
	list[i] = part
	return slices.Concat(list...)
}

// ahead is how many bytes the parts ahead of one have.
func ahead(d api.Deed, i int) int { return len(slices.Concat(parts(d)[:i]...)) }

func out(t *testing.T, w *coder.Writer) []byte {
	t.Helper()
	b, e := w.Out()
	if e != api.OK {
		t.Fatal("refused:", e)
	}
	return b
}

// P8.1, P8.3: the kind and the fields in order, written, encoded, read and decoded.
func TestForm(t *testing.T) {
	seen := [8]int{}
	for _, d := range several() {
		want := text(d)
		if b, e := deed.Encode(d); e != api.OK || !bytes.Equal(b, want) {
			t.Fatalf("%v, %d, want %v of %+v", b, e, want, d)
		}
		var w coder.Writer
		if e := deed.Write(&w, d); e != api.OK || !bytes.Equal(out(t, &w), want) {
			t.Fatalf("Write: %d of %+v", e, d)
		}
		if got, e := deed.Decode(want); !same(got, d) || e != api.OK {
			t.Fatalf("%+v, %d, want %+v", got, e, d)
		}
		r := coder.Open(want)
		if got, e := deed.Read(r); !same(got, d) || e != api.OK || r.Done() != api.OK || r.At() != len(want) {
			t.Fatalf("%+v, %d, want %+v", got, e, d)
		}
		seen[d.Kind]++
	}
	for n, count := range seen {
		if (count > 0) != (n > 0) {
			t.Fatal(seen)
		}
	}
}

// P8.1: the bytes of a deed of each kind, written out.
func TestBytes(t *testing.T) {
	for _, x := range []struct {
		d    api.Deed
		want []byte
	}{
		{api.Deed{Kind: api.DeedSend, Account: 0, To: 1, Amount: 5}, []byte{1, 0, 1, 5}},
		{api.Deed{Kind: api.DeedSend, Account: 63, To: 62, Amount: api.MaxMoney}, []byte{1, 63, 62, 128, 128, 128, 128, 128, 128, 128, 128, 64}},
		{api.Deed{Kind: api.DeedStake, Account: 2, Amount: 300}, []byte{2, 2, 172, 2}},
		{api.Deed{Kind: api.DeedTop, Account: 3, Member: 127, Amount: 1}, []byte{3, 3, 127, 1}},
		{api.Deed{Kind: api.DeedLeave, Account: 1, Member: 3}, []byte{4, 1, 3}},
		{api.Deed{Kind: api.DeedMark, Epoch: 300, Bits: []byte{5, 0}}, []byte{5, 172, 2, 2, 5, 0}},
		{api.Deed{Kind: api.DeedMark, Epoch: api.MaxEpoch}, []byte{5, 128, 128, 128, 128, 4, 0}},
		{api.Deed{Kind: api.DeedMove, Account: 9, What: api.MoveParams, Params: least()}, []byte{6, 9, 1, 1, 1, 1, 2, 1, 0, 1, 1, 1, 1, 0, 1, 0, 0, 0, 0, 0, 0, 0, 1, 0, 1, 0, 0}},
		{api.Deed{Kind: api.DeedMove, Account: 9, What: api.MoveSpend, To: 4, Amount: 128}, []byte{6, 9, 2, 4, 128, 1}},
		{api.Deed{Kind: api.DeedMove, Account: 9, What: api.MoveOn}, []byte{6, 9, 3}},
		{api.Deed{Kind: api.DeedMove, Account: 9, What: api.MoveOff}, []byte{6, 9, 4}},
		{api.Deed{Kind: api.DeedVote, Account: 1, Member: 2, Motion: 31, Yes: true}, []byte{7, 1, 2, 31, 1}},
		{api.Deed{Kind: api.DeedVote, Account: 1, Member: 2, Motion: 31}, []byte{7, 1, 2, 31, 0}},
	} {
		if b, e := deed.Encode(x.d); e != api.OK || !bytes.Equal(b, x.want) {
			t.Fatalf("%v, %d, want %v", b, e, x.want)
		}
		if d, e := deed.Decode(x.want); e != api.OK || !same(d, x.d) {
			t.Fatalf("%+v, %d, want %+v", d, e, x.d)
		}
	}
}

// P8.1: of a deed that isn't right nothing is written, and the writer goes on.
func TestWrongIsNotWritten(t *testing.T) {
	for _, d := range append(wrong(), api.Deed{}) {
		if b, e := deed.Encode(d); b != nil || e != api.ErrDeed {
			t.Fatalf("%v, %d of %+v", b, e, d)
		}
		var w coder.Writer
		w.Num(300)
		if e := deed.Write(&w, d); e != api.ErrDeed || !bytes.Equal(out(t, &w), []byte{172, 2}) {
			t.Fatalf("%d of %+v", e, d)
		}
		w.Num(7)
		if b := out(t, &w); !bytes.Equal(b, []byte{172, 2, 7}) {
			t.Fatal(b)
		}
	}
}

// P8.1: ErrNil of a writer that is nil, whether the deed is right or not.
func TestNoWriter(t *testing.T) {
	for _, d := range tried() {
		if e := deed.Write(nil, d); e != api.ErrNil {
			t.Fatal(e)
		}
	}
}

// P8.1: what a writer's own failure is, its Out tells: one that had failed, and one that fails in each of a deed's parts.
func TestFailedWriter(t *testing.T) {
	var failed, worse coder.Writer
	failed.Int(-1)
	worse.Raw(make([]byte, api.MaxBytes))
	for _, k := range kinds() {
		for _, x := range []struct {
			w *coder.Writer
			e api.Errno
		}{{&failed, api.ErrArg}, {&worse, api.ErrBig}} {
			if e := deed.Write(x.w, k.sample); e != api.OK {
				t.Fatal(e)
			}
			if e := deed.Write(x.w, api.Deed{Kind: k.sample.Kind, Account: -1}); e != api.ErrDeed {
				t.Fatal(e)
			}
			if b, e := x.w.Out(); len(b) != 0 || e != x.e {
				t.Fatal(len(b), e)
			}
		}
		size := len(text(k.sample))
		for room := range size + 1 {
			var full coder.Writer
			full.Raw(make([]byte, api.MaxBytes-3-room))
			e := deed.Write(&full, k.sample)
			b, why := full.Out()
			if e != api.OK || room < size && (len(b) != 0 || why != api.ErrBig) || room == size && (len(b) != api.MaxBytes || why != api.OK) {
				t.Fatal(k.name, room, e, len(b), why)
			}
		}
	}
}

// P8.1, P8.2: they stand behind what was written, and are read at the place where the last call ended.
func TestAmongOthers(t *testing.T) {
	var w coder.Writer
	var want []byte
	list := several()
	for _, d := range list {
		w.Num(300)
		if e := deed.Write(&w, d); e != api.OK {
			t.Fatal(e)
		}
		want = append(append(want, 172, 2), text(d)...)
	}
	b := out(t, &w)
	if !bytes.Equal(b, want) {
		t.Fatal("other bytes")
	}
	r := coder.Open(b)
	for _, d := range list {
		if n := r.Num(300); n != 300 {
			t.Fatal(n)
		}
		if got, e := deed.Read(r); !same(got, d) || e != api.OK {
			t.Fatalf("%+v, %d, want %+v", got, e, d)
		}
	}
	if e := r.Done(); e != api.OK {
		t.Fatal(e)
	}
}

// P8.2: bytes that are left behind a deed, whatever they are: ErrLeft of Decode, and nothing of Read.
func TestBytesBehind(t *testing.T) {
	for _, k := range kinds() {
		b := text(k.sample)
		for _, behind := range [][]byte{{0}, {7}, {128}, {255, 255}, {128, 0}, b, make([]byte, api.MaxBytes)} {
			all := slices.Concat(b, behind)
			if d, e := deed.Decode(all); !nothing(d) || e != api.ErrLeft {
				t.Fatalf("%+v, %d of %v", d, e, k.name)
			}
			r := coder.Open(all)
			if d, e := deed.Read(r); !same(d, k.sample) || e != api.OK || r.At() != len(b) || r.Done() != api.ErrLeft {
				t.Fatalf("%+v, %d of %v", d, e, k.name)
			}
		}
	}
}

// unread asks that bytes are refused by layer 5, at the beginning of which part, and that a reader stays failed there.
func unread(t *testing.T, b []byte, at int, want api.Errno) {
	t.Helper()
	if d, e := deed.Decode(b); !nothing(d) || e != want {
		t.Fatalf("%+v, %d, want %d of %v", d, e, want, b)
	}
	r := coder.Open(b)
	for range 2 {
		if d, e := deed.Read(r); !nothing(d) || e != want || r.Err() != want || r.At() != at {
			t.Fatalf("%+v, %d at %d, want %d at %d of %v", d, e, r.At(), want, at, b)
		}
	}
}

// misread asks that bytes are refused by a deed's own reader, that it has read up to a place, and that layer 5's hasn't failed.
func misread(t *testing.T, b []byte, at int, want api.Errno) {
	t.Helper()
	if d, e := deed.Decode(b); !nothing(d) || e != want {
		t.Fatalf("%+v, %d, want %d of %v", d, e, want, b)
	}
	r := coder.Open(b)
	if d, e := deed.Read(r); !nothing(d) || e != want || r.Err() != api.OK || r.At() != at {
		t.Fatalf("%+v, %d at %d, want %d at %d of %v", d, e, r.At(), want, at, b)
	}
}

// P8.2: bytes that end too soon, in each part: ErrEnd.
func TestBytesEnd(t *testing.T) {
	unread(t, nil, 0, api.ErrEnd)
	unread(t, []byte{}, 0, api.ErrEnd)
	for _, d := range several() {
		b := text(d)
		for i, part := range parts(d) {
			at := ahead(d, i)
			for cut := range part {
				unread(t, b[:at+cut], at, api.ErrEnd)
			}
		}
	}
	for _, k := range kinds() {
		for i := range parts(k.sample) {
			at := ahead(k.sample, i)
			b := text(k.sample)[:at]
			unread(t, slices.Concat(b, []byte{128}), at, api.ErrEnd)
			unread(t, slices.Concat(b, []byte{255, 255}), at, api.ErrEnd)
		}
	}
}

// P8.2: a number in no right form, in each part: ErrForm.
func TestNoNumbers(t *testing.T) {
	for _, k := range kinds() {
		for i := range parts(k.sample) {
			for _, part := range [][]byte{
				{128, 0},
				{129, 0},
				{255, 128, 0},
				{255, 255, 255, 255, 255, 255, 255, 255, 255, 2},
				{255, 255, 255, 255, 255, 255, 255, 255, 255, 255},
				{128, 128, 128, 128, 128, 128, 128, 128, 128, 128, 1},
			} {
				unread(t, other(k.sample, i, part...), ahead(k.sample, i), api.ErrForm)
			}
		}
	}
}

// P8.2: each number is read up to its greatest one; What, as the kind, up to 255, where it is read but none of these; of each, what is past it: ErrForm.
func TestGreatestNumbers(t *testing.T) {
	for _, k := range kinds() {
		for _, name := range k.uses {
			i := place(k, name)
			at := ahead(k.sample, i)
			switch name {
			case "Params":
				continue
			case "Yes", "Bits", "What":
				high := map[string]uint64{"Yes": 1, "Bits": 32, "What": 255}[name]
				for _, n := range []uint64{high + 1, high + 2, 2*high + 2, 1 << 32, 1 << 63, top} {
					unread(t, other(k.sample, i, number(n)...), at, api.ErrForm)
				}
				continue
			}
			_, high := span(name)
			want := with(k.sample, name, high)
			if d, e := deed.Decode(other(k.sample, i, number(high)...)); !same(d, want) || e != api.OK {
				t.Fatalf("%+v, %d, want %+v", d, e, want)
			}
			for _, n := range []uint64{high + 1, high + 2, 2*high + 1, 1<<63 - 1, 1 << 63, top} {
				unread(t, other(k.sample, i, number(n)...), at, api.ErrForm)
			}
		}
	}
}

// P8.2: a kind that is none of these: ErrDeed as soon as it is read, whatever is behind it; one above 255: ErrForm.
func TestNoSuchKind(t *testing.T) {
	behind := [][]byte{nil, {0}, {128}, {128, 0}, {0, 1, 5}, {0, 1, 5, 9}, {255, 255, 255, 255, 255, 255, 255, 255, 255, 2}}
	for n := range 300 {
		head := number(uint64(n))
		for _, more := range behind {
			b := slices.Concat(head, more)
			if n == 0 || n > 7 && n < 256 {
				misread(t, b, len(head), api.ErrDeed)
			} else if n > 255 {
				unread(t, b, 0, api.ErrForm)
			}
		}
	}
	for _, n := range []uint64{256 + 1, 512 + 1, 1<<32 + 1, 1<<63 + 1, top} {
		unread(t, slices.Concat(number(n), []byte{0, 1, 5}), 0, api.ErrForm)
	}
}

// P8.2: a What that is none of these: ErrDeed as soon as it is read, whatever is behind it; one above 255: ErrForm; what can't be read ahead of it goes ahead.
func TestNoSuchWhat(t *testing.T) {
	behind := [][]byte{nil, {0}, {128}, {128, 0}, {0, 5}, {0, 0}, {255, 255, 255, 255, 255, 255, 255, 255, 255, 2}}
	for n := range 300 {
		what := number(uint64(n))
		for _, more := range behind {
			b := slices.Concat([]byte{6, 63}, what, more)
			if n == 0 || n > 4 && n < 256 {
				misread(t, b, 2+len(what), api.ErrDeed)
			} else if n > 255 {
				unread(t, b, 2, api.ErrForm)
			}
			unread(t, slices.Concat([]byte{6, 64}, what, more), 1, api.ErrForm)
			unread(t, slices.Concat([]byte{6, 128, 0}, what, more), 1, api.ErrForm)
		}
	}
	for _, n := range []uint64{256 + 3, 512 + 3, 1<<32 + 3, 1<<63 + 3, top} {
		unread(t, slices.Concat([]byte{6, 0}, number(n)), 2, api.ErrForm)
	}
}

// P8.2: Bits of too many bytes: ErrForm ahead of them, whether they are there or not; of MaxBits / 8 bytes some of which aren't there: ErrEnd.
func TestTooManyBits(t *testing.T) {
	for size := range 40 {
		for have := range 40 {
			b := slices.Concat([]byte{5, 9}, number(uint64(size)), make([]byte, have))
			switch {
			case size > 32:
				unread(t, b, 2, api.ErrForm)
			case have < size:
				unread(t, b, 2, api.ErrEnd)
			default:
				r := coder.Open(b)
				if d, e := deed.Read(r); !same(d, api.Deed{Kind: 5, Epoch: 9, Bits: make([]byte, size)}) || e != api.OK || r.At() != 3+size {
					t.Fatalf("%+v, %d of %v", d, e, b)
				}
			}
		}
	}
}

// P8.2: parameters that are read, but aren't right: ErrParam, ahead of bytes that are left.
func TestWrongParams(t *testing.T) {
	for _, p := range wrongParams() {
		b := slices.Concat([]byte{6, 3, 1}, slices.Concat(numbers(p)...))
		misread(t, b, len(b), api.ErrParam)
		misread(t, append(slices.Clone(b), 7), len(b), api.ErrParam)
	}
}

// P8.2: the parameters' numbers are read as layer 7 reads them, up to 2^64 - 1, or those of Go's int up to 2^31 - 1: ErrParam; what can't be read goes ahead of what isn't right.
func TestNumbersOfParams(t *testing.T) {
	d := api.Deed{Kind: 6, Account: 2, What: 1, Params: simple()}
	wrongest := d
	wrongest.Params.Inc = 0
	for i := range numbers(d.Params) {
		isInt := reflect.TypeFor[api.Params]().Field(i).Type.Kind() == reflect.Int
		part := i + 3
		for _, n := range []uint64{1<<31 - 1, 1 << 31, 1<<63 - 1, 1 << 63, top} {
			b := other(d, part, number(n)...)
			if isInt && n > math.MaxInt32 {
				unread(t, b, ahead(d, part), api.ErrForm)
				unread(t, other(wrongest, part, number(n)...), ahead(wrongest, part), api.ErrForm)
			} else if got, e := deed.Decode(b); e == api.ErrParam {
				misread(t, b, len(b), api.ErrParam)
			} else if e != api.OK || !bytes.Equal(text(got), b) || !right(got) {
				t.Fatalf("%+v, %d of %v", got, e, b)
			}
		}
		if i > 0 {
			unread(t, other(wrongest, part, 128, 0), ahead(wrongest, part), api.ErrForm)
			unread(t, text(wrongest)[:ahead(wrongest, part)], ahead(wrongest, part), api.ErrEnd)
		}
	}
}

// P8.2: an Amount of 0: ErrDeed, ahead of bytes that are left; what can't be read ahead of it goes ahead.
func TestNoAmount(t *testing.T) {
	count := 0
	for _, k := range kinds() {
		if !slices.Contains(k.uses, "Amount") {
			continue
		}
		count++
		b := other(k.sample, place(k, "Amount"), 0)
		misread(t, b, len(b), api.ErrDeed)
		misread(t, append(slices.Clone(b), 0), len(b), api.ErrDeed)
		for _, name := range k.uses[:len(k.uses)-1] {
			i := place(k, name)
			list := parts(k.sample)
			list[len(list)-1] = []byte{0}
			list[i] = number(256)
			unread(t, slices.Concat(list...), ahead(k.sample, i), api.ErrForm)
		}
	}
	if count != 4 {
		t.Fatal(count)
	}
}

// P8.2: of two parts that can't be read the first one tells, also if the second one ends the bytes.
func TestFirstFault(t *testing.T) {
	for _, k := range kinds() {
		for i := range parts(k.sample) {
			at := ahead(k.sample, i)
			for j := i + 1; j < len(parts(k.sample)); j++ {
				list := parts(k.sample)
				list[i], list[j] = []byte{128, 0}, []byte{128}
				unread(t, slices.Concat(list...), at, api.ErrForm)
				unread(t, slices.Concat(list[:j]...), at, api.ErrForm)
			}
			list := parts(k.sample)
			list[i] = []byte{128, 0}
			unread(t, append(slices.Concat(list...), 9), at, api.ErrForm)
		}
	}
}

// P8.2: of no reader ErrNil; a Reader{} is one of no bytes; one that has failed keeps its failure.
func TestNoReader(t *testing.T) {
	if d, e := deed.Read(nil); !nothing(d) || e != api.ErrNil {
		t.Fatal(d, e)
	}
	if d, e := deed.Read(&coder.Reader{}); !nothing(d) || e != api.ErrEnd {
		t.Fatal(d, e)
	}
	for _, k := range kinds() {
		r := coder.Open(text(k.sample))
		r.Num(0)
		for range 2 {
			if d, e := deed.Read(r); !nothing(d) || e != api.ErrForm || r.At() != 0 || r.Err() != api.ErrForm {
				t.Fatal(d, e)
			}
		}
	}
	ended := coder.Open([]byte{128})
	ended.Flag()
	if d, e := deed.Read(ended); !nothing(d) || e != api.ErrEnd {
		t.Fatal(d, e)
	}
}

// read is what the chapter's words say of bytes, part by part: the deed at their beginning, where it ends, or why there is none.
func read(b []byte) (d api.Deed, at int, e api.Errno) {
	r := coder.Open(b)
	d.Kind = r.Int(255)
	if r.Err() == api.OK && (d.Kind < 1 || d.Kind > 7) {
		return api.Deed{}, 0, api.ErrDeed
	}
	uses := map[int][]string{1: {"Account", "To", "Amount"}, 2: {"Account", "Amount"}, 3: {"Account", "Member", "Amount"}, 4: {"Account", "Member"},
		5: {"Epoch", "Bits"}, 6: {"Account", "What"}, 7: {"Account", "Member", "Motion", "Yes"}}[d.Kind]
	for i := 0; i < len(uses) && r.Err() == api.OK; i++ {
		switch name := uses[i]; name {
		case "Bits":
			d.Bits = r.Raw(32)
		case "Yes":
			d.Yes = r.Flag()
		case "What":
			d.What = r.Int(255)
			if r.Err() == api.OK && (d.What < 1 || d.What > 4) {
				return api.Deed{}, 0, api.ErrDeed
			}
			uses = append(uses, map[int][]string{1: {"Params"}, 2: {"To", "Amount"}}[d.What]...)
		case "Params":
			if d.Params, e = param.Read(r); e != api.OK {
				return api.Deed{}, 0, e
			}
		case "Amount":
			d.Amount = r.Num(1 << 62)
			if r.Err() == api.OK && d.Amount == 0 {
				return api.Deed{}, 0, api.ErrDeed
			}
		default:
			_, high := span(name)
			d = with(d, name, r.Int(int(high)))
		}
	}
	if e := r.Err(); e != api.OK {
		return api.Deed{}, 0, e
	}
	return d, r.At(), api.OK
}

// anyBytes asks that bytes are read and decoded as the chapter's words say, and that what is decoded is right and has just these bytes.
func anyBytes(t *testing.T, b []byte) (ok bool) {
	t.Helper()
	want, at, e := read(b)
	r := coder.Open(b)
	if d, got := deed.Read(r); !same(d, want) || got != e || e == api.OK && r.At() != at {
		t.Fatalf("%+v, %d, want %+v, %d of %v", d, got, want, e, b)
	}
	if e == api.OK && at < len(b) {
		want, e = api.Deed{}, api.ErrLeft
	}
	d, got := deed.Decode(b)
	if !same(d, want) || got != e {
		t.Fatalf("%+v, %d, want %+v, %d of %v", d, got, want, e, b)
	}
	if e != api.OK {
		return false
	}
	if again, e := deed.Encode(d); !deed.Right(d) || !right(d) || e != api.OK || !bytes.Equal(again, b) {
		t.Fatalf("%v, %d, want %v of %+v", again, e, b, d)
	}
	return true
}

// P8.2, P8.3: of all texts of one and two bytes, and of those of up to five bytes at which something changes.
func TestShortBytes(t *testing.T) {
	good := 0
	var every func(b []byte, more int, values []byte)
	every = func(b []byte, more int, values []byte) {
		if anyBytes(t, b) {
			good++
		}
		for _, x := range values {
			if more > 0 {
				every(append(b, x), more-1, values)
			}
		}
	}
	var all []byte
	for x := range 256 {
		all = append(all, byte(x))
	}
	every(nil, 2, all)
	every(nil, 5, []byte{0, 1, 2, 3, 4, 5, 6, 7, 31, 32, 63, 64, 128, 255})
	if good < 1000 {
		t.Fatal(good)
	}
}

// P8.2, P8.3: of any bytes that are almost those of a deed.
func TestAnyBytes(t *testing.T) {
	dice := rand.New(rand.NewSource(18))
	list := several()
	good, bad := 0, 0
	for range 60000 {
		b := text(list[dice.Intn(len(list))])
		for range dice.Intn(3) {
			b[dice.Intn(len(b))] = byte(dice.Intn(256))
		}
		b = b[:len(b)-dice.Intn(2)*dice.Intn(min(3, len(b)))]
		b = append(b, make([]byte, dice.Intn(2)*dice.Intn(2))...)
		if anyBytes(t, b) {
			good++
		} else {
			bad++
		}
	}
	if good < 5000 || bad < 5000 {
		t.Fatal(good, bad)
	}
}

// P8.3: what is encoded is decoded as it was, of mixed deeds; what isn't right isn't encoded.
func TestMixed(t *testing.T) {
	good, bad := 0, 0
	for _, d := range mixed(rand.New(rand.NewSource(9)), 20000) {
		b, e := deed.Encode(d)
		if !right(d) {
			bad++
			if b != nil || e != api.ErrDeed {
				t.Fatalf("%v, %d of %+v", b, e, d)
			}
			continue
		}
		good++
		if e != api.OK || !bytes.Equal(b, text(d)) || !anyBytes(t, b) {
			t.Fatalf("%v, %d of %+v", b, e, d)
		}
		if got, e := deed.Decode(b); e != api.OK || !same(got, d) {
			t.Fatalf("%+v, %d, want %+v", got, e, d)
		}
	}
	if good < 1000 || bad < 1000 {
		t.Fatal(good, bad)
	}
}

// scrawl writes over all of what was handed out, its spare room too.
func scrawl(b []byte) {
	b = b[:cap(b)]
	for i := range b {
		b[i] = 99
	}
	_ = append(b, 98)
}

// Rule 4: what is handed in is not changed, its spare room neither, and not kept; what is handed out is new memory.
func TestMemoryOfEncode(t *testing.T) {
	room := []byte{1, 2, 3, 201, 202}
	was := slices.Clone(room)
	d := api.Deed{Kind: 5, Epoch: 9, Bits: room[:3]}
	want := []byte{5, 9, 3, 1, 2, 3}
	var w coder.Writer
	for range 2 {
		b, e := deed.Encode(d)
		if e != api.OK || !bytes.Equal(b, want) {
			t.Fatal(b, e)
		}
		scrawl(b)
		if !deed.Right(d) || deed.Write(&w, d) != api.OK || !bytes.Equal(room, was) || len(d.Bits) != 3 {
			t.Fatal(d, room)
		}
	}
	b, _ := deed.Encode(d)
	clear(room)
	if !bytes.Equal(b, want) || !bytes.Equal(out(t, &w), slices.Concat(want, want)) {
		t.Fatal(b)
	}
}

// Rule 4: of Decode and Read likewise; what lies behind the length of bytes is not read.
func TestMemoryOfDecode(t *testing.T) {
	room := []byte{5, 9, 3, 1, 2, 3, 201, 202}
	was := slices.Clone(room)
	want := api.Deed{Kind: 5, Epoch: 9, Bits: []byte{1, 2, 3}}
	for range 2 {
		d, e := deed.Decode(room[:6])
		if e != api.OK || !same(d, want) || slices.Contains(d.Bits[:cap(d.Bits)], 201) {
			t.Fatal(d, e)
		}
		scrawl(d.Bits)
		if d, e := deed.Decode(room[:5]); e != api.ErrEnd || !nothing(d) {
			t.Fatal(d, e)
		}
		if !bytes.Equal(room, was) {
			t.Fatal(room)
		}
	}
	r := coder.Open(slices.Concat(room[:6], room[:6]))
	one, e := deed.Read(r)
	scrawl(one.Bits)
	two, f := deed.Read(r)
	if e != api.OK || f != api.OK || !same(two, want) {
		t.Fatal(two, e, f)
	}
	d, _ := deed.Decode(room[:6])
	clear(room)
	if !same(d, want) {
		t.Fatal(d)
	}
}

// The chapter's example.
func TestExample(t *testing.T) {
	d := api.Deed{Kind: api.DeedSend, To: 1, Amount: 5}
	b, e := deed.Encode(d)
	if e != api.OK || !bytes.Equal(b, []byte{1, 0, 1, 5}) {
		t.Fatal(b, e)
	}
	if got, e := deed.Decode(b); e != api.OK || !same(got, d) {
		t.Fatal(got, e)
	}
}
