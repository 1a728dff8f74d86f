package bits_test

import (
	"bytes"
	"math"
	"math/big"
	"math/rand"
	"slices"
	"testing"

	"bullion/api"
	"bullion/bits"
)

// sizes are numbers of bits at which something changes.
var sizes = []int{0, 1, 2, 3, 7, 8, 9, 15, 16, 17, 63, 64, 65, 127, 128, 129, 247, 248, 249, 254, 255, api.MaxBits}

// strays are numbers of bits that no field has.
var strays = []int{math.MinInt, math.MinInt + 1, -256, -9, -8, -7, -1, api.MaxBits + 1, api.MaxBits + 7, api.MaxBits + 8, 1 << 20, math.MaxInt - 7, math.MaxInt - 6, math.MaxInt}

// some is bits of many kinds: none, all, each one alone, all but each one, and several mixed ones.
func some(n int) [][]bool {
	none := make([]bool, n)
	lists := [][]bool{none, slices.Repeat([]bool{true}, n)}
	for i := range n {
		one, rest := make([]bool, n), slices.Repeat([]bool{true}, n)
		one[i], rest[i] = true, false
		lists = append(lists, one, rest)
	}
	dice := rand.New(rand.NewSource(int64(n)))
	for range 20 {
		mixed := make([]bool, n)
		for i := range mixed {
			mixed[i] = dice.Intn(2) == 1
		}
		lists = append(lists, mixed)
	}
	return lists
}

// number is what a field's bits are worth together, by the chapter's words: bit i of the byte i / 8 is worth 2^i.
func number(list []bool) *big.Int {
	n := new(big.Int)
	for i, on := range list {
		if on {
			n.SetBit(n, i, 1)
		}
	}
	return n
}

// form is the bytes of a number as a field, the least one first.
func form(n *big.Int, size int) []byte {
	b := n.FillBytes(make([]byte, size))
	slices.Reverse(b)
	return b
}

// worth is what bytes are worth together, the first one least.
func worth(b []byte) *big.Int {
	b = slices.Clone(b)
	slices.Reverse(b)
	return new(big.Int).SetBytes(b)
}

// wide is how many bytes a field has, over whole numbers.
func wide(n int) int {
	w := new(big.Int).Add(big.NewInt(int64(n)), big.NewInt(7))
	return int(w.Rsh(w, 3).Int64())
}

func packed(t *testing.T, list []bool) []byte {
	t.Helper()
	b, e := bits.Pack(list)
	if e != api.OK {
		t.Fatal(len(list), e)
	}
	return b
}

// P6.1: Size is (n + 7) / 8, down; and 0, if n is below 1.
func TestSize(t *testing.T) {
	for n := range 3 * api.MaxBits {
		if got := bits.Size(n); got != wide(n) {
			t.Fatal(n, got)
		}
	}
	for _, x := range []struct{ n, size int }{
		{0, 0}, {1, 1}, {7, 1}, {8, 1}, {9, 2}, {16, 2}, {17, 3}, {255, 32}, {api.MaxBits, 32}, {api.MaxBits + 1, 33},
		{-1, 0}, {-6, 0}, {-7, 0}, {-8, 0}, {-100, 0}, {math.MinInt, 0},
		{math.MaxInt, 1 << 60}, {math.MaxInt - 7, 1<<60 - 1}, {math.MaxInt - 6, 1 << 60},
	} {
		if got := bits.Size(x.n); got != x.size {
			t.Fatal(x.n, got)
		}
	}
}

// P6.1: Pack is the field.
func TestPack(t *testing.T) {
	for _, n := range sizes {
		for _, list := range some(n) {
			if b := packed(t, list); !bytes.Equal(b, form(number(list), wide(n))) {
				t.Fatal(list, b)
			}
		}
	}
	for _, list := range [][]bool{nil, {}} {
		if b := packed(t, list); len(b) != 0 {
			t.Fatal(b)
		}
	}
}

// P6.1: MaxBits bits are just a field, more aren't.
func TestPackTooMany(t *testing.T) {
	if b := packed(t, make([]bool, api.MaxBits)); len(b) != 32 {
		t.Fatal(len(b))
	}
	for _, more := range []int{1, 2, 7, 8, 9, api.MaxBits, 1 << 20} {
		for _, on := range []bool{false, true} {
			b, e := bits.Pack(slices.Repeat([]bool{on}, api.MaxBits+more))
			if b != nil || e != api.ErrBig {
				t.Fatal(more, b, e)
			}
		}
	}
}

// checked asks that Check, Unpack and Join say whether bytes are a field.
func checked(t *testing.T, b []byte, n int, want api.Errno) {
	t.Helper()
	if e := bits.Check(b, n); e != want {
		t.Fatal(b, n, e, "want", want)
	}
	list, e := bits.Unpack(b, n)
	if e != want || want != api.OK && list != nil || want == api.OK && len(list) != n {
		t.Fatal(b, n, list, e, "want", want)
	}
	joined, e := bits.Join(b, b, n)
	if e != want || want != api.OK && joined != nil || want == api.OK && !bytes.Equal(joined, b) {
		t.Fatal(b, n, joined, e, "want", want)
	}
}

// P6.1, P6.3: there is no field of a number of bits below 0 or above MaxBits, of whatever bytes.
func TestNoSuchNumber(t *testing.T) {
	for _, n := range strays {
		for size := range 40 {
			checked(t, make([]byte, size), n, api.ErrBits)
			checked(t, slices.Repeat([]byte{255}, size), n, api.ErrBits)
		}
		checked(t, nil, n, api.ErrBits)
		checked(t, make([]byte, wide(max(0, min(n, 1<<20)))), n, api.ErrBits)
	}
}

// P6.1, P6.3: a field has just its bytes.
func TestBytesOfAField(t *testing.T) {
	for n := range api.MaxBits + 1 {
		for size := range 40 {
			want := api.ErrBits
			if size == wide(n) {
				want = api.OK
			}
			checked(t, make([]byte, size), n, want)
		}
	}
	for _, none := range [][]byte{nil, {}} {
		checked(t, none, 0, api.OK)
		checked(t, none, 1, api.ErrBits)
		checked(t, none, 8, api.ErrBits)
	}
	checked(t, []byte{0}, 0, api.ErrBits)
	checked(t, []byte{1}, 0, api.ErrBits)
}

// P6.1, P6.3: behind the n-th no bit is 1, whichever it is, and however many.
func TestBitsBehind(t *testing.T) {
	for n := range api.MaxBits + 1 {
		whole := form(number(slices.Repeat([]bool{true}, n)), wide(n))
		checked(t, whole, n, api.OK)
		for place := n; place < 8*wide(n); place++ {
			for _, b := range [][]byte{make([]byte, wide(n)), slices.Clone(whole)} {
				b[place/8] |= 1 << (place % 8)
				checked(t, b, n, api.ErrBits)
			}
		}
		if n%8 > 0 {
			checked(t, slices.Repeat([]byte{255}, wide(n)), n, api.ErrBits)
		}
	}
}

// P6.1: a byte's values, all of them, as fields of all numbers of bits.
func TestOneByte(t *testing.T) {
	for value := range 256 {
		for n := 1; n < 9; n++ {
			want := api.OK
			if value >= 1<<n {
				want = api.ErrBits
			}
			checked(t, []byte{byte(value)}, n, want)
			checked(t, []byte{255, byte(value)}, 8+n, want)
		}
	}
}

// P6.2: Get at every place of bytes, whether they are a field or not, and beside them.
func TestGet(t *testing.T) {
	dice := rand.New(rand.NewSource(2))
	for _, size := range []int{0, 1, 2, 3, 31, 32, 33, 100} {
		for range 20 {
			b := make([]byte, size)
			dice.Read(b)
			n := worth(b)
			for i := range 8 * size {
				if bits.Get(b, i) != (n.Bit(i) == 1) {
					t.Fatal(b, i)
				}
			}
		}
		all := slices.Repeat([]byte{255}, size)
		for _, i := range []int{math.MinInt, -8 * size, -9, -8, -7, -1, 8 * size, 8*size + 1, 8*size + 7, 8*size + 8, math.MaxInt} {
			if i != 0 && bits.Get(all, i) || size == 0 && bits.Get(nil, i) {
				t.Fatal(size, i)
			}
		}
		if size > 0 && (!bits.Get(all, 0) || !bits.Get(all, 8*size-1)) {
			t.Fatal(size)
		}
	}
	if bits.Get(nil, 0) || bits.Get([]byte{}, 0) {
		t.Fatal("a bit of no bytes")
	}
}

// P6.2: Set at every place of bytes, whether the bit is 1 or not, changes that bit alone.
func TestSet(t *testing.T) {
	dice := rand.New(rand.NewSource(3))
	for _, size := range []int{1, 2, 3, 31, 32, 33, 100} {
		mixed := make([]byte, size)
		dice.Read(mixed)
		for _, b := range [][]byte{make([]byte, size), slices.Repeat([]byte{255}, size), mixed} {
			for i := range 8 * size {
				n := worth(b)
				want := form(n.SetBit(n, i, 1), size)
				got, ok := bits.Set(b, i)
				if !ok || !bytes.Equal(got, want) {
					t.Fatal(b, i, got, ok)
				}
			}
		}
	}
}

// P6.2: Set beside the bytes answers the same bytes and false.
func TestSetBeside(t *testing.T) {
	for _, size := range []int{0, 1, 2, 32, 33} {
		for _, b := range [][]byte{make([]byte, size), slices.Repeat([]byte{255}, size), slices.Repeat([]byte{90}, size)} {
			for _, i := range []int{math.MinInt, -8*size - 1, -9, -8, -7, -1, 8 * size, 8*size + 1, 8*size + 7, 8*size + 8, math.MaxInt} {
				got, ok := bits.Set(b, i)
				if ok || !bytes.Equal(got, b) {
					t.Fatal(b, i, got, ok)
				}
			}
		}
	}
	for _, i := range []int{-1, 0, 1, 8} {
		if got, ok := bits.Set(nil, i); ok || len(got) != 0 {
			t.Fatal(i, got, ok)
		}
	}
}

// P6.2: Count of bytes, whether they are a field or not.
func TestCount(t *testing.T) {
	if bits.Count(nil) != 0 || bits.Count([]byte{}) != 0 {
		t.Fatal("bits of no bytes")
	}
	for value := range 256 {
		want := 0
		for place := range 8 {
			want += value >> place & 1
		}
		if got := bits.Count([]byte{byte(value)}); got != want {
			t.Fatal(value, got)
		}
		if got := bits.Count([]byte{255, byte(value), 0, byte(value), 1}); got != 9+2*want {
			t.Fatal(value, got)
		}
	}
	if got := bits.Count(slices.Repeat([]byte{255}, 1000)); got != 8000 {
		t.Fatal(got)
	}
	for _, n := range sizes {
		for _, list := range some(n) {
			want := 0
			for _, on := range list {
				if on {
					want++
				}
			}
			if got := bits.Count(packed(t, list)); got != want {
				t.Fatal(list, got)
			}
		}
	}
}

// P6.3: each bit of what is joined is 1, if it is in the one or in the other.
func TestJoin(t *testing.T) {
	for _, n := range sizes {
		dice := rand.New(rand.NewSource(int64(n)))
		lists := some(n)
		for _, a := range lists {
			for range 9 {
				b := lists[dice.Intn(len(lists))]
				want := form(new(big.Int).Or(number(a), number(b)), wide(n))
				got, e := bits.Join(packed(t, a), packed(t, b), n)
				if e != api.OK || !bytes.Equal(got, want) {
					t.Fatal(a, b, got, e)
				}
			}
		}
	}
	if got, e := bits.Join(nil, []byte{}, 0); e != api.OK || len(got) != 0 {
		t.Fatal(got, e)
	}
}

// P6.3: of two of which the one, the other, or both are no field of n bits nothing is joined.
func TestJoinNoFields(t *testing.T) {
	for _, n := range sizes {
		good := make([]byte, wide(n))
		bads := [][]byte{make([]byte, wide(n)+1), make([]byte, wide(n)+8)}
		if n > 0 {
			bads = append(bads, make([]byte, wide(n)-1), nil)
		}
		if n%8 > 0 {
			next, last := slices.Clone(good), slices.Clone(good)
			next[n/8] |= 1 << (n % 8)
			last[n/8] |= 1 << 7
			bads = append(bads, next, last)
		}
		for _, bad := range bads {
			others := append([][]byte{good}, bads...)
			for _, other := range others {
				if got, e := bits.Join(bad, other, n); got != nil || e != api.ErrBits {
					t.Fatal(n, bad, other, got, e)
				}
				if got, e := bits.Join(other, bad, n); got != nil || e != api.ErrBits {
					t.Fatal(n, other, bad, got, e)
				}
			}
		}
	}
}

// P6.4: what is packed is unpacked as it was, and checks.
func TestUnpackedAsItWas(t *testing.T) {
	for n := range api.MaxBits + 1 {
		for _, list := range some(n) {
			b := packed(t, list)
			if e := bits.Check(b, n); e != api.OK {
				t.Fatal(list, e)
			}
			got, e := bits.Unpack(b, n)
			if e != api.OK || !slices.Equal(got, list) {
				t.Fatal(list, got, e)
			}
		}
	}
}

// P6.4: there is one field of each list: each field is that of its own bits, and each list of up to twelve has another one.
func TestOneField(t *testing.T) {
	for n := range 13 {
		fields := 0
		for value := range 1 << (8 * wide(n)) {
			b := form(big.NewInt(int64(value)), wide(n))
			list, e := bits.Unpack(b, n)
			if e != api.OK {
				continue
			}
			fields++
			if !bytes.Equal(packed(t, list), b) {
				t.Fatal(n, b, list)
			}
		}
		if fields != 1<<n {
			t.Fatal(n, fields)
		}
	}
}

// P6.4: joined, nobody is lost and nobody made: a place is in what is joined just if it is in one of the two.
func TestNobodyLostOrMade(t *testing.T) {
	for n := range 6 {
		for x := range 1 << n {
			for y := range 1 << n {
				a, b := form(big.NewInt(int64(x)), wide(n)), form(big.NewInt(int64(y)), wide(n))
				got, e := bits.Join(a, b, n)
				if e != api.OK || bits.Check(got, n) != api.OK {
					t.Fatal(n, a, b, got, e)
				}
				both := 0
				for i := range n {
					if bits.Get(got, i) != (bits.Get(a, i) || bits.Get(b, i)) {
						t.Fatal(n, a, b, got)
					}
					if bits.Get(a, i) && bits.Get(b, i) {
						both++
					}
				}
				if bits.Count(got)+both != bits.Count(a)+bits.Count(b) {
					t.Fatal(n, a, b, got)
				}
			}
		}
	}
}

// A field that is marked bit by bit is what its list is packed to.
func TestMarkedBitByBit(t *testing.T) {
	for _, n := range sizes {
		for _, list := range some(n) {
			b := make([]byte, bits.Size(n))
			for i, on := range list {
				if on {
					b, _ = bits.Set(b, i)
				}
			}
			if !bytes.Equal(b, packed(t, list)) {
				t.Fatal(list, b)
			}
		}
	}
}

// scrawl writes over all of what was handed out, its spare room too.
func scrawl(b []byte) {
	b = b[:cap(b)]
	for i := range b {
		b[i] = 99
	}
	_ = append(b, 98)
}

// Rule 4: what is handed in is not changed, its spare room neither, and not kept; what is handed out is new memory.
func TestMemory(t *testing.T) {
	a := []byte{3, 7, 1, 200, 201}
	b := []byte{96, 16, 2, 202, 203}
	wasA, wasB := slices.Clone(a), slices.Clone(b)
	same := func() {
		t.Helper()
		if !bytes.Equal(a, wasA) || !bytes.Equal(b, wasB) {
			t.Fatal(a, b)
		}
	}
	for range 2 {
		joined, e := bits.Join(a[:3], b[:3], 18)
		if e != api.OK || !bytes.Equal(joined, []byte{99, 23, 3}) {
			t.Fatal(joined, e)
		}
		same()
		scrawl(joined)
		same()
		for _, i := range []int{-1, 0, 2, 23, 24} {
			marked, _ := bits.Set(a[:3], i)
			same()
			scrawl(marked)
			same()
		}
		list, e := bits.Unpack(a[:3], 17)
		if e != api.OK {
			t.Fatal(e)
		}
		clear(list[:cap(list)])
		same()
		if bits.Check(a[:3], 17) != api.OK || bits.Count(a[:3]) != 6 || bits.Get(a[:3], 24) {
			t.Fatal("not of its three bytes")
		}
		same()
	}
	list := []bool{true, false, true, true, true}
	one, two := packed(t, list[:3]), packed(t, list[:3])
	scrawl(one)
	if !slices.Equal(list, []bool{true, false, true, true, true}) || !bytes.Equal(two, []byte{5}) {
		t.Fatal(list, two)
	}
	clear(list)
	if !bytes.Equal(two, []byte{5}) {
		t.Fatal(two)
	}
}

// Rule 4: what is handed in is not kept.
func TestNotKept(t *testing.T) {
	a, b := []byte{1}, []byte{2}
	joined, _ := bits.Join(a, b, 2)
	marked, _ := bits.Set(a, 2)
	same, _ := bits.Set(a, 8)
	clear(a)
	clear(b)
	if joined[0] != 3 || marked[0] != 5 || same[0] != 1 {
		t.Fatal(joined, marked, same)
	}
}

// Rule 4: what lies behind a list's length is neither read nor handed out.
func TestSpareRoomIsNotRead(t *testing.T) {
	room := []byte{1, 171, 172, 173}
	for _, b := range [][]byte{
		func() []byte { b, _ := bits.Set(room[:1], 1); return b }(),
		func() []byte { b, _ := bits.Set(room[:1], 9); return b }(),
		func() []byte { b, _ := bits.Join(room[:1], room[:1], 8); return b }(),
	} {
		if len(b) != 1 || slices.Contains(b[:cap(b)], 171) {
			t.Fatal(b[:cap(b)])
		}
	}
	if _, ok := bits.Set(room[:1], 8); ok || bits.Get(room[:1], 8) || bits.Count(room[:1]) != 1 {
		t.Fatal("a bit behind the bytes")
	}
	checked(t, room[:1], 9, api.ErrBits)
	checked(t, room[:1], 1, api.OK)
}

// The chapter's examples.
func TestExamples(t *testing.T) {
	if b := packed(t, []bool{true, false, true}); !bytes.Equal(b, []byte{5}) {
		t.Fatal(b)
	}
	if e := bits.Check([]byte{8}, 3); e != api.ErrBits {
		t.Fatal(e)
	}
}
