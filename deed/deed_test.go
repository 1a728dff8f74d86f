package deed_test

import (
	"math"
	"math/rand"
	"reflect"
	"slices"
	"testing"

	"bullion/api"
	"bullion/deed"
	"bullion/param"
)

const top = 1<<64 - 1

// simple are the parameters of the document's examples.
func simple() api.Params {
	return api.Params{
		Inc: 10, MaxEff: 30, Floor: 10, Cap: 40, Up: 10, Down: 5,
		Bias: 4, Quot: 100, BiasEm: 8, QuotEm: 50, Recover: 2, ScoreCap: 100,
		Rate: 1 << 20, Bond: 1, Delay: 2, Streak: 4, Boost: 100, Absent: 100, Burn: 5000,
		Churn: 2, Wait: 2, Poll: 2, Enact: 1, Quorum: 3000,
	}
}

// least are the parameters with each number as small as it may be: each of them is a byte.
func least() api.Params {
	return api.Params{
		Inc: 1, MaxEff: 1, Floor: 1, Cap: 2, Up: 1,
		Bias: 1, Quot: 1, BiasEm: 1, QuotEm: 1, ScoreCap: 1,
		Churn: 1, Poll: 1,
	}
}

// most are the parameters with each number as great as it may be.
func most() api.Params {
	return api.Params{
		Inc: api.MaxInc, MaxEff: api.MaxStake, Floor: api.MaxStake - 1, Cap: api.MaxStake, Up: api.MaxStake, Down: api.MaxStake,
		Bias: api.MaxBias, Quot: api.MaxQuot, BiasEm: api.MaxBias, QuotEm: api.MaxQuot, Recover: api.MaxBias, ScoreCap: api.MaxScore,
		Rate: api.MaxIssue, Bond: api.MaxStake, Delay: api.MaxTicks, Streak: api.MaxStreak, Boost: api.MaxBoost,
		Absent: api.MaxRate, Burn: api.MaxRate, Churn: api.MaxChurn, Wait: api.MaxWait, Poll: api.MaxTicks,
		Enact: api.MaxTicks, Quorum: api.MaxRate,
	}
}

// wrongParams are parameters that aren't right, each number of them one that can be read.
func wrongParams() []api.Params {
	var list []api.Params
	for _, change := range []func(p *api.Params){
		func(p *api.Params) { *p = api.Params{} },
		func(p *api.Params) { p.Inc = 0 },
		func(p *api.Params) { p.MaxEff = 31 },
		func(p *api.Params) { p.Floor = 9 },
		func(p *api.Params) { p.ScoreCap = 47 },
		func(p *api.Params) { p.QuotEm = 101 },
		func(p *api.Params) { p.Bond = top },
		func(p *api.Params) { p.Churn = 0 },
		func(p *api.Params) { p.Poll = api.MaxTicks + 1 },
		func(p *api.Params) { p.Quorum = api.MaxRate + 1 },
		func(p *api.Params) { p.Quorum = math.MaxInt32 },
	} {
		p := simple()
		change(&p)
		list = append(list, p)
	}
	return list
}

// kind is a kind of deeds (the motions by what they are about): a deed of it that is right, and the fields that it uses, in order.
type kind struct {
	name   string
	sample api.Deed
	uses   []string
}

func kinds() []kind {
	return []kind{
		{"send", api.Deed{Kind: 1, Account: 3, To: 5, Amount: 300}, []string{"Account", "To", "Amount"}},
		{"stake", api.Deed{Kind: 2, Account: 4, Amount: 6}, []string{"Account", "Amount"}},
		{"top", api.Deed{Kind: 3, Account: 7, Member: 9, Amount: 1000}, []string{"Account", "Member", "Amount"}},
		{"leave", api.Deed{Kind: 4, Account: 10, Member: 100}, []string{"Account", "Member"}},
		{"mark", api.Deed{Kind: 5, Epoch: 700, Bits: []byte{255, 0, 128}}, []string{"Epoch", "Bits"}},
		{"params", api.Deed{Kind: 6, Account: 11, What: 1, Params: simple()}, []string{"Account", "What", "Params"}},
		{"spend", api.Deed{Kind: 6, Account: 12, What: 2, To: 13, Amount: 20000}, []string{"Account", "What", "To", "Amount"}},
		{"on", api.Deed{Kind: 6, Account: 14, What: 3}, []string{"Account", "What"}},
		{"off", api.Deed{Kind: 6, Account: 15, What: 4}, []string{"Account", "What"}},
		{"yes", api.Deed{Kind: 7, Account: 16, Member: 17, Motion: 18, Yes: true}, []string{"Account", "Member", "Motion", "Yes"}},
		{"no", api.Deed{Kind: 7, Account: 19, Member: 20, Motion: 21}, []string{"Account", "Member", "Motion", "Yes"}},
	}
}

// names are the fields of a deed beside its kind.
func names() []string {
	var list []string
	for i, t := 0, reflect.TypeFor[api.Deed](); i < t.NumField(); i++ {
		if name := t.Field(i).Name; name != "Kind" {
			list = append(list, name)
		}
	}
	return list
}

// span is from where to where a field that is used may be, if it is a number.
func span(name string) (low, high uint64) {
	switch name {
	case "Account", "To":
		return 0, 63
	case "Member":
		return 0, 127
	case "Motion":
		return 0, 31
	case "Amount":
		return 1, 1 << 62
	case "Epoch":
		return 0, 1 << 30
	case "What":
		return 1, 4
	}
	panic(name)
}

// value is a field of a deed.
func value(d *api.Deed, name string) reflect.Value {
	return reflect.ValueOf(d).Elem().FieldByName(name)
}

// with is a deed with another value in the place of one field.
func with(d api.Deed, name string, to any) api.Deed {
	v := value(&d, name)
	v.Set(reflect.ValueOf(to).Convert(v.Type()))
	return d
}

// same says whether two deeds are, their Bits byte by byte.
func same(a, b api.Deed) bool {
	equal := slices.Equal(a.Bits, b.Bits)
	a.Bits, b.Bits = nil, nil
	return equal && reflect.DeepEqual(a, b)
}

// nothing says whether a deed is none.
func nothing(d api.Deed) bool { return reflect.ValueOf(d).IsZero() }

// mayBe says whether a field that is used may be as it is in a deed.
func mayBe(d api.Deed, name string) bool {
	switch name {
	case "Yes":
		return true
	case "Bits":
		return len(d.Bits) <= 32
	case "Params":
		return param.Check(d.Params) == api.OK
	}
	low, high := span(name)
	v := value(&d, name)
	if v.CanInt() {
		return v.Int() >= int64(low) && v.Int() <= int64(high)
	}
	return v.Uint() >= low && v.Uint() <= high
}

// unset says whether a field of a deed is 0, false or nothing.
func unset(d api.Deed, name string) bool {
	return name == "Bits" && len(d.Bits) == 0 || value(&d, name).IsZero()
}

// usedBy are the fields that the kind of a deed uses; false, if there is no such kind.
func usedBy(d api.Deed) ([]string, bool) {
	for _, k := range kinds() {
		if k.sample.Kind == d.Kind && (d.Kind != 6 || k.sample.What == d.What) {
			return k.uses, true
		}
	}
	return nil, false
}

// right says whether a deed is, by the chapter's words.
func right(d api.Deed) bool {
	uses, ok := usedBy(d)
	for _, name := range names() {
		ok = ok && (slices.Contains(uses, name) && mayBe(d, name) || !slices.Contains(uses, name) && unset(d, name))
	}
	return ok
}

// ints are numbers of Go's int at which something changes, for a field that may be up to the greatest.
func ints(greatest int) []int {
	return []int{
		math.MinInt, math.MinInt32, -256, -255, -2, -1, 0, 1, 2, 3, 4, 5, 7, 8, greatest - 1, greatest, greatest + 1, greatest + 2,
		2*greatest + 1, 2 * (greatest + 1), 255, 256, 257, 1 << 16, 1 << 31, 1 << 32, 1<<32 + 1, math.MaxInt - 1, math.MaxInt,
	}
}

// words are amounts at which something changes.
func words() []uint64 {
	return []uint64{
		0, 1, 2, 127, 128, 1 << 31, 1 << 32, api.MaxStake, api.MaxMoney - 1, api.MaxMoney, api.MaxMoney + 1, api.MaxMoney + 2,
		1<<63 - 1, 1 << 63, 1<<63 + 1, top - 1, top,
	}
}

// texts are Bits of sizes at which something changes.
func texts() [][]byte {
	list := [][]byte{nil, {}, {0}, {1}, {255}, {0, 0}, {128, 0}}
	for _, size := range []int{30, 31, 32, 33, 34, 64, 128, 256, 257, 1 << 16} {
		list = append(list, make([]byte, size), slices.Repeat([]byte{255}, size))
	}
	return list
}

// values are what a field is tried with.
func values(name string) []any {
	var list []any
	switch name {
	case "Yes":
		return []any{false, true}
	case "Bits":
		for _, b := range texts() {
			list = append(list, b)
		}
	case "Params":
		list = append(list, simple(), least(), most(), api.Params{Quorum: 1}, api.Params{Inc: 1})
		for _, p := range wrongParams() {
			list = append(list, p)
		}
	case "Amount":
		for _, n := range words() {
			list = append(list, n)
		}
	default:
		_, high := span(name)
		for _, n := range ints(int(high)) {
			list = append(list, n)
		}
	}
	return list
}

// tried are the deeds of all kinds, with each field once at each of its values.
func tried() []api.Deed {
	var list []api.Deed
	for _, k := range kinds() {
		list = append(list, k.sample)
		for _, name := range names() {
			for _, x := range values(name) {
				list = append(list, with(k.sample, name, x))
			}
		}
	}
	return list
}

// several are deeds that are right, of all kinds, wrong those that aren't.
func several() []api.Deed {
	return slices.DeleteFunc(tried(), func(d api.Deed) bool { return !right(d) })
}

func wrong() []api.Deed { return slices.DeleteFunc(tried(), right) }

// held asks that Right says of a deed what is wanted.
func held(t *testing.T, d api.Deed, want bool) {
	t.Helper()
	if deed.Right(d) != want {
		t.Fatalf("Right isn't %v of %+v", want, d)
	}
}

// P8.1: a deed of each kind is right.
func TestRight(t *testing.T) {
	for _, k := range kinds() {
		held(t, k.sample, true)
	}
	held(t, api.Deed{}, false)
}

// P8.1: each number that a kind uses, at its least and at its most, one below and one above.
func TestSpans(t *testing.T) {
	for _, k := range kinds() {
		for _, name := range k.uses {
			switch name {
			case "Bits", "Params", "Yes", "What":
				continue
			case "Amount":
				held(t, with(k.sample, name, 0), false)
				held(t, with(k.sample, name, 1), true)
				held(t, with(k.sample, name, 1<<62), true)
				held(t, with(k.sample, name, 1<<62+1), false)
				continue
			}
			_, high := span(name)
			held(t, with(k.sample, name, -1), false)
			held(t, with(k.sample, name, 0), true)
			held(t, with(k.sample, name, high), true)
			held(t, with(k.sample, name, high+1), false)
		}
	}
}

// P8.1: a kind that is none of these, whatever else is set; and one that uses other fields.
func TestKinds(t *testing.T) {
	for _, n := range slices.Concat(ints(7), ints(255)) {
		if n > 0 && n < 8 {
			continue
		}
		held(t, api.Deed{Kind: n}, false)
		for _, k := range kinds() {
			held(t, with(k.sample, "Kind", n), false)
		}
	}
	for _, k := range kinds() {
		for n := 1; n < 8; n++ {
			d := with(k.sample, "Kind", n)
			held(t, d, right(d))
		}
	}
	held(t, api.Deed{Kind: 1, Amount: 1}, true)
	held(t, api.Deed{Kind: 2, Amount: 1}, true)
	held(t, api.Deed{Kind: 3, Amount: 1}, true)
	held(t, api.Deed{Kind: 4, Amount: 1}, false)
	held(t, api.Deed{Kind: 4}, true)
	held(t, api.Deed{Kind: 7}, true)
}

// P8.1: What at each of its numbers and outside, with what each of them uses.
func TestWhat(t *testing.T) {
	for _, k := range kinds() {
		for _, n := range slices.Concat(ints(4), ints(255)) {
			d := with(k.sample, "What", n)
			if k.sample.Kind != 6 {
				held(t, d, n == 0)
				continue
			}
			emergency := k.sample.What > 2 && (n == 3 || n == 4)
			held(t, d, n == k.sample.What || emergency)
		}
	}
	for n := -2; n < 8; n++ {
		held(t, api.Deed{Kind: 6, What: n}, n == 3 || n == 4)
		held(t, api.Deed{Kind: 6, What: n, Params: simple()}, n == 1)
		held(t, api.Deed{Kind: 6, What: n, Amount: 1}, n == 2)
		held(t, api.Deed{Kind: 6, What: n, Params: simple(), Amount: 1}, false)
	}
}

// P8.1: Bits of MaxBits / 8 bytes, and of one more, whatever they are; nil or empty ones are nothing.
func TestBits(t *testing.T) {
	for _, k := range kinds() {
		for _, b := range texts() {
			held(t, with(k.sample, "Bits", b), len(b) == 0 || k.sample.Kind == 5 && len(b) <= 32)
		}
		for size := range 40 {
			want := size == 0 || k.sample.Kind == 5 && size <= 32
			held(t, with(k.sample, "Bits", make([]byte, size)), want)
			held(t, with(k.sample, "Bits", make([]byte, size, 100)), want)
		}
	}
	held(t, api.Deed{Kind: 5}, true)
}

// P8.1: parameters that are right, and that aren't.
func TestParams(t *testing.T) {
	d := api.Deed{Kind: 6, What: 1}
	held(t, d, false)
	for _, p := range []api.Params{simple(), least(), most()} {
		held(t, with(d, "Params", p), true)
	}
	for _, p := range wrongParams() {
		held(t, with(d, "Params", p), false)
	}
}

// P8.1: what a kind doesn't use isn't set, not to anything, and of Params not one field.
func TestNothingElse(t *testing.T) {
	count := 0
	for _, k := range kinds() {
		for _, name := range names() {
			if slices.Contains(k.uses, name) {
				continue
			}
			for _, x := range values(name) {
				d := with(k.sample, name, x)
				held(t, d, unset(d, name))
				count++
			}
		}
		for i := range reflect.TypeFor[api.Params]().NumField() {
			d := k.sample
			if f := reflect.ValueOf(&d.Params).Elem().Field(i); f.CanUint() {
				f.SetUint(f.Uint() + 1)
			} else {
				f.SetInt(f.Int() + 1)
			}
			held(t, d, slices.Contains(k.uses, "Params") && param.Check(d.Params) == api.OK)
			count++
		}
	}
	if count < 1000 {
		t.Fatal(count)
	}
}

// P8.1: each deed that is tried is as right as by the chapter's words, also mixed ones of many fields.
func TestWhole(t *testing.T) {
	good := 0
	for _, d := range tried() {
		held(t, d, right(d))
		if right(d) {
			good++
		}
	}
	if good < 100 {
		t.Fatal(good)
	}
	dice := rand.New(rand.NewSource(8))
	for _, d := range mixed(dice, 20000) {
		held(t, d, right(d))
	}
}

// mixed are deeds, each of whose fields that its kind uses is mostly one that may be.
func mixed(dice *rand.Rand, count int) []api.Deed {
	var list []api.Deed
	all := kinds()
	for range count {
		k := all[dice.Intn(len(all))]
		d := k.sample
		for _, name := range k.uses {
			x := values(name)
			if e := with(d, name, x[dice.Intn(len(x))]); name != "What" && (mayBe(e, name) || dice.Intn(8) == 0) {
				d = e
			}
		}
		if dice.Intn(8) == 0 {
			name := names()[dice.Intn(len(names()))]
			x := values(name)
			d = with(d, name, x[dice.Intn(len(x))])
		}
		list = append(list, d)
	}
	return list
}
