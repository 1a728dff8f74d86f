package param_test

import (
	"math"
	"math/big"
	"math/rand"
	"reflect"
	"testing"

	"bullion/api"
	"bullion/param"
	"bullion/ratio"
)

const top = 1<<64 - 1

// simple are the parameters of the document's examples.
func simple() api.Params {
	return api.Params{
		Inc: 10, MaxEff: 30, Floor: 10, Cap: 40, Up: 10, Down: 5,
		Bias: 4, Quot: 100, BiasEm: 8, QuotEm: 50, Recover: 2, ScoreCap: 100,
		Rate: 1 << 20, Bond: 1, Delay: 2, Streak: 4, Boost: 100, Absent: 100, Burn: 5000,
		Churn: 2, Wait: 2, Poll: 2, Enact: 1, Quorum: 3000,
	}
}

// roomy are simple ones whose leak may take as long as a leak may.
func roomy() api.Params {
	p := simple()
	p.ScoreCap = api.MaxScore
	return p
}

// longest are those whose leak takes just MaxLeak ticks, so that one more between Cap and Floor makes it one tick more.
func longest() api.Params {
	p := roomy()
	p.Inc, p.MaxEff, p.Floor, p.Up = 1, 1, 1, 1
	p.Cap = p.Floor + 1<<39 + 1<<19
	p.Bias, p.Quot, p.QuotEm = 1, 1, 1
	p.ScoreCap = api.MaxLeak
	return p
}

// least are those with each number as small as it may be.
func least() api.Params {
	return api.Params{
		Inc: 1, MaxEff: 1, Floor: 1, Cap: 2, Up: 1,
		Bias: 1, Quot: 1, BiasEm: 1, QuotEm: 1, ScoreCap: 1,
		Churn: 1, Poll: 1,
	}
}

// most are those with each number as great as it may be.
func most() api.Params {
	return api.Params{
		Inc: api.MaxInc, MaxEff: api.MaxStake, Floor: api.MaxStake - 1, Cap: api.MaxStake, Up: api.MaxStake, Down: api.MaxStake,
		Bias: api.MaxBias, Quot: api.MaxQuot, BiasEm: api.MaxBias, QuotEm: api.MaxQuot, Recover: api.MaxBias, ScoreCap: api.MaxScore,
		Rate: api.MaxIssue, Bond: api.MaxStake, Delay: api.MaxTicks, Streak: api.MaxStreak, Boost: api.MaxBoost,
		Absent: api.MaxRate, Burn: api.MaxRate, Churn: api.MaxChurn, Wait: api.MaxWait, Poll: api.MaxTicks,
		Enact: api.MaxTicks, Quorum: api.MaxRate,
	}
}

// widest are those whose products are the greatest: from the least Floor to the most Cap.
func widest() api.Params {
	p := most()
	p.Floor = p.Inc
	return p
}

func whole(n uint64) *big.Int { return new(big.Int).SetUint64(n) }

// numbers are a parameter's fields as whole numbers, by their names.
func numbers(p api.Params) map[string]*big.Int {
	all := map[string]*big.Int{}
	v := reflect.ValueOf(p)
	for i := range v.NumField() {
		name := v.Type().Field(i).Name
		if f := v.Field(i); f.CanUint() {
			all[name] = whole(f.Uint())
		} else {
			all[name] = big.NewInt(f.Int())
		}
	}
	return all
}

// right is the chapter's "What may be", over whole numbers.
func right(p api.Params) bool {
	n := numbers(p)
	from := func(name string, least, most *big.Int) bool {
		return n[name].Cmp(least) >= 0 && n[name].Cmp(most) <= 0
	}
	num := big.NewInt
	stake, bias, rate, ticks := num(api.MaxStake), num(api.MaxBias), num(api.MaxRate), num(api.MaxTicks)
	return from("Inc", num(1), num(api.MaxInc)) &&
		from("MaxEff", n["Inc"], stake) && new(big.Int).Mod(n["MaxEff"], n["Inc"]).Sign() == 0 &&
		n["Floor"].Cmp(n["Inc"]) >= 0 && n["Floor"].Cmp(n["Cap"]) < 0 &&
		from("Cap", n["MaxEff"], stake) && from("Up", n["Inc"], stake) && from("Down", num(0), stake) &&
		from("Bias", num(1), bias) && from("BiasEm", n["Bias"], bias) &&
		from("Quot", num(1), num(api.MaxQuot)) && from("QuotEm", num(1), n["Quot"]) &&
		from("Recover", num(0), bias) && from("ScoreCap", num(1), num(api.MaxScore)) &&
		from("Rate", num(0), num(api.MaxIssue)) && from("Bond", num(0), stake) &&
		from("Delay", num(0), ticks) && from("Enact", num(0), ticks) &&
		from("Wait", num(0), num(api.MaxWait)) && from("Poll", num(1), ticks) &&
		from("Streak", num(0), num(api.MaxStreak)) && from("Boost", num(0), num(api.MaxBoost)) &&
		from("Absent", num(0), rate) && from("Burn", num(0), rate) && from("Quorum", num(0), rate) &&
		from("Churn", num(1), num(api.MaxChurn)) &&
		leak(p).Cmp(num(api.MaxLeak)) <= 0 &&
		n["ScoreCap"].Cmp(new(big.Int).Mul(n["Bias"], leak(p))) >= 0
}

// leak is T by the chapter's words, over whole numbers. Inc and Bias aren't 0.
func leak(p api.Params) *big.Int {
	n := numbers(p)
	all := new(big.Int).Sub(n["Cap"], n["Floor"])
	all.Mul(all, n["Quot"]).Lsh(all, 1)
	step := new(big.Int).Mul(n["Inc"], n["Bias"])
	one := big.NewInt(1)
	below := func(t *big.Int) bool {
		next := new(big.Int).Add(t, one)
		return next.Mul(next, t).Mul(next, step).Cmp(all) < 0
	}
	// The square of T lies about here; from a little ahead on each whole number is tried.
	t := new(big.Int).Div(all, step)
	t.Sqrt(t).Sub(t, big.NewInt(2))
	if t.Sign() < 1 || !below(t) {
		t.Set(one)
	}
	for below(t) {
		t.Add(t, one)
	}
	return t
}

// upward is a by b, up, over whole numbers.
func upward(a, b *big.Int) *big.Int {
	n, rest := new(big.Int).DivMod(a, b, new(big.Int))
	if rest.Sign() > 0 {
		n.Add(n, big.NewInt(1))
	}
	return n
}

// held asks that all that is worked out of parameters is what the chapter's words say.
func held(t *testing.T, p api.Params) {
	t.Helper()
	if !right(p) {
		refused(t, p)
		return
	}
	n := numbers(p)
	long := leak(p)
	least := upward(new(big.Int).Mul(n["Inc"], n["Bias"]), n["Quot"])
	quick := new(big.Int).Add(n["Delay"], long)
	quick.Add(quick, big.NewInt(1))
	each := upward(new(big.Int).Sub(n["Cap"], n["Floor"]), least)
	if e := param.Check(p); e != api.OK {
		t.Fatalf("Check: %d of %+v", e, p)
	}
	if got, e := param.Leak(p); e != api.OK || whole(uint64(got)).Cmp(long) != 0 {
		t.Fatalf("Leak: %d, %d, want %s of %+v", got, e, long, p)
	}
	if got, e := param.Least(p); e != api.OK || whole(got).Cmp(least) != 0 {
		t.Fatalf("Least: %d, %d, want %s of %+v", got, e, least, p)
	}
	if got, e := param.Quick(p); e != api.OK || whole(uint64(got)).Cmp(quick) != 0 {
		t.Fatalf("Quick: %d, %d, want %s of %+v", got, e, quick, p)
	}
	for _, others := range []int{0, 1, 2, 3, 64, api.MaxMembers - 1, api.MaxMembers} {
		bound := new(big.Int).Mul(big.NewInt(int64(others)), each)
		bound.Add(bound, n["Delay"]).Add(bound, big.NewInt(1))
		if got, e := param.Bound(p, others); e != api.OK || whole(got).Cmp(bound) != 0 {
			t.Fatalf("Bound(%d): %d, %d, want %s of %+v", others, got, e, bound, p)
		}
	}
}

// strays are numbers of others that may not be.
var strays = []int{-1, api.MaxMembers + 1, -2, math.MinInt, math.MinInt + 1, 1 << 20, math.MaxInt}

// refused asks that of parameters that aren't right nothing is worked out.
func refused(t *testing.T, p api.Params) {
	t.Helper()
	if e := param.Check(p); e != api.ErrParam {
		t.Fatalf("Check: %d of %+v", e, p)
	}
	if got, e := param.Leak(p); got != 0 || e != api.ErrParam {
		t.Fatalf("Leak: %d, %d of %+v", got, e, p)
	}
	if got, e := param.Least(p); got != 0 || e != api.ErrParam {
		t.Fatalf("Least: %d, %d of %+v", got, e, p)
	}
	if got, e := param.Quick(p); got != 0 || e != api.ErrParam {
		t.Fatalf("Quick: %d, %d of %+v", got, e, p)
	}
	for _, others := range append([]int{0, 1, api.MaxMembers}, strays...) {
		if got, e := param.Bound(p, others); got != 0 || e != api.ErrParam {
			t.Fatalf("Bound(%d): %d, %d of %+v", others, got, e, p)
		}
	}
}

// edge is a change of parameters, and whether they are right then.
type edge struct {
	what   string
	of     func() api.Params
	change func(p *api.Params)
	right  bool
}

// stakes are the edges of the fields that a balance goes by.
func stakes() []edge {
	grain := func(n uint64) func(p *api.Params) {
		return func(p *api.Params) { p.Inc, p.MaxEff, p.Floor, p.Up, p.Cap = n, n, n, n, n+1 }
	}
	end := func(eff, most uint64) func(p *api.Params) {
		return func(p *api.Params) { p.MaxEff, p.Cap, p.Floor = eff, most, api.MaxStake-7 }
	}
	return []edge{
		{"Inc 1", roomy, func(p *api.Params) { p.Inc = 1 }, true},
		{"Inc 0", roomy, func(p *api.Params) { p.Inc = 0 }, false},
		{"Inc 0 of nothing", roomy, grain(0), false},
		{"Inc 1 of all", roomy, grain(1), true},
		{"Inc MaxInc", roomy, grain(api.MaxInc), true},
		{"Inc above", roomy, grain(api.MaxInc + 1), false},
		{"MaxEff Inc", roomy, func(p *api.Params) { p.MaxEff = 10 }, true},
		{"MaxEff below Inc", roomy, func(p *api.Params) { p.MaxEff = 9 }, false},
		{"MaxEff Inc of 1", least, func(p *api.Params) { p.MaxEff = 1 }, true},
		{"MaxEff below Inc of 1", least, func(p *api.Params) { p.MaxEff = 0 }, false},
		{"MaxEff 0", roomy, func(p *api.Params) { p.MaxEff = 0 }, false},
		{"MaxEff 11", roomy, func(p *api.Params) { p.MaxEff = 11 }, false},
		{"MaxEff 25", roomy, func(p *api.Params) { p.MaxEff = 25 }, false},
		{"MaxEff 29", roomy, func(p *api.Params) { p.MaxEff = 29 }, false},
		{"MaxEff 31", roomy, func(p *api.Params) { p.MaxEff = 31 }, false},
		{"MaxEff MaxStake", most, end(api.MaxStake, api.MaxStake), true},
		{"MaxEff above", most, end(api.MaxStake+api.MaxInc, api.MaxStake), false},
		{"MaxEff and Cap above", most, end(api.MaxStake+api.MaxInc, api.MaxStake+api.MaxInc), false},
		{"Floor Inc", roomy, func(p *api.Params) { p.Floor = 10 }, true},
		{"Floor below Inc", roomy, func(p *api.Params) { p.Floor = 9 }, false},
		{"Floor 0", roomy, func(p *api.Params) { p.Floor = 0 }, false},
		{"Floor below Cap", roomy, func(p *api.Params) { p.Floor = 39 }, true},
		{"Floor Cap", roomy, func(p *api.Params) { p.Floor = 40 }, false},
		{"Floor above Cap", roomy, func(p *api.Params) { p.Floor = 41 }, false},
		{"Floor MaxStake", most, func(p *api.Params) { p.Floor = api.MaxStake }, false},
		{"Floor above MaxStake", most, func(p *api.Params) { p.Floor = api.MaxStake + 1 }, false},
		{"Cap MaxEff", roomy, func(p *api.Params) { p.Cap = 30 }, true},
		{"Cap below MaxEff", roomy, func(p *api.Params) { p.Cap = 29 }, false},
		{"Cap 0", roomy, func(p *api.Params) { p.Cap = 0 }, false},
		{"Cap MaxStake", most, func(p *api.Params) { p.MaxEff = p.Inc }, true},
		{"Cap above", most, func(p *api.Params) { p.MaxEff, p.Cap = p.Inc, api.MaxStake+1 }, false},
		{"Up Inc", roomy, func(p *api.Params) { p.Up = 10 }, true},
		{"Up below Inc", roomy, func(p *api.Params) { p.Up = 9 }, false},
		{"Up 0", roomy, func(p *api.Params) { p.Up = 0 }, false},
		{"Up MaxStake", roomy, func(p *api.Params) { p.Up = api.MaxStake }, true},
		{"Up above", roomy, func(p *api.Params) { p.Up = api.MaxStake + 1 }, false},
		{"Down 0", roomy, func(p *api.Params) { p.Down = 0 }, true},
		{"Down MaxStake", roomy, func(p *api.Params) { p.Down = api.MaxStake }, true},
		{"Down above", roomy, func(p *api.Params) { p.Down = api.MaxStake + 1 }, false},
	}
}

// leaks are the edges of the fields that a leak goes by.
func leaks() []edge {
	return []edge{
		{"Bias 1", roomy, func(p *api.Params) { p.Bias = 1 }, true},
		{"Bias 0", roomy, func(p *api.Params) { p.Bias = 0 }, false},
		{"Bias BiasEm", roomy, func(p *api.Params) { p.Bias = 8 }, true},
		{"Bias above BiasEm", roomy, func(p *api.Params) { p.Bias = 9 }, false},
		{"Bias MaxBias", roomy, func(p *api.Params) { p.Bias, p.BiasEm = api.MaxBias, api.MaxBias }, true},
		{"Bias above", roomy, func(p *api.Params) { p.Bias, p.BiasEm = api.MaxBias+1, api.MaxBias+1 }, false},
		{"BiasEm Bias", roomy, func(p *api.Params) { p.BiasEm = 4 }, true},
		{"BiasEm below Bias", roomy, func(p *api.Params) { p.BiasEm = 3 }, false},
		{"BiasEm 0", roomy, func(p *api.Params) { p.BiasEm = 0 }, false},
		{"BiasEm MaxBias", roomy, func(p *api.Params) { p.BiasEm = api.MaxBias }, true},
		{"BiasEm above", roomy, func(p *api.Params) { p.BiasEm = api.MaxBias + 1 }, false},
		{"Quot 1", roomy, func(p *api.Params) { p.Quot, p.QuotEm = 1, 1 }, true},
		{"Quot 0", roomy, func(p *api.Params) { p.Quot = 0 }, false},
		{"Quot and QuotEm 0", roomy, func(p *api.Params) { p.Quot, p.QuotEm = 0, 0 }, false},
		{"Quot QuotEm", roomy, func(p *api.Params) { p.Quot = 50 }, true},
		{"Quot below QuotEm", roomy, func(p *api.Params) { p.Quot = 49 }, false},
		{"Quot MaxQuot", most, func(p *api.Params) { p.QuotEm = 1 }, true},
		{"Quot above", most, func(p *api.Params) { p.Quot = api.MaxQuot + 1 }, false},
		{"QuotEm 1", roomy, func(p *api.Params) { p.QuotEm = 1 }, true},
		{"QuotEm 0", roomy, func(p *api.Params) { p.QuotEm = 0 }, false},
		{"QuotEm Quot", roomy, func(p *api.Params) { p.QuotEm = 100 }, true},
		{"QuotEm above Quot", roomy, func(p *api.Params) { p.QuotEm = 101 }, false},
		{"QuotEm above MaxQuot", most, func(p *api.Params) { p.QuotEm = api.MaxQuot + 1 }, false},
		{"Recover 0", roomy, func(p *api.Params) { p.Recover = 0 }, true},
		{"Recover MaxBias", roomy, func(p *api.Params) { p.Recover = api.MaxBias }, true},
		{"Recover above", roomy, func(p *api.Params) { p.Recover = api.MaxBias + 1 }, false},
		{"ScoreCap MaxScore", simple, func(p *api.Params) { p.ScoreCap = api.MaxScore }, true},
		{"ScoreCap above", simple, func(p *api.Params) { p.ScoreCap = api.MaxScore + 1 }, false},
		{"ScoreCap 1", least, func(p *api.Params) { p.ScoreCap = 1 }, true},
		{"ScoreCap 0", least, func(p *api.Params) { p.ScoreCap = 0 }, false},
		{"ScoreCap Bias · T", simple, func(p *api.Params) { p.ScoreCap = 48 }, true},
		{"ScoreCap below Bias · T", simple, func(p *api.Params) { p.ScoreCap = 47 }, false},
		{"ScoreCap Bias", simple, func(p *api.Params) { p.Floor, p.ScoreCap, p.Quot, p.QuotEm = 39, 4, 40, 40 }, true},
		{"ScoreCap below Bias", simple, func(p *api.Params) { p.Floor, p.ScoreCap, p.Quot, p.QuotEm = 39, 3, 40, 40 }, false},
		{"leak of MaxLeak", longest, func(p *api.Params) {}, true},
		{"leak of MaxLeak, ScoreCap below", longest, func(p *api.Params) { p.ScoreCap-- }, false},
		{"leak of MaxLeak, room behind it", longest, func(p *api.Params) { p.ScoreCap++ }, true},
		{"leak of one more", longest, func(p *api.Params) { p.Cap, p.ScoreCap = p.Cap+1, api.MaxScore }, false},
		{"leak of one more by Floor", longest, func(p *api.Params) { p.Floor, p.Cap, p.ScoreCap = 2, p.Cap+2, api.MaxScore }, false},
		{"leak of far more", longest, func(p *api.Params) { p.Quot, p.ScoreCap = api.MaxQuot, api.MaxScore }, false},
	}
}

// ends are the edges of a field whose span hangs on no other one.
func ends(name string, least, most uint64, at func(p *api.Params) *uint64) []edge {
	list := []edge{
		{name + " least", simple, func(p *api.Params) { *at(p) = least }, true},
		{name + " most", simple, func(p *api.Params) { *at(p) = most }, true},
		{name + " above", simple, func(p *api.Params) { *at(p) = most + 1 }, false},
		{name + " far above", simple, func(p *api.Params) { *at(p) = top }, false},
	}
	if least > 0 {
		list = append(list, edge{name + " below", simple, func(p *api.Params) { *at(p) = least - 1 }, false})
	}
	return list
}

// intEnds are the edges of a field that is Go's int.
func intEnds(name string, least, most int, at func(p *api.Params) *int) []edge {
	return []edge{
		{name + " least", simple, func(p *api.Params) { *at(p) = least }, true},
		{name + " most", simple, func(p *api.Params) { *at(p) = most }, true},
		{name + " below", simple, func(p *api.Params) { *at(p) = least - 1 }, false},
		{name + " above", simple, func(p *api.Params) { *at(p) = most + 1 }, false},
		{name + " -1", simple, func(p *api.Params) { *at(p) = -1 }, false},
		{name + " far below", simple, func(p *api.Params) { *at(p) = math.MinInt }, false},
		{name + " far above", simple, func(p *api.Params) { *at(p) = math.MaxInt }, false},
	}
}

// others are the edges of all other fields.
func others() []edge {
	var list []edge
	list = append(list, ends("Rate", 0, api.MaxIssue, func(p *api.Params) *uint64 { return &p.Rate })...)
	list = append(list, ends("Bond", 0, api.MaxStake, func(p *api.Params) *uint64 { return &p.Bond })...)
	list = append(list, intEnds("Delay", 0, api.MaxTicks, func(p *api.Params) *int { return &p.Delay })...)
	list = append(list, intEnds("Streak", 0, api.MaxStreak, func(p *api.Params) *int { return &p.Streak })...)
	list = append(list, intEnds("Boost", 0, api.MaxBoost, func(p *api.Params) *int { return &p.Boost })...)
	list = append(list, intEnds("Absent", 0, api.MaxRate, func(p *api.Params) *int { return &p.Absent })...)
	list = append(list, intEnds("Burn", 0, api.MaxRate, func(p *api.Params) *int { return &p.Burn })...)
	list = append(list, intEnds("Churn", 1, api.MaxChurn, func(p *api.Params) *int { return &p.Churn })...)
	list = append(list, intEnds("Wait", 0, api.MaxWait, func(p *api.Params) *int { return &p.Wait })...)
	list = append(list, intEnds("Poll", 1, api.MaxTicks, func(p *api.Params) *int { return &p.Poll })...)
	list = append(list, intEnds("Enact", 0, api.MaxTicks, func(p *api.Params) *int { return &p.Enact })...)
	return append(list, intEnds("Quorum", 0, api.MaxRate, func(p *api.Params) *int { return &p.Quorum })...)
}

// edges are all of them.
func edges() []edge {
	return append(append(stakes(), leaks()...), others()...)
}

// P7.1, P7.2: at each field's edges, and beyond them.
func TestEdges(t *testing.T) {
	for _, x := range edges() {
		p := x.of()
		held(t, p)
		x.change(&p)
		if e := param.Check(p); (e == api.OK) != x.right {
			t.Fatal(x.what, e)
		}
		held(t, p)
	}
}

// P7.1: what is nothing at all, or has all at once as small or as great as it may be, or as Go's types have it.
func TestWhole(t *testing.T) {
	for _, x := range []struct {
		p     api.Params
		right bool
	}{
		{simple(), true}, {roomy(), true}, {longest(), true}, {least(), true}, {most(), true}, {widest(), true},
		{api.Params{}, false},
		{full(top, math.MaxInt), false}, {full(0, math.MinInt), false}, {full(1, 1), false}, {full(1<<63, -1), false},
	} {
		if right(x.p) != x.right {
			t.Fatalf("the model itself: %+v", x.p)
		}
		held(t, x.p)
	}
}

// full are parameters with one number in all words, and one in all of Go's ints.
func full(n uint64, i int) api.Params {
	var p api.Params
	v := reflect.ValueOf(&p).Elem()
	for k := range v.NumField() {
		if f := v.Field(k); f.CanUint() {
			f.SetUint(n)
		} else {
			f.SetInt(int64(i))
		}
	}
	return p
}

// P7.1: T is the least number of ticks, also where the products have more than 64 bits.
func TestLeak(t *testing.T) {
	under := longest()
	under.Cap = under.Floor + 1<<39 - 1<<19
	over := under
	over.Cap++
	for _, x := range []struct {
		p     api.Params
		ticks int
	}{
		{simple(), 12},
		{least(), 1},
		{longest(), api.MaxLeak},
		{under, api.MaxLeak - 1},
		{over, api.MaxLeak},
		{most(), 1},
		{widest(), 511}, // 2^63 · T · (T + 1) is just 2^81 less 2^72
	} {
		if got, e := param.Leak(x.p); got != x.ticks || e != api.OK {
			t.Fatalf("%d, %d, want %d of %+v", got, e, x.ticks, x.p)
		}
	}
}

// P7.1: at each T where the fraction is whole, one coin less between Cap and Floor, and one more.
func TestLeakStepByStep(t *testing.T) {
	p := roomy()
	p.Inc, p.MaxEff, p.Floor, p.Up, p.Bias, p.Quot, p.QuotEm = 2, 2, 2, 2, 3, 3, 1
	for ticks := range uint64(300) {
		if ticks == 0 {
			continue
		}
		// Inc · Bias is 2 · Quot: just so much is lost in so many ticks.
		just := ticks * (ticks + 1)
		for _, x := range []struct{ lost, ticks uint64 }{{just - 1, ticks}, {just, ticks}, {just + 1, ticks + 1}} {
			p.Cap = p.Floor + x.lost
			if got, e := param.Leak(p); uint64(got) != x.ticks || e != api.OK {
				t.Fatal(x.lost, got, e)
			}
		}
	}
}

// P7.2: others at 0 and at MaxMembers, and one outside on each side; behind what isn't right.
func TestBound(t *testing.T) {
	for _, x := range []struct {
		others int
		want   uint64
		e      api.Errno
	}{
		{0, 3, api.OK},
		{1, 33, api.OK},
		{2, 63, api.OK},
		{api.MaxMembers, 3 + 30*api.MaxMembers, api.OK},
		{-1, 0, api.ErrArg},
		{api.MaxMembers + 1, 0, api.ErrArg},
	} {
		if got, e := param.Bound(simple(), x.others); got != x.want || e != x.e {
			t.Fatal(x.others, got, e)
		}
	}
	for _, p := range []api.Params{simple(), least(), most(), longest()} {
		for _, others := range strays {
			if got, e := param.Bound(p, others); got != 0 || e != api.ErrArg {
				t.Fatal(others, got, e)
			}
		}
	}
	if got, e := param.Bound(longest(), api.MaxMembers); got != 3+(1<<39+1<<19)*api.MaxMembers || e != api.OK {
		t.Fatal(got, e)
	}
}

// P7.2: the least, up; and the bound by it.
func TestLeast(t *testing.T) {
	p := roomy()
	p.QuotEm = 1
	for _, x := range []struct{ quot, least, bound uint64 }{
		{1, 40, 4}, {2, 20, 5}, {3, 14, 6}, {13, 4, 11}, {14, 3, 13}, {20, 2, 18}, {39, 2, 18}, {40, 1, 33}, {41, 1, 33}, {1000, 1, 33},
	} {
		p.Quot = x.quot
		if got, e := param.Least(p); got != x.least || e != api.OK {
			t.Fatal(x.quot, got, e)
		}
		if got, e := param.Bound(p, 1); got != x.bound || e != api.OK {
			t.Fatal(x.quot, got, e)
		}
	}
	p = most()
	p.Quot, p.QuotEm = 1, 1
	if got, e := param.Least(p); got != 1<<63 || e != api.OK {
		t.Fatal(got, e)
	}
	if got, e := param.Bound(p, api.MaxMembers); got != api.MaxTicks+api.MaxMembers+1 || e != api.OK {
		t.Fatal(got, e)
	}
}

// P7.2: Delay, T and one together.
func TestQuick(t *testing.T) {
	for _, delay := range []int{0, 1, 2, api.MaxTicks} {
		p, long := simple(), longest()
		p.Delay, long.Delay = delay, delay
		if got, e := param.Quick(p); got != delay+13 || e != api.OK {
			t.Fatal(delay, got, e)
		}
		if got, e := param.Quick(long); got != delay+api.MaxLeak+1 || e != api.OK {
			t.Fatal(delay, got, e)
		}
	}
}

// anyNumber is a number of up to so many bits, of all lengths alike.
func anyNumber(dice *rand.Rand, bits int) uint64 {
	return dice.Uint64() >> (63 - dice.Intn(bits))
}

// mixed are parameters of whose numbers most may be.
func mixed(dice *rand.Rand) api.Params {
	p := most()
	p.Inc = min(1+anyNumber(dice, 31), api.MaxInc)
	p.MaxEff = p.Inc * (1 + anyNumber(dice, 9))
	p.Floor = p.Inc + anyNumber(dice, 39)
	p.Cap = max(p.MaxEff, p.Floor) + anyNumber(dice, 39)
	p.Up, p.Down = p.Inc+anyNumber(dice, 39), anyNumber(dice, 40)
	p.Bias, p.Quot = 1+anyNumber(dice, 31), 1+anyNumber(dice, 39)
	p.BiasEm, p.QuotEm = p.Bias+anyNumber(dice, 31), 1+anyNumber(dice, 20)%p.Quot
	p.Recover, p.ScoreCap = anyNumber(dice, 32), 1+anyNumber(dice, 55)
	p.Rate, p.Bond = anyNumber(dice, 32), anyNumber(dice, 40)
	p.Delay, p.Enact, p.Poll = dice.Intn(1001), dice.Intn(1001), 1+dice.Intn(1000)
	p.Streak, p.Boost, p.Churn, p.Wait = dice.Intn(65), dice.Intn(1001), 1+dice.Intn(64), dice.Intn(51)
	p.Absent, p.Burn, p.Quorum = dice.Intn(10001), dice.Intn(10001), dice.Intn(10001)
	return p
}

// P7.1, P7.2: many mixed parameters, held against whole numbers; and with ScoreCap at Bias · T, and one below.
func TestMixed(t *testing.T) {
	dice := rand.New(rand.NewSource(7))
	good, bad := 0, 0
	for range 6000 {
		p := mixed(dice)
		held(t, p)
		if !right(p) {
			bad++
			continue
		}
		good++
		p.ScoreCap = p.Bias * leak(p).Uint64()
		held(t, p)
		p.ScoreCap--
		refused(t, p)
	}
	if good < 1000 || bad < 1000 {
		t.Fatal(good, bad)
	}
}

// P7.4: who is absent in each of T ticks, its score rising by Bias each time, loses all between Cap and Floor.
func TestAllIsLost(t *testing.T) {
	dice := rand.New(rand.NewSource(11))
	list := []api.Params{simple(), least(), most(), widest(), longest()}
	for len(list) < 200 {
		if p := mixed(dice); right(p) && leak(p).Cmp(big.NewInt(1<<14)) < 0 {
			list = append(list, p)
		}
	}
	for _, p := range list {
		ticks, e := param.Leak(p)
		if e != api.OK {
			t.Fatal(e)
		}
		balance, score := p.Cap, uint64(0)
		for range ticks {
			score += p.Bias
			if score > p.ScoreCap {
				t.Fatalf("a score of %d of %+v", score, p)
			}
			fine, e := ratio.Up(p.Inc, score, p.Quot)
			if e != api.OK {
				fine = top
			}
			balance -= min(balance, fine)
		}
		if balance > p.Floor {
			t.Fatalf("%d of %+v", balance, p)
		}
	}
}

// The chapter's examples.
func TestExamples(t *testing.T) {
	p := simple()
	if ticks, e := param.Leak(p); ticks != 12 || e != api.OK {
		t.Fatal(ticks, e)
	}
	if n, e := param.Least(p); n != 1 || e != api.OK {
		t.Fatal(n, e)
	}
}
