package state_test

import (
	"cmp"
	"math/big"
	"slices"

	"bullion/api"
	"bullion/param"
)

// whole are numbers together, as a whole number.
func whole(list ...uint64) *big.Int {
	sum := new(big.Int)
	for _, n := range list {
		sum.Add(sum, new(big.Int).SetUint64(n))
	}
	return sum
}

// word is a whole number, or the greatest one that a word has room for.
func word(n *big.Int) uint64 {
	if !n.IsUint64() {
		return top
	}
	return n.Uint64()
}

// down and up are a · b / c, toward what is less and toward what is more.
func down(a, b, c uint64) uint64 {
	n := new(big.Int).Mul(whole(a), whole(b))
	return word(n.Quo(n, whole(c)))
}

func up(a, b, c uint64) uint64 {
	n := new(big.Int).Mul(whole(a), whole(b))
	n.Add(n, whole(c))
	n.Sub(n, whole(1))
	return word(n.Quo(n, whole(c)))
}

// bit says whether a bit is 1, by what the bytes are worth together.
func bit(b []byte, i int) bool {
	b = slices.Clone(b)
	slices.Reverse(b)
	return new(big.Int).SetBytes(b).Bit(i) == 1
}

// counts says whether a member counts.
func counts(m api.Member) bool {
	return m.Status == api.StatusActive || m.Status == api.StatusLeaving
}

// wholeOf and nextOf are layer 10's, by its words.
func wholeOf(p api.Params, balance uint64) uint64 {
	return min(balance/p.Inc*p.Inc, p.MaxEff)
}

func nextOf(p api.Params, eff, balance uint64) uint64 {
	if whole(balance, p.Down).Cmp(whole(eff)) < 0 || whole(eff, p.Up).Cmp(whole(balance)) < 0 {
		return wholeOf(p, balance)
	}
	return eff
}

func effFits(p api.Params, eff, balance uint64) bool {
	return eff >= p.Inc && eff <= p.MaxEff && eff%p.Inc == 0 && nextOf(p, eff, balance) == eff
}

// partsOf are all amounts of a state.
func partsOf(s api.State) []uint64 {
	list := append([]uint64{s.Treasury}, s.Purses...)
	for _, m := range s.Members {
		list = append(list, m.Balance)
	}
	for _, d := range s.Pool {
		list = append(list, d.Amount)
	}
	for _, d := range s.Dues {
		list = append(list, d.Amount)
	}
	return list
}

// accounted says whether all money is accounted for.
func accounted(s api.State) bool {
	came := whole(s.Genesis, s.Minted)
	there := append(partsOf(s), s.Burned)
	return whole(there...).Cmp(came) == 0 && came.Cmp(whole(s.Most)) <= 0 && s.Most <= api.MaxMoney
}

// memberFits says whether a member of a state fits.
func memberFits(s api.State, m api.Member) bool {
	p := s.Params
	if m.Owner < 0 || m.Owner >= len(s.Purses) || m.Score > p.ScoreCap || m.Streak < 0 || m.Streak > p.Streak {
		return false
	}
	switch m.Status {
	case api.StatusActive, api.StatusLeaving:
		return m.Balance > p.Floor && m.Balance <= p.Cap && effFits(p, m.Eff, m.Balance)
	case api.StatusPending:
		return m.Balance >= 1 && m.Balance <= p.Cap && m.Eff == 0
	case api.StatusOut, api.StatusLeft:
		return m.Balance == 0 && m.Eff == 0
	}
	return false
}

// motionFits says whether a motion of a state fits.
func motionFits(s api.State, m api.Motion) bool {
	n := len(s.Purses)
	if m.Account < 0 || m.Account >= n || m.To < 0 || m.To >= n || m.Amount > api.MaxMoney {
		return false
	}
	if m.Ends < 0 || m.Ends > mostTime || m.Due < 0 || m.Due > mostTime || m.State < 1 || m.State > 4 {
		return false
	}
	if len(m.Yes) != 16 || len(m.No) != 16 {
		return false
	}
	switch m.What {
	case api.MoveParams:
		return param.Check(m.Params) == api.OK
	case api.MoveSpend, api.MoveOn, api.MoveOff:
		return m.Params == api.Params{}
	}
	return false
}

// ofStatus are the places of all members of a status.
func ofStatus(s api.State, status int) []int {
	var list []int
	for i, m := range s.Members {
		if m.Status == status {
			list = append(list, i)
		}
	}
	return list
}

// queueFits says whether a queue has just these places.
func queueFits(queue, places []int) bool {
	return slices.Equal(slices.Sorted(slices.Values(queue)), places)
}

// onTheWayFits says whether all deposits and dues of a state fit.
func onTheWayFits(s api.State) bool {
	accounts, members := len(s.Purses), len(s.Members)
	for _, d := range s.Pool {
		if d.Account < 0 || d.Account >= accounts || d.Amount < 1 || d.Amount > api.MaxMoney {
			return false
		}
		if d.New && d.Member != 0 || !d.New && (d.Member < 0 || d.Member >= members) {
			return false
		}
	}
	for i, d := range s.Dues {
		if d.Account < 0 || d.Account >= accounts || d.Amount < 1 || d.Amount > api.MaxMoney || d.At < 0 || d.At > mostTime {
			return false
		}
		for _, earlier := range s.Dues[:i] {
			if earlier.At > d.At || earlier.At == d.At && earlier.Account == d.Account {
				return false
			}
		}
	}
	return true
}

// marksFit says whether all marks of a state fit.
func marksFit(s api.State) bool {
	if len(s.Ring) > api.MaxRing || len(s.Marks) != 16 {
		return false
	}
	for _, b := range s.Ring {
		if len(b) != 16 {
			return false
		}
	}
	for i := len(s.Members); i < api.MaxMembers; i++ {
		if bit(s.Marks, i) {
			return false
		}
	}
	return true
}

// fitsOf says whether a state fits, by the chapter's words.
func fitsOf(s api.State) bool {
	switch {
	case param.Check(s.Params) != api.OK, !accounted(s):
		return false
	case s.Epoch < 0, s.Epoch > api.MaxEpoch, s.Calm < 0, s.Calm > api.MaxEpoch:
		return false
	case len(s.Purses) < 1, len(s.Purses) > api.MaxAccounts, len(s.Members) > api.MaxMembers:
		return false
	case len(s.Pool) > api.MaxLine, len(s.Motions) > api.MaxMotions:
		return false
	case slices.Max(s.Purses) > api.MaxMoney:
		return false
	}
	for _, m := range s.Members {
		if !memberFits(s, m) {
			return false
		}
	}
	for _, m := range s.Motions {
		if !motionFits(s, m) {
			return false
		}
	}
	return queueFits(s.Entry, ofStatus(s, api.StatusPending)) && queueFits(s.Exit, ofStatus(s, api.StatusLeaving)) &&
		onTheWayFits(s) && marksFit(s)
}

// newOf is the state of a genesis, by the chapter's words.
func newOf(g api.Genesis) (api.State, api.Errno) {
	all := whole(g.Purses...)
	for _, f := range g.Founders {
		all.Add(all, whole(f.Balance))
	}
	right := param.Check(g.Params) == api.OK && g.Most <= api.MaxMoney && len(g.Purses) >= 1 && len(g.Purses) <= 64 &&
		len(g.Founders) <= 128 && all.Cmp(whole(g.Most)) <= 0
	for _, f := range g.Founders {
		right = right && f.Owner >= 0 && f.Owner < len(g.Purses) && f.Balance > g.Params.Floor && f.Balance <= g.Params.Cap
	}
	if !right {
		return api.State{}, api.ErrGenesis
	}
	s := api.State{Params: g.Params, Most: g.Most, Genesis: all.Uint64(), Purses: g.Purses, Marks: make([]byte, 16)}
	for _, f := range g.Founders {
		m := api.Member{Owner: f.Owner, Status: api.StatusActive}
		m.Balance, m.Eff = f.Balance, wholeOf(g.Params, f.Balance)
		s.Members = append(s.Members, m)
	}
	return s, api.OK
}

// model is a tick by the chapter's words: a state, the parameters ahead of it, and the report.
type model struct {
	s api.State
	p api.Params
	r api.Report
}

// tickOf is the state behind a tick and a report of it, by the chapter's words.
func tickOf(s api.State) (api.State, api.Report, api.Errno) {
	if !fitsOf(s) {
		return api.State{}, api.Report{}, api.ErrState
	}
	if s.Epoch == 1<<30 {
		return api.State{}, api.Report{}, api.ErrEpoch
	}
	x := &model{s: plain(s), p: s.Params}
	x.r.Epoch = s.Epoch
	x.attendance()
	x.standings()
	x.prizes()
	x.fines()
	for i, m := range x.s.Members {
		if counts(m) && m.Balance <= x.p.Floor {
			x.out(i)
		}
	}
	for len(x.s.Exit) > 0 && len(x.r.Left) < x.p.Churn {
		i := x.s.Exit[0]
		x.s.Exit = x.s.Exit[1:]
		x.over(i, api.StatusLeft)
		x.r.Left = append(x.r.Left, i)
	}
	x.ripe()
	if x.r.Quorum {
		x.deposits()
		x.starts()
	}
	x.motions()
	x.follow()
	x.s.Ring = slices.Concat([][]byte{x.s.Marks}, x.s.Ring)
	x.s.Ring = x.s.Ring[:min(len(x.s.Ring), 8)]
	x.s.Marks = make([]byte, 16)
	x.s.Epoch++
	return x.s, x.r, api.OK
}

// here says whether a member is present.
func (x *model) here(i int) bool { return bit(x.s.Marks, i) }

func (x *model) attendance() {
	for i, m := range x.s.Members {
		if counts(m) {
			x.r.Active += m.Eff
			if x.here(i) {
				x.r.Present += m.Eff
			}
		}
	}
	x.r.Quorum = 3*x.r.Present > 2*x.r.Active
	x.s.Calm = min(x.s.Calm+1, 1<<30)
	if x.r.Quorum {
		x.s.Calm = 0
	}
	x.r.Mode = api.ModeNormal
	switch {
	case x.s.Emergency:
		x.r.Mode = api.ModeEmergency
	case x.s.Calm > x.p.Delay:
		x.r.Mode = api.ModeLeak
	case x.s.Calm > 0:
		x.r.Mode = api.ModeDelay
	}
}

func (x *model) leaks() bool {
	return x.r.Mode == api.ModeLeak || x.r.Mode == api.ModeEmergency
}

func (x *model) standings() {
	for i := range x.s.Members {
		m := &x.s.Members[i]
		switch {
		case !counts(*m):
		case x.here(i):
			m.Streak = min(m.Streak+1, x.p.Streak)
			m.Score -= min(m.Score, x.p.Recover)
		case x.leaks():
			m.Streak = 0
			bias := x.p.Bias
			if x.r.Mode == api.ModeEmergency {
				bias = x.p.BiasEm
			}
			m.Score = min(m.Score+bias, x.p.ScoreCap)
		default:
			m.Streak = 0
		}
	}
}

func (x *model) prizes() {
	var minted uint64
	if active := whole(x.r.Active); active.Sign() > 0 && !x.leaks() {
		root := new(big.Int).Sqrt(active)
		minted = down(x.r.Active, x.p.Rate, root.Lsh(root, 20).Uint64())
	}
	if whole(x.s.Genesis, x.s.Minted, minted).Cmp(whole(x.s.Most)) > 0 {
		minted = 0
	}
	weights, all := map[int]uint64{}, uint64(0)
	for i, m := range x.s.Members {
		if counts(m) && x.here(i) {
			weights[i] = m.Eff * uint64(1000+x.p.Boost*m.Streak)
			all += weights[i]
		}
	}
	x.s.Minted += minted
	x.r.Minted, x.r.Kept = minted, minted
	for i := range x.s.Members {
		if weights[i] == 0 {
			continue
		}
		part := down(minted, weights[i], all)
		m := &x.s.Members[i]
		room := min(part, x.p.Cap-m.Balance)
		m.Balance += room
		x.s.Purses[m.Owner] += part - room
		x.r.Paid += part
		x.r.Kept -= part
	}
	x.s.Treasury += x.r.Kept
}

func (x *model) fines() {
	for i := range x.s.Members {
		m := &x.s.Members[i]
		if !counts(*m) || x.here(i) {
			continue
		}
		var fine uint64
		switch x.r.Mode {
		case api.ModeLeak:
			fine = up(m.Eff, m.Score, x.p.Quot)
		case api.ModeEmergency:
			fine = up(m.Eff, m.Score, x.p.QuotEm)
		default:
			fine = down(m.Eff, uint64(x.p.Absent), 10000)
		}
		fine = min(fine, m.Balance)
		burned := down(fine, uint64(x.p.Burn), 10000)
		m.Balance -= fine
		x.s.Burned += burned
		x.s.Treasury += fine - burned
		x.r.Burned += burned
		x.r.Fees += fine - burned
	}
}

// over takes all that a member has, which is due at the epoch and the Wait of ahead of the tick together.
func (x *model) over(i, status int) {
	m := &x.s.Members[i]
	owed := api.Due{Account: m.Owner, At: x.r.Epoch + x.p.Wait, Amount: m.Balance}
	m.Status, m.Balance, m.Eff, m.Streak = status, 0, 0, 0
	for j, d := range x.s.Dues {
		if d.Account == owed.Account && d.At == owed.At {
			x.s.Dues[j].Amount += owed.Amount
			return
		}
	}
	if owed.Amount > 0 {
		x.s.Dues = append(x.s.Dues, owed)
		slices.SortStableFunc(x.s.Dues, func(a, b api.Due) int { return cmp.Compare(a.At, b.At) })
	}
}

// out puts a member out.
func (x *model) out(i int) {
	x.over(i, api.StatusOut)
	x.s.Exit = slices.DeleteFunc(x.s.Exit, func(other int) bool { return other == i })
	x.r.Out = append(x.r.Out, i)
}

func (x *model) ripe() {
	var later []api.Due
	for _, d := range x.s.Dues {
		if d.At > x.r.Epoch {
			later = append(later, d)
			continue
		}
		x.s.Purses[d.Account] += d.Amount
	}
	x.s.Dues = later
}

func (x *model) deposits() {
	for _, d := range x.s.Pool {
		if d.New && len(x.s.Members) == 128 {
			x.s.Purses[d.Account] += d.Amount
			continue
		}
		i := d.Member
		if d.New {
			i = len(x.s.Members)
			x.s.Members = append(x.s.Members, api.Member{Owner: d.Account, Status: api.StatusOut})
		}
		m := &x.s.Members[i]
		room := min(d.Amount, x.p.Cap-m.Balance)
		m.Balance += room
		x.s.Purses[d.Account] += d.Amount - room
		if m.Status == api.StatusOut || m.Status == api.StatusLeft {
			m.Status = api.StatusPending
			x.s.Entry = append(x.s.Entry, i)
		}
	}
	x.s.Pool = nil
}

func (x *model) starts() {
	n := min(len(x.s.Entry), x.p.Churn)
	for _, i := range x.s.Entry[:n] {
		m := &x.s.Members[i]
		if m.Balance <= x.p.Floor {
			x.out(i)
			continue
		}
		m.Status, m.Eff, m.Streak = api.StatusActive, wholeOf(x.p, m.Balance), 0
		x.r.Started = append(x.r.Started, i)
	}
	x.s.Entry = x.s.Entry[n:]
}

// passes says whether enough are for a motion.
func (x *model) passes(m api.Motion) bool {
	var yes, no, active uint64
	for i, v := range x.s.Members {
		if !counts(v) {
			continue
		}
		active += v.Eff
		if bit(m.Yes, i) {
			yes += v.Eff
		}
		if bit(m.No, i) {
			no += v.Eff
		}
	}
	return active > 0 && yes > no && (yes+no)*10000 >= uint64(x.p.Quorum)*active
}

func (x *model) motions() {
	e := x.r.Epoch
	for i := range x.s.Motions {
		m := &x.s.Motions[i]
		if m.State != api.MotionOpen || m.Ends > e {
			continue
		}
		m.State = api.MotionFailed
		if x.passes(*m) {
			m.State, m.Due = api.MotionPassed, e+x.p.Enact
		}
	}
	for i := range x.s.Motions {
		m := &x.s.Motions[i]
		emergency := m.What == api.MoveOn || m.What == api.MoveOff
		if m.State != api.MotionPassed || m.Due > e || !emergency && !x.r.Quorum {
			continue
		}
		m.State = api.MotionDone
		switch {
		case emergency:
			x.s.Emergency = m.What == api.MoveOn
		case m.What == api.MoveParams:
			x.s.Params = m.Params
		case m.Amount <= x.s.Treasury:
			x.s.Treasury -= m.Amount
			x.s.Purses[m.To] += m.Amount
		default:
			m.State = api.MotionFailed
			continue
		}
		x.r.Done = append(x.r.Done, i)
	}
}

// follow are the phases 10 and 11, by the parameters that are in force then.
func (x *model) follow() {
	q := x.s.Params
	for i := range x.s.Members {
		m := &x.s.Members[i]
		if q != x.p {
			x.s.Purses[m.Owner] += m.Balance - min(m.Balance, q.Cap)
			m.Balance, m.Score, m.Streak = min(m.Balance, q.Cap), min(m.Score, q.ScoreCap), min(m.Streak, q.Streak)
		}
		if q != x.p && counts(*m) && m.Balance <= q.Floor {
			x.out(i)
		}
		if !counts(*m) {
			continue
		}
		m.Eff = nextOf(q, m.Eff, m.Balance)
		if !effFits(q, m.Eff, m.Balance) {
			m.Eff = wholeOf(q, m.Balance)
		}
	}
}
