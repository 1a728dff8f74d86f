package image_test

import (
	"encoding/binary"
	"math"
	"reflect"
	"slices"

	"bullion/api"
	"bullion/param"
	"bullion/state"
)

// kind is what a part of an image is.
type kind int

const (
	wide  kind = iota // a number of 64 bits
	short             // a number that is Go's int
	flag
	count // how many things a list has
	raw   // a string of bytes
)

// part is what layer 5 reads at once, with its bytes.
type part struct {
	kind kind
	b    []byte
	of   string // the struct, or the list, that it belongs to
}

// number is a number's bytes.
func number(n uint64) []byte { return binary.AppendUvarint(nil, n) }

// parts are what an image is put together from.
type parts []part

func (x *parts) put(of string, list ...any) {
	for _, a := range list {
		switch a := a.(type) {
		case uint64:
			*x = append(*x, part{wide, number(a), of})
		case int:
			*x = append(*x, part{short, number(uint64(a)), of})
		case bool:
			b := []byte{0}
			if a {
				b[0] = 1
			}
			*x = append(*x, part{flag, b, of})
		case []byte:
			*x = append(*x, part{raw, append(number(uint64(len(a))), a...), of})
		}
	}
}

// many puts how many things a list has.
func (x *parts) many(of string, n int) {
	*x = append(*x, part{count, number(uint64(n)), of})
}

// params puts parameters, in the order of api's struct.
func (x *parts) params(p api.Params) {
	for _, v := range reflect.ValueOf(p).Fields() {
		x.put("Params", v.Interface())
	}
}

// partsOf are an image's, by the chapter's order.
func partsOf(s api.State) parts {
	var x parts
	x.params(s.Params)
	x.put("", s.Most, s.Genesis, s.Minted, s.Burned, s.Treasury, s.Epoch, s.Calm, s.Emergency)
	x.many("Purses", len(s.Purses))
	for _, n := range s.Purses {
		x.put("Purses", n)
	}
	x.many("Members", len(s.Members))
	for _, m := range s.Members {
		x.put("Members", m.Balance, m.Eff, m.Score, m.Streak, m.Owner, m.Status)
	}
	for _, list := range [][]int{s.Entry, s.Exit} {
		x.many("Entry", len(list))
		for _, i := range list {
			x.put("Entry", i)
		}
	}
	x.many("Pool", len(s.Pool))
	for _, d := range s.Pool {
		x.put("Pool", d.Account, d.Member, d.Amount, d.New)
	}
	x.many("Dues", len(s.Dues))
	for _, d := range s.Dues {
		x.put("Dues", d.Account, d.At, d.Amount)
	}
	x.many("Motions", len(s.Motions))
	for _, m := range s.Motions {
		x.motion(m)
	}
	x.put("Marks", s.Marks)
	x.many("Ring", len(s.Ring))
	for _, b := range s.Ring {
		x.put("Ring", b)
	}
	return x
}

// motion puts a motion.
func (x *parts) motion(m api.Motion) {
	x.put("Motions", m.Account, m.What)
	if m.What == api.MoveParams {
		x.params(m.Params)
	}
	x.put("Motions", m.To, m.Amount, m.Ends, m.Due, m.State, m.Yes, m.No)
}

// join are the bytes of parts.
func (x parts) join() []byte {
	var b []byte
	for _, p := range x {
		b = append(b, p.b...)
	}
	return b
}

// other is parts with other bytes in the place of one.
func (x parts) other(i int, b []byte) parts {
	x = slices.Clone(x)
	x[i].b = b
	return x
}

// text is a state's image, also of one that doesn't fit.
func text(s api.State) []byte { return partsOf(s).join() }

// encodeOf is what Encode answers, by the chapter's words.
func encodeOf(s api.State) ([]byte, api.Errno) {
	if !state.Fits(s) {
		return nil, api.ErrState
	}
	b := text(s)
	if len(b) > 1<<17 {
		return nil, api.ErrBig
	}
	return b, api.OK
}

// reading is bytes that are read, byte by byte; at the first error it panics with that.
type reading struct{ b []byte }

func (x *reading) number(most uint64) (n uint64) {
	for i := range 10 {
		if i == len(x.b) {
			panic(api.ErrEnd)
		}
		c := x.b[i]
		if i == 9 && c > 1 || i > 0 && c == 0 {
			panic(api.ErrForm)
		}
		n += uint64(c%128) << (7 * i)
		if c < 128 {
			if n > most {
				panic(api.ErrForm)
			}
			x.b = x.b[i+1:]
			return n
		}
	}
	panic("there is no eleventh byte")
}

func (x *reading) wide() uint64 { return x.number(math.MaxUint64) }
func (x *reading) short() int   { return int(x.number(1<<31 - 1)) }
func (x *reading) flag() bool   { return x.number(1) == 1 }

func (x *reading) raw() []byte {
	n := int(x.number(256 / 8))
	if n > len(x.b) {
		panic(api.ErrEnd)
	}
	b := slices.Clone(x.b[:n])
	x.b = x.b[n:]
	return b
}

// each reads a list.
func each[T any](x *reading, one func() T) (list []T) {
	for range x.number(1 << 17) {
		list = append(list, one())
	}
	return list
}

func (x *reading) params() (p api.Params) {
	for _, v := range reflect.ValueOf(&p).Elem().Fields() {
		if v.Kind() == reflect.Int {
			v.SetInt(int64(x.short()))
		} else {
			v.SetUint(x.wide())
		}
	}
	if param.Check(p) != api.OK {
		panic(api.ErrParam)
	}
	return p
}

func (x *reading) member() (m api.Member) {
	m.Balance, m.Eff, m.Score = x.wide(), x.wide(), x.wide()
	m.Streak, m.Owner, m.Status = x.short(), x.short(), x.short()
	return m
}

func (x *reading) deposit() api.Deposit {
	return api.Deposit{Account: x.short(), Member: x.short(), Amount: x.wide(), New: x.flag()}
}

func (x *reading) due() api.Due {
	return api.Due{Account: x.short(), At: x.short(), Amount: x.wide()}
}

func (x *reading) motion() api.Motion {
	m := api.Motion{Account: x.short(), What: x.short()}
	if m.What == 1 {
		m.Params = x.params()
	}
	m.To, m.Amount = x.short(), x.wide()
	m.Ends, m.Due, m.State = x.short(), x.short(), x.short()
	m.Yes, m.No = x.raw(), x.raw()
	return m
}

func (x *reading) state() (s api.State) {
	s.Params = x.params()
	s.Most, s.Genesis, s.Minted, s.Burned, s.Treasury = x.wide(), x.wide(), x.wide(), x.wide(), x.wide()
	s.Epoch, s.Calm, s.Emergency = x.short(), x.short(), x.flag()
	s.Purses, s.Members = each(x, x.wide), each(x, x.member)
	s.Entry, s.Exit = each(x, x.short), each(x, x.short)
	s.Pool, s.Dues, s.Motions = each(x, x.deposit), each(x, x.due), each(x, x.motion)
	s.Marks, s.Ring = x.raw(), each(x, x.raw)
	return s
}

// decodeOf is what Decode answers, by the chapter's words.
func decodeOf(b []byte) (s api.State, e api.Errno) {
	if len(b) > 1<<17 {
		return api.State{}, api.ErrBig
	}
	defer func() {
		switch why := recover().(type) {
		case nil:
		case api.Errno:
			s, e = api.State{}, why
		default:
			panic(why)
		}
	}()
	x := &reading{b}
	s = x.state()
	if len(x.b) > 0 {
		return api.State{}, api.ErrLeft
	}
	if !state.Fits(s) {
		return api.State{}, api.ErrState
	}
	return s, api.OK
}
