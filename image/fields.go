package image

import (
	"math"

	"bullion/api"
	"bullion/coder"
	"bullion/param"
)

// fields is a way to go through fields by their addresses: a writer writes what stands there, a reader lets stand there what it reads.
type fields interface {
	params(at *api.Params)
	nums(at ...*uint64)
	ints(at ...*int)
	flag(at *bool)
	raw(at *[]byte)
	count(at *int)
}

// list goes through a list: how many things it has, and each of them.
func list[T any](f fields, at *[]T, each func(f fields, thing *T)) {
	n := len(*at)
	f.count(&n)
	if r, ok := f.(*reader); ok {
		*at = things(r, n, each)
		return
	}
	for i := range *at {
		each(f, &(*at)[i])
	}
}

// writer writes.
type writer struct {
	coder.Writer
}

// params writes parameters. Those of a state that fits are right: there is no error.
func (w *writer) params(at *api.Params) { param.Write(&w.Writer, *at) }

func (w *writer) nums(at ...*uint64) {
	for _, n := range at {
		w.Num(*n)
	}
}

func (w *writer) ints(at ...*int) {
	for _, n := range at {
		w.Int(*n)
	}
}

func (w *writer) flag(at *bool) { w.Flag(*at) }

func (w *writer) raw(at *[]byte) { w.Raw(*at) }

func (w *writer) count(at *int) { w.Int(*at) }

// reader reads. Beside layer 5's failure it keeps that parameters which could be read aren't right.
type reader struct {
	*coder.Reader
	wrong api.Errno
}

// Done is why not all was read, or that bytes are left.
func (r *reader) Done() api.Errno {
	if r.wrong != api.OK {
		return r.wrong
	}
	return r.Reader.Done()
}

// params reads parameters. Behind those that aren't right nothing is to be read any more, and of a reader that is nil nothing is.
func (r *reader) params(at *api.Params) {
	p, e := param.Read(r.Reader)
	if e == api.ErrParam {
		r.Reader, r.wrong = nil, e
	}
	*at = p
}

func (r *reader) nums(at ...*uint64) {
	for _, n := range at {
		*n = r.Num(math.MaxUint64)
	}
}

func (r *reader) ints(at ...*int) {
	for _, n := range at {
		*n = r.Int(math.MaxInt32)
	}
}

func (r *reader) flag(at *bool) { *at = r.Flag() }

func (r *reader) raw(at *[]byte) { *at = r.Raw(api.MaxBits / 8) }

func (r *reader) count(at *int) { *at = r.Int(api.MaxBytes) }

// things are so many things that are read, up to the first one that can't be: there may be far fewer than are told.
func things[T any](r *reader, n int, each func(f fields, thing *T)) (read []T) {
	for range n {
		if r.Err() != api.OK {
			break
		}
		var thing T
		each(r, &thing)
		read = append(read, thing)
	}
	return read
}
