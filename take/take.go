// Package take is layer 4: see ../../shared/doc/04-take.md.
package take

import (
	"pithead/api"
	"pithead/num"
)

// Reader is bytes, and how many were read; it is good as long as the reading goes on.
type Reader struct{ in *reading }

// reading is what a Reader reads. It stands apart from it, and knows by whom it may be read, so that what is copied from a Reader neither reads nor outlives it.
type reading struct {
	by   *Reader // nil: it has ended
	left string
	err  api.Errno
}

// live is what a Reader reads; nil: it is outside of its reading.
func (r *Reader) live() *reading {
	if r == nil || r.in == nil || r.in.by != r {
		return nil
	}
	return r.in
}

// want ends the reading, unless something is so: the panic is caught by the All that began it.
func (in *reading) want(is bool, e api.Errno) {
	if is {
		return
	}
	if e == api.OK {
		e = api.ErrForm
	}
	in.err, in.by = e, nil
	panic(in)
}

// next is so many bytes, which there must be.
func (in *reading) next(n int) string {
	s := in.left[:n]
	in.left = in.left[n:]
	return s
}

// Num reads a number that is not above another one.
func (r *Reader) Num(most int) int {
	in := r.live()
	if in == nil {
		return 0
	}
	n, size, ok := num.Take(in.left)
	in.want(ok, api.ErrForm)
	in.want(most >= 0 && n <= uint64(most), api.ErrLimit)
	in.next(size)
	return int(n)
}

// Int reads a number with a sign.
func (r *Reader) Int() int64 {
	in := r.live()
	if in == nil {
		return 0
	}
	n, size, ok := num.TakeInt(in.left)
	in.want(ok, api.ErrForm)
	in.next(size)
	return n
}

// Fix reads so many bytes.
func (r *Reader) Fix(n int) string {
	in := r.live()
	if in == nil {
		return ""
	}
	in.want(n >= 0 && n <= len(in.left), api.ErrForm)
	return in.next(n)
}

// Byte reads a byte.
func (r *Reader) Byte() byte {
	s := r.Fix(1)
	if s == "" {
		return 0
	}
	return s[0]
}

// Text reads a length that is not above another one, and as many bytes.
func (r *Reader) Text(most int) string { return r.Fix(r.Num(most)) }

// Left is how many bytes are left.
func (r *Reader) Left() int {
	in := r.live()
	if in == nil {
		return 0
	}
	return len(in.left)
}

// Want ends the reading by an error, unless something is so.
func (r *Reader) Want(is bool, e api.Errno) {
	if in := r.live(); in != nil {
		in.want(is, e)
	}
}

// All reads bytes by a function, all of them.
func All(s string, read func(r *Reader)) (e api.Errno) {
	r := &Reader{}
	in := &reading{by: r, left: s}
	r.in = in
	defer func() {
		in.by = nil
		if p := recover(); p != nil && !in.threw(p) {
			panic(p)
		}
		e = in.outcome()
		in.left = ""
	}()
	read(r)
	return api.OK
}

// threw tells whether a panic is this reading's own: that of another one, around it, must pass.
func (in *reading) threw(p any) bool {
	thrown, ok := p.(*reading)
	return ok && thrown == in
}

// outcome is the error that ended a reading; if none did, whether all was read.
func (in *reading) outcome() api.Errno {
	if in.err == api.OK && in.left != "" {
		return api.ErrForm
	}
	return in.err
}

// PutNum, PutInt, PutText are the bytes of what is read so.
func PutNum(n int) string { return num.Put(uint64(max(n, 0))) }

func PutInt(n int64) string { return num.PutInt(n) }

func PutText(s string) string { return PutNum(len(s)) + s }
