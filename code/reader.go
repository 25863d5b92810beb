package code

import "yankline/api"

// Reader reads bytes from the front.
type Reader struct {
	made bool // by New: a zero Reader is as none
	text string
	at   int
}

// New is a reader at the beginning of s.
func New(s string) *Reader { return &Reader{made: true, text: s} }

// Uint takes a number of at most most.
func (r *Reader) Uint(most uint64) (uint64, error) {
	end := r.begin()
	x, e := r.number(most)
	return x, end(e)
}

// Word takes eight bytes, the highest first.
func (r *Reader) Word() (uint64, error) {
	end := r.begin()
	s, e := r.piece(wordBytes)
	var x uint64
	for i := range len(s) {
		x = x<<8 | uint64(s[i])
	}
	return x, end(e)
}

// Byte takes one byte.
func (r *Reader) Byte() (byte, error) {
	end := r.begin()
	s, e := r.piece(1)
	if e != api.OK {
		return 0, end(e)
	}
	return s[0], end(e)
}

// Text takes a text of at most most bytes.
func (r *Reader) Text(most int) (string, error) {
	end := r.begin()
	s, e := r.one(most)
	return s, end(e)
}

// Texts takes a list of at most most texts, each of at most each bytes.
func (r *Reader) Texts(most, each int) ([]string, error) {
	end := r.begin()
	l, e := r.list(most, each)
	return l, end(e)
}

// At is the place.
func (r *Reader) At() int {
	if r == nil {
		return 0
	}
	return r.at
}

// Rest is the bytes from the place on.
func (r *Reader) Rest() string {
	if r == nil {
		return ""
	}
	return r.text[r.at:]
}

// End is ErrRest, if there are bytes yet.
func (r *Reader) End() error {
	end := r.begin()
	if r.Rest() != "" {
		return end(api.ErrRest)
	}
	return end(api.OK)
}

// begin answers the one closure by which each call ends: it tells how, and puts the place back where it was, if that is an error. So what takes the parts need not: a list that is wrong late has moved the place already.
func (r *Reader) begin() func(api.Errno) error {
	from := r.At()
	return func(e api.Errno) error {
		// Asked here, and not by each call: of no reader the rest is nothing, so what takes the parts goes nowhere.
		if r == nil || !r.made {
			return &api.Fault{Code: api.ErrNil, At: -1}
		}
		if e == api.OK {
			return nil
		}
		r.at = from
		return &api.Fault{Code: e, At: from}
	}
}

// number takes a number. That it ends within its ten bytes is held by the tenth one: only 1 is in the one form there.
func (r *Reader) number(most uint64) (uint64, api.Errno) {
	s := r.Rest()
	var x uint64
	for i := range min(len(s), numberMost) {
		c := s[i]
		if i == numberMost-1 && c != 1 {
			return 0, api.ErrForm
		}
		x |= uint64(c&^goesOn) << (numberBits * i)
		switch {
		case c >= goesOn:
			continue
		case c == 0 && i > 0:
			return 0, api.ErrForm
		case x > most:
			return 0, api.ErrMost
		}
		r.at += i + 1
		return x, api.OK
	}
	return 0, api.ErrShort
}

// piece takes n bytes. n is what a number says and may be more than an int holds, so it is held against what there is first.
func (r *Reader) piece(n uint64) (string, api.Errno) {
	s := r.Rest()
	if n > uint64(len(s)) {
		return "", api.ErrShort
	}
	r.at += int(n)
	return s[:n], api.OK
}

func (r *Reader) one(most int) (string, api.Errno) {
	n, e := r.number(bound(most))
	if e != api.OK {
		return "", e
	}
	return r.piece(n)
}

// list takes a list, which grows as its texts are met: how many are said to come is nobody's promise that they do.
func (r *Reader) list(most, each int) ([]string, api.Errno) {
	n, e := r.number(bound(most))
	if e != api.OK {
		return nil, e
	}
	var l []string
	for range n {
		s, e := r.one(each)
		if e != api.OK {
			return nil, e
		}
		l = append(l, s)
	}
	return l, api.OK
}

// bound is how much is allowed at most; below 0 nothing is.
func bound(most int) uint64 { return uint64(max(most, 0)) }
