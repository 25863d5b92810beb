package log

import (
	"errors"
	"strconv"
	"strings"

	"yankline/api"
	"yankline/disk"
	"yankline/frame"
)

const (
	folder = "log/"
	digits = 8
	nought = 100_000_000 // its digits but the first one are as many as a file's, of the number 0
)

// Open is the log that the disk has, made clean of what stands behind it.
func Open(d *disk.Disk) (*Log, error) {
	next := names()
	l := &Log{disk: d, file: next(), next: next}
	last, err := l.fill()
	if errors.Is(err, api.ErrNil) {
		return nil, fault(api.ErrNil, -1) // no disk is no fault of a file's
	}
	if err != nil {
		return nil, err
	}
	if err := last.clean(d); err != nil {
		return nil, err
	}
	return l, nil
}

// names tells the names of a log's files, each call that of the next one.
func names() func() string {
	n := 0
	return func() string {
		n++
		return folder + strconv.Itoa(nought + n)[1:]
	}
}

// named is whether the name is one that a log's file has; also of the number 0, which no file has, and which is above none.
func named(name string) bool {
	number, ok := strings.CutPrefix(name, folder)
	return ok && len(number) == digits && strings.Trim(number, "0123456789") == ""
}

// fill takes the records of the files, up to the last one that is looked at, and tells that one.
func (l *Log) fill() (segment, error) {
	for {
		s, err := look(l.disk, l.file)
		if err != nil {
			return segment{}, err
		}
		l.take(s.payloads...)
		if !s.goesOn() {
			return s, nil
		}
	}
}

// segment is what is looked at of a file.
type segment struct {
	file     string
	payloads []string
	used     int // bytes that their records have
	size     int // bytes that the file has
}

// look is what is looked at of the file; of one that is not there that is nothing.
func look(d *disk.Disk, file string) (segment, error) {
	text, err := d.Read(file)
	if err != nil && !errors.Is(err, api.ErrNone) {
		return segment{}, err
	}
	payloads, used, _ := frame.All(text) // why it goes no further is all one: what stands behind is cut off
	for len(payloads) > api.MaxSegment {
		most := len(payloads) - 1
		used -= frame.Size(payloads[most])
		payloads = payloads[:most]
	}
	return segment{file, payloads, used, len(text)}, nil
}

// goesOn is whether the file behind is looked at, too.
func (s segment) goesOn() bool { return len(s.payloads) == api.MaxSegment && s.used == s.size }

// clean takes away what stands behind the last file's records. The bytes in it go last: up to then it is the last file, wherever the power is lost.
func (s segment) clean(d *disk.Disk) error {
	for _, name := range d.Names() {
		if !named(name) || name <= s.file { // numbers of as many digits stand in order as their names do
			continue
		}
		if err := d.Remove(name); err != nil {
			return err
		}
	}
	if s.used == s.size {
		return nil
	}
	return d.Trunc(s.file, s.used)
}
