package store

import (
	"errors"

	"yankline/api"
	"yankline/event"
	"yankline/page"
	"yankline/path"
	"yankline/rule"
	"yankline/sum"
)

const (
	// first is the number of bytes' blob while it is asked whether they may be published: which one they get is known when they are put.
	first = 1
	// staged is which of the files of what is staged a page goes to; blobs have another one.
	staged = 2
)

// Do does an event that may be done, and is none of publish.
func (s *Store) Do(e api.Event) error {
	if err := s.ready(); err != nil {
		return err
	}
	if e.Kind == api.Publish {
		word, _ := event.Word(e.Kind)
		return fault(api.ErrArg, word)
	}
	return s.add(e, "")
}

// Publish does the event by which a version of a package comes to be, with its bytes.
func (s *Store) Publish(who, name, version string, needs []api.Need, bytes string) error {
	if err := s.ready(); err != nil {
		return err
	}
	if len(bytes) > api.MaxBytes {
		return fault(api.ErrLong, "")
	}
	return s.add(api.Event{
		Kind: api.Publish, Who: who, Name: name, Version: version, Needs: needs,
		Sum: sum.Of(bytes), N: first, Size: uint32(len(bytes)),
	}, bytes)
}

// ready is what each call that does something asks first.
func (s *Store) ready() error {
	if !s.there() {
		return fault(api.ErrNil, "")
	}
	if s.broken {
		return fault(api.ErrState, "")
	}
	return nil
}

// add writes e, with the bytes that a publish has, if it may be done and has room.
func (s *Store) add(e api.Event, bytes string) error {
	if err := rule.Check(s.state, e); err != nil {
		return err
	}
	if s.Head() >= api.MaxEvents {
		return fault(api.ErrLong, "")
	}
	return s.write(e, bytes)
}

// write writes what e leaves on the disk, one behind the other: wherever the power is lost, bytes without a record are of no version, and a page is made of the records.
func (s *Store) write(e api.Event, bytes string) error {
	switch e.Kind {
	case api.Publish:
		b, err := s.blobs.Put(bytes)
		if err != nil {
			s.broken = true
			return err
		}
		e.N = b.N
		fallthrough // its record is as all others
	default:
		payload, _ := event.Bytes(e) // what may be done may be
		if err := s.log.Append(payload); err != nil {
			s.broken = true
			return err
		}
		s.state.Apply(e) // what may be done fits
		if name, is := event.About(e); is {
			s.broken = s.show(name) != nil // e is done, whatever becomes of the page
		}
	}
	return nil
}

// show writes the page of a package.
func (s *Store) show(name string) error {
	p, _ := page.Of(s.state, name) // what was done about a package is done to one
	text, _ := page.Text(p)        // a state's page may be
	file := pageFile(name)
	if isMeant(text) {
		return s.lay(file, text)
	}
	if err := s.disk.Remove(file); !errors.Is(err, api.ErrNone) {
		return err
	}
	return nil
}

// isMeant is whether a page of that text has a file.
func isMeant(text string) bool { return len(text) <= api.MaxPage }

// lay gives the file's name to a text that is all written: so it is there whole, or as it was.
func (s *Store) lay(file, text string) error {
	stage, _ := path.Stage(staged) // a number that may be
	if err := s.disk.Put(stage, text); err != nil {
		return err
	}
	return s.disk.Rename(stage, file)
}
