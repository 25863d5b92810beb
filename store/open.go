package store

import (
	"errors"
	"iter"

	"yankline/api"
	"yankline/blob"
	"yankline/disk"
	"yankline/event"
	"yankline/fold"
	"yankline/log"
	"yankline/page"
	"yankline/path"
	"yankline/rule"
)

// Open is the store on a disk, whatever a cut has left there, made as the log says.
func Open(d *disk.Disk) (*Store, error) {
	l, err := log.Open(d)
	if err != nil {
		return nil, err
	}
	state, err := made(l)
	if err != nil {
		return nil, err
	}
	s := &Store{disk: d, log: l, state: state}
	for _, mend := range [...]func() error{s.mendBlobs, s.dropPages, s.mendPages} {
		if err := mend(); err != nil {
			return nil, err
		}
	}
	return s, nil
}

// made is what the log's events make; ErrLog, if one of its payloads is no event that may be done there.
func made(l *log.Log) (*fold.State, error) {
	s := fold.New()
	for i, payload := range l.All() {
		e, err := event.Read(payload)
		if err == nil {
			err = rule.Do(s, e)
		}
		var why *api.Fault
		if errors.As(err, &why) {
			return nil, &api.Fault{Code: api.ErrLog, At: i, Under: why}
		}
	}
	return s, nil
}

// mendBlobs takes away the blobs that are not meant, and what is staged.
func (s *Store) mendBlobs() (err error) {
	if s.blobs, err = blob.Open(s.disk); err != nil {
		return err
	}
	_, err = s.blobs.Keep(s.meant()...)
	return err
}

// meant is the blobs of all that was published. Releases never go, so the state has them as the log does.
func (s *Store) meant() []api.Blob {
	var l []api.Blob
	for name := range s.state.Packages() {
		for _, r := range s.state.Releases(name) {
			l = append(l, api.Blob{Sum: r.Sum, N: r.N})
		}
	}
	return l
}

// dropPages takes away the pages' files that are not meant.
func (s *Store) dropPages() error {
	meant := map[string]struct{}{}
	for file := range s.pages() {
		meant[file] = struct{}{}
	}
	for _, file := range path.Under(api.PagePath, s.disk.Names()...) {
		if _, is := meant[file]; is {
			continue
		}
		if err := s.disk.Remove(file); err != nil {
			return err
		}
	}
	return nil
}

// mendPages writes the pages that are meant and do not lie there just so.
func (s *Store) mendPages() error {
	for file, text := range s.pages() {
		held, err := s.disk.Read(file)
		if err == nil && held == text {
			continue
		}
		if err := s.lay(file, text); err != nil {
			return err
		}
	}
	return nil
}

// pages goes over the pages that are meant, by names rising: their files with their texts.
func (s *Store) pages() iter.Seq2[string, string] {
	return func(yield func(string, string) bool) {
		for name, text := range page.All(s.state) {
			if isMeant(text) && !yield(pageFile(name), text) {
				return
			}
		}
	}
}
