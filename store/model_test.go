package store_test

import (
	"encoding/binary"
	"errors"
	"fmt"
	"hash/fnv"
	"maps"
	"regexp"
	"slices"
	"strconv"
	"strings"
	"testing"

	"yankline/api"
	"yankline/disk"
	"yankline/event"
	"yankline/fold"
	"yankline/page"
	"yankline/rule"
	"yankline/store"
)

// nought is a text whose sum is 0; so is that of each text that has noughts behind it.
const nought = "\xd5\x6b\xb9\x53\x42\x87\x08\x36"

// alike is one of many texts of one sum.
func alike(i int) string { return nought + strings.Repeat("\x00", i) }

// no is a fault of nothing, at no place.
func no(code api.Errno) *api.Fault { return &api.Fault{Code: code, At: -1} }

// of is a fault of something, at no place.
func of(code api.Errno, what string) *api.Fault { return &api.Fault{Code: code, What: what, At: -1} }

// refused is why an event of that kind may not be done.
func refused(word string, under *api.Fault) *api.Fault {
	return &api.Fault{Code: api.ErrRefused, What: word, At: -1, Under: under}
}

// like is whether both are no error, or faults that are the same all the way down.
func like(a, b error) bool {
	if a == nil || b == nil {
		return a == nil && b == nil
	}
	f, is := a.(*api.Fault)
	g, too := b.(*api.Fault)
	return is && too && f != nil && g != nil && f.Code == g.Code && f.What == g.What && f.At == g.At && like(f.Under, g.Under)
}

// faulty holds an error against the one that is wanted.
func faulty(t *testing.T, what string, err error, want *api.Fault) {
	t.Helper()
	if !like(err, want) || !errors.Is(err, want.Code) {
		t.Errorf("%s: %.200v, want %.200v", what, err, want)
	}
}

// answers holds what a call answered against what the model says: a fault, or none.
func answers(t *testing.T, what string, err error, want *api.Fault) {
	t.Helper()
	if want == nil {
		fine(t, what, err)
		return
	}
	faulty(t, what, err, want)
}

// fine holds that a call answered no error.
func fine(t *testing.T, what string, err error) {
	t.Helper()
	if err != nil {
		t.Errorf("%s: %.200v", what, err)
	}
}

// sumOf is a text's sum, made apart from the program.
func sumOf(bytes string) uint64 {
	h := fnv.New64a()
	h.Write([]byte(bytes))
	return h.Sum64()
}

func blobFile(sum uint64, n uint32) string { return fmt.Sprintf("blob/%016x-%d", sum, n) }

func logFile(n int) string { return fmt.Sprintf("log/%08d", n) }

// record is a record, made apart from the program.
func record(payload string) string {
	length := binary.BigEndian.AppendUint32(nil, uint32(len(payload)))
	h := fnv.New64a()
	h.Write(length)
	h.Write([]byte(payload))
	return string(binary.BigEndian.AppendUint64(length, h.Sum64())) + payload
}

// line is the event of a line.
func line(s string) api.Event {
	e, no := event.ReadText(s)
	if no != api.OK {
		panic("no event: " + s)
	}
	return e
}

// lines are the events of lines.
func lines(l ...string) []api.Event {
	var events []api.Event
	for _, s := range l {
		events = append(events, line(s))
	}
	return events
}

// published is the event of a version with those bytes, which are the n-th blob of their sum.
func published(who, name, version string, needs []api.Need, bytes string, n uint32) api.Event {
	return api.Event{Kind: api.Publish, Who: who, Name: name, Version: version, Needs: needs, Sum: sumOf(bytes), N: n, Size: uint32(len(bytes))}
}

// logged are the files of a log of those payloads.
func logged(payloads ...string) map[string]string {
	files := map[string]string{}
	for i, p := range payloads {
		files[logFile(i/64+1)] += record(p)
	}
	return files
}

// payloads are the events as bytes.
func payloads(l []api.Event) []string {
	var all []string
	for _, e := range l {
		p, no := event.Bytes(e)
		if no != api.OK {
			panic("no event")
		}
		all = append(all, p)
	}
	return all
}

// write is a raw write: what it does, and the file of the fault where it is not done.
type write struct {
	file string
	do   func(files map[string]string)
}

// appends are the raw writes by which bytes are added to a file.
func appends(name, bytes string) []write {
	var l []write
	for len(l) == 0 || bytes != "" {
		piece := bytes[:min(32, len(bytes))]
		l = append(l, write{name, func(files map[string]string) { files[name] += piece }})
		bytes = bytes[len(piece):]
	}
	return l
}

// lays are the raw writes by which bytes come to a name, by way of what is staged.
func lays(stage, name, bytes string) []write {
	l := []write{{stage, func(files map[string]string) { files[stage] = "" }}}
	if bytes != "" {
		l = append(l, appends(stage, bytes)...)
	}
	return append(l, write{stage, func(files map[string]string) {
		files[name] = files[stage]
		delete(files, stage)
	}})
}

func removes(name string) write {
	return write{name, func(files map[string]string) { delete(files, name) }}
}

// model is a store with its disk as the chapter's words say they are; of layers below the events, the rules and the pages are taken as they are.
type model struct {
	events []api.Event // of the log
	state  *fold.State
	files  map[string]string
	left   int // raw writes up to the cut; below 0: no cut
	dead   bool
	broken bool
}

// does does raw writes, up to the cut: nil, or the fault of the one that is not done.
func (m *model) does(l []write) *api.Fault {
	for _, w := range l {
		if m.dead || m.left == 0 {
			m.dead = true
			return of(api.ErrDead, w.file)
		}
		m.left--
		w.do(m.files)
	}
	return nil
}

// power starts the disk again.
func (m *model) power(cut int) { m.left, m.dead = cut, false }

// text is the text of a package's page, and whether it is meant.
func (m *model) text(name string) (string, bool) {
	p, err := page.Of(m.state, name)
	text, no := page.Text(p)
	if err != nil || no != api.OK {
		panic("no page of " + name)
	}
	return text, len(text) <= 1<<20
}

// shows are the raw writes by which a page is written.
func (m *model) shows(name string) []write {
	file := "page/" + name
	text, meant := m.text(name)
	if meant {
		return lays("stage/2", file, text)
	}
	if _, is := m.files[file]; is {
		return []write{removes(file)}
	}
	return nil
}

// add is what is done from the record on.
func (m *model) add(e api.Event) *api.Fault {
	p, _ := event.Bytes(e)
	if f := m.does(appends(logFile(len(m.events)/64+1), record(p))); f != nil {
		m.broken = true
		return f
	}
	m.events = append(m.events, e)
	if err := rule.Do(m.state, e); err != nil {
		panic(err)
	}
	if name, is := event.About(e); is {
		m.broken = m.does(m.shows(name)) != nil
	}
	return nil
}

// refuses is why nothing is done by e, ahead of all raw writes.
func (m *model) refuses(e api.Event) *api.Fault {
	if err := rule.Check(m.state, e); err != nil {
		return err.(*api.Fault)
	}
	if len(m.events) >= 1<<14 {
		return no(api.ErrLong)
	}
	return nil
}

// do is what Do answers.
func (m *model) do(e api.Event) *api.Fault {
	if m.broken {
		return no(api.ErrState)
	}
	if e.Kind == api.Publish {
		return of(api.ErrArg, "publish")
	}
	if f := m.refuses(e); f != nil {
		return f
	}
	return m.add(e)
}

// publish is what Publish answers.
func (m *model) publish(who, name, version string, needs []api.Need, bytes string) *api.Fault {
	if m.broken {
		return no(api.ErrState)
	}
	if len(bytes) > 1<<16 {
		return no(api.ErrLong)
	}
	e := published(who, name, version, needs, bytes, 1)
	if f := m.refuses(e); f != nil {
		return f
	}
	n, is := m.lying(bytes)
	if m.dead {
		m.broken = true
		return no(api.ErrDead)
	}
	if !is {
		if f := m.does(lays("stage/1", blobFile(e.Sum, n), bytes)); f != nil {
			m.broken = true
			return f
		}
	}
	e.N = n
	e.Needs = slices.Clone(needs)
	return m.add(e)
}

// lying is the number of the blob of those bytes and true; else the least one that is free, and false.
func (m *model) lying(bytes string) (uint32, bool) {
	sum, free := sumOf(bytes), uint32(0)
	for n := uint32(1); n <= uint32(len(m.files))+1; n++ {
		held, is := m.files[blobFile(sum, n)]
		if is && held == bytes {
			return n, true
		}
		if !is && free == 0 {
			free = n
		}
	}
	return free, false
}

// records are the payloads of the first 64 records at most that the text begins with, and how many bytes these have.
func records(text string) (l []string, used int) {
	for len(l) < 64 {
		rest := text[used:]
		if len(rest) < 12 {
			break
		}
		n := binary.BigEndian.Uint32([]byte(rest[:4]))
		if n > 1<<17 || int(n) > len(rest)-12 || record(rest[12:12+n]) != rest[:12+n] {
			break
		}
		l = append(l, rest[12:12+n])
		used += 12 + int(n)
	}
	return l, used
}

var logName = regexp.MustCompile(`^log/[0-9]{8}$`)

// recover is the payloads that the files have of a log, and the raw writes that make them clean.
func (m *model) recover() (all []string, l []write) {
	for n := 1; ; n++ {
		last := logFile(n)
		text := m.files[last]
		some, used := records(text)
		all = append(all, some...)
		if len(some) == 64 && used == len(text) {
			continue
		}
		for _, name := range slices.Sorted(maps.Keys(m.files)) {
			if logName.MatchString(name) && name > last {
				l = append(l, removes(name))
			}
		}
		if used < len(text) {
			l = append(l, write{last, func(files map[string]string) { files[last] = files[last][:used] }})
		}
		return all, l
	}
}

// read are the events of payloads, and what they make; or the fault of the first that is none that may be done.
func read(all []string) ([]api.Event, *fold.State, *api.Fault) {
	s := fold.New()
	var events []api.Event
	for i, p := range all {
		e, err := event.Read(p)
		if err == nil {
			err = rule.Do(s, e)
		}
		if err != nil {
			return nil, nil, &api.Fault{Code: api.ErrLog, At: i, Under: err}
		}
		events = append(events, e)
	}
	return events, s, nil
}

var (
	stageName = regexp.MustCompile(`^stage/([1-9][0-9]*)$`)
	blobName  = regexp.MustCompile(`^blob/[0-9a-f]{16}-([1-9][0-9]*)$`)
	pageName  = regexp.MustCompile(`^page/[a-z0-9]+(-[a-z0-9]+)*$`)
)

// isNumbered is whether a file is named as the pattern says, with a number of so many bits.
func isNumbered(pattern *regexp.Regexp, bits int, name string) bool {
	part := pattern.FindStringSubmatch(name)
	if part == nil {
		return false
	}
	_, err := strconv.ParseUint(part[1], 10, bits)
	return err == nil
}

func isPage(name string) bool { return pageName.MatchString(name) && len(name) <= len("page/")+64 }

// rest are the raw writes that make a disk as its log says, apart from the log.
func (m *model) rest() []write {
	var stages, blobs, spare, pages []write
	meant := map[string]bool{}
	for _, e := range m.events {
		if e.Kind == api.Publish {
			meant[blobFile(e.Sum, e.N)] = true
		}
	}
	for name := range m.state.Packages() {
		text, is := m.text(name)
		file := "page/" + name
		meant[file] = is
		if held, there := m.files[file]; is && (!there || held != text) {
			pages = append(pages, lays("stage/2", file, text)...)
		}
	}
	for _, name := range slices.Sorted(maps.Keys(m.files)) {
		switch {
		case isNumbered(stageName, 31, name):
			stages = append(stages, removes(name))
		case isNumbered(blobName, 32, name) && !meant[name]:
			blobs = append(blobs, removes(name))
		case isPage(name) && !meant[name]:
			spare = append(spare, removes(name))
		}
	}
	slices.SortStableFunc(blobs, func(a, b write) int { // by sums, then by numbers: of one sum the shorter name is ahead
		if a.file[:21] != b.file[:21] || len(a.file) == len(b.file) {
			return strings.Compare(a.file, b.file)
		}
		return len(a.file) - len(b.file)
	})
	return slices.Concat(stages, blobs, spare, pages)
}

// open is what Open answers.
func (m *model) open() *api.Fault {
	if m.dead {
		return of(api.ErrDead, "log/00000001")
	}
	all, l := m.recover()
	if f := m.does(l); f != nil {
		return f
	}
	events, state, f := read(all)
	if f != nil {
		return f
	}
	m.events, m.state = events, state
	if f := m.does(m.rest()); f != nil {
		return f
	}
	m.broken = false
	return nil
}

// laid is a disk with those files and that cut.
func laid(t *testing.T, cut int, files map[string]string) *disk.Disk {
	t.Helper()
	d := disk.New(-1)
	for name, bytes := range files {
		fine(t, "Put on the disk", d.Put(name, bytes))
	}
	fine(t, "Restart", d.Restart(cut))
	return d
}

// lies holds that a disk has those files, dead or not.
func lies(t *testing.T, what string, d *disk.Disk, files map[string]string) {
	t.Helper()
	if disk.Same(d, laid(t, -1, files)) {
		return
	}
	c := d.Copy()
	fine(t, what, c.Restart(-1))
	for _, name := range slices.Compact(slices.Sorted(slices.Values(append(c.Names(), slices.Collect(maps.Keys(files))...)))) {
		held, err := c.Read(name)
		want, is := files[name]
		if held != want || (err == nil) != is {
			t.Errorf("%s: the file %s has %.100q, %v, want %.100q, %v", what, name, held, err, want, is)
		}
	}
}

// run is a store with its disk beside what the model has of both.
type run struct {
	t *testing.T
	d *disk.Disk
	s *store.Store
	m *model
}

// begun is a store on a disk with those files, and the model of it.
func begun(t *testing.T, files map[string]string) *run {
	t.Helper()
	r := &run{t: t, d: laid(t, -1, files), m: &model{files: maps.Clone(files), left: -1}}
	if r.m.files == nil {
		r.m.files = map[string]string{}
	}
	r.open()
	if r.s == nil {
		t.Fatal("Open of a disk that is well: no store")
	}
	return r
}

// power starts the disk again, with that cut.
func (r *run) power(cut int) {
	r.t.Helper()
	fine(r.t, "Restart", r.d.Restart(cut))
	r.m.power(cut)
}

// open opens the disk as it is: whether that went well.
func (r *run) open() bool {
	r.t.Helper()
	want := r.m.open()
	s, err := store.Open(r.d)
	answers(r.t, "Open", err, want)
	if (s == nil) == (want == nil) {
		r.t.Errorf("Open: a store: %v, beside %v", s != nil, err)
	}
	r.lies("Open")
	if want != nil {
		return false
	}
	r.s = s
	r.tells("Open")
	return true
}

// do does one event.
func (r *run) do(e api.Event) {
	r.t.Helper()
	what := "Do of " + told(e)
	answers(r.t, what, r.s.Do(e), r.m.do(e))
	r.lies(what)
	r.tells(what)
}

// publish publishes.
func (r *run) publish(who, name, version string, needs []api.Need, bytes string) {
	r.t.Helper()
	what := fmt.Sprintf("Publish of %s %s %s", who, name, version)
	answers(r.t, what, r.s.Publish(who, name, version, needs, bytes), r.m.publish(who, name, version, needs, bytes))
	r.lies(what)
	r.tells(what)
}

// told is an event as a line, or as what it has.
func told(e api.Event) string {
	if text, no := event.Text(e); no == api.OK {
		return text
	}
	return fmt.Sprint(e)
}

// lies holds the disk against the model.
func (r *run) lies(what string) {
	r.t.Helper()
	lies(r.t, what, r.d, r.m.files)
	if r.d.Dead() != r.m.dead {
		r.t.Errorf("%s: the disk is dead: %v, want %v", what, r.d.Dead(), r.m.dead)
	}
}

// tells holds all that the store tells against the model.
func (r *run) tells(what string) {
	r.t.Helper()
	if n := r.s.Head(); n != len(r.m.events) {
		r.t.Errorf("%s: Head = %d, want %d", what, n, len(r.m.events))
	}
	if !fold.Same(r.s.State(), r.m.state) {
		r.t.Errorf("%s: the state is another one", what)
	}
	if got := r.s.Events(0, len(r.m.events)+1); !slices.EqualFunc(got, r.m.events, event.Same) {
		r.t.Errorf("%s: Events = %v, want %v", what, got, r.m.events)
	}
	if r.s.Broken() != r.m.broken {
		r.t.Errorf("%s: Broken = %v, want %v", what, r.s.Broken(), r.m.broken)
	}
	for _, name := range append(slices.Collect(r.m.state.Packages()), "nope", "", "Foo") {
		r.shown(what, name)
		for _, release := range r.m.state.Releases(name) {
			r.gets(what, name, release.Version)
		}
		r.gets(what, name, "9.9.9")
	}
}

// held is what the disk has of a file, or the fault of reading it.
func (m *model) held(name string) (string, *api.Fault) {
	if m.dead {
		return "", of(api.ErrDead, name)
	}
	text, is := m.files[name]
	if !is {
		return "", of(api.ErrNone, name)
	}
	return text, nil
}

// shown holds what Page answers.
func (r *run) shown(what, name string) {
	r.t.Helper()
	text, want := "", of(api.ErrNone, name)
	if _, is := r.m.state.Holders(name); is {
		text, want = r.m.held("page/" + name)
	}
	got, err := r.s.Page(name)
	answers(r.t, what+", Page of "+name, err, want)
	if got != text {
		r.t.Errorf("%s: Page(%s) = %.200q, want %.200q", what, name, got, text)
	}
}

// gets holds what Get answers.
func (r *run) gets(what, name, version string) {
	r.t.Helper()
	bytes, want := "", of(api.ErrNone, name)
	if _, is := r.m.state.Holders(name); is {
		want = of(api.ErrNone, name+" "+version)
	}
	if release, is := r.m.state.Release(name, version); is {
		file := blobFile(release.Sum, release.N)
		bytes, want = r.m.held(file)
		if want == nil && sumOf(bytes) != release.Sum {
			bytes, want = "", of(api.ErrBlob, file)
		}
	}
	got, err := r.s.Get(name, version)
	answers(r.t, what+", Get of "+name+" "+version, err, want)
	if got != bytes {
		r.t.Errorf("%s: Get(%s, %s) = %.100q, want %.100q", what, name, version, got, bytes)
	}
}
