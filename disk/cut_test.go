package disk_test

import (
	"errors"
	"maps"
	"math/rand/v2"
	"strings"
	"testing"

	"yankline/api"
	"yankline/disk"
)

// raw is a raw write, done to files.
type raw func(files map[string]string)

// act is a call that writes: how it is done to a disk, and what the chapter says of it for such files.
type act struct {
	what  string
	do    func(d *disk.Disk) error
	wrong func(files map[string]string) (api.Errno, string)
	name  string // of the fault where the power is lost
	raws  []raw
}

// none is the first of the names that is no file's.
func none(names ...string) (string, bool) {
	for _, s := range names {
		if len(s) < 1 || len(s) > 128 {
			return s, true
		}
	}
	return "", false
}

// lacks says what is wrong with a call of a file that must be there.
func lacks(names ...string) func(map[string]string) (api.Errno, string) {
	return func(files map[string]string) (api.Errno, string) {
		if s, is := none(names...); is {
			return api.ErrArg, s
		}
		if _, ok := files[names[0]]; !ok {
			return api.ErrNone, names[0]
		}
		return api.OK, ""
	}
}

// badName says what is wrong with a call of a file that need not be there; the limits are further off than these tests go.
func badName(name string) func(map[string]string) (api.Errno, string) {
	return func(map[string]string) (api.Errno, string) {
		if s, is := none(name); is {
			return api.ErrArg, s
		}
		return api.OK, ""
	}
}

// pieces are the raw writes of Append.
func pieces(name, bytes string) []raw {
	var l []raw
	for len(bytes) > 32 {
		piece := bytes[:32]
		l = append(l, func(files map[string]string) { files[name] += piece })
		bytes = bytes[32:]
	}
	return append(l, func(files map[string]string) { files[name] += bytes })
}

func appending(name, bytes string) act {
	return act{"Append", func(d *disk.Disk) error { return d.Append(name, bytes) }, badName(name), name, pieces(name, bytes)}
}

func putting(name, bytes string) act {
	l := []raw{func(files map[string]string) { files[name] = "" }}
	if bytes != "" {
		l = append(l, pieces(name, bytes)...)
	}
	return act{"Put", func(d *disk.Disk) error { return d.Put(name, bytes) }, badName(name), name, l}
}

func cutting(name string, n int) act {
	return act{"Trunc", func(d *disk.Disk) error { return d.Trunc(name, n) }, func(files map[string]string) (api.Errno, string) {
		if e, s := lacks(name)(files); e != api.OK {
			return e, s
		}
		if n < 0 || n > len(files[name]) {
			return api.ErrArg, name
		}
		return api.OK, ""
	}, name, []raw{func(files map[string]string) { files[name] = files[name][:n] }}}
}

func renaming(from, to string) act {
	return act{"Rename", func(d *disk.Disk) error { return d.Rename(from, to) }, lacks(from, to), from, []raw{func(files map[string]string) {
		if from != to {
			files[to] = files[from]
			delete(files, from)
		}
	}}}
}

func removing(name string) act {
	return act{"Remove", func(d *disk.Disk) error { return d.Remove(name) }, lacks(name), name, []raw{func(files map[string]string) { delete(files, name) }}}
}

// model is a disk as the chapter's words say it is.
type model struct {
	files       map[string]string
	cut, writes int
	dead        bool
}

// does is what a call answers, and does it.
func (m *model) does(a act) (api.Errno, string) {
	e, name := a.wrong(m.files)
	switch {
	case e == api.ErrArg && name == "", e == api.ErrArg && len(name) > 128:
		return e, name
	case m.dead:
		return api.ErrDead, a.name
	case e != api.OK:
		return e, name
	}
	for _, r := range a.raws {
		if m.writes == m.cut {
			m.dead = true
			return api.ErrDead, a.name
		}
		r(m.files)
		m.writes++
	}
	return api.OK, ""
}

// holds holds the disk against the model, behind a call.
func (m *model) holds(t *testing.T, a act, d *disk.Disk) {
	t.Helper()
	e, name := m.does(a)
	err := a.do(d)
	if e == api.OK {
		fine(t, a.what, err)
	} else {
		faulty(t, a.what, err, e, name)
	}
	counts(t, a.what, d, m.writes, m.dead)
	if !m.dead {
		stands(t, a.what, d, m.files)
	} else if len(d.Names()) != 0 || d.Has(a.name) {
		t.Errorf("%s: a dead disk tells files", a.what)
	}
	woken := d.Copy() // what the files of a dead disk are shows when it is started again
	woken.Restart(-1)
	stands(t, a.what+", started again", woken, m.files)
}

// long is n bytes, no two pieces of which are alike.
func long(n int) string {
	b := make([]byte, n)
	for i := range b {
		b[i] = byte(i ^ i>>5*37)
	}
	return string(b)
}

func TestP35EachLength(t *testing.T) {
	for n := range 200 {
		needs := max(1, (n+31)/32)
		d := disk.New(-1)
		fine(t, "Append", d.Append("a", long(n)))
		counts(t, "Append", d, needs, false)
		fine(t, "Append", d.Append("a", long(n))) // behind bytes that are no whole piece
		counts(t, "Append", d, 2*needs, false)
		put := 1
		if n > 0 {
			put += needs
		}
		fine(t, "Put", d.Put("a", long(n)))
		counts(t, "Put", d, 2*needs+put, false)
		fine(t, "Put of a new one", d.Put("b", long(n)))
		counts(t, "Put of a new one", d, 2*needs+2*put, false)
	}
}

// Behind a cut in a call there is what there was, with the first so many raw writes of it.
func TestP35EachCut(t *testing.T) {
	ahead := map[string]string{"a": long(50), "b": "", "c": "c"}
	var l []act
	for _, name := range []string{"a", "b", "d"} {
		for _, n := range []int{0, 1, 31, 32, 33, 64, 65, 96, 200} {
			l = append(l, appending(name, long(n)), putting(name, long(n)))
		}
		l = append(l, cutting(name, 0), removing(name))
		for _, to := range []string{"a", "b", "c", "d"} {
			l = append(l, renaming(name, to))
		}
	}
	l = append(l, cutting("a", 50), cutting("a", 33), cutting("a", 51), cutting("b", -1), renaming("a", ""), appending("", "x"))
	for _, a := range l {
		for cut := -1; cut <= len(a.raws)+1; cut++ {
			d := laid(cut, ahead)
			m := &model{files: maps.Clone(ahead), cut: cut}
			m.holds(t, a, d)
			m.holds(t, a, d)
			m.holds(t, removing("c"), d)
		}
	}
}

// A script of calls, cut at each of its raw writes, and started again with each further cut.
func TestP35EachCutTwice(t *testing.T) {
	l := []act{
		putting("stage", long(70)), renaming("stage", "a"), appending("log", long(40)), appending("log", ""), putting("stage", ""),
		renaming("stage", "a"), cutting("log", 33), appending("log", long(5)), removing("a"), removing("a"),
	}
	total := 0
	for _, a := range l {
		total += len(a.raws)
	}
	for first := range total + 1 {
		for second := range total + 1 {
			d, m := disk.New(first), &model{files: map[string]string{}, cut: first}
			for i := 0; i < len(l); i++ {
				m.holds(t, l[i], d)
			}
			fine(t, "Restart", d.Restart(second))
			m.cut, m.writes, m.dead = second, 0, false
			for i := 0; i < len(l); i++ {
				m.holds(t, l[i], d)
			}
		}
	}
}

// A disk that is dead changes by Restart alone.
func TestP35Dead(t *testing.T) {
	ahead := map[string]string{"a": long(50), "b": ""}
	d := laid(1, ahead)
	faulty(t, "Put", d.Put("b", "x"), api.ErrDead, "b")
	was := d.Copy()
	for _, c := range calls() {
		faulty(t, c.what, c.do(d), api.ErrDead, c.name)
	}
	d.Has("a")
	d.Names()
	d.Copy().Restart(-1)
	disk.Same(d, was)
	counts(t, "a dead disk", d, 1, true)
	if !disk.Same(d, was) {
		t.Error("a dead disk has changed")
	}
	fine(t, "Restart", d.Restart(-1))
	stands(t, "a dead disk", d, ahead)
}

// some is one of the values.
func some[T any](r *rand.Rand, l ...T) T { return l[r.IntN(len(l))] }

// chance is a call like any that may come, ones that may not be done among them.
func chance(r *rand.Rand) act {
	names := []string{"a", "b", "c", "log/00000001", longest, "", longest + "n"}
	name, bytes := some(r, names...), long(some(r, 0, 1, 31, 32, 33, 64, 100))
	switch r.IntN(6) {
	case 0:
		return cutting(name, r.IntN(80)-3)
	case 1:
		return renaming(name, some(r, names...))
	case 2:
		return removing(name)
	case 3:
		return putting(name, bytes)
	}
	return appending(name, bytes)
}

// Long scripts of all calls, with cuts and copies; both a disk and its copy go on apart.
func TestP35Scripts(t *testing.T) {
	for seed := range uint64(60) {
		r := rand.New(rand.NewPCG(seed, 3))
		d, m := disk.New(-1), &model{files: map[string]string{}, cut: -1}
		type pair struct {
			d *disk.Disk
			m *model
		}
		var kept []pair
		for range 200 {
			m.holds(t, chance(r), d)
			switch r.IntN(20) {
			case 0:
				kept = append(kept, pair{d.Copy(), &model{maps.Clone(m.files), m.cut, m.writes, m.dead}})
			case 1, 2:
				cut := r.IntN(12) - 1
				fine(t, "Restart", d.Restart(cut))
				m.cut, m.writes, m.dead = cut, 0, false
			case 3:
				if len(kept) > 0 {
					i := r.IntN(len(kept))
					kept[i], d, m = pair{d, m}, kept[i].d, kept[i].m
				}
			}
		}
		for _, k := range kept {
			k.m.holds(t, appending("a", "last"), k.d)
		}
	}
}

// What a call answers is one fault a call: it is not the next one's.
func TestP01Faults(t *testing.T) {
	d := disk.New(1)
	first := d.Append("a", strings.Repeat("x", 40))
	second := d.Remove("b")
	fine(t, "Restart", d.Restart(-1))
	third := d.Remove("b")
	faulty(t, "the first", first, api.ErrDead, "a")
	faulty(t, "the second", second, api.ErrDead, "b")
	faulty(t, "the third", third, api.ErrNone, "b")
	var f *api.Fault
	if errors.As(third, &f) {
		f.What = "changed"
	}
	faulty(t, "the same again", d.Remove("b"), api.ErrNone, "b")
}
