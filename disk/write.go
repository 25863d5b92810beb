package disk

import "yankline/api"

// Append adds bytes behind the file's, piece by piece; the file comes to be by the first raw write.
func (d *Disk) Append(name, bytes string) error {
	if err := d.ready(name); err != nil {
		return err
	}
	if err := d.room(name, len(d.files[name]), len(bytes)); err != nil {
		return err
	}
	return powered(name, func() { d.add(name, bytes) })
}

// Put makes the file anew, empty by a raw write of its own, and adds bytes as Append does, if there are any.
func (d *Disk) Put(name, bytes string) error {
	if err := d.ready(name); err != nil {
		return err
	}
	if err := d.room(name, 0, len(bytes)); err != nil {
		return err
	}
	return powered(name, func() {
		d.spend()
		d.files[name] = nil
		if bytes != "" {
			d.add(name, bytes)
		}
	})
}

// Trunc leaves the first n bytes of the file.
func (d *Disk) Trunc(name string, n int) error {
	held, err := d.find(name)
	if err != nil {
		return err
	}
	if n < 0 || n > len(held) {
		return fault(api.ErrArg, name)
	}
	return powered(name, func() {
		d.spend()
		// Without the room behind: what is added next would go over bytes on which a copy of the disk may stand.
		d.files[name] = held[:n:n]
	})
}

// Rename gives the file another name, and takes the place of a file of that name.
func (d *Disk) Rename(from, to string) error {
	held, err := d.find(from, to)
	if err != nil {
		return err
	}
	return powered(from, func() {
		d.spend()
		delete(d.files, from) // first, since both may be one name
		d.files[to] = held
	})
}

// Remove takes the file away.
func (d *Disk) Remove(name string) error {
	if _, err := d.find(name); err != nil {
		return err
	}
	return powered(name, func() {
		d.spend()
		delete(d.files, name)
	})
}

// room is whether the file may have more bytes behind those that stay, and may be there at all.
func (d *Disk) room(name string, stay, more int) error {
	_, ok := d.files[name]
	if more > api.MaxFile-stay || !ok && len(d.files) >= api.MaxFiles {
		return fault(api.ErrLong, name)
	}
	return nil
}

// add adds bytes to the file, each piece by a raw write; of no bytes it is one that makes the file.
func (d *Disk) add(name, bytes string) {
	for begin := 0; begin == 0 || begin < len(bytes); begin += api.Piece {
		d.spend()
		d.files[name] = append(d.files[name], bytes[begin:min(begin+api.Piece, len(bytes))]...)
	}
}

// lost comes up from the raw write that is not done.
type lost struct{}

// spend stands ahead of what a raw write does: it counts it, or the power is lost by it.
func (d *Disk) spend() {
	if d.writes == d.cut {
		d.dead = true
		panic(lost{})
	}
	d.writes++
}

// powered does a call's raw writes, one by one, up to the one that is not done.
func powered(name string, writes func()) (err error) {
	defer func() {
		switch p := recover().(type) {
		case nil:
		case lost:
			err = fault(api.ErrDead, name)
		default:
			panic(p) // no loss of power: to hide it would tell that all is written
		}
	}()
	writes()
	return nil
}
