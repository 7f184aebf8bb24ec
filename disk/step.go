package disk

import "stithy/api"

// never is how many steps are done ahead of a crash that there isn't.
const never = -1

// file is what has a name.
type file struct {
	bytes  []byte
	synced int // how many of them, from the front
}

// empty is a disk without files, that is not armed.
func empty(room int) *Disk {
	return &Disk{room: room, files: map[string]*file{}, after: never}
}

// step does the whole of a step; but if the disk crashes in it, what that leaves of it, and none of it, if it has
// crashed.
func (d *Disk) step(whole func() api.Errno, torn func()) api.Errno {
	if d.crashed {
		return api.ErrCrash
	}
	if d.after == 0 {
		d.Crash()
		torn()
		return api.ErrCrash
	}
	if d.after > 0 {
		d.after--
	}
	return whole()
}

// change is a step that does something to a file: ErrNone, if that is not there. A crash leaves nothing of it.
func (d *Disk) change(name string, do func(d *Disk, name string)) api.Errno {
	whole := func() api.Errno {
		if d.files[name] == nil {
			return api.ErrNone
		}
		do(d, name)
		return api.OK
	}
	return d.step(whole, func() {})
}

// write puts s, for which there is room, behind the bytes of a file, which begins here, if it is not there.
func (d *Disk) write(name, s string) {
	f := d.files[name]
	if f == nil {
		f = &file{}
		d.files[name] = f
	}
	f.bytes = append(f.bytes, s...)
	d.used += len(s)
}

// secure syncs all bytes of a file that is there.
func (d *Disk) secure(name string) {
	f := d.files[name]
	f.synced = len(f.bytes)
}

// remove takes away a file that is there.
func (d *Disk) remove(name string) {
	d.used -= len(d.files[name].bytes)
	delete(d.files, name)
}

// move gives a file that is there another name.
func (d *Disk) move(from, to string) {
	f := d.files[from]
	delete(d.files, from) // first, as the other name may be the same one
	if d.files[to] != nil {
		d.remove(to)
	}
	d.files[to] = f
}
