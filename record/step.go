package record

import (
	"stithy/api"
	"stithy/disk"
)

// inOrder does steps one behind the other, up to the first that answers an error, and tells that.
func inOrder(steps ...func() api.Errno) api.Errno {
	for _, step := range steps {
		if e := step(); e != api.OK {
			return e
		}
	}
	return api.OK
}

// fresh is the name under which a file's new bytes are made ready.
func fresh(name string) string { return name + ".new" }

// exchange makes s, which is of some bytes, all that stands in a file. The old bytes are there until all of s is synced,
// so a crash leaves one of the two.
func exchange(d *disk.Disk, name, s string) api.Errno {
	other := fresh(name)
	return inOrder(
		func() api.Errno { return discard(d, other) },
		func() api.Errno { return d.Append(other, s) },
		func() api.Errno { return d.Sync(other) },
		func() api.Errno { return d.Rename(other, name) },
	)
}

// discard takes a file away. If it is not there, that is no step: the disk is asked for none.
func discard(d *disk.Disk, name string) api.Errno {
	if _, ok := d.Read(name); !ok {
		return api.OK
	}
	return d.Delete(name)
}
