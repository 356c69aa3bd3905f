package disk

import "fathom/api"

// Append lays bytes behind a file.
func (d *Disk) Append(name string, b []byte) api.Errno {
	d.lock.Lock()
	defer d.lock.Unlock()
	if e := d.refusal(name); e != api.OK {
		return e
	}
	if !d.fits(name, len(b)) {
		return api.ErrDiskFull
	}
	return d.write(func(keep int) { d.lay(name, b[:min(keep, len(b))]) })
}

// Cut leaves a file its first bytes.
func (d *Disk) Cut(name string, size int) api.Errno {
	d.lock.Lock()
	defer d.lock.Unlock()
	f, e := d.find(name)
	if e != api.OK {
		return e
	}
	if size < 0 || size > len(f.bytes) {
		return api.ErrDiskCut
	}
	return d.write(func(int) { f.cut(size) })
}

// Rename has a file stand under another name, in the place of what stood there.
func (d *Disk) Rename(from, to string) api.Errno {
	d.lock.Lock()
	defer d.lock.Unlock()
	// Both names are looked at ahead of the files.
	if e := d.refusal(from, to); e != api.OK {
		return e
	}
	f, e := d.find(from)
	if e != api.OK {
		return e
	}
	return d.write(func(int) {
		delete(d.files, from)
		d.put(to, f)
	})
}

// Remove takes a file away.
func (d *Disk) Remove(name string) api.Errno {
	d.lock.Lock()
	defer d.lock.Unlock()
	if _, e := d.find(name); e != api.OK {
		return e
	}
	return d.write(func(int) { delete(d.files, name) })
}

// Sync makes all bytes of a file sure.
func (d *Disk) Sync(name string) api.Errno {
	d.lock.Lock()
	defer d.lock.Unlock()
	f, e := d.find(name)
	if e != api.OK {
		return e
	}
	return d.write(func(int) { f.settle() })
}
