package disk

import (
	"bytes"
	"maps"
	"slices"

	"fathom/api"
)

// Read tells a file's bytes.
func (d *Disk) Read(name string) ([]byte, api.Errno) {
	d.lock.Lock()
	defer d.lock.Unlock()
	f, e := d.find(name)
	if e != api.OK {
		return nil, e
	}
	return bytes.Clone(f.bytes), api.OK
}

// ReadAt tells n of a file's bytes.
func (d *Disk) ReadAt(name string, from, n int) ([]byte, api.Errno) {
	d.lock.Lock()
	defer d.lock.Unlock()
	f, e := d.find(name)
	if e != api.OK {
		return nil, e
	}
	// Not from + n, which may be more than an int holds.
	if from < 0 || n < 0 || n > len(f.bytes)-from {
		return nil, api.ErrDiskCut
	}
	return bytes.Clone(f.bytes[from : from+n]), api.OK
}

// Size tells how many bytes a file has.
func (d *Disk) Size(name string) (int, api.Errno) {
	d.lock.Lock()
	defer d.lock.Unlock()
	f, e := d.find(name)
	if e != api.OK {
		return 0, e
	}
	return len(f.bytes), api.OK
}

// Sure tells how many of them are sure.
func (d *Disk) Sure(name string) (int, api.Errno) {
	d.lock.Lock()
	defer d.lock.Unlock()
	f, e := d.find(name)
	if e != api.OK {
		return 0, e
	}
	return f.sure, api.OK
}

// Names tells the files' names.
func (d *Disk) Names() ([]string, api.Errno) {
	d.lock.Lock()
	defer d.lock.Unlock()
	if d.off {
		return nil, api.ErrDiskOff
	}
	return d.names(), api.OK
}

// Files tells all that stands there, power or not.
func (d *Disk) Files() []api.File {
	d.lock.Lock()
	defer d.lock.Unlock()
	l := []api.File{}
	for _, name := range d.names() {
		l = append(l, api.File{Name: name, Bytes: bytes.Clone(d.files[name].bytes)})
	}
	return l
}

func (d *Disk) names() []string { return slices.Sorted(maps.Keys(d.files)) }

// refusal tells why nothing may be asked about files of these names, if so.
func (d *Disk) refusal(names ...string) api.Errno {
	if d.off {
		return api.ErrDiskOff
	}
	for _, name := range names {
		if !mayBe(name) {
			return api.ErrDiskName
		}
	}
	return api.OK
}

// find tells a file that is there, or why there is none.
func (d *Disk) find(name string) (*file, api.Errno) {
	if e := d.refusal(name); e != api.OK {
		return nil, e
	}
	f := d.files[name]
	if f == nil {
		return nil, api.ErrDiskNone
	}
	return f, api.OK
}
