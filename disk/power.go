package disk

import (
	"math"

	"fathom/api"
)

// tear says which write will be torn, what is kept of it, and what each file loses then.
type tear struct {
	in   int // so many writes from now on; 0: none is armed
	keep int
	lose int
}

// Arm has the n-th next write torn, so much of it kept, and the power go, and each file lose so much of what is not sure.
func (d *Disk) Arm(n, keep, lose int) {
	d.lock.Lock()
	defer d.lock.Unlock()
	d.armed = tear{in: max(n, 0), keep: keep, lose: lose}
}

// Off tells whether the power is off.
func (d *Disk) Off() bool {
	d.lock.Lock()
	defer d.lock.Unlock()
	return d.off
}

// On brings the power back. What the files have kept until then is sure.
func (d *Disk) On() {
	d.lock.Lock()
	defer d.lock.Unlock()
	if d.off {
		d.off = false
		d.settle()
	}
}

// Writes tells how many writes there have been, torn ones too.
func (d *Disk) Writes() int {
	d.lock.Lock()
	defer d.lock.Unlock()
	return d.writes
}

// write does a write that nothing refuses; do is handed how many bytes of it are kept. A torn one of which none are is not done.
func (d *Disk) write(do func(keep int)) api.Errno {
	d.writes++
	if !d.armed.due() {
		do(math.MaxInt)
		return api.OK
	}
	if d.armed.keep > 0 {
		do(d.armed.keep)
	}
	d.fail()
	return api.ErrDiskOff
}

// due counts one write, and tells whether it is the one that is torn.
func (t *tear) due() bool {
	if t.in == 0 {
		return false
	}
	t.in--
	return t.in == 0
}

// fail has the power go.
func (d *Disk) fail() {
	for _, f := range d.files {
		f.lose(d.armed.lose)
	}
	d.armed = tear{}
	d.off = true
}
