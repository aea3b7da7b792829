package disk

import "newsstand/api"

// Stop makes the power go at the deed behind n more.
func (d *Disk) Stop(n int) api.Errno {
	if d.closed() {
		return api.ErrClosed
	}
	if n < 0 {
		return api.ErrArg
	}
	d.lasts = n
	return api.OK
}

// Off tells whether the power is off.
func (d *Disk) Off() bool {
	return d.closed() || d.off
}

// Crash cuts the files, in the order of their names, and puts the power on; keep tells of those that have bytes that are not safe how many of these are left.
func (d *Disk) Crash(keep []int) {
	for _, name := range d.Names() {
		f := d.files[name]
		if f.safe == len(f.bytes) {
			continue
		}
		kept := 0
		if len(keep) > 0 {
			kept, keep = keep[0], keep[1:]
		}
		f.cut(kept)
	}
	if !d.closed() {
		d.off, d.lasts = false, never
	}
}

// cut leaves of the bytes that are not safe the first kept ones, as far as there are so many; all that is left is safe.
func (f *file) cut(kept int) {
	kept = max(0, min(kept, len(f.bytes)-f.safe))
	f.safe += kept
	f.bytes = f.bytes[:f.safe]
}
