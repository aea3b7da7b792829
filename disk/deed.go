package disk

import "newsstand/api"

// Append puts b behind the file's bytes, not safe; a file that is not there is made.
func (d *Disk) Append(name string, b []byte) api.Errno {
	if e := d.ready(); e != api.OK {
		return e
	}
	if !isName(name) {
		return api.ErrName
	}
	f := d.files[name]
	if f == nil && len(d.files) >= api.MaxFiles || d.Used()+len(b) > d.quota {
		return api.ErrFull
	}
	if f == nil {
		f = &file{}
		d.files[name] = f
	}
	f.bytes = append(f.bytes, b...) // also if the power goes at this very deed
	return d.spend()
}

// Sync makes all bytes of the file safe.
func (d *Disk) Sync(name string) api.Errno {
	f, e := d.find(name)
	if e != api.OK {
		return e
	}
	if e := d.spend(); e != api.OK {
		return e
	}
	f.safe = len(f.bytes)
	return api.OK
}

// Rename names the file from to, in place of a file of that name.
func (d *Disk) Rename(from, to string) api.Errno {
	if e := d.ready(); e != api.OK {
		return e
	}
	if !isName(to) {
		return api.ErrName
	}
	f, e := d.find(from)
	if e != api.OK {
		return e
	}
	if e := d.spend(); e != api.OK {
		return e
	}
	delete(d.files, from) // first: from may be to
	d.files[to] = f
	return api.OK
}

// Delete takes the file away.
func (d *Disk) Delete(name string) api.Errno {
	if _, e := d.find(name); e != api.OK {
		return e
	}
	if e := d.spend(); e != api.OK {
		return e
	}
	delete(d.files, name)
	return api.OK
}

// spend counts a deed that nothing refuses; or the power goes at it.
func (d *Disk) spend() api.Errno {
	if d.lasts == 0 {
		d.off = true
		return api.ErrOff
	}
	if d.lasts != never {
		d.lasts--
	}
	d.deeds++
	return api.OK
}

// isName tells whether s is a name.
func isName(s string) bool {
	if len(s) < 1 || len(s) > api.MaxName {
		return false
	}
	for _, c := range s {
		if !isSign(c) {
			return false
		}
	}
	return true
}

// isSign tells whether c may stand in a name.
func isSign(c rune) bool {
	return 'a' <= c && c <= 'z' || '0' <= c && c <= '9' || c == '.' || c == '-'
}
