package loss

import (
	"gantline/api"
	"gantline/cur"
)

// reader is a cursor that also knows which numbers may stand in a list of losses.
type reader struct {
	*cur.Cursor
	wrong api.Fault // of a number that is read, but may not stand there, which the cursor can't tell
}

// Fault is the first fault: the reader's own, if there is one, since it was told ahead of whatever the cursor came to behind it.
func (r *reader) Fault() api.Fault {
	if r.wrong.Why != api.OK {
		return r.wrong
	}
	return r.Cursor.Fault()
}

// number reads a number from least to most; any other one is the fault why, at its first byte. Behind a fault it is 0.
func (r *reader) number(least, most uint64, why api.Errno) int {
	from := r.At()
	n := r.Short()
	if r.Fault().Why != api.OK {
		return 0
	}
	if n < least || n > most {
		r.wrong = api.Fault{Why: why, At: from}
		return 0
	}
	return int(n)
}

// losses reads a list, up to its end or the first fault.
func (r *reader) losses() []api.Loss {
	var l []api.Loss
	count := r.number(0, maxLosses, api.ErrMany)
	for len(l) < count && r.Fault().Why == api.OK {
		l = append(l, r.loss())
	}
	return l
}

// loss reads one of a list.
func (r *reader) loss() api.Loss {
	kind := r.number(firstKind, lastKind, api.ErrForm)
	n := r.Short()
	return api.Loss{Path: r.path(), Kind: kind, N: n}
}

// path reads the numbers of a Path, up to the last one or the first fault.
func (r *reader) path() []int {
	var path []int
	count := r.number(0, maxPath, api.ErrMany)
	for len(path) < count && r.Fault().Why == api.OK {
		path = append(path, r.number(0, maxStep, api.ErrForm))
	}
	return path
}

// end is a fault, if bytes are left behind a list.
func (r *reader) end() {
	if r.Fault().Why == api.OK && r.Left() > 0 {
		r.wrong = api.Fault{Why: api.ErrMore, At: r.At()}
	}
}
