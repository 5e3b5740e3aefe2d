// Package enc is layer 1: see shared/doc/01-enc.md.
package enc

import "flotilla/api"

// longest is the greatest length that a text's two bytes can tell.
const longest = 1<<16 - 1

// row is what both have: the bytes that were laid, or those that are left.
type row struct{ bytes []byte }

// first is the number that the first size bytes are.
func (r row) first(size int) uint64 {
	n := uint64(0)
	for i := range size {
		n |= uint64(r.bytes[i]) << (8 * i)
	}
	return n
}

// copied is new memory always: slices.Clone of an empty piece would still point at its argument.
func copied(b []byte) []byte { return append([]byte(nil), b...) }

// Writer lays numbers and texts.
type Writer struct{ row }

// New has nothing.
func New() *Writer { return &Writer{} }

// number lays the lowest size bytes of n.
func (w *Writer) number(n uint64, size int) {
	if w == nil {
		return
	}
	for i := range size {
		w.bytes = append(w.bytes, byte(n>>(8*i)))
	}
}

// Byte lays one byte.
func (w *Writer) Byte(n byte) { w.number(uint64(n), 1) }

// Two lays a number of two bytes.
func (w *Writer) Two(n uint16) { w.number(uint64(n), 2) }

// Four lays a number of four bytes.
func (w *Writer) Four(n uint32) { w.number(uint64(n), 4) }

// Eight lays a number of eight bytes.
func (w *Writer) Eight(n uint64) { w.number(n, 8) }

// Text lays a text.
func (w *Writer) Text(s string) {
	if w == nil {
		return
	}
	s = s[:min(len(s), longest)]
	w.Two(uint16(len(s)))
	w.bytes = append(w.bytes, s...)
}

// Done is all that was laid.
func (w *Writer) Done() []byte {
	if w == nil {
		return nil
	}
	return copied(w.bytes)
}

// Reader takes them off.
type Reader struct {
	row
	err api.Errno
}

// Read begins at the first byte.
func Read(b []byte) *Reader { return &Reader{row: row{copied(b)}} }

// has tells whether size bytes can be taken off; if there are fewer, that is the reader's error.
func (r *Reader) has(size int) bool {
	if r == nil {
		return false
	}
	if len(r.bytes) < size {
		r.Fail(api.ErrEnd)
	}
	return r.err == api.OK
}

// number takes a number of size bytes off.
func (r *Reader) number(size int) uint64 {
	if !r.has(size) {
		return 0
	}
	n := r.first(size)
	r.bytes = r.bytes[size:]
	return n
}

// Byte takes one byte off.
func (r *Reader) Byte() byte { return byte(r.number(1)) }

// Two takes a number of two bytes off.
func (r *Reader) Two() uint16 { return uint16(r.number(2)) }

// Four takes a number of four bytes off.
func (r *Reader) Four() uint32 { return uint32(r.number(4)) }

// Eight takes a number of eight bytes off.
func (r *Reader) Eight() uint64 { return r.number(8) }

// Text takes a text off. Its length is only looked at till all of it is seen to be there: with an error nothing is taken.
func (r *Reader) Text(most int) string {
	if !r.has(2) {
		return ""
	}
	size := int(r.first(2))
	if size > max(most, 0) {
		r.Fail(api.ErrLong)
	}
	end := 2 + size
	if !r.has(end) {
		return ""
	}
	s := string(r.bytes[2:end])
	r.bytes = r.bytes[end:]
	return s
}

// Left is how many bytes are left.
func (r *Reader) Left() int {
	if r == nil {
		return 0
	}
	return len(r.bytes)
}

// Fail gives the reader an error.
func (r *Reader) Fail(e api.Errno) {
	if r != nil && r.err == api.OK {
		r.err = e
	}
}

// Err is the first error.
func (r *Reader) Err() api.Errno {
	if r == nil {
		return api.ErrArg
	}
	return r.err
}

// End is the first error, or that bytes are left.
func (r *Reader) End() api.Errno {
	if e := r.Err(); e != api.OK {
		return e
	}
	if r.Left() > 0 {
		return api.ErrForm
	}
	return api.OK
}
