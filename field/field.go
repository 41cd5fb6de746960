// Package field is layer 1: parts of a word: see shared/doc/01-field.md.
package field

const wordBits = 64

// Field is a part of a word.
type Field struct {
	At    uint8
	Width uint8
}

// May tells whether it is one.
func (f Field) May() bool {
	// Both are widened ahead of adding: as bytes 255 and 1 would come to 0.
	return f.Width >= 1 && int(f.At)+int(f.Width) <= wordBits
}

// Most is the greatest value. As it is 0 of what is no field, so are Mask, Get
// and Signed, which are made of it, and Put leaves the word as it was.
func (f Field) Most() uint64 {
	if !f.May() {
		return 0
	}
	return ^uint64(0) >> (wordBits - f.Width)
}

// Mask has its bits.
func (f Field) Mask() uint64 {
	return f.Most() << f.At
}

// Get is its value.
func (f Field) Get(w uint64) uint64 {
	return (w >> f.At) & f.Most()
}

// Put is a word with a value.
func (f Field) Put(w, v uint64) uint64 {
	return w&^f.Mask() | (v&f.Most())<<f.At
}

// Fits tells whether a value may be.
func (f Field) Fits(v uint64) bool {
	return f.May() && v <= f.Most()
}

// Signed is its value with a sign.
func (f Field) Signed(w uint64) int64 {
	// At the upper end of the word its highest bit is the sign, which the
	// shift back fills the rest with.
	above := wordBits - f.Width
	return int64(f.Get(w)<<above) >> above
}

// Apart tells whether all are fields, and no two have a bit in common.
func Apart(fields ...Field) bool {
	if !every(Field.May, fields...) {
		return false
	}
	var taken uint64
	return every(func(f Field) bool {
		free := taken&f.Mask() == 0
		taken |= f.Mask()
		return free
	}, fields...)
}

// Join is a word of values.
func Join(fields []Field, values []uint64) (uint64, bool) {
	if len(fields) != len(values) || !Apart(fields...) {
		return 0, false
	}
	var w uint64
	for i, f := range fields {
		if !f.Fits(values[i]) {
			return 0, false
		}
		w = f.Put(w, values[i])
	}
	return w, true
}

// Split are the values of a word.
func Split(fields []Field, w uint64) []uint64 {
	values := make([]uint64, len(fields))
	for i, f := range fields {
		values[i] = f.Get(w)
	}
	return values
}

// every tells whether all fields answer true; it asks no more of them behind
// one that does not.
func every(ask func(Field) bool, fields ...Field) bool {
	for _, f := range fields {
		if !ask(f) {
			return false
		}
	}
	return true
}
