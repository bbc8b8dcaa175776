// Package field is layer 1: see shared/doc/01-field.md.
package field

import "portreeve/api"

// wordBits is how many bits a word has.
const wordBits = 64

// Field is some bits of a word, one behind the other.
type Field struct{ Low, Wide int }

// Right tells whether a field is right.
func (f Field) Right() bool {
	// Low is bounded first, and Wide held against what is left: Low + Wide could wrap round.
	return f.Low >= 0 && f.Low < wordBits && f.Wide >= 1 && f.Wide <= wordBits-f.Low
}

// Ones is the word whose lowest bits are 1.
func Ones(n int) uint64 {
	// A shift by a negative count panics, so such a count is answered ahead of it.
	if n < 1 {
		return 0
	}
	if n >= wordBits {
		return ^uint64(0)
	}
	return uint64(1)<<n - 1
}

// Mask is the word with the field's bits 1.
func (f Field) Mask() uint64 {
	if !f.Right() {
		return 0
	}
	return Ones(f.Wide) << f.Low
}

// Get is the field's number.
func (f Field) Get(w uint64) uint64 {
	if !f.Right() {
		return 0
	}
	return w >> f.Low & Ones(f.Wide)
}

// Put is a word with a number in the field.
func (f Field) Put(w uint64, v uint64) (uint64, api.Errno) {
	if !f.Right() {
		return 0, api.ErrForm
	}
	if v > Ones(f.Wide) {
		return 0, api.ErrSize
	}
	return w&^f.Mask() | v<<f.Low, api.OK
}

// Meets tells whether two fields have a bit in common.
func (f Field) Meets(g Field) bool {
	// A field that isn't right has the mask 0, and so meets none.
	return f.Mask()&g.Mask() != 0
}

// Aligned tells whether the lowest bits are 0.
func Aligned(w uint64, n int) bool { return w&Ones(n) == 0 }

// Down is a word with its lowest bits 0.
func Down(w uint64, n int) uint64 { return w &^ Ones(n) }

// Up is the least word from one on whose lowest bits are 0.
func Up(w uint64, n int) (uint64, bool) {
	if Aligned(w, n) {
		return w, true
	}
	// The last word of w's stretch, and one more: that wraps round to 0 just where there is no next stretch.
	next := (w | Ones(n)) + 1
	return next, next != 0
}

// Rest is a word without some fields.
func Rest(w uint64, l ...Field) uint64 {
	for _, f := range l {
		w &^= f.Mask()
	}
	return w
}
