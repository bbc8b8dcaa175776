package field

import (
	"math"
	"slices"
	"testing"

	"portreeve/api"
)

const all = ^uint64(0)

// words have bits at both ends, in the middle, all and none of them.
var words = []uint64{
	0, 1, 2, 5, 8, 0xabcd, 0xfff, 0x1000, 0x1001, 0x7fffffff, 0x80000000, 0xffffffff, 0x100000000,
	0x0123456789abcdef, 0xaaaaaaaaaaaaaaaa, 0x5555555555555555, 0x8000000000000001,
	1 << 62, 1<<63 - 1, 1 << 63, 1<<63 + 1, 0xfffffffffffff000, 0xfffffffffffff001, all - 1, all,
}

// ends are numbers at which a comparison, a sum or a shift could go wrong.
var ends = []int{
	math.MinInt, math.MinInt + 1, math.MinInt + 63, math.MinInt + 64, math.MinInt32, -65, -64, -63, -1,
	64, 65, 127, 128, 256, math.MaxInt32, 1 << 32, math.MaxInt - 64, math.MaxInt - 63, math.MaxInt - 1, math.MaxInt,
}

func bit(w uint64, n int) bool { return w>>uint(n)&1 == 1 }

// rightFields are all that there are, made without Right.
func rightFields() []Field {
	var l []Field
	for low := 0; low <= 63; low++ {
		for wide := 1; wide <= 64-low; wide++ {
			l = append(l, Field{Low: low, Wide: wide})
		}
	}
	return l
}

// wrongFields are those next to the right ones, and some far away.
func wrongFields() []Field {
	l := []Field{{}}
	for low := 0; low <= 63; low++ {
		l = append(l, Field{Low: low, Wide: 0}, Field{Low: low, Wide: -1}, Field{Low: low, Wide: 65 - low}, Field{Low: low, Wide: 64 - low + 64})
		for _, n := range ends {
			if n < 1 || n > 64-low {
				l = append(l, Field{Low: low, Wide: n})
			}
		}
	}
	for _, low := range ends {
		for wide := -1; wide <= 65; wide++ {
			l = append(l, Field{Low: low, Wide: wide})
		}
		for _, wide := range ends {
			l = append(l, Field{Low: low, Wide: wide})
		}
	}
	return l
}

// has tells by the document's words whether a right field has a bit.
func has(f Field, n int) bool { return n >= f.Low && n-f.Low < f.Wide }

func plainMask(f Field) uint64 {
	var w uint64
	for n := range 64 {
		if has(f, n) {
			w |= 1 << uint(n)
		}
	}
	return w
}

func plainGet(f Field, w uint64) uint64 {
	var v uint64
	for n := range f.Wide {
		if bit(w, f.Low+n) {
			v |= 1 << uint(n)
		}
	}
	return v
}

func plainPut(f Field, w uint64, v uint64) uint64 {
	var out uint64
	for n := range 64 {
		set := bit(w, n)
		if has(f, n) {
			set = bit(v, n-f.Low)
		}
		if set {
			out |= 1 << uint(n)
		}
	}
	return out
}

func plainOnes(n int) uint64 {
	var w uint64
	for i := range 64 {
		if i < n {
			w |= 1 << uint(i)
		}
	}
	return w
}

func TestExamples(t *testing.T) {
	f := Field{Low: 4, Wide: 8}
	if v := f.Get(0xabcd); v != 0xbc {
		t.Errorf("Get: %#x", v)
	}
	if w, e := f.Put(0xabcd, 0x12); w != 0xa12d || e != api.OK {
		t.Errorf("Put: %#x %d", w, e)
	}
	if w, ok := Up(5, 2); w != 8 || !ok {
		t.Errorf("Up: %d %t", w, ok)
	}
}

// P1.1: Right, Mask, Get.
func TestRightFields(t *testing.T) {
	for _, f := range rightFields() {
		if !f.Right() {
			t.Errorf("%v isn't right", f)
		}
		if got, want := f.Mask(), plainMask(f); got != want {
			t.Errorf("%v.Mask(): %#x, not %#x", f, got, want)
		}
		for _, w := range words {
			if got, want := f.Get(w), plainGet(f, w); got != want {
				t.Errorf("%v.Get(%#x): %#x, not %#x", f, w, got, want)
			}
		}
	}
}

// P1.1: what isn't right has no bits, and nothing is put there.
func TestWrongFields(t *testing.T) {
	whole := Field{Low: 0, Wide: 64}
	for _, f := range wrongFields() {
		if f.Right() {
			t.Errorf("%v is right", f)
		}
		if w := f.Mask(); w != 0 {
			t.Errorf("%v.Mask(): %#x", f, w)
		}
		if v := f.Get(all); v != 0 {
			t.Errorf("%v.Get: %#x", f, v)
		}
		for _, v := range []uint64{0, 1, all} {
			if w, e := f.Put(all, v); w != 0 || e != api.ErrForm {
				t.Errorf("%v.Put(%#x): %#x %d", f, v, w, e)
			}
		}
		if f.Meets(whole) || whole.Meets(f) || f.Meets(f) {
			t.Errorf("%v meets", f)
		}
	}
}

// P1.1: Put, up to the greatest number that a field holds, and above it.
func TestPut(t *testing.T) {
	for _, f := range rightFields() {
		most := plainOnes(f.Wide)
		values := append(slices.Clone(words), most, most-1, most>>1, most+1)
		for _, w := range []uint64{0, all, 0x0123456789abcdef, 0xaaaaaaaaaaaaaaaa} {
			for _, v := range values {
				want, wantE := plainPut(f, w, v), api.OK
				if v > most {
					want, wantE = 0, api.ErrSize
				}
				if got, e := f.Put(w, v); got != want || e != wantE {
					t.Fatalf("%v.Put(%#x, %#x): %#x %d, not %#x %d", f, w, v, got, e, want, wantE)
				}
			}
		}
	}
}

// P1.1: Meets, of each two fields.
func TestMeets(t *testing.T) {
	l := rightFields()
	for _, f := range l {
		for _, g := range l {
			want := f.Low < g.Low+g.Wide && g.Low < f.Low+f.Wide
			if got := f.Meets(g); got != want {
				t.Fatalf("%v.Meets(%v): %t", f, g, got)
			}
		}
	}
}

// counts are all from a bit below 0 to a bit above 64, and the ends.
func counts() []int {
	l := slices.Clone(ends)
	for n := -2; n <= 66; n++ {
		l = append(l, n)
	}
	return l
}

// P1.2: Ones.
func TestOnes(t *testing.T) {
	for _, n := range counts() {
		if got, want := Ones(n), plainOnes(n); got != want {
			t.Errorf("Ones(%d): %#x, not %#x", n, got, want)
		}
	}
}

// near are words around the least one with a stretch of so many bits, and the last one.
func near(n int) []uint64 {
	l := slices.Clone(words)
	if n >= 1 && n <= 63 {
		step := uint64(1) << uint(n)
		l = append(l, step-1, step, step+1, 2*step-1, 2*step, 3*step+1, -step-1, -step, -step+1)
	}
	return l
}

// P1.2: Aligned and Down.
func TestAlignedAndDown(t *testing.T) {
	for _, n := range counts() {
		for _, w := range near(n) {
			var down uint64
			for i := range 64 {
				if i >= n && bit(w, i) {
					down |= 1 << uint(i)
				}
			}
			if got := Down(w, n); got != down {
				t.Errorf("Down(%#x, %d): %#x, not %#x", w, n, got, down)
			}
			if got := Aligned(w, n); got != (w == down) {
				t.Errorf("Aligned(%#x, %d): %t", w, n, got)
			}
		}
	}
}

// plainUp is by division, which has nothing in common with masks.
func plainUp(w uint64, n int) (uint64, bool) {
	if n < 1 {
		return w, true
	}
	if n > 63 {
		return 0, w == 0
	}
	step := uint64(1) << uint(n)
	if w%step == 0 {
		return w, true
	}
	k := w/step + 1
	if k > all/step {
		return 0, false
	}
	return k * step, true
}

// P1.2: Up, where there is an aligned word, and where there is none.
func TestUp(t *testing.T) {
	for _, n := range counts() {
		for _, w := range near(n) {
			want, wantOk := plainUp(w, n)
			if got, ok := Up(w, n); got != want || ok != wantOk {
				t.Errorf("Up(%#x, %d): %#x %t, not %#x %t", w, n, got, ok, want, wantOk)
			}
		}
	}
}

// P1.3: Rest, without fields, with each one, and with two.
func TestRest(t *testing.T) {
	l := rightFields()
	for _, w := range words {
		if got := Rest(w); got != w {
			t.Errorf("Rest(%#x): %#x", w, got)
		}
		for i, f := range l {
			g := l[len(l)-1-i]
			if got, want := Rest(w, f), w&^plainMask(f); got != want {
				t.Fatalf("Rest(%#x, %v): %#x, not %#x", w, f, got, want)
			}
			if got, want := Rest(w, f, g), w&^plainMask(f)&^plainMask(g); got != want {
				t.Fatalf("Rest(%#x, %v, %v): %#x, not %#x", w, f, g, got, want)
			}
		}
	}
}

// P1.3: a field that isn't right plays no part, wherever it stands; what is handed in stays.
func TestRestWrong(t *testing.T) {
	f, g := Field{Low: 4, Wide: 8}, Field{Low: 63, Wide: 1}
	for _, wrong := range wrongFields() {
		l := []Field{wrong, f, wrong, g, wrong}
		kept := slices.Clone(l)
		if got := Rest(all, l...); got != 0x7ffffffffffff00f {
			t.Errorf("Rest with %v: %#x", wrong, got)
		}
		if !slices.Equal(l, kept) {
			t.Errorf("Rest changed %v", kept)
		}
		if got := Rest(all, wrong); got != all {
			t.Errorf("Rest(all, %v): %#x", wrong, got)
		}
	}
}
