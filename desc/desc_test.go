package desc

import (
	"math"
	"math/rand"
	"testing"

	"portreeve/api"
)

const all = ^uint64(0)

// wrongLevels are next to the right ones, and far away.
var wrongLevels = []int{math.MinInt, math.MinInt32, -64, -1, 4, 5, 7, 64, 1 << 32, 1<<32 + 1, math.MaxInt}

func bit(w uint64, n int) bool { return w>>uint(n)&1 == 1 }

// noughts tells whether the bits from low to high are all 0.
func noughts(w uint64, low, high int) bool {
	for n := low; n <= high; n++ {
		if bit(w, n) {
			return false
		}
	}
	return true
}

// covered is the chapter's list of how many bits an entry covers.
func covered(level int) int { return []int{39, 30, 21, 12}[level] }

// plainDecode goes through the chapter's words bit by bit; ok is false if w is reserved.
func plainDecode(level int, w uint64) (d Desc, ok bool) {
	if !bit(w, 0) {
		return Desc{}, true
	}
	if bit(w, 1) && level <= 2 {
		return Desc{Kind: Table, Out: w - 3}, noughts(w, 2, 11) && noughts(w, 48, 63)
	}
	d = Desc{Kind: Block, User: bit(w, 6), Write: !bit(w, 7), Used: bit(w, 10), Exec: !bit(w, 54)}
	if bit(w, 1) {
		d.Kind = Page
	} else if level == 0 || level == 3 {
		return Desc{}, false
	}
	for n := 12; n <= 47; n++ {
		if bit(w, n) {
			d.Out += 1 << uint(n)
		}
	}
	for n := 2; n <= 4; n++ {
		if bit(w, n) {
			d.Attr += 1 << uint(n-2)
		}
	}
	ones := bit(w, 8) && bit(w, 9) && bit(w, 11) && bit(w, 53)
	zeros := noughts(w, 5, 5) && noughts(w, 48, 52) && noughts(w, 55, 63) && noughts(w, 12, covered(level)-1)
	return d, ones && zeros
}

// checkDecode holds a word's answer against the plain one, and what it says against Right and Encode.
func checkDecode(t *testing.T, level int, w uint64) {
	t.Helper()
	want, ok := plainDecode(level, w)
	wantE := api.OK
	if !ok {
		want, wantE = Desc{}, api.ErrForm
	}
	d, e := Decode(level, w)
	if d != want || e != wantE {
		t.Fatalf("Decode(%d, %#x): %+v %d, not %+v %d", level, w, d, e, want, wantE)
	}
	if e != api.OK {
		return
	}
	back := w
	if d.Kind == Invalid {
		back = 0
	}
	if got, e := Encode(level, d); got != back || e != api.OK || !d.Right(level) {
		t.Fatalf("Encode(%d, %+v): %#x %d, not %#x", level, d, got, e, back)
	}
}

// outs are addresses around those at which the bits of Out begin and end.
func outs() []uint64 {
	l := []uint64{0, 1, 8, 0xfff, 0x1000, 0x5000, 0x123456789000, 0xfffffffff000, all}
	for n := range 64 {
		at := uint64(1) << uint(n)
		l = append(l, at, at|1<<47, at|0x40000000, 1<<48-at, -at)
	}
	return l
}

// leaves are blocks or pages of an address with all flags and attributes.
func leaves(kind int, out uint64) []Desc {
	var l []Desc
	for f := range 16 {
		for attr := range 8 {
			l = append(l, Desc{Kind: kind, Out: out, User: f&1 != 0, Write: f&2 != 0, Exec: f&4 != 0, Used: f&8 != 0, Attr: attr})
		}
	}
	return l
}

// plainLeaf is the word of a leaf of the kind, by the chapter's list.
func plainLeaf(d Desc) uint64 {
	w := d.Out + uint64(d.Attr)*4 + 1<<8 + 1<<9 + 1<<11 + 1<<53 + 1
	if d.Kind == Page {
		w += 2
	}
	if d.User {
		w += 1 << 6
	}
	if !d.Write {
		w += 1 << 7
	}
	if d.Used {
		w += 1 << 10
	}
	if !d.Exec {
		w += 1 << 54
	}
	return w
}

// checkEncode holds the answers of a Desc against what they must be.
func checkEncode(t *testing.T, level int, d Desc, right bool, word uint64) {
	t.Helper()
	wantE := api.OK
	if !right {
		word, wantE = 0, api.ErrForm
	}
	if got := d.Right(level); got != right {
		t.Fatalf("%+v.Right(%d): %t", d, level, got)
	}
	if w, e := Encode(level, d); w != word || e != wantE {
		t.Fatalf("Encode(%d, %+v): %#x %d, not %#x %d", level, d, w, e, word, wantE)
	}
}

func TestExample(t *testing.T) {
	d := Desc{Kind: Page, Out: 0x5000, User: true, Write: true, Used: true}
	if w, e := Encode(3, d); w != 0x60000000005f43 || e != api.OK {
		t.Errorf("Encode: %#x %d", w, e)
	}
	if got, e := Decode(3, 0x60000000005f43); got != d || e != api.OK {
		t.Errorf("Decode: %+v %d", got, e)
	}
}

func TestKinds(t *testing.T) {
	if Invalid != 0 || Table != 1 || Block != 2 || Page != 3 {
		t.Error(Invalid, Table, Block, Page)
	}
}

// P4.1: blocks and pages, at each level, of each address, with all flags and attributes.
func TestLeaves(t *testing.T) {
	for level := range 4 {
		for _, kind := range []int{Block, Page} {
			for _, out := range outs() {
				right := kind == Page && level == 3 || kind == Block && (level == 1 || level == 2)
				right = right && noughts(out, 0, covered(level)-1) && noughts(out, 48, 63)
				for _, d := range leaves(kind, out) {
					checkEncode(t, level, d, right, plainLeaf(d))
				}
			}
		}
	}
}

// P4.1: attributes that are none.
func TestAttr(t *testing.T) {
	for _, attr := range []int{math.MinInt, -8, -1, 8, 9, 15, 16, 1 << 32, 1<<61 + 1, math.MaxInt} {
		checkEncode(t, 1, Desc{Kind: Block, Attr: attr}, false, 0)
		checkEncode(t, 2, Desc{Kind: Block, Attr: attr, Used: true}, false, 0)
		checkEncode(t, 3, Desc{Kind: Page, Attr: attr}, false, 0)
		checkEncode(t, 2, Desc{Kind: Table, Attr: attr}, false, 0)
		checkEncode(t, 0, Desc{Attr: attr}, false, 0)
	}
}

// P4.1: tables have nothing but Out, and there are none at the last level.
func TestTables(t *testing.T) {
	for level := range 4 {
		for _, out := range outs() {
			right := level < 3 && noughts(out, 0, 11) && noughts(out, 48, 63)
			for _, d := range leaves(Table, out) {
				bare := d == Desc{Kind: Table, Out: out}
				checkEncode(t, level, d, right && bare, out+3)
			}
		}
	}
}

// P4.1: of Invalid all is zero.
func TestInvalid(t *testing.T) {
	for level := range 4 {
		for _, out := range outs() {
			for _, d := range leaves(Invalid, out) {
				checkEncode(t, level, d, d == Desc{}, 0)
			}
		}
	}
}

// P4.1: kinds that are none.
func TestWrongKinds(t *testing.T) {
	for level := range 4 {
		for _, kind := range []int{math.MinInt, -3, -1, 4, 5, 6, 7, 8, 1 << 32, 1<<32 + 3, math.MaxInt} {
			checkEncode(t, level, Desc{Kind: kind}, false, 0)
			checkEncode(t, level, Desc{Kind: kind, Out: 0x40000000, Used: true}, false, 0)
		}
	}
}

// P4.1: at a level that is none nothing is right, and ErrRange comes ahead of ErrForm.
func TestWrongLevels(t *testing.T) {
	for _, level := range wrongLevels {
		for _, d := range []Desc{{}, {Kind: Table}, {Kind: Block}, {Kind: Page}, {Kind: 4}, {Out: 1}} {
			if d.Right(level) {
				t.Errorf("%+v is right for %d", d, level)
			}
			if w, e := Encode(level, d); w != 0 || e != api.ErrRange {
				t.Errorf("Encode(%d, %+v): %#x %d", level, d, w, e)
			}
		}
		for _, w := range []uint64{0, 1, 2, 3, 0x1003, 0x60000000005f43, 0x60000000005f41, all} {
			if d, e := Decode(level, w); d != (Desc{}) || e != api.ErrRange {
				t.Errorf("Decode(%d, %#x): %+v %d", level, w, d, e)
			}
		}
	}
}

// P4.1: each right word, and each that is unlike it in one bit or two.
func TestDecodeNear(t *testing.T) {
	words := []uint64{0, 2, 3, 0x1003, 0xfffffffff003, all, all - 1, all - 2, all - 3}
	for _, kind := range []int{Block, Page} {
		for _, out := range []uint64{0, 0x40000000, 0x800040000000, 0xffffc0000000} {
			for _, d := range leaves(kind, out) {
				words = append(words, plainLeaf(d))
			}
		}
	}
	for level := range 4 {
		for _, w := range words {
			checkDecode(t, level, w)
			for i := range 64 {
				checkDecode(t, level, w^1<<uint(i))
				for j := range i {
					checkDecode(t, level, w^1<<uint(i)^1<<uint(j))
				}
			}
		}
	}
}

// P4.1: words of any kind, and such as have most of what a leaf must have.
func TestDecodeAny(t *testing.T) {
	r := rand.New(rand.NewSource(4))
	const may = 1<<54 | 1<<53 | 0xffffc0000fdf
	for range 200000 {
		w := r.Uint64()
		for level := range 4 {
			checkDecode(t, level, w)
			checkDecode(t, level, w&may|1<<53|0xb01)
			checkDecode(t, level, w&0xfffffffff000|3)
		}
	}
}

// P4.2: Bits.
func TestBits(t *testing.T) {
	for level := range 4 {
		if got := Bits(level); got != covered(level) {
			t.Errorf("Bits(%d): %d", level, got)
		}
	}
	for _, level := range wrongLevels {
		if got := Bits(level); got != 0 {
			t.Errorf("Bits(%d): %d", level, got)
		}
	}
}

// plainBase is the register of a base and an ASID, errors in the promise's order.
func plainBase(at uint64, asid int) (uint64, api.Errno) {
	if at%4096 != 0 {
		return 0, api.ErrAlign
	}
	if at >= 1<<48 || asid < 0 || asid > 255 {
		return 0, api.ErrRange
	}
	return at + uint64(asid)*(1<<48), api.OK
}

// P4.2: Base, with each ASID and with such as are none; what it made is read again.
func TestBase(t *testing.T) {
	asids := []int{math.MinInt, math.MinInt + 1, -256, -255, -1, 256, 257, 511, 1 << 16, 1 << 32, 1<<32 + 1, 1 << 56, math.MaxInt}
	for n := range 256 {
		asids = append(asids, n)
	}
	for _, at := range outs() {
		for _, asid := range asids {
			want, wantE := plainBase(at, asid)
			w, e := Base(at, asid)
			if w != want || e != wantE {
				t.Fatalf("Base(%#x, %d): %#x %d, not %#x %d", at, asid, w, e, want, wantE)
			}
			if e != api.OK {
				continue
			}
			if gotAt, gotAsid, e := ReadBase(w); gotAt != at || gotAsid != asid || e != api.OK {
				t.Fatalf("ReadBase(%#x): %#x %d %d", w, gotAt, gotAsid, e)
			}
		}
	}
}

// checkReadBase holds a word's answer against the bits' places.
func checkReadBase(t *testing.T, w uint64) {
	t.Helper()
	wantAt, wantAsid, wantE := w%(1<<48), int(w>>48), api.OK
	if !noughts(w, 0, 11) || !noughts(w, 56, 63) {
		wantAt, wantAsid, wantE = 0, 0, api.ErrForm
	}
	if at, asid, e := ReadBase(w); at != wantAt || asid != wantAsid || e != wantE {
		t.Fatalf("ReadBase(%#x): %#x %d %d, not %#x %d %d", w, at, asid, e, wantAt, wantAsid, wantE)
	}
}

// P4.2: ReadBase, of registers and of words that are none.
func TestReadBase(t *testing.T) {
	r := rand.New(rand.NewSource(42))
	for _, w := range []uint64{0, 0x7000, 0x9000000007000, 0xfffffffffff000, 0x55123456789000, all} {
		checkReadBase(t, w)
		for i := range 64 {
			checkReadBase(t, w^1<<uint(i))
		}
	}
	for range 100000 {
		w := r.Uint64()
		checkReadBase(t, w)
		checkReadBase(t, w&0xfffffffffff000)
	}
}
