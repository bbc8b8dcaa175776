package right

import (
	"math"
	"math/rand"
	"strings"
	"testing"

	"portreeve/api"
	"portreeve/desc"
	"portreeve/virt"
)

const all = ^uint64(0)

// texts are the texts of all rights, each at its number's place.
var texts = []string{"---", "r--", "-w-", "rw-", "--x", "r-x", "-wx", "rwx"}

// wrongRights are next to the right ones, and far away; some have right ones as their lowest bits.
var wrongRights = []int{math.MinInt, math.MinInt + 5, math.MinInt32, -9, -8, -7, -4, -2, -1, 8, 9, 12, 15, 16, 255, 256, 1 << 32, 1<<32 + 5, 1<<62 + 7, math.MaxInt}

// wrongLevels are next to those of leaves, and far away.
var wrongLevels = []int{math.MinInt, math.MinInt32, -64, -3, -1, 0, 4, 5, 7, 64, 1 << 32, 1<<32 + 1, math.MaxInt}

// numbers are all rights and many that are none.
func numbers() []int {
	l := append([]int(nil), wrongRights...)
	for r := range 8 {
		l = append(l, r)
	}
	for n := range 64 {
		bit := int(uint64(1) << uint(n))
		l = append(l, bit, bit-1, bit+1, bit|5, -bit)
	}
	return l
}

// has tells whether rights have one of 1, 2 and 4, by their text.
func has(r, one int) bool {
	place := map[int]int{1: 0, 2: 1, 4: 2}[one]
	return texts[r][place] != '-'
}

// wide is how many bytes an entry of the level covers.
func wide(level int) uint64 { return []uint64{1 << 39, 1 << 30, 1 << 21, 1 << 12}[level] }

// kindOf is the kind of leaf that a level from 1 to 3 has.
func kindOf(level int) int { return []int{0, desc.Block, desc.Block, desc.Page}[level] }

// outs are addresses around those at which a stretch, or the bits of Out, begin and end, and some of any kind.
func outs() []uint64 {
	l := []uint64{0, 0x5000, 0x200000, 0x40000000, 0x123456789000, 1<<48 - 1, 1 << 48, 1<<48 + 1<<30, all}
	for level := range 4 {
		w := wide(level)
		l = append(l, w-1, w+1, 3*w, 1<<47+w, 1<<48-w, 1<<48-w-1, 1<<48+w, -w)
	}
	for n := range 64 {
		at := uint64(1) << uint(n)
		l = append(l, at, at|1<<40, at|1<<30|1<<21|1<<12, -at)
	}
	r := rand.New(rand.NewSource(10))
	for range 2000 {
		w := r.Uint64()
		l = append(l, w, w>>16, w>>16&^0xfff, w>>16&^0x1fffff, w>>16&^0x3fffffff, w&^0x3fffffff)
	}
	return l
}

// descs are descriptors of a kind with all flags, right ones and others.
func descs(kind int) []desc.Desc {
	var l []desc.Desc
	for f := range 16 {
		for _, out := range []uint64{0, 1, 0x5000, 0x40000000, 1 << 48, all} {
			for _, attr := range []int{0, 1, 7, 8, -1} {
				l = append(l, desc.Desc{Kind: kind, Out: out, User: f&1 != 0, Write: f&2 != 0, Exec: f&4 != 0, Used: f&8 != 0, Attr: attr})
			}
		}
	}
	return l
}

func TestNames(t *testing.T) {
	if Read != 1 || Write != 2 || Exec != 4 {
		t.Error(Read, Write, Exec)
	}
}

func TestExamples(t *testing.T) {
	if r, ok := Parse("r-x"); r != 5 || !ok {
		t.Error(r, ok)
	}
	if d, e := Leaf(3, 0x5000, 6); e != api.OK || Of(d) != 0 {
		t.Error(d, e)
	}
}

// P10.1: Right, of all from 0 to 7 and of no other.
func TestRight(t *testing.T) {
	for r := -1000; r <= 1000; r++ {
		if got := Right(r); got != (0 <= r && r < 8) {
			t.Error(r, got)
		}
	}
	for _, r := range wrongRights {
		if Right(r) {
			t.Error(r)
		}
	}
}

// P10.1: Meet and Within of all rights, right by right.
func TestMeetAndWithin(t *testing.T) {
	for a := range 8 {
		for b := range 8 {
			meet, within := 0, true
			for _, one := range []int{1, 2, 4} {
				if has(a, one) && has(b, one) {
					meet += one
				}
				within = within && (!has(a, one) || has(b, one))
			}
			if got := Meet(a, b); got != meet {
				t.Errorf("Meet(%d, %d): %d, not %d", a, b, got, meet)
			}
			if got := Within(a, b); got != within {
				t.Errorf("Within(%d, %d): %t", a, b, got)
			}
		}
	}
}

// P10.1: nothing meets a number that is no rights, and nothing is within it, nor it within anything, itself neither.
func TestMeetAndWithinOfWrong(t *testing.T) {
	for _, wrong := range wrongRights {
		for _, r := range numbers() {
			if Meet(wrong, r) != 0 || Meet(r, wrong) != 0 {
				t.Error("Meet", wrong, r)
			}
			if Within(wrong, r) || Within(r, wrong) {
				t.Error("Within", wrong, r)
			}
		}
	}
}

// P10.1: Show, of all rights, and empty of others.
func TestShow(t *testing.T) {
	for r, want := range texts {
		if got := Show(r); got != want {
			t.Errorf("Show(%d): %q", r, got)
		}
	}
	for _, r := range wrongRights {
		if got := Show(r); got != "" {
			t.Errorf("Show(%d): %q", r, got)
		}
	}
}

// checkParse holds a text's answer against the list of all texts.
func checkParse(t *testing.T, s string) {
	t.Helper()
	want, wantOk := 0, false
	for r, text := range texts {
		if text == s {
			want, wantOk = r, true
		}
	}
	if r, ok := Parse(s); r != want || ok != wantOk {
		t.Errorf("Parse(%q): %d %t, not %d %t", s, r, ok, want, wantOk)
	}
}

// P10.1: Parse, of all short texts of the signs and of what is like them.
func TestParse(t *testing.T) {
	parts := []string{"r", "w", "x", "-", "R", "W", "X", " ", "0", "\x00", "_", "\x80", "\xff", "é", "ŭ", "–", "ｒ", "𝐫", "\u0072\u0301"}
	var grow func(s string, more int)
	grow = func(s string, more int) {
		checkParse(t, s)
		if more > 0 {
			for _, p := range parts {
				grow(s+p, more-1)
			}
		}
	}
	grow("", 4)
}

// P10.1: Parse, of all texts with one byte that is another, and of bytes ahead, behind and left out.
func TestParseNear(t *testing.T) {
	for _, text := range texts {
		checkParse(t, text)
		for place := range 3 {
			checkParse(t, text[:place]+text[place+1:])
			for b := range 256 {
				c := string([]byte{byte(b)})
				checkParse(t, text[:place]+c+text[place+1:])
				checkParse(t, text[:place]+c+text[place:])
				checkParse(t, text+c)
				// A character whose lowest byte is a sign's is none.
				checkParse(t, text[:place]+string(rune(0x100+b))+text[place+1:])
			}
		}
		checkParse(t, strings.ToUpper(text))
		checkParse(t, text+text)
		checkParse(t, strings.Repeat(text, 1000))
	}
}

// plainLeaf is what the chapter says of a leaf, errors in the promise's order.
func plainLeaf(level int, out uint64, r int) (desc.Desc, api.Errno) {
	if level < 1 || level > 3 || r < 0 || r > 7 {
		return desc.Desc{}, api.ErrRange
	}
	if out%wide(level) != 0 || out >= 1<<48 {
		return desc.Desc{}, api.ErrAlign
	}
	read := has(r, 1)
	return desc.Desc{Kind: kindOf(level), Out: out, User: read, Write: read && has(r, 2), Exec: read && has(r, 4), Used: true}, api.OK
}

func checkLeaf(t *testing.T, level int, out uint64, r int) {
	t.Helper()
	want, wantE := plainLeaf(level, out, r)
	if d, e := Leaf(level, out, r); d != want || e != wantE {
		t.Fatalf("Leaf(%d, %#x, %d): %+v %d, not %+v %d", level, out, r, d, e, want, wantE)
	}
}

// P10.2: Leaf, of all levels, rights and addresses.
func TestLeaf(t *testing.T) {
	for level := 1; level <= 3; level++ {
		for _, out := range outs() {
			for r := range 8 {
				checkLeaf(t, level, out, r)
			}
		}
	}
}

// P10.2: at a level or with rights that are none it is ErrRange, ahead of ErrAlign.
func TestLeafOfWrong(t *testing.T) {
	for _, out := range []uint64{0, 1, 8, 0x1000, 0x40000000, 1 << 47, 1 << 48, all} {
		for _, level := range wrongLevels {
			for _, r := range numbers() {
				checkLeaf(t, level, out, r)
			}
		}
		for level := 1; level <= 3; level++ {
			for _, r := range wrongRights {
				checkLeaf(t, level, out, r)
			}
		}
	}
}

// P10.2: each leaf is a right descriptor of its level, says the same when it is read again, and gives no more than its rights.
func TestLeafIsRight(t *testing.T) {
	gives := []int{0, 1, 0, 3, 0, 5, 0, 7}
	for level := 1; level <= 3; level++ {
		for r := range 8 {
			d, e := Leaf(level, 5*wide(level), r)
			w, encoded := desc.Encode(level, d)
			back, decoded := desc.Decode(level, w)
			if e != api.OK || encoded != api.OK || decoded != api.OK || back != d {
				t.Error(level, r, d, back)
			}
			if got := Of(d); got != gives[r] || !Within(got, r) {
				t.Error(level, r, got)
			}
		}
	}
}

// P10.2: Of, of each kind with all flags: what accesses are let through of a leaf, and 0 of others.
func TestOf(t *testing.T) {
	for _, kind := range []int{desc.Block, desc.Page} {
		for _, d := range descs(kind) {
			want := 0
			for access, one := range map[int]int{virt.Load: Read, virt.Store: Write, virt.Fetch: Exec} {
				if virt.Let(d, 3, access) == (virt.Fault{}) {
					want += one
				}
			}
			if got := Of(d); got != want {
				t.Errorf("%+v: %d, not %d", d, got, want)
			}
		}
	}
	for _, kind := range []int{desc.Invalid, desc.Table, -1, 4, 6, 1 << 32, 1<<32 + 3, math.MinInt, math.MaxInt} {
		for _, d := range descs(kind) {
			if got := Of(d); got != 0 {
				t.Errorf("%+v: %d", d, got)
			}
		}
	}
}

// P10.2: the rights of leaves, by the chapter's words: User, with Write and with Exec, if it is Used.
func TestOfFlags(t *testing.T) {
	for _, kind := range []int{desc.Block, desc.Page} {
		for f, want := range []int{0, 1, 0, 3, 0, 5, 0, 7} {
			d := desc.Desc{Kind: kind, Out: 0x40000000, User: f&1 != 0, Write: f&2 != 0, Exec: f&4 != 0, Used: true}
			if got := Of(d); got != want {
				t.Errorf("%+v: %d, not %d", d, got, want)
			}
			d.Used = false
			if got := Of(d); got != 0 {
				t.Errorf("%+v: %d", d, got)
			}
		}
	}
}
