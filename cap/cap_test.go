package cap

import (
	"fmt"
	"math"
	"math/big"
	"math/rand"
	"strconv"
	"strings"
	"testing"

	"portreeve/api"
)

const all = ^uint64(0)

// kindNames are the chapter's names, by the kinds' numbers.
var kindNames = strings.Fields("null untyped node frame table space control pool thread note zombie")

// size is the chapter's Size of a kind and its Bits; false where there is no such one.
func size(c Cap) (int, bool) {
	among := func(l ...int) bool {
		for _, x := range l {
			if x == c.Bits {
				return true
			}
		}
		return false
	}
	switch c.Kind {
	case 1:
		return c.Bits, 5 <= c.Bits && c.Bits <= 32
	case 2, 10:
		return c.Bits + 5, 1 <= c.Bits && c.Bits <= 12
	case 3:
		return c.Bits, among(12, 21, 30)
	case 4, 5, 7:
		return c.Bits, among(12)
	case 8:
		return c.Bits, among(7)
	case 9:
		return c.Bits, among(5)
	}
	return 0, false
}

// two is 2^n.
func two(n int) *big.Int { return new(big.Int).Lsh(big.NewInt(1), uint(n)) }

func number(w uint64) *big.Int { return new(big.Int).SetUint64(w) }

// divides tells whether 2^n divides a word.
func divides(w uint64, n int) bool {
	return new(big.Int).Rem(number(w), two(n)).Sign() == 0
}

// placed tells whether 2^bits bytes may lie at an address.
func placed(at uint64, bits int) bool {
	end := new(big.Int).Add(number(at), two(bits))
	return divides(at, bits) && end.Cmp(two(32)) <= 0
}

// covers are how many bits the entries of the levels 0 to 3 cover.
var covers = []int{39, 30, 21, 12}

// rightly is the chapter's table, without a call of the program.
func rightly(c Cap) bool {
	if c.Kind == 0 || c.Kind == 6 {
		return c.At == 0 && c.Bits == 0 && c.Rights == 0 && c.Guard == 0 && c.Asid == 0 && c.Mark == 0
	}
	bits, ok := size(c)
	if !ok || !placed(c.At, bits) {
		return false
	}
	low := func(n int) bool { return number(c.Mark).Cmp(two(48)) < 0 && divides(c.Mark, n) }
	var rights, guard, asid, mark bool
	switch c.Kind {
	case 1:
		mark = number(c.Mark).Cmp(two(c.Bits)) <= 0 && c.Mark%32 == 0
	case 2:
		guard = c.Guard >= 0 && c.Guard+c.Bits <= 64 && c.Guard <= 63
		mark = guard && number(c.Mark).Cmp(two(c.Guard)) < 0
	case 3:
		rights = c.Rights >= 0 && c.Rights <= 7
		asid = c.Asid >= 0 && c.Asid <= 4095
		mark = c.Asid != 0 && low(c.Bits)
	case 4:
		guard = c.Asid != 0 && c.Guard >= 1 && c.Guard <= 3
		asid = guard && c.Asid >= 0 && c.Asid <= 4095
		mark = guard && low(covers[c.Guard-1])
	case 5:
		asid = c.Asid >= 0 && c.Asid <= 4095
	case 7:
		mark = c.Mark <= 7
	case 9:
		rights = c.Rights >= 0 && c.Rights <= 3
		mark = true
	case 10:
		mark = number(c.Mark).Cmp(two(c.Bits)) <= 0
	}
	return (rights || c.Rights == 0) && (guard || c.Guard == 0) && (asid || c.Asid == 0) && (mark || c.Mark == 0)
}

// Edges of each number: those that the chapter names, their neighbours, and far ones.
var (
	kindEdges = []int{math.MinInt, -1, 0, 1, 2, 3, 4, 5, 6, 7, 8, 9, 10, 11, 12, 15, 16, 17, 1 << 32, 1<<32 + 1, math.MaxInt}
	bitsEdges = []int{math.MinInt, -64, -33, -5, -1, 0, 1, 2, 3, 4, 5, 6, 7, 8, 11, 12, 13, 16, 20, 21, 22, 26, 27, 28, 29, 30, 31, 32, 33, 38, 39,
		40, 59, 63, 64, 65, 69, 76, 1<<32 + 7, 1<<32 + 12, math.MaxInt - 5, math.MaxInt - 4, math.MaxInt}
	rightsEdges = []int{math.MinInt, -1, 0, 1, 2, 3, 4, 5, 6, 7, 8, 9, 11, 1 << 32, 1<<32 + 1, math.MaxInt}
	guardEdges  = []int{math.MinInt, -63, -1, 0, 1, 2, 3, 4, 5, 10, 32, 51, 52, 53, 58, 59, 60, 61, 62, 63, 64, 65, 66, 1 << 32, 1<<32 + 1, math.MaxInt}
	asidEdges   = []int{math.MinInt, -4096, -1, 0, 1, 2, 511, 512, 4094, 4095, 4096, 4097, 65535, 65536, 65537, 1 << 32, 1<<32 + 1, math.MaxInt}
)

// wordEdges are both sides of each power of two, and some others.
func wordEdges() []uint64 {
	l := []uint64{0, 3, 5, 6, 7, 9, 24, 33, 40, 96, 0x3000, 0x600000, 0xc0000000, 3 << 39, 1<<48 - 1<<39, 1<<48 - 1<<30, 1<<48 - 1<<21, 1<<48 - 1<<12,
		1<<48 | 1<<39, 1<<32 - 1<<12, 1<<32 - 1<<7, 1<<32 - 1<<21, 1<<32 - 1<<30, 1<<32 - 1<<31, 1<<32 + 1<<30, all - 31, all - 4095, all}
	for n := range 64 {
		at := uint64(1) << uint(n)
		l = append(l, at-1, at, at+1, at+32, at+1<<12, -at, 1<<32-at)
	}
	return l
}

// rights are right capabilities of all kinds, among them the least, the greatest and the ones with all parts.
func rights() []Cap {
	l := []Cap{
		{},
		{Kind: Control},
		{Kind: Untyped, Bits: 5}, {Kind: Untyped, Bits: 5, Mark: 32}, {Kind: Untyped, At: 1<<32 - 32, Bits: 5}, {Kind: Untyped, Bits: 32, Mark: 1 << 32},
		{Kind: Untyped, At: 1 << 31, Bits: 31, Mark: 1<<31 - 32}, {Kind: Untyped, At: 0x10000, Bits: 16, Mark: 64},
		{Kind: Frame, Bits: 12}, {Kind: Frame, At: 1<<32 - 1<<12, Bits: 12, Rights: 7, Asid: 4095, Mark: 1<<48 - 1<<12},
		{Kind: Frame, At: 0x200000, Bits: 21, Rights: 5, Asid: 1, Mark: 0x600000}, {Kind: Frame, At: 0xc0000000, Bits: 30, Rights: 1, Asid: 512},
		{Kind: Table, At: 0x1000, Bits: 12}, {Kind: Table, At: 0x1000, Bits: 12, Guard: 1, Asid: 7, Mark: 1 << 39},
		{Kind: Table, At: 0x2000, Bits: 12, Guard: 2, Asid: 4095, Mark: 1 << 30}, {Kind: Table, At: 0x3000, Bits: 12, Guard: 3, Asid: 1, Mark: 1 << 21},
		{Kind: Space, Bits: 12}, {Kind: Space, At: 0x1000, Bits: 12, Asid: 4095},
		{Kind: Pool, Bits: 12}, {Kind: Pool, At: 0x5000, Bits: 12, Mark: 7},
		{Kind: Thread, Bits: 7}, {Kind: Thread, At: 1<<32 - 128, Bits: 7},
		{Kind: Note, Bits: 5}, {Kind: Note, At: 0x1ffe0, Bits: 5, Rights: 3, Mark: all},
	}
	for bits := 1; bits <= 12; bits++ {
		guard := min(64-bits, 63)
		l = append(l,
			Cap{Kind: Node, At: 1 << 20, Bits: bits}, Cap{Kind: Node, Bits: bits, Guard: guard, Mark: 1<<guard - 1}, Cap{Kind: Node, Bits: bits, Guard: 3, Mark: 5},
			Cap{Kind: Zombie, At: 1 << 31, Bits: bits}, Cap{Kind: Zombie, Bits: bits, Mark: 1 << bits})
	}
	return l
}

// changes tells, for each part of a capability, how many edges it has, and sets one.
func changes(words []uint64) (counts []int, set func(c *Cap, part, i int)) {
	counts = []int{len(kindEdges), len(words), len(bitsEdges), len(rightsEdges), len(guardEdges), len(asidEdges), len(words)}
	return counts, func(c *Cap, part, i int) {
		switch part {
		case 0:
			c.Kind = kindEdges[i]
		case 1:
			c.At = words[i]
		case 2:
			c.Bits = bitsEdges[i]
		case 3:
			c.Rights = rightsEdges[i]
		case 4:
			c.Guard = guardEdges[i]
		case 5:
			c.Asid = asidEdges[i]
		case 6:
			c.Mark = words[i]
		}
	}
}

// each calls for right capabilities, and for these with one or two of their parts set to edges.
func each(call func(c Cap)) {
	counts, set := changes(wordEdges())
	r := rand.New(rand.NewSource(11))
	for _, base := range rights() {
		call(base)
		for part, n := range counts {
			for i := range n {
				one := base
				set(&one, part, i)
				call(one)
				for other, m := range counts {
					// All pairs would be too many: of each edge and part, some are taken.
					for range min(m, 4) {
						both := one
						set(&both, other, r.Intn(m))
						call(both)
					}
				}
			}
		}
	}
}

// words are the two words, put together of sums and products.
func words(c Cap) (uint64, uint64) {
	return uint64(c.Kind) + uint64(c.Bits)*16 + uint64(c.Rights)*1024 + uint64(c.Guard)*8192 + uint64(c.Asid)*524288 + c.At/32*34359738368, c.Mark
}

func TestKinds(t *testing.T) {
	for i, kind := range []int{Null, Untyped, Node, Frame, Table, Space, Control, Pool, Thread, Note, Zombie} {
		if kind != i {
			t.Errorf("the kind %d is %d", i, kind)
		}
	}
}

func TestExample(t *testing.T) {
	c := Cap{Kind: Thread, At: 0x1000, Bits: 7}
	if a, b, e := c.Words(); a != 0x40000000078 || b != 0 || e != api.OK {
		t.Errorf("%#x %#x %d", a, b, e)
	}
	if d, e := Read(0x40000000078, 0); d != c || e != api.OK {
		t.Error(d, e)
	}
}

// P11.1, P11.2: what is right, its words, and what else hangs on being right, held against the chapter's table.
func TestRight(t *testing.T) {
	seen := [2]int{}
	each(func(c Cap) {
		want := rightly(c)
		if got := c.Right(); got != want {
			t.Fatalf("%+v: Right: %t", c, got)
		}
		a, b, e := c.Words()
		bits, end, slots := -1, uint64(0), 0
		if !want {
			seen[0]++
			if a != 0 || b != 0 || e != api.ErrForm {
				t.Fatalf("%+v: Words: %#x %#x %d", c, a, b, e)
			}
		} else {
			seen[1]++
			if x, y := words(c); a != x || b != y || e != api.OK {
				t.Fatalf("%+v: Words: %#x %#x %d", c, a, b, e)
			}
			if d, e := Read(a, b); d != c || e != api.OK {
				t.Fatalf("%+v: Read: %+v %d", c, d, e)
			}
			if c.Kind != Null && c.Kind != Control {
				bits, _ = size(c)
				end = new(big.Int).Add(number(c.At), two(bits)).Uint64()
			}
			switch c.Kind {
			case Node, Zombie:
				slots = int(two(c.Bits).Int64())
			case Thread:
				slots = 2
			}
		}
		if c.Size() != bits || c.End() != end || c.Slots() != slots {
			t.Fatalf("%+v: Size %d, End %#x, Slots %d", c, c.Size(), c.End(), c.Slots())
		}
	})
	if seen[0] < 100000 || seen[1] < 10000 {
		t.Error("too few of a kind:", seen)
	}
}

// read is what two words name, by quotients and remainders; false, if they are no right capability's.
func read(a, b uint64) (Cap, bool) {
	take := func(n uint64) int {
		left := a % n
		a /= n
		return int(left)
	}
	c := Cap{Kind: take(16), Bits: take(64), Rights: take(8), Guard: take(64), Asid: take(65536), Mark: b}
	c.At = a % (1 << 27) * 32
	if a >= 1<<27 || !rightly(c) {
		return Cap{}, false
	}
	return c, true
}

// P11.1: all words one or two bits off from a right capability's, and others.
func TestRead(t *testing.T) {
	check := func(a, b uint64) {
		want, ok := read(a, b)
		got, e := Read(a, b)
		if got != want || (e == api.OK) != ok || e != api.OK && e != api.ErrForm {
			t.Fatalf("Read(%#x, %#x): %+v %d, not %+v %t", a, b, got, e, want, ok)
		}
	}
	for _, c := range rights() {
		a, b := words(c)
		for i := range 128 {
			for j := range i + 1 {
				x, y := a, b
				for _, bit := range []int{i, j} {
					if bit < 64 {
						x ^= 1 << bit
					} else {
						y ^= 1 << (bit - 64)
					}
				}
				check(x, y)
			}
		}
	}
	r := rand.New(rand.NewSource(12))
	for range 200000 {
		check(r.Uint64(), r.Uint64())
		check(r.Uint64()>>2<<47>>r.Intn(48)|uint64(r.Intn(1024)), r.Uint64()>>r.Intn(64))
	}
	for kind := range uint64(16) {
		for bits := range uint64(64) {
			for _, rest := range []uint64{0, 1 << 10, 1 << 13, 1 << 19, 1 << 46, 1 << 61, 1 << 62, 1 << 63} {
				for _, mark := range []uint64{0, 1, 32, all} {
					check(kind+bits<<4+rest, mark)
				}
			}
		}
	}
}

// object is what is named, by the chapter's list.
func object(c Cap) any {
	bits, named := size(c)
	if !named || !rightly(c) {
		return nil
	}
	levels := map[int]int{12: 3, 21: 2, 30: 1}
	switch {
	case c.Kind == 1:
		return Memory{c.At, two(bits).Uint64(), c.Mark}
	case c.Kind == 2:
		return Slots{c.At, c.Bits, c.Guard, c.Mark}
	case c.Kind == 10:
		return Slots{c.At, c.Bits, 0, 0}
	case c.Kind == 3:
		return Stretch{c.At, levels[c.Bits], c.Rights, c.Asid, c.Mark}
	case c.Kind == 4 && c.Asid != 0:
		return Stretch{c.At, c.Guard, 0, c.Asid, c.Mark}
	}
	return Thing{c.At}
}

// P11.3: what is named, of each kind, and nil of what isn't right.
func TestObject(t *testing.T) {
	each(func(c Cap) {
		if got, want := c.Object(), object(c); got != want {
			t.Fatalf("%+v: %#v, not %#v", c, got, want)
		}
	})
	for _, x := range []struct {
		c    Cap
		want any
	}{
		{Cap{}, nil},
		{Cap{Kind: Control}, nil},
		{Cap{Kind: 11}, nil},
		{Cap{Kind: Thread, Bits: 6}, nil},
		{Cap{Kind: Untyped, At: 0x10000, Bits: 16, Mark: 64}, Memory{At: 0x10000, Size: 0x10000, Used: 64}},
		{Cap{Kind: Untyped, Bits: 32, Mark: 1 << 32}, Memory{Size: 1 << 32, Used: 1 << 32}},
		{Cap{Kind: Node, At: 0x100, Bits: 2, Guard: 62, Mark: 5}, Slots{At: 0x100, Radix: 2, Guard: 62, Value: 5}},
		{Cap{Kind: Zombie, At: 0x100, Bits: 2, Mark: 4}, Slots{At: 0x100, Radix: 2}},
		{Cap{Kind: Frame, At: 0x40000000, Bits: 30, Rights: 3}, Stretch{At: 0x40000000, Level: 1, Rights: 3}},
		{Cap{Kind: Frame, At: 0x200000, Bits: 21, Asid: 9, Mark: 0x400000}, Stretch{At: 0x200000, Level: 2, Asid: 9, Va: 0x400000}},
		{Cap{Kind: Frame, At: 0x1000, Bits: 12, Rights: 7}, Stretch{At: 0x1000, Level: 3, Rights: 7}},
		{Cap{Kind: Table, At: 0x1000, Bits: 12}, Thing{At: 0x1000}},
		{Cap{Kind: Table, At: 0x1000, Bits: 12, Guard: 3, Asid: 2}, Stretch{At: 0x1000, Level: 3, Asid: 2}},
		{Cap{Kind: Space, At: 0x1000, Bits: 12, Asid: 2}, Thing{At: 0x1000}},
		{Cap{Kind: Pool, At: 0x1000, Bits: 12, Mark: 2}, Thing{At: 0x1000}},
		{Cap{Kind: Thread, Bits: 7}, Thing{}},
		{Cap{Kind: Note, At: 0x20, Bits: 5, Rights: 1, Mark: 1}, Thing{At: 0x20}},
	} {
		if got := x.c.Object(); got != x.want {
			t.Errorf("%+v: %#v", x.c, got)
		}
	}
}

// P11.4: the names and their kinds, and texts and numbers that are none.
func TestNames(t *testing.T) {
	for kind, name := range kindNames {
		if got := Name(kind); got != name {
			t.Errorf("Name(%d): %q", kind, got)
		}
		if got, ok := Kind(name); got != kind || !ok {
			t.Errorf("Kind(%q): %d %t", name, got, ok)
		}
		for _, wrong := range []string{name + "s", " " + name, name + " ", name + "\x00", strings.ToUpper(name), name[1:], name[:len(name)-1], strings.ToUpper(name[:1]) + name[1:]} {
			if got, ok := Kind(wrong); got != 0 || ok {
				t.Errorf("Kind(%q): %d %t", wrong, got, ok)
			}
		}
	}
	for _, wrong := range []string{"", "0", "10", "capability", "kinds", "nulluntyped", "\xff", "ñode", strings.Repeat("node", 5000)} {
		if got, ok := Kind(wrong); got != 0 || ok {
			t.Errorf("Kind(%q): %d %t", wrong, got, ok)
		}
	}
	for _, wrong := range []int{math.MinInt, math.MinInt32, -11, -1, 11, 12, 15, 16, 64, 1 << 32, 1<<32 + 1, math.MaxInt} {
		if got := Name(wrong); got != "" {
			t.Errorf("Name(%d): %q", wrong, got)
		}
	}
}

// named are right capabilities with objects at many places, and ones that name none or aren't right.
func named() []Cap {
	l := append(rights(), Cap{Kind: 11}, Cap{Kind: -1}, Cap{Kind: Thread, At: 0x1000}, Cap{Kind: Thread, At: 0x1000, Bits: 8}, Cap{Kind: Control, Bits: 5},
		Cap{At: 0x1000}, Cap{Kind: Untyped, At: 0x1000, Bits: 12, Mark: 1}, Cap{Kind: Untyped, At: 1 << 32, Bits: 12}, Cap{Kind: Untyped, At: all - 4095, Bits: 12})
	for _, at := range []uint64{0, 0x1000, 0x1020, 0x1fe0, 0x2000, 0x3000, 0x4000, 1<<32 - 0x1000, 1<<32 - 32} {
		for _, c := range []Cap{
			{Kind: Untyped, Bits: 5}, {Kind: Untyped, Bits: 12}, {Kind: Untyped, Bits: 12, Mark: 64}, {Kind: Untyped, Bits: 13}, {Kind: Untyped, Bits: 14},
			{Kind: Node, Bits: 7}, {Kind: Node, Bits: 7, Guard: 2, Mark: 1}, {Kind: Node, Bits: 8}, {Kind: Zombie, Bits: 7}, {Kind: Zombie, Bits: 7, Mark: 1},
			{Kind: Frame, Bits: 12}, {Kind: Frame, Bits: 12, Rights: 7, Asid: 1, Mark: 0x1000}, {Kind: Frame, Bits: 21}, {Kind: Table, Bits: 12},
			{Kind: Table, Bits: 12, Asid: 1, Guard: 3}, {Kind: Space, Bits: 12}, {Kind: Space, Bits: 12, Asid: 2}, {Kind: Pool, Bits: 12}, {Kind: Pool, Bits: 12, Mark: 1},
			{Kind: Thread, Bits: 7}, {Kind: Note, Bits: 5}, {Kind: Note, Bits: 5, Rights: 1, Mark: 9},
		} {
			c.At = at
			l = append(l, c)
		}
	}
	return l
}

// P11.5: Covers and Same, of all pairs, with big numbers for the ends.
func TestCoversAndSame(t *testing.T) {
	type place struct {
		first, end *big.Int
		size       int
	}
	l := named()
	places := map[Cap]place{}
	for _, c := range l {
		if n, ok := size(c); ok && rightly(c) {
			places[c] = place{number(c.At), new(big.Int).Add(number(c.At), two(n)), n}
		}
	}
	seen := [2]int{}
	for _, c := range l {
		for _, d := range l {
			x, one := places[c]
			y, other := places[d]
			within := one && other && x.first.Cmp(y.first) <= 0 && y.end.Cmp(x.end) <= 0
			same := one && other && c.Kind == d.Kind && x.first.Cmp(y.first) == 0 && x.size == y.size
			if got := c.Covers(d); got != within {
				t.Fatalf("%+v covers %+v: %t", c, d, got)
			}
			if got := c.Same(d); got != same {
				t.Fatalf("%+v same as %+v: %t", c, d, got)
			}
			if within {
				seen[0]++
			}
			if same {
				seen[1]++
			}
		}
	}
	if seen[0] < 500 || seen[1] < 300 {
		t.Error("too few:", seen)
	}
}

// P11.5: Show of each capability, by the parts in their order; nothing of what isn't right.
func TestShow(t *testing.T) {
	each(func(c Cap) {
		want, e := "", api.ErrForm
		if rightly(c) {
			e = api.OK
			want = kindNames[c.Kind]
			for i, w := range []uint64{c.At, uint64(c.Bits), uint64(c.Rights), uint64(c.Guard), uint64(c.Asid), c.Mark} {
				if w == 0 {
					continue
				}
				form := "0x%x"
				if w < 10 {
					form = "%d"
				}
				want += " " + strings.Fields("at bits rights guard asid mark")[i] + "=" + fmt.Sprintf(form, w)
			}
		}
		if got, err := c.Show(); got != want || err != e {
			t.Fatalf("%+v: %q %d, not %q", c, got, err, want)
		}
	})
	for _, x := range []struct {
		c    Cap
		want string
	}{
		{Cap{}, "null"},
		{Cap{Kind: Control}, "control"},
		{Cap{Kind: Untyped, Bits: 5}, "untyped bits=5"},
		{Cap{Kind: Thread, At: 0x1000, Bits: 7}, "thread at=0x1000 bits=7"},
		{Cap{Kind: Table, At: 0x1000, Bits: 12, Guard: 2, Asid: 1, Mark: 1 << 30}, "table at=0x1000 bits=0xc guard=2 asid=1 mark=0x40000000"},
		{Cap{Kind: Frame, At: 0x1000, Bits: 12, Rights: 7, Asid: 10}, "frame at=0x1000 bits=0xc rights=7 asid=0xa"},
		{Cap{Kind: Note, At: 32, Bits: 5, Mark: all}, "note at=0x20 bits=5 mark=0x" + strconv.FormatUint(all, 16)},
	} {
		if got, e := x.c.Show(); got != x.want || e != api.OK {
			t.Errorf("%+v: %q %d", x.c, got, e)
		}
	}
}
