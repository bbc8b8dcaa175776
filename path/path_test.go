package path

import (
	"math"
	"math/rand"
	"testing"

	"portreeve/api"
	"portreeve/cap"
	"portreeve/slot"
)

// noNodes are capabilities that are no right Nodes: other kinds, and Nodes that aren't right.
var noNodes = []cap.Cap{
	{},
	{Kind: cap.Control},
	{Kind: cap.Untyped, At: 0x100, Bits: 5},
	{Kind: cap.Frame, At: 0x1000, Bits: 12, Rights: 7},
	{Kind: cap.Table, At: 0x1000, Bits: 12, Guard: 2, Asid: 1},
	{Kind: cap.Space, At: 0x1000, Bits: 12},
	{Kind: cap.Pool, At: 0x1000, Bits: 12},
	{Kind: cap.Thread, At: 0x100, Bits: 7},
	{Kind: cap.Note, At: 0x100, Bits: 5},
	{Kind: cap.Zombie, At: 0x100, Bits: 2},
	{Kind: cap.Zombie, At: 0x100, Bits: 2, Mark: 1},
	{Kind: 11, At: 0x100, Bits: 2},
	{Kind: -1, At: 0x100, Bits: 2},
	{Kind: cap.Node, At: 0x100},
	{Kind: cap.Node, At: 0x100, Bits: -1},
	{Kind: cap.Node, Bits: 13},
	{Kind: cap.Node, At: 0x120, Bits: 2},
	{Kind: cap.Node, At: 0x110, Bits: 1},
	{Kind: cap.Node, At: 1 << 32, Bits: 2},
	{Kind: cap.Node, At: 0x100, Bits: 2, Guard: 63},
	{Kind: cap.Node, At: 0x100, Bits: 2, Guard: -1},
	{Kind: cap.Node, At: 0x100, Bits: 2, Guard: math.MinInt},
	{Kind: cap.Node, At: 0x100, Bits: 2, Mark: 1},
	{Kind: cap.Node, At: 0x100, Bits: 2, Guard: 2, Mark: 4},
	{Kind: cap.Node, At: 0x100, Bits: 2, Rights: 1},
	{Kind: cap.Node, At: 0x100, Bits: 2, Asid: 1},
}

// wrongBits are no numbers of bits.
var wrongBits = []int{math.MinInt, -1 << 32, -64, -1, 0, 65, 66, 128, 1<<32 + 8, math.MaxInt}

// The document's example.
func TestExample(t *testing.T) {
	w := start(t, size)
	root := cap.Cap{Kind: cap.Node, At: 0x100, Bits: 2, Guard: 62}
	if at, left, e := Walk(w.x, root, 3, 64); at != 0x160 || left != 0 || e != api.OK {
		t.Error(at, left, e)
	}
	if at, left, e := Walk(w.x, root, 3, 62); at != 0 || left != 0 || e != api.ErrLookup {
		t.Error(at, left, e)
	}
}

// smallNodes are all Nodes of few bits at an address.
func smallNodes(at uint64) []cap.Cap {
	var l []cap.Cap
	for radix := 1; radix <= 3; radix++ {
		for guard := 0; guard <= 3; guard++ {
			for mark := range uint64(1) << guard {
				l = append(l, node(at, radix, digits(mark, guard)))
			}
		}
	}
	return l
}

// P14.1, P14.2: all Nodes of few bits, all numbers of few bits, whatever is above these.
func TestOneNode(t *testing.T) {
	w := start(t, size)
	w.unchanged(t, func() {
		for _, c := range smallNodes(0x400) {
			for bits := -1; bits <= 8; bits++ {
				for number := range uint64(1) << max(bits, 1) {
					got := w.ask(t, c, number, bits)
					if high := w.ask(t, c, number|all<<max(bits, 0), bits); high != got {
						t.Fatal(c, number, bits, got, high)
					}
				}
			}
		}
	})
}

// P14.1, P14.2: two Nodes of few bits, one in each slot of the other.
func TestTwoNodes(t *testing.T) {
	for _, inner := range smallNodes(0x800) {
		w := start(t, size)
		w.lay(t, 0x420, inner)
		w.lay(t, 0x440, cap.Cap{Kind: cap.Zombie, At: 0x800, Bits: 3})
		w.lay(t, 0x460, cap.Cap{Kind: cap.Thread, At: 0x800, Bits: 7})
		w.lay(t, 0x820, cap.Cap{Kind: cap.Untyped, At: 0x1000, Bits: 12})
		for _, outer := range []cap.Cap{node(0x400, 1, ""), node(0x400, 2, "1"), node(0x400, 3, "0")} {
			for bits := 1; bits <= 10; bits++ {
				for number := range uint64(1) << bits {
					w.ask(t, outer, number, bits)
				}
			}
		}
	}
}

// P14.1, P14.2: the errors, one ahead of the other.
func TestWalkErrors(t *testing.T) {
	w := start(t, size)
	good := node(0x100, 2, "10")
	w.unchanged(t, func() {
		for _, bits := range wrongBits {
			for _, c := range append(noNodes, good) {
				if a := w.told(c, 9, bits); a != (answer{e: api.ErrRange, f: api.ErrRange}) {
					t.Error(c, bits, a)
				}
			}
		}
		for _, c := range noNodes {
			for _, bits := range []int{1, 2, 4, 64} {
				if a := w.told(c, 9, bits); a != (answer{e: api.ErrKind, f: api.ErrKind}) {
					t.Error(c, bits, a)
				}
			}
		}
		for _, n := range []struct {
			number uint64
			bits   int
		}{{9, 1}, {9, 3}, {13, 4}, {1, 4}, {9, 5}, {9, 64}, {all, 64}} {
			if a := w.told(good, n.number, n.bits); a != (answer{e: api.ErrLookup, f: api.ErrLookup, steps: 1}) {
				t.Error(n, a)
			}
		}
		if a := w.told(good, 9<<60, 64); a != (answer{at: 0x120, left: 60, f: api.ErrLookup, steps: 1}) {
			t.Error(a)
		}
		if a := w.told(good, 9, 4); a != (answer{at: 0x120, found: 0x120, steps: 1}) {
			t.Error(a)
		}
	})
}

// P14.2: a walk round and round ends: each Node takes at least one bit.
func TestRound(t *testing.T) {
	w := start(t, size)
	itself := node(0x100, 1, "")
	w.lay(t, 0x100, itself)
	w.lay(t, 0x120, node(0x140, 1, "1"))
	w.lay(t, 0x140, node(0x140, 1, ""))
	w.lay(t, 0x160, itself)
	for bits := 1; bits <= 64; bits++ {
		if a := w.ask(t, itself, 0, bits); a != (answer{at: 0x100, found: 0x100, steps: bits}) {
			t.Error(bits, a)
		}
		if a := w.ask(t, itself, all, bits); a.steps > bits || a.e != api.OK && a.e != api.ErrLookup {
			t.Error(bits, a)
		}
	}
	r := rand.New(rand.NewSource(1))
	for range 5000 {
		bits := 1 + r.Intn(64)
		if a := w.ask(t, itself, r.Uint64(), bits); a.steps < 1 || a.steps > bits {
			t.Error(bits, a)
		}
	}
}

// P14.1: Nodes with as many bits as there are.
func TestWideNodes(t *testing.T) {
	w := start(t, 1<<32)
	for _, c := range []cap.Cap{
		node(0x40, 1, digits(all, 63)),
		node(0x40, 1, digits(0, 63)),
		node(0x40, 1, digits(1<<62|1, 63)),
		node(0x20000, 12, digits(0x8765432100001, 52)),
		node(1<<32-0x20000, 12, ""),
		node(1<<32-0x40, 1, digits(5, 9)),
		node(0, 1, ""),
	} {
		for n := range uint64(1) << c.Bits {
			number := c.Mark<<c.Bits | n
			have := c.Guard + c.Bits
			if a := w.ask(t, c, number, have); a != (answer{at: c.At + 32*n, found: c.At + 32*n, steps: 1}) {
				t.Fatal(c, n, a)
			}
			w.ask(t, c, number, have-1)
			for bit := c.Bits; bit < have; bit++ {
				if a := w.ask(t, c, number^1<<bit, have); a != (answer{e: api.ErrLookup, f: api.ErrLookup, steps: 1}) {
					t.Fatal(c, n, bit, a)
				}
			}
			if have < 64 {
				w.ask(t, c, number<<(64-have), 64)
			}
		}
	}
}

// P14.1: a slot that isn't one of the tree ends a walk: behind the memory, with words that are none.
func TestNoSlotOfTheTree(t *testing.T) {
	w := start(t, size)
	w.lay(t, 0x120, node(size-0x80, 2, ""))
	w.lay(t, 0x140, node(1<<31, 2, ""))
	w.lay(t, size-0x20, node(size, 1, "0"))
	w.m.Write(0x160, all)
	w.m.Write(0x168, all)
	root := node(0x100, 2, "")
	w.unchanged(t, func() {
		for number := range uint64(1) << 10 {
			for bits := 1; bits <= 10; bits++ {
				w.ask(t, root, number, bits)
			}
		}
	})
	if a := w.told(root, 2<<4|3<<2, 6); a != (answer{at: 1<<31 + 0x60, left: 2, f: api.ErrLookup, steps: 2}) {
		t.Error(a)
	}
	if a := w.told(root, 3<<2|2, 4); a != (answer{at: 0x160, left: 2, f: api.ErrLookup, steps: 1}) {
		t.Error(a)
	}
}

// P14.1: the slot's capability as it is now counts, not as it once was.
func TestChanged(t *testing.T) {
	w := start(t, size)
	root := node(0x100, 2, "")
	w.lay(t, 0x120, node(0x200, 2, ""))
	if a := w.ask(t, root, 1<<2|3, 4); a.found != 0x260 {
		t.Error(a)
	}
	w.x.Set(0x120, node(0x300, 1, "1"))
	w.laid[0x120] = node(0x300, 1, "1")
	if a := w.ask(t, root, 1<<2|3, 4); a.found != 0x320 {
		t.Error(a)
	}
	w.x.Remove(0x120)
	delete(w.laid, 0x120)
	if a := w.ask(t, root, 1<<2|3, 4); a != (answer{at: 0x120, left: 2, f: api.ErrLookup, steps: 1}) {
		t.Error(a)
	}
	// Words that nobody gave to the tree, but that are a right slot, have its capability.
	slot.Store(w.m, 0x120, slot.Slot{Cap: node(0x200, 2, "")})
	w.laid[0x120] = node(0x200, 2, "")
	w.ask(t, root, 1<<2|3, 4)
}

// some is a capability for a slot: mostly a Node, in the memory, at its end or behind it.
func some(r *rand.Rand) cap.Cap {
	switch r.Intn(8) {
	case 0:
		return cap.Cap{Kind: cap.Zombie, At: 0x400, Bits: 1 + r.Intn(4)}
	case 1:
		return cap.Cap{Kind: cap.Thread, At: 0x400, Bits: 7}
	}
	radix := 1 + r.Intn(4)
	unit := uint64(32) << radix
	at := uint64(r.Intn(4)) * 0x200
	if r.Intn(8) == 0 {
		at = uint64(size) - unit*uint64(r.Intn(2))
	}
	return node(at, radix, guardOf(r, r.Intn(4)))
}

// guided is a number that leads through many Nodes, and its bits.
func (w *world) guided(r *rand.Rand, root cap.Cap) (uint64, int) {
	text, c := "", root
	for isNode(c) && r.Intn(12) > 0 {
		index := r.Uint64() % (1 << c.Bits)
		more := digits(c.Mark, c.Guard) + digits(index, c.Bits)
		if len(text)+len(more) > 64 {
			break
		}
		text += more
		c = w.laid[c.At+32*index]
	}
	n := r.Intn(min(65-len(text), 6))
	text += guardOf(r, n)
	return value(text), len(text)
}

// P14.1, P14.2: many Nodes that lead to each other.
func TestManyNodes(t *testing.T) {
	r := rand.New(rand.NewSource(14))
	ends, deep := map[api.Errno]int{}, 0
	for range 150 {
		w := start(t, size)
		for at := uint64(0x20); at < 0xa00; at += 32 {
			if r.Intn(4) > 0 {
				w.lay(t, at, some(r))
			}
		}
		root := some(r)
		w.unchanged(t, func() {
			for range 100 {
				number, bits := w.guided(r, root)
				a := w.ask(t, root, number, bits)
				ends[a.f]++
				deep = max(deep, a.steps)
				w.ask(t, root, number^1<<r.Intn(64), bits)
				w.ask(t, root, r.Uint64(), r.Intn(67)-1)
			}
		})
	}
	if ends[api.OK] < 1000 || ends[api.ErrLookup] < 1000 || ends[api.ErrKind] < 1000 || deep < 10 {
		t.Error(ends, deep)
	}
}
