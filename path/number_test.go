package path

import (
	"math"
	"math/rand"
	"testing"

	"portreeve/api"
	"portreeve/cap"
)

// someNodes are Nodes with few and many bits, at both ends of what may be memory.
func someNodes() []cap.Cap {
	return append(smallNodes(0x400),
		node(0, 1, ""),
		node(0, 12, digits(all, 52)),
		node(0x40, 1, digits(all, 63)),
		node(0x40, 1, digits(0, 63)),
		node(0x40, 1, digits(1, 62)),
		node(0x20000, 12, ""),
		node(1<<32-0x20000, 12, digits(0x5555, 51)),
		node(1<<32-0x40, 1, digits(1, 31)),
		node(1<<32-0x40, 1, digits(2, 32)),
	)
}

// P14.2: a Node's slots.
func TestSlot(t *testing.T) {
	for _, c := range someNodes() {
		count := 1
		for range c.Bits {
			count *= 2
		}
		for n := range count {
			if at, e := Slot(c, n); at != c.At+uint64(n)*32 || e != api.OK {
				t.Fatal(c, n, at, e)
			}
		}
		for _, n := range []int{math.MinInt, -1 << 32, -count, -1, count, count + 1, 1 << 27, 1 << 32, 1<<32 + 1, 1 << 59, math.MaxInt} {
			if at, e := Slot(c, n); at != 0 || e != api.ErrRange {
				t.Error(c, n, at, e)
			}
		}
	}
	for _, c := range noNodes {
		for _, n := range []int{math.MinInt, -1, 0, 1, 4, math.MaxInt} {
			if at, e := Slot(c, n); at != 0 || e != api.ErrKind {
				t.Error(c, n, at, e)
			}
		}
	}
}

// plainNumber is the chapter's number of a slot, by its digits.
func plainNumber(c cap.Cap, at uint64) (string, api.Errno) {
	if !isNode(c) {
		return "", 20
	}
	if at%32 != 0 {
		return "", 13
	}
	for n := range uint64(1) << c.Bits {
		if c.At+32*n == at {
			return digits(c.Mark, c.Guard) + digits(n, c.Bits), 0
		}
	}
	return "", 12
}

// near are addresses in a capability's object and about it.
func near(c cap.Cap) []uint64 {
	end := c.At + 32<<max(min(c.Bits, 12), 0)
	return []uint64{c.At, c.At + 1, c.At + 8, c.At + 16, c.At + 31, c.At + 32, c.At + 33, c.At + 63, c.At - 32, c.At - 1, c.At - 64,
		end - 32, end - 31, end - 1, end, end + 1, end + 32, 0, 1, 32, 1<<32 + c.At, 1<<63 + c.At, 1<<37 + c.At, 1 << 32, all, all - 31, all - 63}
}

// P14.3: the number of a slot.
func TestNumber(t *testing.T) {
	w := start(t, 1<<32)
	for _, c := range append(someNodes(), noNodes...) {
		ats := near(c)
		for i := range c.Slots() {
			ats = append(ats, c.At+32*uint64(i))
		}
		for _, at := range ats {
			want, f := plainNumber(c, at)
			number, bits, e := Number(c, at)
			if number != value(want) || bits != len(want) || e != f {
				t.Fatalf("%v: %#x: %#x %d %d, not %s %d", c, at, number, bits, e, want, f)
			}
			if e != api.OK {
				continue
			}
			if a := w.told(c, number, bits); a != (answer{at: at, found: at, steps: 1}) {
				t.Fatal(c, at, number, bits, a)
			}
		}
	}
}

// P14.3: each error ahead of the next one.
func TestNumberErrors(t *testing.T) {
	c := node(0x400, 2, "10")
	for _, x := range []struct {
		c  cap.Cap
		at uint64
		e  api.Errno
	}{
		{cap.Cap{}, 0x401, api.ErrKind}, {cap.Cap{Kind: cap.Zombie, At: 0x400, Bits: 2}, 0x400, api.ErrKind},
		{cap.Cap{Kind: cap.Thread, At: 0x400, Bits: 7}, 0x420, api.ErrKind}, {cap.Cap{Kind: cap.Node, At: 0x400}, 0x3e1, api.ErrKind},
		{c, 0x3ff, api.ErrAlign}, {c, 0x490, api.ErrAlign}, {c, 0x408, api.ErrAlign}, {c, all, api.ErrAlign},
		{c, 0x3e0, api.ErrRange}, {c, 0x480, api.ErrRange}, {c, 0, api.ErrRange}, {c, 1<<32 + 0x400, api.ErrRange}, {c, all - 31, api.ErrRange},
	} {
		if number, bits, e := Number(x.c, x.at); number != 0 || bits != 0 || e != x.e {
			t.Error(x, number, bits, e)
		}
	}
	if number, bits, e := Number(c, 0x460); number != 11 || bits != 4 || e != api.OK {
		t.Error(number, bits, e)
	}
}

// plainUnder is the chapter's number of a slot under another one, by its digits.
func plainUnder(outer cap.Cap, at uint64, inner cap.Cap, slot uint64) (string, api.Errno) {
	first, e := plainNumber(outer, at)
	if e != 0 {
		return "", e
	}
	second, e := plainNumber(inner, slot)
	if e != 0 {
		return "", e
	}
	if len(first+second) > 64 {
		return "", 11
	}
	return first + second, 0
}

// P14.3: the number of a slot under another one, and the errors in their order.
func TestUnder(t *testing.T) {
	outers := append(append(smallNodes(0x400)[:9], someNodes()[len(smallNodes(0x400)):]...), cap.Cap{}, cap.Cap{Kind: cap.Zombie, At: 0x400, Bits: 1})
	inners := append(append(smallNodes(0x800)[8:20], someNodes()[len(smallNodes(0x400)):]...), noNodes...)
	seen := map[api.Errno]int{}
	for _, outer := range outers {
		for _, inner := range inners {
			for _, at := range near(outer) {
				for _, slot := range near(inner) {
					want, f := plainUnder(outer, at, inner, slot)
					number, bits, e := Under(outer, at, inner, slot)
					if number != value(want) || bits != len(want) || e != f {
						t.Fatalf("%v %#x, %v %#x: %#x %d %d, not %s %d", outer, at, inner, slot, number, bits, e, want, f)
					}
					seen[e]++
				}
			}
		}
	}
	for _, e := range []api.Errno{api.OK, api.ErrKind, api.ErrAlign, api.ErrRange, api.ErrSize} {
		if seen[e] < 100 {
			t.Error(e, seen[e])
		}
	}
}

// P14.3: both numbers together have at most 64 bits.
func TestUnderSize(t *testing.T) {
	for high := 1; high <= 64; high++ {
		for low := 1; low <= 64; low++ {
			outer, inner := node(0x400, 1, digits(all, high-1)), node(0x800, 1, digits(all, low-1))
			number, bits, e := Under(outer, 0x420, inner, 0x800)
			if high+low > 64 {
				if number != 0 || bits != 0 || e != api.ErrSize {
					t.Error(high, low, number, bits, e)
				}
			} else if number != all>>(64-high-low)-1 || bits != high+low || e != api.OK {
				t.Error(high, low, number, bits, e)
			}
		}
	}
}

// P14.3: the outer Node resolves the number to the slot, if its slot has the inner one.
func TestUnderResolved(t *testing.T) {
	r := rand.New(rand.NewSource(3))
	for range 2000 {
		w := start(t, size)
		outer := node(0x2000, 1+r.Intn(7), guardOf(r, r.Intn(28)))
		inner := node(0x4000, 1+r.Intn(7), guardOf(r, r.Intn(24)))
		at, _ := Slot(outer, r.Intn(outer.Slots()))
		slot, _ := Slot(inner, r.Intn(inner.Slots()))
		w.lay(t, at, inner)
		number, bits, e := Under(outer, at, inner, slot)
		if e != api.OK {
			t.Fatal(outer, at, inner, slot, e)
		}
		if a := w.ask(t, outer, number, bits); a != (answer{at: slot, found: slot, steps: 2}) {
			t.Fatal(outer, at, inner, slot, a)
		}
	}
}
