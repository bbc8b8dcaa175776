package tree

import (
	"math/rand"
	"slices"
	"testing"

	"portreeve/api"
	"portreeve/cap"
	"portreeve/phys"
	"portreeve/slot"
)

const (
	all  = ^uint64(0)
	size = 1 << 16
)

func thread(n uint64) cap.Cap { return cap.Cap{Kind: cap.Thread, At: n * 128, Bits: 7} }

// caps are right capabilities that a slot may have.
var caps = []cap.Cap{
	{Kind: cap.Control},
	{Kind: cap.Untyped, Bits: 32, Mark: 1 << 32},
	{Kind: cap.Node, At: 0x100, Bits: 1, Guard: 63, Mark: 1<<63 - 1},
	{Kind: cap.Frame, At: 0x40000000, Bits: 30, Rights: 7, Asid: 4095, Mark: 1<<48 - 1<<30},
	{Kind: cap.Table, At: 0x3000, Bits: 12, Guard: 3, Asid: 1, Mark: 1 << 21},
	{Kind: cap.Space, At: 0x1000, Bits: 12, Asid: 7},
	{Kind: cap.Pool, Bits: 12, Mark: 7},
	{Kind: cap.Thread, At: 1<<32 - 128, Bits: 7},
	{Kind: cap.Note, At: 0x20, Bits: 5, Rights: 3, Mark: all},
	{Kind: cap.Zombie, At: 0x40, Bits: 1, Mark: 2},
}

// wrongCaps are others: a Null, and some that aren't right.
var wrongCaps = []cap.Cap{
	{},
	{Kind: 11},
	{Kind: -1},
	{At: 0x20},
	{Mark: 1},
	{Kind: cap.Control, Mark: 1},
	{Kind: cap.Untyped, Bits: 5, Mark: 33},
	{Kind: cap.Thread, At: 1 << 32, Bits: 7},
	{Kind: cap.Thread, At: 0x1040, Bits: 7},
	{Kind: cap.Note, At: 0x20, Bits: 5, Rights: 4},
}

// noSlots are addresses at which no slot of a memory of the size lies.
var noSlots = []uint64{1, 8, 16, 31, 33, 0x108, 0x11f, size - 1, size - 8, size - 31, size, size + 8, size + 32, 1 << 31, 1 << 32, 1<<32 + 32, 1<<32 + 0x100, 1 << 37, 1 << 63, 1<<63 + 0x100, all, all - 7, all - 31}

// fill writes four words.
func fill(t *testing.T, m *phys.Memory, at uint64, w ...uint64) {
	t.Helper()
	for i, v := range w {
		if e := m.Write(at+8*uint64(i), v); e != api.OK {
			t.Fatal(e)
		}
	}
}

// The chapter's example.
func TestExample(t *testing.T) {
	const a, b, c = 0x100, 0x120, 0x140
	m, _ := phys.New(size)
	x := New(m)
	for i, e := range []api.Errno{x.Root(a, thread(1)), x.Child(a, b, thread(2)), x.Child(a, c, thread(3))} {
		if e != api.OK {
			t.Error(i, e)
		}
	}
	if got := x.List(); !slices.Equal(got, []uint64{a, c, b}) {
		t.Errorf("%#x", got)
	}
	if e := x.Remove(a); e != api.OK || x.Depth(a) != -1 || x.Depth(b) != 0 || x.Depth(c) != 0 {
		t.Error(e, x.Depth(a), x.Depth(b), x.Depth(c))
	}
	if got := x.List(); !slices.Equal(got, []uint64{c, b}) {
		t.Errorf("%#x", got)
	}
}

// P13.1, P13.4, P13.5: of a tree without slots nothing is told, wherever it is asked.
func TestNew(t *testing.T) {
	b := start(t, size, nil)
	b.check(t, 0, 0x20, 0x100, size-32)
	b.check(t, noSlots...)
	if b.m.Words() != 0 {
		t.Error(b.m.Words())
	}
}

// shapes are all lists of n depths that slots in an order can have.
func shapes(n int) [][]int {
	l := [][]int{{}}
	for range n {
		var longer [][]int
		for _, s := range l {
			most := 0
			if len(s) > 0 {
				most = s[len(s)-1] + 1
			}
			for depth := range most + 1 {
				longer = append(longer, append(slices.Clone(s), depth))
			}
		}
		l = longer
	}
	return l
}

// orders are all orders of n of the addresses.
func orders(ats []uint64, n int) [][]uint64 {
	if n == 0 {
		return [][]uint64{{}}
	}
	var l [][]uint64
	for i, at := range ats {
		rest := slices.Delete(slices.Clone(ats), i, i+1)
		for _, o := range orders(rest, n-1) {
			l = append(l, append([]uint64{at}, o...))
		}
	}
	return l
}

// build makes a tree of an order with depths: what comes last in it is made first.
func build(t *testing.T, order []uint64, depths []int) *both {
	t.Helper()
	b := start(t, size, nil)
	for depth := 0; depth < len(order); depth++ {
		for i := len(order) - 1; i >= 0; i-- {
			if depths[i] != depth {
				continue
			}
			if depth == 0 {
				b.root(t, order[i], thread(order[i]))
				continue
			}
			up := i
			for depths[up] >= depth {
				up--
			}
			b.child(t, order[up], order[i], thread(order[i]))
		}
	}
	if got := b.p.list(false); !slices.Equal(got, order) {
		t.Fatalf("%#x, not %#x", got, order)
	}
	return b
}

// P13.1 to P13.5: every change of every tree of up to four slots.
func TestAllSmall(t *testing.T) {
	ats := []uint64{0x20, 0x40, 0xfe0, 0x1000}
	seen := 0
	for n := range 5 {
		for _, order := range orders(ats, n) {
			for _, depths := range shapes(n) {
				change := func(how func(b *both)) {
					b := build(t, order, depths)
					how(b)
					b.check(t, ats...)
					seen++
				}
				change(func(b *both) { b.check(t, ats...) })
				for _, at := range ats {
					change(func(b *both) { b.root(t, at, thread(7)) })
					change(func(b *both) { b.set(t, at, thread(8)) })
					change(func(b *both) { b.remove(t, at) })
					for _, o := range ats {
						change(func(b *both) { b.child(t, at, o, thread(9)) })
						change(func(b *both) { b.move(t, at, o) })
						change(func(b *both) { b.swap(t, at, o) })
					}
				}
			}
		}
	}
	if seen < 25000 {
		t.Error("too few:", seen)
	}
}

// P13.1 to P13.5: many changes, of all kinds of capabilities, among words that others wrote.
func TestManySteps(t *testing.T) {
	r := rand.New(rand.NewSource(13))
	good := [6]int{}
	for _, places := range []int{3, 12, 60} {
		b := start(t, size, func(m *phys.Memory) {
			// No right slots, at each end, and right beside the ones that are given.
			for _, at := range []uint64{0, 0x60, 0xfe0, 0x2000, size - 64} {
				fill(t, m, at, 15, all, all, all)
			}
		})
		var ats []uint64
		for i := range uint64(places) {
			ats = append(ats, [...]uint64{0x20, 0x40, 0x60, 0xfe0, 0x1000, size - 32, size - 64, 0x8000}[i%8]+i/8*0x80%size)
		}
		ats = append(ats, 0, 0x2000, 0x28, size, all-31)
		any := func() uint64 { return ats[r.Intn(len(ats))] }
		held := func() uint64 {
			if len(b.p.l) == 0 || r.Intn(8) == 0 {
				return any()
			}
			return b.p.l[r.Intn(len(b.p.l))].at
		}
		what := func() cap.Cap {
			if r.Intn(16) == 0 {
				return wrongCaps[r.Intn(len(wrongCaps))]
			}
			return caps[r.Intn(len(caps))]
		}
		for step := range 6000 {
			before := b.m.Copy()
			kind := r.Intn(6)
			switch kind {
			case 0:
				b.root(t, any(), what())
			case 1:
				b.child(t, held(), any(), what())
			case 2:
				b.set(t, held(), what())
			case 3:
				b.move(t, held(), any())
			case 4:
				b.swap(t, held(), held())
			case 5:
				// Fewer of these for a while, so that a tree grows.
				if step/100%4 != 0 && r.Intn(4) != 0 {
					continue
				}
				b.remove(t, held())
			}
			if !b.m.Same(before) {
				good[kind]++
			}
			b.check(t, any(), held(), held())
			if step%64 == 0 {
				b.check(t, ats...)
			}
		}
	}
	for kind, n := range good {
		if n < 300 {
			t.Error("too few changed:", kind, n)
		}
	}
}

// errorTree has slots, empty ones, and words that are no slot's.
func errorTree(t *testing.T) *both {
	t.Helper()
	b := start(t, size, func(m *phys.Memory) {
		fill(t, m, 0x800, 15, 1, 2, 3)
		fill(t, m, 0x820, 0, 0, 0, 4097)
		fill(t, m, 0x840, 0x78, 0, 1<<31, 0)
	})
	b.root(t, 0x100, thread(1))
	b.child(t, 0x100, 0x120, thread(2))
	b.child(t, 0x120, 0x140, thread(3))
	b.root(t, size-32, thread(4))
	return b
}

// P13.1 to P13.5: all calls at slots, at empty ones, at words that are no slot's and at addresses at which none lies, two by two.
func TestPairs(t *testing.T) {
	b := errorTree(t)
	ats := append([]uint64{0, 0x20, 0x160, size - 64, 0x800, 0x820, 0x840, 0x100, 0x120, 0x140, size - 32}, noSlots...)
	b.check(t, ats...)
	before := b.m.Copy()
	change := func(how func()) {
		t.Helper()
		how()
		b.same(t)
		if !b.m.Same(before) {
			b = errorTree(t)
		}
	}
	for _, at := range ats {
		for _, c := range append(slices.Clone(wrongCaps), caps...) {
			change(func() { b.root(t, at, c) })
			change(func() { b.set(t, at, c) })
		}
		change(func() { b.remove(t, at) })
		for _, o := range ats {
			for _, c := range []cap.Cap{{}, {Kind: 11}, thread(5)} {
				change(func() { b.child(t, at, o, c) })
			}
			change(func() { b.move(t, at, o) })
			change(func() { b.swap(t, at, o) })
		}
	}
}

// P13.1 to P13.5: the errors in their order, by numbers that are written out; nothing is changed.
func TestErrors(t *testing.T) {
	const (
		free  = 0x160 // an empty slot
		slot  = 0x120 // one that isn't
		words = 0x800 // words that are no slot's
		askew = 0x108 // no address of a slot
		past  = size  // the first address behind the memory
	)
	null, wrong, ok := cap.Cap{}, cap.Cap{Kind: 11}, thread(5)
	b := errorTree(t)
	x := b.x
	before := b.m.Copy()
	capError := func(at uint64) api.Errno {
		c, e := x.Cap(at)
		if c != (cap.Cap{}) {
			t.Errorf("%#x: %+v", at, c)
		}
		return e
	}
	for i, c := range []struct{ got, want api.Errno }{
		{capError(askew), api.ErrAlign}, {capError(past + 8), api.ErrAlign}, {capError(past), api.ErrRange}, {capError(words), api.ErrForm}, {capError(free), api.OK}, {capError(0), api.OK},
		{x.Root(askew, null), api.ErrAlign}, {x.Root(past+8, null), api.ErrAlign}, {x.Root(past, null), api.ErrRange}, {x.Root(words, ok), api.ErrForm}, {x.Root(slot, null), api.ErrBusy}, {x.Root(slot, wrong), api.ErrBusy},
		{x.Root(0, ok), api.ErrRange}, {x.Root(0, null), api.ErrRange}, {x.Root(free, null), api.ErrForm}, {x.Root(free, wrong), api.ErrForm},
		{x.Child(askew, past, null), api.ErrAlign}, {x.Child(past, askew, null), api.ErrRange}, {x.Child(words, askew, null), api.ErrForm}, {x.Child(free, askew, null), api.ErrNone}, {x.Child(0, askew, null), api.ErrNone}, {x.Child(free, slot, ok), api.ErrNone},
		{x.Child(slot, askew, null), api.ErrAlign}, {x.Child(slot, past, null), api.ErrRange}, {x.Child(slot, 0, null), api.ErrRange}, {x.Child(slot, words, ok), api.ErrForm}, {x.Child(slot, 0x100, null), api.ErrBusy}, {x.Child(slot, slot, ok), api.ErrBusy},
		{x.Child(slot, free, null), api.ErrForm}, {x.Child(slot, free, wrong), api.ErrForm},
		{x.Set(askew, null), api.ErrAlign}, {x.Set(past, null), api.ErrRange}, {x.Set(words, ok), api.ErrForm}, {x.Set(free, null), api.ErrNone}, {x.Set(0, ok), api.ErrNone}, {x.Set(slot, null), api.ErrForm}, {x.Set(slot, wrong), api.ErrForm},
		{x.Move(askew, past), api.ErrAlign}, {x.Move(past, askew), api.ErrRange}, {x.Move(words, askew), api.ErrForm}, {x.Move(free, askew), api.ErrNone}, {x.Move(0, askew), api.ErrNone}, {x.Move(free, free), api.ErrNone}, {x.Move(free, slot), api.ErrNone},
		{x.Move(slot, askew), api.ErrAlign}, {x.Move(slot, past), api.ErrRange}, {x.Move(slot, 0), api.ErrRange}, {x.Move(slot, words), api.ErrForm}, {x.Move(slot, 0x100), api.ErrBusy}, {x.Move(slot, slot), api.ErrBusy},
		{x.Swap(askew, past), api.ErrAlign}, {x.Swap(past, askew), api.ErrRange}, {x.Swap(words, askew), api.ErrForm}, {x.Swap(free, askew), api.ErrNone}, {x.Swap(0, askew), api.ErrNone}, {x.Swap(free, free), api.ErrNone},
		{x.Swap(slot, askew), api.ErrAlign}, {x.Swap(slot, past), api.ErrRange}, {x.Swap(slot, words), api.ErrForm}, {x.Swap(slot, free), api.ErrNone}, {x.Swap(slot, 0), api.ErrNone}, {x.Swap(slot, slot), api.OK},
		{x.Remove(askew), api.ErrAlign}, {x.Remove(past), api.ErrRange}, {x.Remove(words), api.ErrForm}, {x.Remove(free), api.ErrNone}, {x.Remove(0), api.ErrNone},
	} {
		if c.got != c.want {
			t.Errorf("%d: %d, not %d", i, c.got, c.want)
		}
	}
	if !b.m.Same(before) {
		t.Errorf("changed: %#x", b.m.Differ(before, 8))
	}
	b.same(t)
}

// P13.2: the address 0 is none, whatever lies there; no end of the order leads there.
func TestNought(t *testing.T) {
	for _, w := range [][]uint64{{15}, {0x78, 0, 0, 9}, {0x78, 0, 0x300000002, 1}, {0x78}, {0, 0, 0, 1}} {
		b := start(t, size, func(m *phys.Memory) { fill(t, m, 0, w...) })
		b.root(t, 0x40, thread(1))
		b.child(t, 0x40, 0x60, thread(2))
		b.root(t, 0x20, thread(3))
		b.check(t, 0x20, 0x40, 0x60, 0x80)
		for i, e := range []api.Errno{b.x.Root(0, thread(4)), b.x.Child(0x20, 0, thread(4)), b.x.Move(0x60, 0)} {
			if e != api.ErrRange {
				t.Errorf("%#x: %d: %d", w, i, e)
			}
		}
		b.check(t, 0x20, 0x40, 0x60, 0x80)
		b.swap(t, 0x20, 0x60)
		b.move(t, 0x20, 0x80)
		b.check(t, 0x20, 0x40, 0x60, 0x80)
		b.set(t, 0x80, thread(5))
		b.remove(t, 0x40)
		b.check(t, 0x20, 0x40, 0x60, 0x80)
		b.remove(t, 0x80)
		b.remove(t, 0x60)
		b.check(t, 0x20, 0x40, 0x60, 0x80)
	}
}

// P13.1 to P13.3: capabilities of all kinds are held, changed, moved and swapped whole.
func TestKinds(t *testing.T) {
	for i, c := range caps {
		d := caps[(i+1)%len(caps)]
		b := start(t, size, nil)
		b.root(t, 0x20, c)
		b.child(t, 0x20, 0x40, d)
		b.child(t, 0x40, 0x60, c)
		b.check(t, 0x20, 0x40, 0x60)
		b.set(t, 0x40, c)
		b.set(t, 0x20, d)
		b.check(t, 0x20, 0x40, 0x60)
		b.move(t, 0x20, 0x80)
		b.swap(t, 0x60, 0x80)
		b.check(t, 0x20, 0x40, 0x60, 0x80)
		if got, e := b.x.Cap(0x60); got != d || e != api.OK {
			t.Error(got, e)
		}
	}
}

// P13.1 to P13.5: slots at both ends of memories up to the greatest.
func TestEnds(t *testing.T) {
	for _, size := range []uint64{1 << 16, 1<<16 + 4096, 1 << 20, 1 << 31, 1<<32 - 4096, 1 << 32} {
		b := start(t, size, nil)
		ats := []uint64{0, 0x20, 0x40, size/2 - 32, size / 2, size - 64, size - 32, size, size + 32, size - 8, size + 8, all - 31}
		b.root(t, size-32, thread(1))
		b.child(t, size-32, 0x20, thread(2))
		b.child(t, 0x20, size-64, thread(3))
		b.child(t, size-32, size/2, thread(4))
		b.check(t, ats...)
		for _, at := range ats {
			b.root(t, at, thread(5))
			b.child(t, at, at, thread(6))
			b.set(t, at, thread(7))
			b.check(t, ats...)
		}
		b.swap(t, size-32, 0x20)
		b.move(t, size-64, size-96)
		b.check(t, ats...)
		b.remove(t, size-32)
		b.check(t, ats...)
		for _, at := range b.p.list(false) {
			b.remove(t, at)
		}
		b.check(t, ats...)
		if b.m.Words() != 0 {
			t.Error(b.m.Words())
		}
	}
}

// P13.2: the greatest depth, one less, and what is refused at it; P13.3: of all that lies below a slot that is removed.
func TestDeep(t *testing.T) {
	b := start(t, 1<<20, nil)
	at := func(i int) uint64 { return uint64(i+1) * 32 }
	b.root(t, at(0), thread(0))
	for i := range api.MaxDepth {
		b.child(t, at(i), at(i+1), thread(uint64(i)))
	}
	last, more := at(api.MaxDepth), at(api.MaxDepth+1)
	if got := b.x.Depth(last); got != 4096 {
		t.Fatal(got)
	}
	before := b.m.Copy()
	for i, c := range []struct{ got, want api.Errno }{
		{b.x.Child(last, more, thread(1)), api.ErrDeep},
		{b.x.Child(last, more, cap.Cap{}), api.ErrForm},
		{b.x.Child(last, last, thread(1)), api.ErrBusy},
		{b.x.Child(last, 0, thread(1)), api.ErrRange},
	} {
		if c.got != c.want {
			t.Error(i, c.got)
		}
	}
	if !b.m.Same(before) {
		t.Errorf("changed: %#x", b.m.Differ(before, 8))
	}
	b.check(t, at(0), at(1), at(2048), at(4095), last, more)
	// One less deep is deep enough for one more, which is as deep then.
	b.child(t, at(4095), more, thread(2))
	b.agree(t, "Child", b.x.Child(more, at(5000), thread(1)), api.ErrDeep)
	b.swap(t, at(0), last)
	b.move(t, more, at(5000))
	b.check(t, at(0), at(1), last, more, at(5000))
	b.agree(t, "Child", b.x.Child(at(0), more, thread(1)), api.ErrDeep)
	b.remove(t, at(2048))
	b.check(t, at(0), at(1), at(2047), at(2049), last, at(5000))
	b.child(t, at(0), more, thread(3))
	b.agree(t, "Child", b.x.Child(more, at(2048), thread(1)), api.ErrDeep)
	b.check(t, at(0), more)
	b.remove(t, last)
	b.check(t, at(0), at(1), last, more)
}

// P13.2: as many slots as there may be, and what is refused then; P13.3: what isn't refused then.
func TestFull(t *testing.T) {
	b := start(t, 1<<22, nil)
	at := func(i int) uint64 { return uint64(i+1) * 32 }
	// First a way down to the greatest depth, then roots ahead of it.
	for i := range api.MaxSlots {
		var e api.Errno
		x := item{at(i), 0, thread(uint64(i % 64))}
		if i > 0 && i <= api.MaxDepth {
			x.depth = i
			e = b.x.Child(at(i-1), x.at, x.c)
		} else {
			e = b.x.Root(x.at, x.c)
		}
		if e != api.OK || b.x.Count() != i+1 {
			t.Fatal(i, e, b.x.Count())
		}
		b.p.l = append(b.p.l, x)
	}
	slices.Reverse(b.p.l)
	slices.Reverse(b.p.l[api.MaxSlots-1-api.MaxDepth:])
	deepest := api.MaxDepth
	if b.x.Count() != 65536 || b.x.Depth(at(deepest)) != 4096 {
		t.Fatal(b.x.Count(), b.x.Depth(at(deepest)))
	}
	asked := []uint64{at(0), at(1), at(deepest - 1), at(deepest), at(deepest + 1), at(30000), at(api.MaxSlots - 1)}
	b.check(t, asked...)
	before := b.m.Copy()
	more := at(api.MaxSlots)
	for i, c := range []struct{ got, want api.Errno }{
		{b.x.Root(more, thread(4)), api.ErrFull},
		{b.x.Root(more, cap.Cap{}), api.ErrForm},
		{b.x.Root(at(5), thread(4)), api.ErrBusy},
		{b.x.Root(0, thread(4)), api.ErrRange},
		{b.x.Child(at(5), more, thread(4)), api.ErrFull},
		{b.x.Child(at(deepest), more, thread(4)), api.ErrFull},
		{b.x.Child(at(5), more, cap.Cap{}), api.ErrForm},
		{b.x.Child(at(5), at(6), thread(4)), api.ErrBusy},
		{b.x.Child(more, at(6), thread(4)), api.ErrNone},
	} {
		if c.got != c.want {
			t.Error(i, c.got)
		}
	}
	if !b.m.Same(before) {
		t.Errorf("changed: %#x", b.m.Differ(before, 8))
	}
	b.set(t, at(0), thread(5))
	b.swap(t, at(0), at(deepest))
	b.move(t, at(7), more)
	b.agree(t, "Root", b.x.Root(at(7), thread(4)), api.ErrFull)
	b.check(t, append(asked, at(7), more)...)
	b.remove(t, at(30000))
	b.child(t, more, at(30000), thread(6))
	b.agree(t, "Root", b.x.Root(at(7), thread(4)), api.ErrFull)
	b.remove(t, at(0))
	b.root(t, at(0), thread(7))
	b.agree(t, "Child", b.x.Child(more, at(7), thread(4)), api.ErrFull)
	b.check(t, append(asked, at(7), more)...)
}

// P13.1 to P13.5: trees in two memories, slots at the same addresses, don't touch each other; a new tree has no slots.
func TestTwo(t *testing.T) {
	r := rand.New(rand.NewSource(131))
	one, other := start(t, size, nil), start(t, 2*size, nil)
	for range 2000 {
		b := one
		if r.Intn(2) == 0 {
			b = other
		}
		at, o := uint64(r.Intn(12))*32, uint64(r.Intn(12))*32
		switch r.Intn(5) {
		case 0:
			b.root(t, at, thread(1))
		case 1:
			b.child(t, at, o, thread(2))
		case 2:
			b.move(t, at, o)
		case 3:
			b.swap(t, at, o)
		case 4:
			b.remove(t, at)
		}
		one.check(t, at, o)
		other.check(t, at, o)
	}
}

// P1: each call ends, and none panics, also where others wrote words that look like slots and lead round and round.
func TestStrangers(t *testing.T) {
	strangers := []uint64{0x400, 0x420, 0x440, 0x460, 0x480}
	build := func() *both {
		return start(t, size, func(m *phys.Memory) {
			for i, s := range []slot.Slot{
				{Cap: thread(1), Next: 0x400, Prev: 0x400},
				{Cap: thread(1), Next: 0x440, Prev: 0x440, Depth: 0},
				{Cap: thread(1), Next: 0x440, Prev: 0x440, Depth: 1},
				{Cap: thread(1), Next: 0x480, Prev: 0x480, Depth: 4096},
				{Next: size, Prev: 1<<32 - 32, Depth: 1},
			} {
				if e := slot.Store(m, strangers[i], s); e != api.OK {
					t.Fatal(e)
				}
			}
		})
	}
	for _, at := range strangers {
		for _, o := range append(strangers, 0x20, 0x40, 0x60) {
			x := build().x
			x.Root(0x20, thread(2))
			x.Child(0x20, 0x40, thread(2))
			for range 2 {
				x.Cap(at)
				x.Depth(at)
				x.Below(at)
				x.Bare(at)
				x.Parent(at)
				x.Above(at)
				x.Roots()
				x.List()
				x.Count()
				x.Root(at, thread(3))
				x.Child(at, o, thread(3))
				x.Child(o, at, thread(3))
				x.Set(at, thread(3))
				x.Swap(at, o)
				x.Move(o, 0x80)
				x.Move(at, o)
				x.Remove(o)
				x.Remove(at)
			}
		}
	}
}
