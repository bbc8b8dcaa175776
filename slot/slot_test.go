package slot

import (
	"math"
	"math/rand"
	"slices"
	"testing"

	"portreeve/api"
	"portreeve/cap"
	"portreeve/phys"
)

const (
	all  = ^uint64(0)
	size = 1 << 16
)

// capEdges are capabilities of all kinds: right ones, with as many parts as there are, and others.
var capEdges = []cap.Cap{
	{},
	{Kind: cap.Control},
	{Kind: cap.Untyped, Bits: 32, Mark: 1 << 32},
	{Kind: cap.Untyped, At: 1<<32 - 32, Bits: 5, Mark: 32},
	{Kind: cap.Node, At: 0x100, Bits: 1, Guard: 63, Mark: 1<<63 - 1},
	{Kind: cap.Frame, At: 0x40000000, Bits: 30, Rights: 7, Asid: 4095, Mark: 1<<48 - 1<<30},
	{Kind: cap.Table, At: 0x3000, Bits: 12, Guard: 3, Asid: 1, Mark: 1 << 21},
	{Kind: cap.Space, At: 0x1000, Bits: 12, Asid: 7},
	{Kind: cap.Pool, Bits: 12, Mark: 7},
	{Kind: cap.Thread, At: 1<<32 - 128, Bits: 7},
	{Kind: cap.Note, At: 0x20, Bits: 5, Rights: 3, Mark: all},
	{Kind: cap.Zombie, At: 0x40, Bits: 1, Mark: 2},
	// From here on none is right.
	{Kind: 11},
	{Kind: -1},
	{At: 0x20},
	{Mark: 1},
	{Kind: cap.Control, Mark: 1},
	{Kind: cap.Untyped, Bits: 5, Mark: 33},
	{Kind: cap.Thread, At: 1 << 32, Bits: 7},
	{Kind: cap.Thread, At: 0x1040, Bits: 7},
	{Kind: cap.Note, At: 0x20, Bits: 5, Rights: 4},
	{Kind: cap.Space, At: 0x1000, Bits: 12, Asid: 4096},
	{Kind: cap.Zombie, At: 0x40, Bits: 1, Mark: 3},
}

var (
	linkEdges = []uint64{0, 1, 8, 16, 24, 31, 32, 33, 48, 63, 64, 96, 0x1000, 1 << 27, 1<<31 + 32, 1<<32 - 64, 1<<32 - 33, 1<<32 - 32, 1<<32 - 16, 1<<32 - 1,
		1 << 32, 1<<32 + 32, 1 << 36, 1<<37 - 32, 1 << 37, 1 << 59, 1 << 63, 1<<63 + 64, all - 31, all}
	depthEdges = []int{math.MinInt, math.MinInt + 1, -1 << 32, -4096, -1, 0, 1, 2, 31, 32, 4095, 4096, 4097, 1 << 16, 1 << 31, 1 << 32, 1<<32 + 1, math.MaxInt}
)

// rightly is the chapter's rightness, by quotients and remainders.
func rightly(s Slot) bool {
	link := func(at uint64) bool { return at/4294967296 == 0 && at%32 == 0 }
	return s.Cap.Right() && link(s.Next) && link(s.Prev) && 0 <= s.Depth && s.Depth <= 4096
}

// lies are the chapter's four words of a right slot.
func lies(t *testing.T, s Slot) [4]uint64 {
	t.Helper()
	a, b, e := s.Cap.Words()
	if e != api.OK {
		t.Fatal(s, e)
	}
	return [4]uint64{a, b, s.Next/32 + s.Prev/32*4294967296, uint64(s.Depth)}
}

// read is the right slot of four words; false, if there is none.
func read(w [4]uint64) (Slot, bool) {
	c, e := cap.Read(w[0], w[1])
	s := Slot{Cap: c, Next: w[2] % 4294967296 * 32, Prev: w[2] / 4294967296 * 32, Depth: int(w[3])}
	if e != api.OK || w[3] > 4096 || !rightly(s) {
		return Slot{}, false
	}
	return s, true
}

// each calls for slots of all edges together.
func each(call func(s Slot)) {
	for _, c := range capEdges {
		for _, next := range linkEdges {
			for _, prev := range linkEdges {
				for _, depth := range depthEdges {
					call(Slot{c, next, prev, depth})
				}
			}
		}
	}
}

// rights are right slots: of each part all right edges, and the least and the greatest of the others.
func rights() []Slot {
	var l []Slot
	for _, c := range capEdges {
		for _, depth := range depthEdges {
			for i, next := range linkEdges {
				for _, prev := range []uint64{0, 32, 1<<32 - 32, linkEdges[len(linkEdges)-1-i]} {
					if s := (Slot{c, next, prev, depth}); rightly(s) {
						l = append(l, s)
					}
				}
			}
		}
	}
	return l
}

func memory(t *testing.T, size uint64) *phys.Memory {
	t.Helper()
	m, e := phys.New(size)
	if e != api.OK {
		t.Fatal(e)
	}
	return m
}

// full is a memory with no word that is 0, and none alike.
func full(t *testing.T) *phys.Memory {
	t.Helper()
	m := memory(t, size)
	for at := uint64(0); at < size; at += 8 {
		m.Write(at, all-at)
	}
	return m
}

// lay writes four words.
func lay(t *testing.T, m *phys.Memory, at uint64, w [4]uint64) {
	t.Helper()
	for i, v := range w {
		if e := m.Write(at+8*uint64(i), v); e != api.OK {
			t.Fatal(e)
		}
	}
}

// found are the four words from an address on.
func found(t *testing.T, m *phys.Memory, at uint64) [4]uint64 {
	t.Helper()
	var w [4]uint64
	for i := range w {
		v, e := m.Read(at + 8*uint64(i))
		if e != api.OK {
			t.Fatal(e)
		}
		w[i] = v
	}
	return w
}

func TestExample(t *testing.T) {
	s, e := Load(memory(t, size), 0x40)
	if e != api.OK || !s.Empty() || !s.Right() || s != (Slot{}) {
		t.Error(s, e)
	}
}

// P12.1: Right and Empty, of all edges together.
func TestRightAndEmpty(t *testing.T) {
	seen := [2]int{}
	each(func(s Slot) {
		right := rightly(s)
		if s.Right() != right {
			t.Fatalf("%+v: Right: %t", s, s.Right())
		}
		c := s.Cap
		empty := c.Kind == 0 && c.At == 0 && c.Bits == 0 && c.Rights == 0 && c.Guard == 0 && c.Asid == 0 && c.Mark == 0 &&
			s.Next == 0 && s.Prev == 0 && s.Depth == 0
		if s.Empty() != empty {
			t.Fatalf("%+v: Empty: %t", s, s.Empty())
		}
		if right {
			seen[1]++
		} else {
			seen[0]++
		}
	})
	if seen[0] < 100000 || seen[1] < 5000 {
		t.Error("too few of a kind:", seen)
	}
}

// P12.1: a slot with any one thing that isn't 0 isn't empty.
func TestNotEmpty(t *testing.T) {
	for i, s := range []Slot{
		{Cap: cap.Cap{Kind: 1}}, {Cap: cap.Cap{Kind: -1}}, {Cap: cap.Cap{At: 1}}, {Cap: cap.Cap{Bits: 1}}, {Cap: cap.Cap{Rights: 1}},
		{Cap: cap.Cap{Guard: 1}}, {Cap: cap.Cap{Asid: 1}}, {Cap: cap.Cap{Mark: 1}}, {Cap: cap.Cap{Kind: cap.Control}},
		{Next: 1}, {Next: 32}, {Next: 1 << 63}, {Prev: 1}, {Prev: 32}, {Prev: 1 << 63}, {Depth: 1}, {Depth: -1}, {Depth: 1 << 32},
	} {
		if s.Empty() {
			t.Error(i, s)
		}
	}
}

// P12.1: a right slot lies in its four words, over what stood there, and is loaded; nothing beside it is changed.
func TestStore(t *testing.T) {
	m := full(t)
	before := m.Copy()
	l := rights()
	if len(l) < 2500 {
		t.Error("too few:", len(l))
	}
	for i, s := range l {
		at := [...]uint64{0x100, 0, 0x20, 0xfe0, 0x1000, size - 32}[i%6]
		if e := Store(m, at, s); e != api.OK {
			t.Fatalf("%+v: %d", s, e)
		}
		if w := found(t, m, at); w != lies(t, s) {
			t.Fatalf("%+v: %#x", s, w)
		}
		if got, e := Load(m, at); got != s || e != api.OK {
			t.Fatalf("%+v: %+v %d", s, got, e)
		}
		lay(t, before, at, lies(t, s))
	}
	if !m.Same(before) {
		t.Errorf("changed besides: %#x", m.Differ(before, 8))
	}
}

// P12.1: the parts of the four words, by words that are written out.
func TestWords(t *testing.T) {
	for i, x := range []struct {
		s Slot
		w [4]uint64
	}{
		{Slot{}, [4]uint64{}},
		{Slot{Cap: cap.Cap{Kind: cap.Thread, At: 0x1000, Bits: 7}}, [4]uint64{0x40000000078}},
		{Slot{Cap: cap.Cap{Kind: cap.Note, Bits: 5, Mark: all}}, [4]uint64{0x59, all}},
		{Slot{Next: 32}, [4]uint64{2: 1}},
		{Slot{Prev: 32}, [4]uint64{2: 1 << 32}},
		{Slot{Next: 1<<32 - 32}, [4]uint64{2: 0x7ffffff}},
		{Slot{Prev: 1<<32 - 32}, [4]uint64{2: 0x7ffffff00000000}},
		{Slot{Next: 0x40, Prev: 0x60}, [4]uint64{2: 0x300000002}},
		{Slot{Depth: 1}, [4]uint64{3: 1}},
		{Slot{Depth: 4096}, [4]uint64{3: 0x1000}},
	} {
		m := memory(t, size)
		if e := Store(m, 0x100, x.s); e != api.OK || found(t, m, 0x100) != x.w {
			t.Errorf("%d: %#x %d", i, found(t, m, 0x100), e)
		}
		m = memory(t, size)
		lay(t, m, 0x100, x.w)
		if s, e := Load(m, 0x100); s != x.s || e != api.OK {
			t.Errorf("%d: %+v %d", i, s, e)
		}
	}
}

// P12.1: a slot that isn't right is refused, whatever part of it is wrong, and nothing is changed.
func TestStoreForm(t *testing.T) {
	m := full(t)
	before := m.Copy()
	each(func(s Slot) {
		if rightly(s) {
			return
		}
		if e := Store(m, 0x100, s); e != api.ErrForm {
			t.Fatalf("%+v: %d", s, e)
		}
	})
	if !m.Same(before) {
		t.Errorf("changed: %#x", m.Differ(before, 8))
	}
}

// P12.1: words one and two bits off from a right slot's, and others.
func TestLoad(t *testing.T) {
	m := memory(t, size)
	const at = 0x7e0
	seen := [2]int{}
	check := func(w [4]uint64) {
		lay(t, m, at, w)
		want, ok := read(w)
		e := api.ErrForm
		if ok {
			e = api.OK
			seen[1]++
		} else {
			seen[0]++
		}
		if got, err := Load(m, at); got != want || err != e {
			t.Fatalf("%#x: %+v %d, not %+v %d", w, got, err, want, e)
		}
		if found(t, m, at) != w {
			t.Fatalf("%#x: changed", w)
		}
	}
	l := rights()
	// All of them would be too many.
	for k := 0; k < len(l); k += 97 {
		s := l[k]
		for i := range 256 {
			for j := range i + 1 {
				w := lies(t, s)
				w[i/64] ^= 1 << (i % 64)
				w[j/64] ^= 1 << (j % 64)
				check(w)
			}
		}
	}
	r := rand.New(rand.NewSource(12))
	for range 50000 {
		check([4]uint64{r.Uint64() >> r.Intn(64), r.Uint64() >> r.Intn(64), r.Uint64() >> r.Intn(64), r.Uint64() >> r.Intn(64)})
		check([4]uint64{0, 0, r.Uint64() >> r.Intn(64), r.Uint64() >> r.Intn(64)})
		check([4]uint64{cap.Thread + 7*16, 0, r.Uint64() & 0x87ffffff87ffffff, uint64(r.Intn(4200))})
	}
	for _, depth := range depthEdges {
		check([4]uint64{3: uint64(depth)})
	}
	if seen[0] < 50000 || seen[1] < 50000 {
		t.Error("too few of a kind:", seen)
	}
}

// P12.1: the errors of an address, in their order, ahead of ErrForm; nothing is changed.
func TestAddresses(t *testing.T) {
	wrong := Slot{Depth: -1}
	ok := Slot{Cap: cap.Cap{Kind: cap.Thread, Bits: 7}, Next: 32, Prev: 64, Depth: 3}
	for _, size := range []uint64{1 << 16, 1<<16 + 4096, 1 << 20, 1 << 32} {
		m := memory(t, size)
		// What lies in them is no right slot: an error of the address comes ahead of that.
		for _, at := range []uint64{0, 0x20, 0x40, size - 64, size - 32} {
			lay(t, m, at, [4]uint64{15, 15, 15, 15})
		}
		before := m.Copy()
		ats := []uint64{0, 1, 4, 7, 8, 9, 16, 24, 31, 32, 33, 40, 48, 56, 64, size / 2, size/2 + 8, all, all - 7, all - 15, all - 23, all - 31, all - 63, 1 << 63, 1<<63 + 8}
		for _, d := range []uint64{1, 8, 16, 24, 31, 32, 33, 40, 64} {
			ats = append(ats, size-d, size, size+d, size*2, size*2-d)
		}
		for _, at := range ats {
			e := api.OK
			switch {
			case at%32 != 0:
				e = api.ErrAlign
			case at >= size:
				e = api.ErrRange
			}
			form := e
			if e == api.OK {
				form = api.ErrForm
			}
			load := form
			if at == size/2 {
				load = api.OK
			}
			if s, got := Load(m, at); got != load || s != (Slot{}) {
				t.Errorf("%#x of %#x: Load: %+v %d", at, size, s, got)
			}
			if got := Store(m, at, wrong); got != form {
				t.Errorf("%#x of %#x: Store of a wrong one: %d", at, size, got)
			}
			if !m.Same(before) {
				t.Fatalf("%#x of %#x: changed", at, size)
			}
			one, other := m.Copy(), m.Copy()
			if got := Store(one, at, ok); got != e || e != api.OK && !one.Same(before) {
				t.Errorf("%#x of %#x: Store: %d", at, size, got)
			}
			if got := Wipe(other, at); got != e || e != api.OK && !other.Same(before) {
				t.Errorf("%#x of %#x: Wipe: %d", at, size, got)
			}
		}
	}
}

// P12.1: Wipe lays four noughts over whatever stands there, a right slot or none, and changes nothing else.
func TestWipe(t *testing.T) {
	for _, at := range []uint64{0, 0x20, 0x100, 0xfe0, 0x1000, size - 32} {
		for _, w := range [][4]uint64{{}, {15}, {all, all, all, all}, {0, 0, 0, 4097}, {3: 1}, {2: 1}, {1: 1}, {0: 1}, lies(t, Slot{Cap: capEdges[4], Next: 32, Prev: 64, Depth: 9})} {
			m := full(t)
			lay(t, m, at, w)
			before := m.Copy()
			if e := Wipe(m, at); e != api.OK {
				t.Fatal(e)
			}
			if s, e := Load(m, at); e != api.OK || !s.Empty() {
				t.Errorf("%#x over %#x: %+v %d", at, w, s, e)
			}
			var changed []uint64
			for i, v := range w {
				if v != 0 {
					changed = append(changed, at+8*uint64(i))
				}
			}
			if got := m.Differ(before, 100); !slices.Equal(got, changed) {
				t.Errorf("%#x over %#x: changed %#x", at, w, got)
			}
		}
	}
	m := memory(t, size)
	if e := Wipe(m, 0x100); e != api.OK || m.Words() != 0 {
		t.Error(e, m.Words())
	}
}

// P12.1: slots side by side don't touch each other, and each call hangs on what lies in its own memory.
func TestSideBySide(t *testing.T) {
	m := memory(t, size)
	l := rights()
	r := rand.New(rand.NewSource(121))
	lain := map[uint64]Slot{}
	for range 20000 {
		at := uint64(r.Intn(64)) * 32
		if r.Intn(4) == 0 {
			if e := Wipe(m, at); e != api.OK {
				t.Fatal(e)
			}
			lain[at] = Slot{}
		} else {
			s := l[r.Intn(len(l))]
			if e := Store(m, at, s); e != api.OK {
				t.Fatal(e)
			}
			lain[at] = s
		}
		for _, at := range []uint64{at, at ^ 32, uint64(r.Intn(64)) * 32} {
			if s, e := Load(m, at); s != lain[at] || e != api.OK {
				t.Fatalf("%#x: %+v %d, not %+v", at, s, e, lain[at])
			}
		}
	}
	if s, e := Load(memory(t, size), 0x20); !s.Empty() || e != api.OK {
		t.Error(s, e)
	}
}
