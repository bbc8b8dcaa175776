package walk

import (
	"math"
	"math/rand"
	"slices"
	"testing"

	"portreeve/api"
	"portreeve/desc"
	"portreeve/phys"
	"portreeve/virt"
)

const all = ^uint64(0)

// reservedWord isn't Invalid, and reserved at each level.
const reservedWord = 1<<60 | 3

// leafWord is the word of a Block of Out 0, User, Write and Used; with its bit 1 set that of a Page.
const leafWord = 1 | 1<<6 | 3<<8 | 1<<10 | 1<<11 | 1<<53 | 1<<54

// wrongLevels are next to the right ones, and far away.
var wrongLevels = []int{math.MinInt, math.MinInt32, -64, -4, -2, -1, 4, 5, 7, 8, 64, 1 << 32, 1<<32 + 1, math.MaxInt}

// wide is how many bytes an entry of the level covers.
func wide(level int) uint64 { return []uint64{1 << 39, 1 << 30, 1 << 21, 1 << 12}[level] }

func memory(t *testing.T, size uint64, words ...Step) *phys.Memory {
	t.Helper()
	m, e := phys.New(size)
	if e != api.OK {
		t.Fatal(e)
	}
	for _, s := range words {
		put(t, m, s.At, s.Word)
	}
	return m
}

func put(t *testing.T, m *phys.Memory, at, w uint64) {
	t.Helper()
	if e := m.Write(at, w); e != api.OK {
		t.Fatal(at, e)
	}
}

// plainWalk is the chapter's walk, word by word, with addresses taken apart by division.
func plainWalk(m *phys.Memory, level int, table uint64, va uint64) ([]Step, Leaf, virt.Fault) {
	if level < 0 || level > 3 || table%4096 != 0 || va >= 1<<48 {
		return nil, Leaf{}, virt.Fault{Kind: 1}
	}
	at := table + 8*(va/wide(level)%512)
	if at >= m.Size() {
		return nil, Leaf{}, virt.Fault{Kind: 4, Level: level}
	}
	w, _ := m.Read(at)
	steps := []Step{{At: at, Word: w}}
	d, e := desc.Decode(level, w)
	if e != api.OK {
		return steps, Leaf{}, virt.Fault{Kind: 4, Level: level}
	}
	if w%2 == 0 {
		return steps, Leaf{}, virt.Fault{Kind: 1, Level: level}
	}
	if w%4 == 3 && level < 3 {
		more, l, f := plainWalk(m, level+1, w-3, va)
		return append(steps, more...), l, f
	}
	if d.Out+wide(level) > m.Size() {
		return steps, Leaf{}, virt.Fault{Kind: 4, Level: level}
	}
	return steps, Leaf{Level: level, Desc: d}, virt.Fault{}
}

// plainAll goes through all low addresses, from where one walk's stretch ends to the next one.
func plainAll(m *phys.Memory, root uint64) []Map {
	var out []Map
	for va := uint64(0); va < 1<<48; {
		_, l, f := plainWalk(m, 0, root, va)
		level := l.Level + f.Level
		if f == (virt.Fault{}) {
			out = append(out, Map{Va: va, Level: level, Desc: l.Desc})
		}
		va += wide(level)
	}
	return out
}

// hold holds all calls that walk against the plain walk.
func hold(t *testing.T, m *phys.Memory, level int, table, va uint64) {
	t.Helper()
	steps, leaf, fault := plainWalk(m, level, table, va)
	if l, f := From(m, level, table, va); l != leaf || f != fault {
		t.Fatalf("From(%d, %#x, %#x): %v %v, not %v %v", level, table, va, l, f, leaf, fault)
	}
	if got := Trace(m, level, table, va); !slices.Equal(got, steps) {
		t.Fatalf("Trace(%d, %#x, %#x): %v, not %v", level, table, va, got, steps)
	}
	_, leaf, fault = plainWalk(m, 0, table, va)
	if l, f := Walk(m, table, va); l != leaf || f != fault {
		t.Fatalf("Walk(%#x, %#x): %v %v, not %v %v", table, va, l, f, leaf, fault)
	}
}

func TestExample(t *testing.T) {
	m := memory(t, api.MinMemory)
	if l, f := Walk(m, 0x1000, 0x800040201008); l != (Leaf{}) || f != (virt.Fault{Kind: virt.Missing}) {
		t.Error(l, f)
	}
}

// P6.1: the four levels, one below the other, with a leaf at each that has one.
func TestFourLevels(t *testing.T) {
	m := memory(t, 1<<32,
		Step{0x1000 + 8*256, 0x2003}, Step{0x2008, 0x3003}, Step{0x3008, 0x4003}, Step{0x4008, 0x5000 | leafWord | 2},
		Step{0x3ff8, 0x600000 | leafWord}, Step{0x2ff8, 0xc0000000 | leafWord})
	page := desc.Desc{Kind: desc.Page, Out: 0x5000, User: true, Write: true, Used: true}
	two, one := page, page
	two.Kind, two.Out = desc.Block, 0x600000
	one.Kind, one.Out = desc.Block, 0xc0000000
	for _, x := range []struct {
		va    uint64
		leaf  Leaf
		out   uint64
		steps []Step
	}{
		{0x8000_4020_1008, Leaf{3, page}, 0x5008, []Step{{0x1800, 0x2003}, {0x2008, 0x3003}, {0x3008, 0x4003}, {0x4008, 0x5000 | leafWord | 2}}},
		{0x8000_7fff_ffff, Leaf{2, two}, 0x7fffff, []Step{{0x1800, 0x2003}, {0x2008, 0x3003}, {0x3ff8, 0x600000 | leafWord}}},
		{0x807f_c123_4567, Leaf{1, one}, 0xc1234567, []Step{{0x1800, 0x2003}, {0x2ff8, 0xc0000000 | leafWord}}},
	} {
		if l, f := Walk(m, 0x1000, x.va); l != x.leaf || f != (virt.Fault{}) || l.Out(x.va) != x.out {
			t.Errorf("Walk(%#x): %v %v, Out %#x", x.va, l, f, l.Out(x.va))
		}
		if got := Trace(m, 0, 0x1000, x.va); !slices.Equal(got, x.steps) {
			t.Errorf("Trace(%#x): %v", x.va, got)
		}
		// From a deeper table, the rest of it; the indexes above play no part.
		for level := 1; level <= x.leaf.Level; level++ {
			table := x.steps[level].At &^ 4095
			if l, f := From(m, level, table, x.va%wide(level-1)); l != x.leaf || f != (virt.Fault{}) {
				t.Errorf("From(%d, %#x): %v %v", level, table, l, f)
			}
			if got := Trace(m, level, table, x.va); !slices.Equal(got, x.steps[level:]) {
				t.Errorf("Trace(%d, %#x): %v", level, table, got)
			}
		}
	}
}

// chain is a memory whose tables 0x1000 .. 0x4000 are each the first entry of the one above, with a word as the first one at a level.
func chain(t *testing.T, size uint64, level int, w uint64) *phys.Memory {
	m := memory(t, size)
	for above := range level {
		put(t, m, 0x1000*uint64(above+1), 0x1000*uint64(above+2)+3)
	}
	put(t, m, 0x1000*uint64(level+1), w)
	return m
}

// P6.1: what a walk ends with at words of all kinds, at each level.
func TestEnds(t *testing.T) {
	const missing, reserved = virt.Missing, virt.Reserved
	for _, x := range []struct {
		size uint64
		w    uint64
		ends [4]int
	}{
		{1 << 32, 0, [4]int{missing, missing, missing, missing}},
		{1 << 32, all - 1, [4]int{missing, missing, missing, missing}},
		{1 << 32, 2, [4]int{missing, missing, missing, missing}},
		{1 << 32, reservedWord, [4]int{reserved, reserved, reserved, reserved}},
		{1 << 32, all, [4]int{reserved, reserved, reserved, reserved}},
		{1 << 32, 1, [4]int{reserved, reserved, reserved, reserved}},
		{1 << 32, leafWord, [4]int{reserved, 0, 0, reserved}},
		{1 << 32, leafWord | 2, [4]int{reserved, reserved, reserved, 0}},
		// Where a leaf's Out may begin at each level, and where memory ends.
		{1 << 32, leafWord | 0x200000, [4]int{reserved, reserved, 0, reserved}},
		{1 << 32, leafWord | 0xffe00000, [4]int{reserved, reserved, 0, reserved}},
		{1 << 32, leafWord | 0xc0000000, [4]int{reserved, 0, 0, reserved}},
		{1 << 32, leafWord | 0x100000000, [4]int{reserved, reserved, reserved, reserved}},
		{1 << 32, leafWord | 0xffffc0000000, [4]int{reserved, reserved, reserved, reserved}},
		{1<<32 - 4096, leafWord | 0xc0000000, [4]int{reserved, reserved, 0, reserved}},
		{1<<32 - 4096, leafWord | 0xffe00000, [4]int{reserved, reserved, reserved, reserved}},
		{1 << 30, leafWord, [4]int{reserved, 0, 0, reserved}},
		{1<<30 - 4096, leafWord, [4]int{reserved, reserved, 0, reserved}},
		{1 << 21, leafWord, [4]int{reserved, reserved, 0, reserved}},
		{1<<21 - 4096, leafWord, [4]int{reserved, reserved, reserved, reserved}},
		{1 << 16, leafWord | 2 | 0xf000, [4]int{reserved, reserved, reserved, 0}},
		{1 << 16, leafWord | 2 | 0x10000, [4]int{reserved, reserved, reserved, reserved}},
		{1 << 16, leafWord | 2 | 0xfffffffff000, [4]int{reserved, reserved, reserved, reserved}},
	} {
		for level, want := range x.ends {
			m := chain(t, x.size, level, x.w)
			l, f := Walk(m, 0x1000, 0xabc)
			wantFault := virt.Fault{Kind: want, Level: level}
			if want == 0 {
				wantFault = virt.Fault{}
			}
			if f != wantFault {
				t.Errorf("%#x at %d, memory %#x: %v, not %v", x.w, level, x.size, f, wantFault)
			}
			if want != 0 && l != (Leaf{}) || want == 0 && (l.Level != level || l.Desc.Out != x.w&0xfffffffff000&^(wide(level)-1)) {
				t.Errorf("%#x at %d, memory %#x: %v", x.w, level, x.size, l)
			}
			if got := Trace(m, 0, 0x1000, 0xabc); len(got) != level+1 || got[level] != (Step{0x1000 * uint64(level+1), x.w}) {
				t.Errorf("%#x at %d, memory %#x: Trace %v", x.w, level, x.size, got)
			}
			hold(t, m, 0, 0x1000, 0xabc)
		}
	}
}

// P6.1: a table where there is no memory: the fault is that of its level, and no word of it is read.
func TestTableInNoMemory(t *testing.T) {
	for level := range 3 {
		for _, out := range []uint64{0x10000, 0x100000000, 0xfffffffff000} {
			m := chain(t, api.MinMemory, level, out|3)
			if l, f := Walk(m, 0x1000, 0); l != (Leaf{}) || f != (virt.Fault{Kind: virt.Reserved, Level: level + 1}) {
				t.Errorf("%#x at %d: %v %v", out, level, l, f)
			}
			if got := Trace(m, 0, 0x1000, 0); len(got) != level+1 {
				t.Errorf("%#x at %d: %v", out, level, got)
			}
		}
		m := chain(t, api.MinMemory, level, 0xf003)
		if _, f := Walk(m, 0x1000, 0); f != (virt.Fault{Kind: virt.Missing, Level: level + 1}) {
			t.Errorf("the last table at %d: %v", level, f)
		}
	}
	m := memory(t, api.MinMemory)
	for level := range 4 {
		for _, table := range []uint64{0x10000, 1 << 48, all &^ 4095} {
			for _, va := range []uint64{0, 1<<48 - 1} {
				if l, f := From(m, level, table, va); l != (Leaf{}) || f != (virt.Fault{Kind: virt.Reserved, Level: level}) {
					t.Errorf("From(%d, %#x, %#x): %v %v", level, table, va, l, f)
				}
				if got := Trace(m, level, table, va); len(got) != 0 {
					t.Errorf("Trace(%d, %#x, %#x): %v", level, table, va, got)
				}
			}
		}
	}
}

// P6.1: levels that there aren't, tables that don't begin where they may, and addresses that aren't low: Missing at 0, and nothing is read.
func TestNoWalk(t *testing.T) {
	m := memory(t, 1<<32)
	for at := uint64(0); at < 0x4000; at += 8 {
		put(t, m, at, leafWord|2)
	}
	none := func(level int, table, va uint64) {
		t.Helper()
		if l, f := From(m, level, table, va); l != (Leaf{}) || f != (virt.Fault{Kind: virt.Missing}) {
			t.Errorf("From(%d, %#x, %#x): %v %v", level, table, va, l, f)
		}
		if got := Trace(m, level, table, va); len(got) != 0 {
			t.Errorf("Trace(%d, %#x, %#x): %v", level, table, va, got)
		}
	}
	for _, level := range wrongLevels {
		none(level, 0x1000, 0)
		none(level, 1<<32, 0)
		none(level, 0x1008, 1<<48)
	}
	for level := range 4 {
		for _, off := range []uint64{1, 4, 8, 16, 512, 1024, 2048, 2056, 4088, 4095} {
			none(level, 0x1000+off, 0)
			none(level, 1<<40+off, 0)
			none(level, all-off+1, 0)
		}
		for _, va := range []uint64{1 << 48, 1<<48 + 0x1000, 1 << 49, 1 << 63, 0xffff800000000000, all} {
			none(level, 0x1000, va)
			none(level, 1<<40, va)
		}
	}
	for _, root := range []uint64{1, 8, 2048, 4095, all} {
		if l, f := Walk(m, root, 0); l != (Leaf{}) || f != (virt.Fault{Kind: virt.Missing}) {
			t.Errorf("Walk(%#x): %v %v", root, l, f)
		}
	}
	if l, f := From(m, 3, 0x1000, 1<<48-1); f != (virt.Fault{}) || l.Level != 3 {
		t.Error(l, f)
	}
}

// scatter is a memory with words of all kinds in its first pages, and tables that lead to one another.
func scatter(t *testing.T, r *rand.Rand) *phys.Memory {
	m := memory(t, api.MinMemory+uint64(r.Intn(8))<<20)
	for range 40 + r.Intn(60) {
		at := uint64(r.Intn(8))*4096 + 8*[]uint64{0, 1, 2, 255, 256, 511, uint64(r.Intn(512))}[r.Intn(7)]
		put(t, m, at, scatterWord(r))
	}
	return m
}

func scatterWord(r *rand.Rand) uint64 {
	flags := uint64(r.Intn(16))<<6&(1<<6|1<<7) | uint64(r.Intn(2))<<54 | uint64(r.Intn(8))<<2
	switch r.Intn(9) {
	case 0:
		return r.Uint64() &^ 1
	case 1:
		return r.Uint64()
	case 2:
		return uint64(r.Intn(18))<<12 | 3
	case 3:
		return uint64(r.Intn(5))<<21 | leafWord | flags
	case 4:
		return uint64(r.Intn(18))<<12 | leafWord | 2 | flags
	}
	return uint64(r.Intn(8))<<12 | 3
}

// P6.1: walks of memories with words of all kinds, from all levels.
func TestScattered(t *testing.T) {
	r := rand.New(rand.NewSource(6))
	for range 300 {
		m := scatter(t, r)
		before := m.Copy()
		for range 300 {
			va := uint64(0)
			for level := range 4 {
				va += wide(level) * []uint64{0, 1, 2, 255, 256, 511, uint64(r.Intn(512))}[r.Intn(7)]
			}
			hold(t, m, r.Intn(4), uint64(r.Intn(8))<<12, va+uint64(r.Intn(4096)))
		}
		if !m.Same(before) {
			t.Fatal("a walk wrote")
		}
	}
}

// P6.1: what is told is new memory.
func TestTraceIsNew(t *testing.T) {
	m := chain(t, api.MinMemory, 3, 0x5000|leafWord|2)
	first := Trace(m, 0, 0x1000, 0)
	want := slices.Clone(first)
	second := Trace(m, 0, 0x1000, 0)
	clear(first[:cap(first)])
	if !slices.Equal(second, want) || !slices.Equal(Trace(m, 0, 0x1000, 0), want) {
		t.Error(second)
	}
}

// P6.2: Out, of each level, and of what is no leaf: any Out, levels that there aren't.
func TestOut(t *testing.T) {
	for level := range 4 {
		for _, va := range []uint64{0, 1, 0xfff, 0x1000, 0x123456789abc, 1<<48 - 1, all} {
			for _, out := range []uint64{0, 0x40000000, 0xffffc0000000} {
				l := Leaf{Level: level, Desc: desc.Desc{Out: out}}
				if got := l.Out(va); got != out+va%wide(level) {
					t.Errorf("Out of %#x at %d, %#x: %#x", out, level, va, got)
				}
			}
		}
	}
	for _, level := range wrongLevels {
		l := Leaf{Level: level, Desc: desc.Desc{Out: 0x5000}}
		if got := l.Out(all); got != 0x5000 {
			t.Errorf("Out at %d: %#x", level, got)
		}
	}
}

// P6.2: all leaves, rising, and the bound on how many there may be, of scattered memories.
func TestAll(t *testing.T) {
	r := rand.New(rand.NewSource(62))
	some := 0
	for range 100 {
		m := scatter(t, r)
		for root := uint64(0); root < 4<<12; root += 1 << 12 {
			if plainWords(m, 0, root) > 300 {
				continue
			}
			want := plainAll(m, root)
			if len(want) > 0 {
				some++
			}
			for _, most := range []int{len(want), len(want) + 1, math.MaxInt} {
				if got, ok := All(m, root, most); !ok || !slices.Equal(got, want) {
					t.Fatalf("All(%#x, %d): %v %t, not %v", root, most, got, ok, want)
				}
			}
			for _, most := range []int{len(want) - 1, -1, math.MinInt} {
				if got, ok := All(m, root, most); ok || len(got) != 0 {
					t.Fatalf("All(%#x, %d): %v %t", root, most, got, ok)
				}
			}
		}
	}
	if some < 50 {
		t.Error(some)
	}
}

// plainWords is how many words that aren't Invalid are looked at from a table on; it gives up above the bound.
func plainWords(m *phys.Memory, level int, table uint64) int {
	n := 0
	for at := table; at < table+4096 && n <= 8192; at += 8 {
		w, e := m.Read(at)
		if e != api.OK || w%2 == 0 {
			continue
		}
		n++
		if d, e := desc.Decode(level, w); e == api.OK && d.Kind == desc.Table {
			n += plainWords(m, level+1, d.Out)
		}
	}
	return n
}

// P6.2: each leaf's base, to the last stretch of the low addresses.
func TestAllBases(t *testing.T) {
	m := memory(t, 1<<32,
		Step{0x1000, 0x2003}, Step{0x1ff8, 0x2003},
		Step{0x2000, 0x3003}, Step{0x2008, 0x40000000 | leafWord}, Step{0x2ff8, 0x3003},
		Step{0x3000, 0x4003}, Step{0x3ff8, 0x4003},
		Step{0x4000, 0x5000 | leafWord | 2}, Step{0x4ff8, 0x6000 | leafWord | 2})
	got, ok := All(m, 0x1000, 18)
	if want := plainAll(m, 0x1000); !ok || !slices.Equal(got, want) {
		t.Error(got, ok)
	}
	if len(got) != 18 || got[0].Va != 0 || got[1].Va != 0x1ff000 || got[2].Va != 0x3fe00000 || got[4].Va != 0x40000000 || got[4].Level != 1 || got[17].Va != 1<<48-4096 {
		t.Error(got)
	}
}

// P6.2: roots from which nothing is walked: no leaves, which may be told.
func TestAllOfNoRoot(t *testing.T) {
	m := memory(t, api.MinMemory)
	for at := uint64(0); at < 0x2000; at += 8 {
		put(t, m, at, 0x1003)
	}
	for _, root := range []uint64{1, 8, 0x1008, 0x1800, 0x10000, 1 << 48, all &^ 4095, all} {
		if got, ok := All(m, root, 0); !ok || len(got) != 0 {
			t.Errorf("All(%#x, 0): %v %t", root, got, ok)
		}
		if got, ok := All(m, root, -1); ok || len(got) != 0 {
			t.Errorf("All(%#x, -1): %v %t", root, got, ok)
		}
	}
}

// P6.2: 8192 words that aren't Invalid, and one more: reserved ones, leaves, leaves in no memory, tables, each as often as it is looked at.
func TestAllWords(t *testing.T) {
	const root, full, last = 0x1000, 0x2000, 0x3000
	for _, x := range []struct {
		w      uint64
		leaves int
	}{
		{reservedWord, 0},
		{leafWord, 15 * 512},
		{leafWord | 0xffffc0000000, 0},
		{0xfffffffff003, 0},
		{0x4003, 0},
	} {
		m := memory(t, 1<<32)
		// 512 words of the root, and 15 times 512 of the table full: 8192. The table last is one more entry of the root.
		for i := uint64(0); i < 512; i++ {
			put(t, m, root+8*i, reservedWord)
			put(t, m, full+8*i, x.w)
		}
		for i := uint64(0); i < 15; i++ {
			put(t, m, root+8*(i*7+3), full|3)
		}
		put(t, m, root+8*511, last|3)
		for _, w := range []uint64{0, 2, all - 1} {
			put(t, m, last+8*100, w)
			if got, ok := All(m, root, x.leaves); !ok || len(got) != x.leaves {
				t.Errorf("%#x and %#x: %d %t", x.w, w, len(got), ok)
			}
		}
		for _, w := range []uint64{reservedWord, leafWord, 0xfffffffff003, 0x4003} {
			put(t, m, last+8*100, w)
			if got, ok := All(m, root, math.MaxInt); ok || len(got) != 0 {
				t.Errorf("%#x and %#x: %d %t", x.w, w, len(got), ok)
			}
		}
		put(t, m, root+8*511, 0xfffffffff003)
		if got, ok := All(m, root, x.leaves); !ok || len(got) != x.leaves {
			t.Errorf("%#x and a table in no memory: %d %t", x.w, len(got), ok)
		}
	}
}

// P6.2: tables that lead to themselves: 9 + 9^2 + 9^3 + 9^4 words are within the bound, those of 10 and more aren't.
func TestAllOfItself(t *testing.T) {
	for n := uint64(1); n <= 512; n += 1 + n/20*n {
		m := memory(t, api.MinMemory)
		for i := uint64(0); i < n; i++ {
			put(t, m, 0x5000+8*i, 0x5003)
		}
		if got, ok := All(m, 0x5000, 0); ok != (n <= 9) || len(got) != 0 {
			t.Errorf("%d: %v %t", n, got, ok)
		}
	}
	m := memory(t, api.MinMemory)
	for at := uint64(0); at < api.MinMemory; at += 8 {
		put(t, m, at, at&^4095|3)
	}
	if got, ok := All(m, 0, math.MaxInt); ok || len(got) != 0 {
		t.Error(got, ok)
	}
}

// P6.2: what is told is new memory, and nothing is written.
func TestAllIsNew(t *testing.T) {
	m := chain(t, api.MinMemory, 3, 0x5000|leafWord|2)
	before := m.Copy()
	first, _ := All(m, 0x1000, 9)
	want := slices.Clone(first)
	second, _ := All(m, 0x1000, 9)
	clear(first[:cap(first)])
	if third, _ := All(m, 0x1000, 9); len(want) != 1 || !slices.Equal(second, want) || !slices.Equal(third, want) {
		t.Error(second, third)
	}
	if !m.Same(before) {
		t.Error("All wrote")
	}
}
