package virt

import (
	"math"
	"math/rand"
	"slices"
	"testing"

	"portreeve/desc"
)

const all = ^uint64(0)

// wrongLevels are next to the right ones, and far away.
var wrongLevels = []int{math.MinInt, math.MinInt32, -64, -4, -2, -1, 4, 5, 7, 8, 64, 1 << 32, 1<<32 + 1, math.MaxInt}

// wide is how many bytes a stretch of the level has, by the chapter's list of covered bits.
func wide(level int) uint64 { return []uint64{1 << 39, 1 << 30, 1 << 21, 1 << 12}[level] }

// addresses are around those at which a stretch, or the low ones, begin and end, and some of any kind.
func addresses() []uint64 {
	l := []uint64{0, 0x800040201008, 0x123456789abc, 0xffff800000000000, 1<<48 - 1, 1 << 48, 1<<48 + 1, all}
	for n := range 64 {
		at := uint64(1) << uint(n)
		l = append(l, at-1, at, at+1, 3*at, -at, -at-1, at|1<<47, 1<<48-at, at|1<<48|5<<12)
	}
	r := rand.New(rand.NewSource(5))
	for range 20000 {
		w := r.Uint64()
		l = append(l, w, w>>16, w>>uint(r.Intn(64)))
	}
	return l
}

func TestKinds(t *testing.T) {
	if NoFault != 0 || Missing != 1 || Unused != 2 || Refused != 3 || Reserved != 4 || Unaligned != 5 || Conflict != 6 {
		t.Error(NoFault, Missing, Unused, Refused, Reserved, Unaligned, Conflict)
	}
	if Load != 1 || Store != 2 || Fetch != 3 {
		t.Error(Load, Store, Fetch)
	}
}

func TestExample(t *testing.T) {
	const va = 0x8000_4020_1008
	for level, want := range []int{256, 1, 1, 1} {
		if got := Index(va, level); got != want {
			t.Errorf("Index at %d: %d", level, got)
		}
	}
	if got := Offset(va, 3); got != 8 {
		t.Errorf("Offset: %d", got)
	}
	if got := Base(va, 2); got != 0x8000_4020_0000 {
		t.Errorf("Base: %#x", got)
	}
}

// P5.1: Low, up to the last low address and behind it.
func TestLow(t *testing.T) {
	for _, va := range addresses() {
		if got := Low(va); got != (va/(1<<48) == 0) {
			t.Errorf("Low(%#x): %t", va, got)
		}
	}
}

// P5.1: the parts of an address, by division; the bits above 47 play no part.
func TestParts(t *testing.T) {
	for _, va := range addresses() {
		low := va % (1 << 48)
		for level := range 4 {
			size := wide(level)
			if got, want := Index(va, level), int(low/size%512); got != want {
				t.Fatalf("Index(%#x, %d): %d, not %d", va, level, got, want)
			}
			if got, want := Base(va, level), low-low%size; got != want {
				t.Fatalf("Base(%#x, %d): %#x, not %#x", va, level, got, want)
			}
			if got, want := Offset(va, level), va%size; got != want {
				t.Fatalf("Offset(%#x, %d): %#x, not %#x", va, level, got, want)
			}
		}
	}
}

// P5.1: at a level that is none there are no parts.
func TestPartsOfWrongLevels(t *testing.T) {
	for _, level := range wrongLevels {
		for _, va := range []uint64{0, 1, 0x800040201008, 1<<48 - 1, 1 << 48, all} {
			if i, b, o := Index(va, level), Base(va, level), Offset(va, level); i != -1 || b != 0 || o != 0 {
				t.Errorf("%#x at %d: %d %#x %#x", va, level, i, b, o)
			}
		}
	}
}

// P5.1: Level, of the four numbers of bits and of all others around them.
func TestLevel(t *testing.T) {
	counts := []int{math.MinInt, math.MinInt32, math.MaxInt32, 1 << 32, 1<<32 + 12, 1<<32 + 39, math.MaxInt}
	for n := -50; n <= 130; n++ {
		counts = append(counts, n)
	}
	for _, n := range counts {
		want := slices.Index([]int{39, 30, 21, 12}, n)
		wantOk := want >= 0
		if got, ok := Level(n); got != max(want, 0) || ok != wantOk {
			t.Errorf("Level(%d): %d %t", n, got, ok)
		}
	}
}

// accesses are the three kinds, and others, which are let through as loads.
var accesses = []int{Load, Store, Fetch, 0, -1, 4, 5, 6, 7, 9, 1<<32 + 2, 1<<32 + 3, math.MinInt, math.MaxInt}

// plainLet asks one by one what an access needs, in the chapter's order.
func plainLet(d desc.Desc, level int, access int) Fault {
	for _, need := range []struct {
		asked, met bool
		kind       int
	}{
		{true, d.Used, Unused},
		{true, d.User, Refused},
		{access == 2, d.Write, Refused},
		{access == 3, d.Exec, Refused},
	} {
		if need.asked && !need.met {
			return Fault{Kind: need.kind, Level: level}
		}
	}
	return Fault{}
}

// P5.2: Let, with all flags, of blocks and pages; their address and attribute play no part.
func TestLet(t *testing.T) {
	for level := range 4 {
		for f := range 16 {
			for _, d := range []desc.Desc{{Kind: desc.Page}, {Kind: desc.Block, Out: 0x40000000, Attr: 7}} {
				d.User, d.Write, d.Exec, d.Used = f&1 != 0, f&2 != 0, f&4 != 0, f&8 != 0
				for _, access := range accesses {
					if got, want := Let(d, level, access), plainLet(d, level, access); got != want {
						t.Errorf("Let(%+v, %d, %d): %v, not %v", d, level, access, got, want)
					}
				}
			}
		}
	}
}

// P5.2: the fault has the level that was handed in, NoFault has none.
func TestLetWrongLevels(t *testing.T) {
	for _, level := range wrongLevels {
		if f := Let(desc.Desc{Kind: desc.Page}, level, Load); f != (Fault{Kind: Unused, Level: level}) {
			t.Errorf("unused at %d: %v", level, f)
		}
		if f := Let(desc.Desc{Kind: desc.Page, Used: true, User: true}, level, Store); f != (Fault{Kind: Refused, Level: level}) {
			t.Errorf("refused at %d: %v", level, f)
		}
		if f := Let(desc.Desc{Kind: desc.Page, Used: true, User: true}, level, Load); f != (Fault{}) {
			t.Errorf("let through at %d: %v", level, f)
		}
	}
}

// faults are all that there are, by their words; no fault is one of them.
func faults() map[uint64]Fault {
	m := map[uint64]Fault{0: {}, 5: {Kind: Unaligned}, 6: {Kind: Conflict}}
	for level := range 4 {
		for _, kind := range []int{Missing, Unused, Refused, Reserved} {
			m[uint64(kind+16*level)] = Fault{Kind: kind, Level: level}
		}
	}
	return m
}

// P5.2: Word, of each fault; of what is none, 0.
func TestWord(t *testing.T) {
	words := map[Fault]uint64{}
	for w, f := range faults() {
		words[f] = w
	}
	far := []int{math.MinInt, math.MinInt32, 1 << 32, 1<<32 + 1, 1 << 60, 1<<60 + 1, 1 << 62, math.MaxInt}
	numbers := slices.Clone(far)
	for n := -20; n <= 40; n++ {
		numbers = append(numbers, n)
	}
	for _, kind := range numbers {
		for _, level := range numbers {
			f := Fault{Kind: kind, Level: level}
			if got := f.Word(); got != words[f] {
				t.Errorf("%v.Word(): %d, not %d", f, got, words[f])
			}
		}
	}
}

// P5.2: ReadFault, of each word of a fault, and of those around them and far away.
func TestReadFault(t *testing.T) {
	m := faults()
	var words []uint64
	for w := range uint64(70000) {
		words = append(words, w)
	}
	for w := range m {
		for n := range 64 {
			words = append(words, w^1<<uint(n), w|all<<uint(n), -w)
		}
	}
	for _, w := range words {
		want, wantOk := m[w]
		if f, ok := ReadFault(w); f != want || ok != wantOk {
			t.Errorf("ReadFault(%#x): %v %t, not %v %t", w, f, ok, want, wantOk)
		}
	}
}

// plainPages goes from the first byte's stretch on, by division, till it is behind the last byte.
func plainPages(va uint64, n uint64, level int) ([]uint64, bool) {
	const end = 1 << 48
	if n == 0 || level < 0 || level > 3 || va >= end || n > end || va+n > end {
		return nil, false
	}
	var l []uint64
	for at := va / wide(level) * wide(level); at < va+n; at += wide(level) {
		if len(l) == 512 {
			return nil, false
		}
		l = append(l, at)
	}
	return l, true
}

func checkPages(t *testing.T, va uint64, n uint64, level int) {
	t.Helper()
	want, wantOk := plainPages(va, n, level)
	if got, ok := Pages(va, n, level); !slices.Equal(got, want) || ok != wantOk {
		t.Fatalf("Pages(%#x, %#x, %d): %d of them, %t, not %d, %t", va, n, level, len(got), ok, len(want), wantOk)
	}
}

// P5.3: Pages around the edges of stretches, of 512 of them, and of the low addresses.
func TestPages(t *testing.T) {
	for level := range 4 {
		size := wide(level)
		starts := []uint64{0, size, 2 * size, 7 * size, 511 * size, 512 * size, 1 << 47, 1<<48 - 512*size, 1<<48 - 511*size, 1<<48 - size, 1 << 48, 1 << 63, -size}
		counts := []uint64{0, size, 2 * size, 3 * size, 511 * size, 512 * size, 513 * size, 1 << 47, 1 << 48, 1<<48 - size, 1 << 63, -size, -(511 * size)}
		for _, start := range starts {
			for _, count := range counts {
				for _, i := range []uint64{all - 7, all, 0, 1, 8, size / 2} {
					for _, j := range []uint64{all - 7, all, 0, 1, 8, size / 2} {
						checkPages(t, start+i, count+j, level)
					}
				}
			}
		}
	}
}

// P5.3: bytes that end with the last low address, or just behind it, or whose end wraps round.
func TestPagesAtEnd(t *testing.T) {
	for level := range 4 {
		for k := range 40 {
			va := uint64(1)<<48 - 1<<uint(k)
			checkPages(t, va, 1<<48-va, level)
			checkPages(t, va, 1<<48-va-1, level)
			checkPages(t, va, 1<<48-va+1, level)
			checkPages(t, va, -va, level)
			checkPages(t, va, -va+1, level)
			checkPages(t, -va, va+1, level)
			checkPages(t, va, all, level)
		}
	}
}

// P5.3: bytes anywhere.
func TestPagesAny(t *testing.T) {
	r := rand.New(rand.NewSource(53))
	for range 20000 {
		va, n := r.Uint64()>>uint(14+r.Intn(40)), r.Uint64()>>uint(14+r.Intn(50))
		for level := range 4 {
			checkPages(t, va, n, level)
		}
	}
}

// P5.3: at a level that is none nothing is told.
func TestPagesOfWrongLevels(t *testing.T) {
	for _, level := range wrongLevels {
		for _, va := range []uint64{0, 0x1000, 1<<48 - 1, 1 << 48, all} {
			for _, n := range []uint64{0, 1, 4096, 1 << 48, all} {
				checkPages(t, va, n, level)
			}
		}
	}
}

// What is told is new memory, its spare room too.
func TestPagesAreNew(t *testing.T) {
	first, _ := Pages(0x1000, 3*4096, 3)
	second, _ := Pages(0x1000, 3*4096, 3)
	for i := range first[:cap(first)] {
		first[:cap(first)][i] = all
	}
	third, _ := Pages(0x1000, 3*4096, 3)
	want := []uint64{0x1000, 0x2000, 0x3000}
	if !slices.Equal(second, want) || !slices.Equal(third, want) {
		t.Errorf("%#x %#x", second, third)
	}
}
