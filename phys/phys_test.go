package phys

import (
	"math/rand"
	"slices"
	"testing"

	"portreeve/api"
)

// plain is a memory as the chapter says it, word by word: what the calls are held against.
type plain []uint64

func (l plain) bytes() uint64 { return uint64(len(l)) * 8 }

func (l plain) wrong(at uint64) api.Errno {
	if at%8 != 0 {
		return api.ErrAlign
	}
	if at >= l.bytes() {
		return api.ErrRange
	}
	return api.OK
}

func (l plain) write(at, w uint64) api.Errno {
	e := l.wrong(at)
	if e == api.OK {
		l[at/8] = w
	}
	return e
}

func (l plain) clear(at, n uint64) api.Errno {
	if at%8 != 0 || n%8 != 0 {
		return api.ErrAlign
	}
	if at > l.bytes() || n > l.bytes()-at {
		return api.ErrRange
	}
	for i := at / 8; i < (at+n)/8; i++ {
		l[i] = 0
	}
	return api.OK
}

func (l plain) words() int {
	n := 0
	for _, w := range l {
		if w != 0 {
			n++
		}
	}
	return n
}

func (l plain) pages() []uint64 {
	var out []uint64
	for i, w := range l {
		base := uint64(i) / 512 * 4096
		if w != 0 && (len(out) == 0 || out[len(out)-1] != base) {
			out = append(out, base)
		}
	}
	return out
}

func (l plain) differ(o plain, most int) []uint64 {
	var out []uint64
	for i := range l {
		if l[i] != o[i] && len(out) < most {
			out = append(out, uint64(i)*8)
		}
	}
	return out
}

func (l plain) find(from, w uint64) (uint64, bool) {
	for i, v := range l {
		if at := uint64(i) * 8; w != 0 && v == w && at >= from {
			return at, true
		}
	}
	return 0, false
}

func made(t *testing.T, size uint64) *Memory {
	t.Helper()
	m, e := New(size)
	if e != api.OK || m == nil {
		t.Fatal(size, e)
	}
	return m
}

func wrote(t *testing.T, m *Memory, at, w uint64) {
	t.Helper()
	if e := m.Write(at, w); e != api.OK {
		t.Fatal(at, e)
	}
}

// held tells whether a memory is, call by call, what a plain one is.
func held(t *testing.T, m *Memory, l plain) {
	t.Helper()
	for i, w := range l {
		if v, e := m.Read(uint64(i) * 8); v != w || e != api.OK {
			t.Fatal("Read", i, v, w, e)
		}
	}
	if m.Words() != l.words() {
		t.Fatal("Words", m.Words(), l.words())
	}
	if !slices.Equal(m.Pages(), l.pages()) {
		t.Fatal("Pages", m.Pages(), l.pages())
	}
	if m.Size() != l.bytes() {
		t.Fatal("Size", m.Size())
	}
}

func TestSizes(t *testing.T) { // P3.1
	for _, n := range []uint64{1 << 16, 1<<16 + 4096, 3 * 4096 * 7, 1 << 20, 1<<32 - 4096, 1 << 32} {
		m := made(t, n)
		if m.Size() != n || m.Words() != 0 || len(m.Pages()) != 0 {
			t.Error(n, m.Size(), m.Words())
		}
		for _, at := range []uint64{0, 8, n / 2, n - 8} {
			if w, e := m.Read(at); w != 0 || e != api.OK {
				t.Error(n, at, w, e)
			}
		}
	}
	for _, n := range []uint64{0, 1, 8, 4096, 1<<16 - 4096, 1<<16 - 8, 1<<16 - 1, 1<<16 + 1, 1<<16 + 8, 1<<16 + 2048, 1<<16 + 4095,
		1<<32 - 1, 1<<32 - 8, 1<<32 + 1, 1<<32 + 4096, 1 << 33, 1 << 63, 1<<64 - 4096, 1<<64 - 1} {
		if m, e := New(n); m != nil || e != api.ErrSize {
			t.Error(n, m, e)
		}
	}
}

func TestReadWrite(t *testing.T) { // P3.1
	for _, size := range []uint64{1 << 16, 1 << 32} {
		for _, at := range []uint64{0, 8, 4088, 4096, 4104, size - 4096, size - 8} {
			m := made(t, size)
			for _, w := range []uint64{5, 1 << 63, ^uint64(0), 1, 0, 7} {
				wrote(t, m, at, w)
				if v, e := m.Read(at); v != w || e != api.OK {
					t.Error(at, w, v, e)
				}
				for _, by := range []uint64{at + 8, at - 8, at ^ 4096} {
					if v, e := m.Read(by); by < size && (v != 0 || e != api.OK) {
						t.Error(at, by, v, e)
					}
				}
			}
		}
		m := made(t, size)
		wrote(t, m, 8, 5)
		before := m.Copy()
		for _, x := range []struct {
			at uint64
			e  api.Errno
		}{{12, api.ErrAlign}, {1, api.ErrAlign}, {9, api.ErrAlign}, {size - 1, api.ErrAlign}, {size + 1, api.ErrAlign}, {size + 4, api.ErrAlign}, {1<<64 - 1, api.ErrAlign},
			{size, api.ErrRange}, {size + 8, api.ErrRange}, {size + 4096, api.ErrRange}, {1<<32 + 8, api.ErrRange}, {1 << 63, api.ErrRange}, {1<<64 - 8, api.ErrRange}} {
			if w, e := m.Read(x.at); w != 0 || e != x.e {
				t.Error("Read", x.at, w, e)
			}
			for _, w := range []uint64{0, 9} {
				if e := m.Write(x.at, w); e != x.e {
					t.Error("Write", x.at, e)
				}
			}
		}
		if !m.Same(before) || m.Words() != 1 {
			t.Error("what was refused changed something")
		}
	}
}

func TestClear(t *testing.T) { // P3.2
	const size = 1 << 16
	full := func() (*Memory, plain) {
		m, l := made(t, size), make(plain, size/8)
		for i := range l {
			wrote(t, m, uint64(i)*8, uint64(i)+1)
			l[i] = uint64(i) + 1
		}
		return m, l
	}
	for _, at := range []uint64{0, 8, 4088, 4096, 4104, 8192, size - 4096, size - 8, size} {
		for _, n := range []uint64{0, 8, 16, 4080, 4088, 4096, 4104, 8192, 12296, size - 8, size} {
			m, l := full()
			if e, want := m.Clear(at, n), l.clear(at, n); e != want {
				t.Error(at, n, e, want)
			}
			held(t, m, l)
			// The few pages that stay are the shorter way for the next one.
			if e, want := m.Clear(0, size-8), l.clear(0, size-8); e != want {
				t.Error(at, n, e, want)
			}
			held(t, m, l)
		}
	}
	m, l := full()
	for _, x := range []struct {
		at, n uint64
		e     api.Errno
	}{{4, 8, api.ErrAlign}, {8, 4, api.ErrAlign}, {1, 1, api.ErrAlign}, {1<<64 - 1, 0, api.ErrAlign}, {0, 1<<64 - 1, api.ErrAlign}, {size + 1, 8, api.ErrAlign}, {size + 8, 1, api.ErrAlign},
		{size, 8, api.ErrRange}, {size + 8, 0, api.ErrRange}, {size + 8, 8, api.ErrRange}, {size + 8, 1<<64 - 8, api.ErrRange}, {8, size, api.ErrRange}, {0, size + 8, api.ErrRange},
		{8, 1<<64 - 8, api.ErrRange}, {size - 8, 1<<64 - size + 8, api.ErrRange}, {1<<64 - 8, 8, api.ErrRange}, {1<<64 - 8, 0, api.ErrRange}, {1 << 63, 1 << 63, api.ErrRange},
		{size, 0, api.OK}, {0, 0, api.OK}, {24, 0, api.OK}} {
		if e := m.Clear(x.at, x.n); e != x.e {
			t.Error(x.at, x.n, e)
		}
		held(t, m, l)
	}
}

func TestClearOfAGreatMemory(t *testing.T) { // P3.2
	const size = 1 << 32
	m := made(t, size)
	for _, at := range []uint64{0, 8, 1 << 31, 1<<31 + 4096, size - 8} {
		wrote(t, m, at, at+1)
	}
	if e := m.Clear(8, size-16); e != api.OK || m.Words() != 2 || !slices.Equal(m.Pages(), []uint64{0, size - 4096}) {
		t.Error(e, m.Words(), m.Pages())
	}
	if e := m.Clear(0, size); e != api.OK || m.Words() != 0 || len(m.Pages()) != 0 {
		t.Error(e, m.Words(), m.Pages())
	}
}

func TestPagesOfNoughtsAreNone(t *testing.T) { // P3.3
	m := made(t, 1<<20)
	wrote(t, m, 4096*3+8, 5)
	wrote(t, m, 4096*3+4088, 6)
	wrote(t, m, 4096*9, 0)
	empty := made(t, 1<<20)
	if !slices.Equal(m.Pages(), []uint64{4096 * 3}) || m.Words() != 2 {
		t.Error(m.Pages(), m.Words())
	}
	wrote(t, m, 4096*3+8, 0)
	if !slices.Equal(m.Pages(), []uint64{4096 * 3}) || m.Words() != 1 || m.Same(empty) {
		t.Error(m.Pages(), m.Words())
	}
	wrote(t, m, 4096*3+4088, 0)
	if len(m.Pages()) != 0 || m.Words() != 0 || !m.Same(empty) || !empty.Same(m) || len(m.pages) != 0 {
		t.Error(m.Pages(), m.Words())
	}
}

func TestPagesRise(t *testing.T) { // P3.3
	m := made(t, 1<<32)
	var want []uint64
	for i := uint64(0); i < 300; i++ {
		at := i * i * 4096 * 11
		wrote(t, m, at+i%512*8, ^i)
		want = append(want, at)
	}
	for range 5 {
		if got := m.Pages(); !slices.Equal(got, want) {
			t.Error(got)
		}
	}
	if m.Words() != 300 {
		t.Error(m.Words())
	}
}

func TestCopyHasNothingInCommon(t *testing.T) { // P3.3
	m := made(t, 1<<16)
	wrote(t, m, 8, 5)
	c := m.Copy()
	if c == m || c.Size() != m.Size() || !c.Same(m) || !m.Same(c) || !m.Same(m) {
		t.Error("Copy")
	}
	wrote(t, c, 16, 6)
	wrote(t, c, 8, 7)
	wrote(t, m, 4096, 8)
	for _, x := range []struct{ at, m, c uint64 }{{8, 5, 7}, {16, 0, 6}, {4096, 8, 0}} {
		v, _ := m.Read(x.at)
		w, _ := c.Read(x.at)
		if v != x.m || w != x.c {
			t.Error(x, v, w)
		}
	}
	d := m.Copy()
	if m.Clear(0, 1<<16) != api.OK || d.Words() != 2 || m.Words() != 0 {
		t.Error(d.Words(), m.Words())
	}
}

func TestSame(t *testing.T) { // P3.3
	a, b, c := made(t, 1<<16), made(t, 1<<16), made(t, 1<<16+4096)
	if !a.Same(b) || a.Same(c) || c.Same(a) {
		t.Error("of noughts")
	}
	for _, x := range []struct {
		at, v, w uint64
		same     bool
	}{{0, 1, 1, true}, {0, 1, 2, false}, {0, 1, 0, false}, {0, 0, 1, false}, {1<<16 - 8, 1, 1, true}, {1<<16 - 8, 1, 2, false}, {4096, 3, 3, true}} {
		a, b := made(t, 1<<16), made(t, 1<<16)
		for _, m := range []*Memory{a, b} {
			wrote(t, m, 8192, 4)
		}
		wrote(t, a, x.at, x.v)
		wrote(t, b, x.at, x.w)
		if a.Same(b) != x.same || b.Same(a) != x.same {
			t.Error(x)
		}
	}
	wrote(t, a, 4096, 1)
	wrote(t, b, 8192, 1)
	if a.Same(b) || b.Same(a) {
		t.Error("pages as many, but others")
	}
}

func TestDiffer(t *testing.T) { // P3.4
	a, b := made(t, 1<<16), made(t, 1<<16)
	wrote(t, a, 4088, 1)
	wrote(t, a, 4096, 2)
	wrote(t, b, 4096, 2)
	wrote(t, a, 8192+16, 3)
	wrote(t, b, 8192+16, 4)
	wrote(t, a, 8192+24, 5)
	wrote(t, b, 1<<16-8, 6)
	wrote(t, b, 0, 7)
	want := []uint64{0, 4088, 8192 + 16, 8192 + 24, 1<<16 - 8}
	for most := -3; most < 9; most++ {
		first := want[:min(max(most, 0), len(want))]
		if l := a.Differ(b, most); !slices.Equal(l, first) {
			t.Error(most, l)
		}
		if l := b.Differ(a, most); !slices.Equal(l, first) {
			t.Error(most, l)
		}
	}
	const great = int(^uint(0) >> 1)
	if l := a.Differ(b, great); !slices.Equal(l, want) {
		t.Error(l)
	}
	if len(a.Differ(b, -great-1)) != 0 || len(a.Differ(a, great)) != 0 || len(a.Differ(a.Copy(), 9)) != 0 {
		t.Error("none")
	}
	c := made(t, 1<<20)
	if len(c.Differ(a, 9)) != 0 || len(a.Differ(c, 9)) != 0 {
		t.Error("sizes")
	}
}

func TestFind(t *testing.T) { // P3.4
	const size = 1 << 32
	m := made(t, size)
	wrote(t, m, 16, 3)
	wrote(t, m, 24, 3)
	wrote(t, m, 4088, 4)
	wrote(t, m, 8192, 3)
	wrote(t, m, 1<<31, 4)
	wrote(t, m, size-8, 3)
	for _, x := range []struct {
		from, w, at uint64
		ok          bool
	}{{0, 3, 16, true}, {16, 3, 16, true}, {9, 3, 16, true}, {17, 3, 24, true}, {23, 3, 24, true}, {24, 3, 24, true}, {25, 3, 8192, true}, {4095, 3, 8192, true}, {8192, 3, 8192, true},
		{8193, 3, size - 8, true}, {size - 8, 3, size - 8, true}, {size - 9, 3, size - 8, true}, {size - 7, 3, 0, false}, {size - 1, 3, 0, false}, {size, 3, 0, false},
		{1<<64 - 1, 3, 0, false}, {1<<64 - 8, 3, 0, false}, {1 << 63, 3, 0, false},
		{0, 4, 4088, true}, {4088, 4, 4088, true}, {4089, 4, 1 << 31, true}, {4096, 4, 1 << 31, true}, {1<<31 + 1, 4, 0, false},
		{0, 5, 0, false}, {0, 0, 0, false}, {size, 0, 0, false}, {32, 0, 0, false}} {
		if at, ok := m.Find(x.from, x.w); at != x.at || ok != x.ok {
			t.Error(x, at, ok)
		}
	}
	wrote(t, m, 0, 9)
	if at, ok := m.Find(0, 9); at != 0 || !ok {
		t.Error("at 0", at, ok)
	}
	if at, ok := m.Find(1, 9); at != 0 || ok {
		t.Error("behind 0", at, ok)
	}
	wrote(t, m, 16, 0)
	if at, ok := m.Find(0, 3); at != 24 || !ok {
		t.Error("what was overwritten", at, ok)
	}
}

func TestAnswersAreNew(t *testing.T) { // the rule of memory
	m := made(t, 1<<16)
	wrote(t, m, 0, 1)
	wrote(t, m, 4096, 2)
	o := made(t, 1<<16)
	p, d := m.Pages(), m.Differ(o, 9)
	for _, l := range [][]uint64{p, d} {
		for i := range l[:cap(l)] {
			l[:cap(l)][i] = 99
		}
	}
	if !slices.Equal(m.Pages(), []uint64{0, 4096}) || !slices.Equal(m.Differ(o, 9), []uint64{0, 4096}) {
		t.Error(m.Pages(), m.Differ(o, 9))
	}
}

// twin is a memory and what it must be.
type twin struct {
	m *Memory
	l plain
}

// some is an address: most of them near edges of pages, some of them wrong.
func some(r *rand.Rand, size uint64) uint64 {
	at := uint64(r.Intn(int(size/4096)+1))*4096 + uint64(r.Intn(9)-4)*8
	if r.Intn(8) == 0 {
		at += uint64(r.Intn(8))
	}
	return at
}

func (x twin) step(t *testing.T, r *rand.Rand) {
	at, size := some(r, x.m.Size()), x.m.Size()
	switch r.Intn(5) {
	case 0, 1:
		w := uint64(r.Intn(3))
		if e, want := x.m.Write(at, w), x.l.write(at, w); e != want {
			t.Fatal("Write", at, e, want)
		}
	case 2:
		n := some(r, size) >> r.Intn(12)
		if e, want := x.m.Clear(at, n), x.l.clear(at, n); e != want {
			t.Fatal("Clear", at, n, e, want)
		}
	case 3:
		w := uint64(r.Intn(4))
		at2, ok2 := x.l.find(at, w)
		if got, ok := x.m.Find(at, w); got != at2 || ok != ok2 {
			t.Fatal("Find", at, w, got, ok)
		}
	default:
		w := uint64(0)
		e := x.l.wrong(at)
		if e == api.OK {
			w = x.l[at/8]
		}
		if v, f := x.m.Read(at); v != w || f != e {
			t.Fatal("Read", at, v, f)
		}
	}
}

func TestAgainstAPlainMemory(t *testing.T) { // P3.1 to P3.4
	const size = 1<<16 + 4096
	r := rand.New(rand.NewSource(3))
	for range 40 {
		a := twin{made(t, size), make(plain, size/8)}
		for range 60 {
			a.step(t, r)
		}
		b := twin{a.m.Copy(), slices.Clone(a.l)}
		for i := range 60 {
			if i%2 == 0 {
				a.step(t, r)
			} else {
				b.step(t, r)
			}
			if most := r.Intn(20) - 2; !slices.Equal(a.m.Differ(b.m, most), a.l.differ(b.l, most)) {
				t.Fatal("Differ", most, a.m.Differ(b.m, most))
			}
			if a.m.Same(b.m) != slices.Equal(a.l, b.l) {
				t.Fatal("Same")
			}
		}
		held(t, a.m, a.l)
		held(t, b.m, b.l)
	}
}
