package tree

import (
	"slices"
	"testing"

	"portreeve/api"
	"portreeve/cap"
	"portreeve/phys"
	"portreeve/slot"
)

// item is a slot of a plain tree.
type item struct {
	at    uint64
	depth int
	c     cap.Cap
}

// plain is the chapter's tree as a list in its order, over a memory with other words.
type plain struct {
	l []item
	// around is the memory without the tree's slots.
	around *phys.Memory
}

func (p *plain) place(at uint64) int {
	return slices.IndexFunc(p.l, func(x item) bool { return x.at == at })
}

// load is layer 12's error: the slots of the list are right.
func (p *plain) load(at uint64) api.Errno {
	_, e := slot.Load(p.around, at)
	return e
}

func (p *plain) held(at uint64) api.Errno {
	if p.place(at) >= 0 {
		return api.OK
	}
	if e := p.load(at); e != api.OK {
		return e
	}
	return api.ErrNone
}

func (p *plain) free(at uint64) api.Errno {
	if at == 0 {
		return api.ErrRange
	}
	if e := p.load(at); e != api.OK {
		return e
	}
	if p.place(at) >= 0 {
		return api.ErrBusy
	}
	return api.OK
}

func form(c cap.Cap) api.Errno {
	if !c.Right() || c == (cap.Cap{}) {
		return api.ErrForm
	}
	return api.OK
}

func (p *plain) full() api.Errno {
	if len(p.l) >= 65536 {
		return api.ErrFull
	}
	return api.OK
}

func (p *plain) deep(at uint64) api.Errno {
	if i := p.place(at); i >= 0 && p.l[i].depth >= 4096 {
		return api.ErrDeep
	}
	return api.OK
}

// first is the first error.
func first(l ...api.Errno) api.Errno {
	for _, e := range l {
		if e != api.OK {
			return e
		}
	}
	return api.OK
}

func (p *plain) root(at uint64, c cap.Cap) api.Errno {
	e := first(p.free(at), form(c), p.full())
	if e == api.OK {
		p.l = slices.Insert(p.l, 0, item{at, 0, c})
	}
	return e
}

func (p *plain) child(parent, at uint64, c cap.Cap) api.Errno {
	e := first(p.held(parent), p.free(at), form(c), p.full(), p.deep(parent))
	if e == api.OK {
		i := p.place(parent)
		p.l = slices.Insert(p.l, i+1, item{at, p.l[i].depth + 1, c})
	}
	return e
}

func (p *plain) set(at uint64, c cap.Cap) api.Errno {
	e := first(p.held(at), form(c))
	if e == api.OK {
		p.l[p.place(at)].c = c
	}
	return e
}

func (p *plain) move(from, to uint64) api.Errno {
	e := first(p.held(from), p.free(to))
	if e == api.OK {
		p.l[p.place(from)].at = to
	}
	return e
}

func (p *plain) swap(a, b uint64) api.Errno {
	e := first(p.held(a), p.held(b))
	if e == api.OK {
		i, j := p.place(a), p.place(b)
		p.l[i].at, p.l[j].at = b, a
	}
	return e
}

func (p *plain) remove(at uint64) api.Errno {
	e := p.held(at)
	if e == api.OK {
		below := p.below(at)
		i := p.place(at)
		p.l = slices.Delete(p.l, i, i+1)
		for _, b := range below {
			p.l[p.place(b)].depth--
		}
	}
	return e
}

func (p *plain) below(at uint64) []uint64 {
	var out []uint64
	i := p.place(at)
	if i < 0 {
		return nil
	}
	for j := i + 1; j < len(p.l) && p.l[j].depth > p.l[i].depth; j++ {
		out = append(out, p.l[j].at)
	}
	return out
}

func (p *plain) parent(at uint64) (uint64, bool) {
	if l := p.above(at); len(l) > 0 {
		return l[0], true
	}
	return 0, false
}

// above takes on the way to the first slot each one that is less deep than all taken so far.
func (p *plain) above(at uint64) []uint64 {
	var out []uint64
	i := p.place(at)
	if i < 0 {
		return nil
	}
	depth := p.l[i].depth
	for _, x := range slices.Backward(p.l[:i]) {
		if x.depth < depth {
			out = append(out, x.at)
			depth = x.depth
		}
	}
	return out
}

// list are the slots in order: all, or those of the depth 0.
func (p *plain) list(roots bool) []uint64 {
	var out []uint64
	for _, x := range p.l {
		if !roots || x.depth == 0 {
			out = append(out, x.at)
		}
	}
	return out
}

// memory is what the whole memory should have.
func (p *plain) memory(t *testing.T) *phys.Memory {
	t.Helper()
	m := p.around.Copy()
	for i, x := range p.l {
		s := slot.Slot{Cap: x.c, Depth: x.depth}
		if i > 0 {
			s.Prev = p.l[i-1].at
		}
		if i < len(p.l)-1 {
			s.Next = p.l[i+1].at
		}
		if e := slot.Store(m, x.at, s); e != api.OK {
			t.Fatal(x, e)
		}
	}
	return m
}

// both is a tree, and what it should be.
type both struct {
	m *phys.Memory
	x *Tree
	p *plain
}

// start is a tree without slots, in a memory with what fill wrote.
func start(t *testing.T, size uint64, fill func(m *phys.Memory)) *both {
	t.Helper()
	m, e := phys.New(size)
	if e != api.OK {
		t.Fatal(e)
	}
	if fill != nil {
		fill(m)
	}
	return &both{m: m, x: New(m), p: &plain{around: m.Copy()}}
}

// agree tells whether an answer is the plain tree's.
func (b *both) agree(t *testing.T, what string, got, want api.Errno) {
	t.Helper()
	if got != want {
		t.Fatalf("%s: %d, not %d", what, got, want)
	}
}

func (b *both) root(t *testing.T, at uint64, c cap.Cap) {
	t.Helper()
	b.agree(t, "Root", b.x.Root(at, c), b.p.root(at, c))
}

func (b *both) child(t *testing.T, parent, at uint64, c cap.Cap) {
	t.Helper()
	b.agree(t, "Child", b.x.Child(parent, at, c), b.p.child(parent, at, c))
}

func (b *both) set(t *testing.T, at uint64, c cap.Cap) {
	t.Helper()
	b.agree(t, "Set", b.x.Set(at, c), b.p.set(at, c))
}

func (b *both) move(t *testing.T, from, to uint64) {
	t.Helper()
	b.agree(t, "Move", b.x.Move(from, to), b.p.move(from, to))
}

func (b *both) swap(t *testing.T, one, other uint64) {
	t.Helper()
	b.agree(t, "Swap", b.x.Swap(one, other), b.p.swap(one, other))
}

func (b *both) remove(t *testing.T, at uint64) {
	t.Helper()
	b.agree(t, "Remove", b.x.Remove(at), b.p.remove(at))
}

// same tells whether the order, and all words of the memory, are as they should be.
func (b *both) same(t *testing.T) {
	t.Helper()
	if want := b.p.memory(t); !b.m.Same(want) {
		t.Fatalf("%#x: unlike at %#x", b.p.list(false), b.m.Differ(want, 8))
	}
	if got, want := b.x.List(), b.p.list(false); !slices.Equal(got, want) || b.x.Count() != len(want) {
		t.Fatalf("List: %#x, %d, not %#x", got, b.x.Count(), want)
	}
	if got, want := b.x.Roots(), b.p.list(true); !slices.Equal(got, want) {
		t.Fatalf("Roots: %#x, not %#x", got, want)
	}
}

// told tells whether all that is told of an address is as it should be.
func (b *both) told(t *testing.T, at uint64) {
	t.Helper()
	c, e := b.x.Cap(at)
	var want item
	depth := -1
	if i := b.p.place(at); i >= 0 {
		want = b.p.l[i]
		depth = want.depth
	}
	if err := b.p.held(at); e != err && (err != api.ErrNone || e != api.OK) || c != want.c {
		t.Fatalf("%#x: Cap: %+v %d, not %+v %d", at, c, e, want.c, err)
	}
	if got := b.x.Depth(at); got != depth {
		t.Fatalf("%#x: Depth: %d, not %d", at, got, depth)
	}
	below := b.p.below(at)
	if got := b.x.Below(at); !slices.Equal(got, below) {
		t.Fatalf("%#x: Below: %#x, not %#x", at, got, below)
	}
	if got := b.x.Bare(at); got != (len(below) == 0) {
		t.Fatalf("%#x: Bare: %t", at, got)
	}
	up, ok := b.p.parent(at)
	if got, is := b.x.Parent(at); got != up || is != ok {
		t.Fatalf("%#x: Parent: %#x %t, not %#x %t", at, got, is, up, ok)
	}
	if got, want := b.x.Above(at), b.p.above(at); !slices.Equal(got, want) {
		t.Fatalf("%#x: Above: %#x, not %#x", at, got, want)
	}
}

// check looks at all of it, and at what is told of some addresses; being asked changes nothing.
func (b *both) check(t *testing.T, ats ...uint64) {
	t.Helper()
	b.same(t)
	for _, at := range ats {
		b.told(t, at)
	}
	b.same(t)
}
