package path

import (
	"math/rand"
	"slices"
	"strings"
	"testing"

	"portreeve/api"
	"portreeve/cap"
	"portreeve/phys"
	"portreeve/tree"
)

const (
	all  = ^uint64(0)
	size = 1 << 16
)

// digits are a number's lowest bits as a text, the highest first.
func digits(number uint64, bits int) string {
	var l []byte
	for range bits {
		l = append([]byte{byte('0' + number%2)}, l...)
		number /= 2
	}
	return string(l)
}

// value is the number of a text of digits.
func value(text string) uint64 {
	n := uint64(0)
	for _, d := range text {
		n = n*2 + uint64(d-'0')
	}
	return n
}

// isNode is what the chapter calls a right Node.
func isNode(c cap.Cap) bool { return c.Right() && c.Kind == cap.Node }

// world is a tree, and what was laid in it.
type world struct {
	m *phys.Memory
	x *tree.Tree
	// laid are the capabilities that were laid in slots.
	laid map[uint64]cap.Cap
}

func start(t *testing.T, size uint64) *world {
	t.Helper()
	m, e := phys.New(size)
	if e != api.OK {
		t.Fatal(e)
	}
	return &world{m: m, x: tree.New(m), laid: map[uint64]cap.Cap{}}
}

func (w *world) lay(t *testing.T, at uint64, c cap.Cap) {
	t.Helper()
	if e := w.x.Root(at, c); e != api.OK {
		t.Fatalf("%#x: %v: %d", at, c, e)
	}
	w.laid[at] = c
}

// answer is all that is told of a number.
type answer struct {
	at    uint64
	left  int
	e     api.Errno
	found uint64
	f     api.Errno
	steps int
}

// plainly is the chapter's answer, from the digits and from what was laid.
func (w *world) plainly(root cap.Cap, number uint64, bits int) answer {
	if bits < 1 || bits > 64 {
		return answer{e: 12, f: 12}
	}
	if !isNode(root) {
		return answer{e: 20, f: 20}
	}
	rest, c, steps := digits(number, bits), root, 0
	for {
		steps++
		if len(rest) < c.Guard+c.Bits || !strings.HasPrefix(rest, digits(c.Mark, c.Guard)) {
			return answer{e: 23, f: 23, steps: steps}
		}
		at := c.At + 32*value(rest[c.Guard:c.Guard+c.Bits])
		rest = rest[c.Guard+c.Bits:]
		if rest == "" {
			return answer{at: at, found: at, steps: steps}
		}
		next, ok := w.laid[at]
		if !ok || !isNode(next) {
			return answer{at: at, left: len(rest), f: 23, steps: steps}
		}
		c = next
	}
}

// told is what the calls answer.
func (w *world) told(root cap.Cap, number uint64, bits int) answer {
	var a answer
	a.at, a.left, a.e = Walk(w.x, root, number, bits)
	a.found, a.f = Find(w.x, root, number, bits)
	a.steps = Steps(w.x, root, number, bits)
	return a
}

// ask holds the calls against the chapter, and tells the answer.
func (w *world) ask(t *testing.T, root cap.Cap, number uint64, bits int) answer {
	t.Helper()
	got, want := w.told(root, number, bits), w.plainly(root, number, bits)
	if got != want {
		t.Fatalf("%v: %#x, %d: %v, not %v", root, number, bits, got, want)
	}
	return got
}

// unchanged runs something that is to change neither the memory nor the tree.
func (w *world) unchanged(t *testing.T, run func()) {
	t.Helper()
	before, list := w.m.Copy(), w.x.List()
	run()
	if !w.m.Same(before) || !slices.Equal(w.x.List(), list) || w.x.Count() != len(list) {
		t.Errorf("changed: %#x; %#x, not %#x", w.m.Differ(before, 10), w.x.List(), list)
	}
}

// node is a Node whose guard is some digits.
func node(at uint64, radix int, guard string) cap.Cap {
	return cap.Cap{Kind: cap.Node, At: at, Bits: radix, Guard: len(guard), Mark: value(guard)}
}

// guardOf is a guard of so many digits.
func guardOf(r *rand.Rand, n int) string { return digits(r.Uint64(), n) }
