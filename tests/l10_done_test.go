package tests

import (
	"math"
	"runtime"
	"slices"
	"testing"

	"loop.example/g00235/impl"
)

// The signatures that the document gives.
var (
	_ func(m impl.Mem, i int) impl.Mem = impl.LoseLink
	_ func(m impl.Mem, u int) impl.Mem = impl.Done
	_ func(m impl.Mem) bool            = impl.Settled
)

func slowSoil(m *impl.Mem, u int) {
	if u >= 0 && u < len(m.Dirty) {
		m.Dirty[u] = true
	}
}

// without has those of which this is not so, in order.
func without(list []impl.Dep, gone func(impl.Dep) bool) []impl.Dep {
	var left []impl.Dep
	for _, d := range list {
		if !gone(d) {
			left = append(left, d)
		}
	}
	return left
}

func slowLose(m impl.Mem, i int) impl.Mem {
	c := fromMem(m)
	if i < 1 || i > 8 || i > len(c.Disk.Inodes) || len(c.Deps) >= 40 || c.Next < 1 || c.Next > 99999 {
		return c
	}
	x := &c.Disk.Inodes[i-1]
	if x.Links--; x.Links < 0 || m.Disk.Inodes[i-1].Links < 0 {
		x.Links = 0
	}
	slowSoil(&c, 1+(i-1)/2)
	if x.Links > 0 || x.Kind == 0 {
		return c
	}
	free := impl.Dep{Id: c.Next, Kind: 5, Ino: i}
	for _, p := range x.Ptrs {
		if p > 0 {
			free.Blocks = append(free.Blocks, p)
		}
	}
	*x = inode(0, 0, 0, 0)
	c.Deps = append(without(c.Deps, func(d impl.Dep) bool { return d.Ino == i && (d.Kind == 1 || d.Kind == 6) }), free)
	c.Next++
	return c
}

// slowRemGone is one that is gone with its link.
func slowRemGone(m impl.Mem, d impl.Dep) impl.Mem { return slowLose(slowDrop(m, d.Id), d.Ino) }

func slowMark(m *impl.Mem, id int, bits bool) {
	for k := range m.Deps {
		if m.Deps[k].Id == id && bits {
			m.Deps[k].Bits = true
		} else if m.Deps[k].Id == id {
			m.Deps[k].Other = true
		}
	}
}

func slowFreed(m impl.Mem, d impl.Dep) impl.Mem {
	for _, p := range d.Blocks {
		m.Disk.Bits.Blocks[p-1] = false
	}
	m.Disk.Bits.Inos[d.Ino-1] = false
	m.Dirty[0] = true
	m = slowDrop(m, d.Id)
	for _, r := range fromMem(m).Deps {
		for _, p := range d.Blocks {
			if r.Kind == 4 && r.Block == p {
				m = slowRemGone(m, r)
				break
			}
		}
	}
	return m
}

func slowInoDone(m impl.Mem, d impl.Dep) impl.Mem {
	switch d.Kind {
	case 2:
		slowMark(&m, d.Id, false)
	case 6:
		m = slowDrop(m, d.Id)
	case 5:
		m = slowFreed(m, d)
	}
	return m
}

// slowBlockDone takes one as it was ahead of the writing.
func slowBlockDone(m impl.Mem, d impl.Dep) impl.Mem {
	if d.Kind == 1 {
		slowMark(&m, d.Id, false)
	}
	if d.Kind == 3 {
		m = slowDrop(m, d.Id)
		for k := range m.Deps {
			if m.Deps[k].After == d.Id {
				m.Deps[k].After = 0
				if m.Deps[k].Block > 0 {
					m.Dirty[4+m.Deps[k].Block] = true
				}
			}
		}
	}
	if d.Kind == 4 && d.After == 0 {
		m = slowRemGone(m, d)
	}
	return m
}

func slowThen(m impl.Mem) impl.Mem {
	ahead := fromMem(m).Deps
	for k := range m.Deps {
		d := &m.Deps[k]
		if d.Kind == 1 && d.Bits && d.Other {
			d.Kind = 6
			m.Dirty[1+(d.Ino-1)/2] = true
		}
	}
	for k := range m.Deps {
		d := &m.Deps[k]
		leans := slices.ContainsFunc(ahead, func(o impl.Dep) bool { return (o.Kind == 1 || o.Kind == 6) && o.Block == d.Block })
		if d.Kind == 2 && d.Bits && d.Other && !leans {
			d.Kind = 3
			m.Dirty[4+d.Block] = true
		}
	}
	return m
}

func slowDone(m impl.Mem, u int) impl.Mem {
	c := fromMem(m)
	if !slowMemOk(m) || u < 0 || u > 20 {
		return c
	}
	c.Dirty[u] = false
	for _, d := range fromMem(m).Deps {
		if u == 0 && (d.Kind == 1 || d.Kind == 2) {
			slowMark(&c, d.Id, true)
		}
		if u >= 1 && u <= 4 && (d.Ino == 2*u-1 || d.Ino == 2*u) {
			c = slowInoDone(c, d)
		}
		if u >= 5 && d.Block == u-4 {
			c = slowBlockDone(c, d)
		}
	}
	return slowThen(c)
}

func checkLose(t *testing.T, m impl.Mem, i int) {
	t.Helper()
	wantMem(t, "LoseLink "+impl.Decimal(i), m, impl.LoseLink(m, i), slowLose(m, i))
}

func checkDone(t *testing.T, m impl.Mem, u int) {
	t.Helper()
	wantMem(t, "Done "+impl.Decimal(u), m, impl.Done(m, u), slowDone(m, u))
}

func slowSettled(m impl.Mem) bool {
	for _, dirty := range m.Dirty {
		if dirty {
			return false
		}
	}
	return len(m.Deps) == 0
}

// checkDones holds all that comes of writing a memory's units against the document, and wants it as it was.
func checkDones(t *testing.T, m impl.Mem) {
	t.Helper()
	was := fromMem(m)
	for i := -1; i <= 10; i++ {
		checkLose(t, m, i)
	}
	for u := -1; u <= 22; u++ {
		checkDone(t, m, u)
	}
	if got := impl.Settled(m); got != slowSettled(m) {
		t.Errorf("Settled(%v) = %v", m, got)
	}
	if !sameMem(m, was) {
		t.Errorf("a memory was written into: %v, was %v", m, was)
	}
}

func seenOf(ino, ptr, block int) impl.Dep { return ofKind(impl.DepSeen, allocOf(ino, ptr, block)) }

func shownIn(block, slot, ino int) impl.Dep { return ofKind(impl.DepShown, addIn(block, slot, ino)) }

func freeOf(ino int, blocks ...int) impl.Dep {
	return impl.Dep{Kind: impl.DepFree, Ino: ino, Blocks: blocks}
}

// withFlags has these two in place of its own.
func withFlags(bits, other bool, d impl.Dep) impl.Dep {
	d.Bits, d.Other = bits, other
	return d
}

func withId(id int, d impl.Dep) impl.Dep {
	d.Id = id
	return d
}

// A wanted memory is the one that was handed in, with these changes.
type wanted struct {
	name string
	deps []impl.Dep
	want func(m *impl.Mem)
}

// checkWanted calls with a right memory of a full disk, and wants the change.
func checkWanted(t *testing.T, name string, m impl.Mem, call func(impl.Mem) impl.Mem, want func(*impl.Mem)) {
	t.Helper()
	if !impl.MemOk(m) {
		t.Fatalf("%s: not right: %v", name, m)
	}
	was := fromMem(m)
	changed := fromMem(m)
	want(&changed)
	got := call(m)
	if !sameMem(got, changed) {
		t.Errorf("%s: answers %v, want %v", name, got, changed)
	}
	if !impl.MemOk(got) {
		t.Errorf("%s: memory is not right any more: %v", name, got)
	}
	if !sameMem(m, was) {
		t.Errorf("%s: a memory was written into: %v, was %v", name, m, was)
	}
}

func checkLost(t *testing.T, i int, w wanted) {
	t.Helper()
	m := leaningMem(w.deps...)
	checkWanted(t, w.name, m, func(m impl.Mem) impl.Mem { return impl.LoseLink(m, i) }, w.want)
	checkDones(t, m)
}

// gone is a change that makes an inode one of KindNone, with what is left of the Deps and the DepFree of it.
func gone(i int, blocks []int, left ...int) func(*impl.Mem) {
	return func(m *impl.Mem) {
		goneWith(i, blocks)(m)
		m.Deps = without(m.Deps, func(d impl.Dep) bool { return d.Id < 60 && !slices.Contains(left, d.Id) })
	}
}

// goneWith is such a change in which nothing that leaned is gone.
func goneWith(i int, blocks []int) func(*impl.Mem) {
	return func(m *impl.Mem) {
		m.Disk.Inodes[i-1] = inode(0, 0, 0, 0)
		m.Dirty[(i+1)/2] = true
		m.Deps = append(m.Deps, impl.Dep{Id: m.Next, Kind: impl.DepFree, Ino: i, Blocks: blocks})
		m.Next++
	}
}

func linksAre(i, links int) func(*impl.Mem) {
	return func(m *impl.Mem) {
		m.Disk.Inodes[i-1].Links = links
		m.Dirty[(i+1)/2] = true
	}
}

func asItIs(*impl.Mem) {}

func TestLinksAreLost(t *testing.T) {
	checkLost(t, 3, wanted{"a file of 200 links", nil, linksAre(3, 199)})
	checkLost(t, 8, wanted{"a directory of 200 links", nil, linksAre(8, 199)})
	checkLost(t, 2, wanted{"a directory of 2 links", nil, linksAre(2, 1)})
	checkLost(t, 1, wanted{"a directory of 1 link, one pointer", nil, gone(1, []int{1})})
	checkLost(t, 7, wanted{"a file of 1 link, two pointers alike", nil, gone(7, []int{16, 16})})
	checkLost(t, 4, wanted{"a file of no link, no pointers", nil, gone(4, nil)})
	checkLost(t, 6, wanted{"a directory of no link, its second pointer", nil, gone(6, []int{16})})
	checkLost(t, 5, wanted{"none", nil, func(m *impl.Mem) { m.Dirty[3] = true }})
	for _, links := range []int{0, 1, 2, 3, 199, 200} {
		for _, kind := range []int{1, 2} {
			for _, ptrs := range [][]int{{0, 0}, {9, 0}, {0, 9}, {9, 10}, {10, 9}, {9, 9}, {16, 1}} {
				m := impl.MemNew(fullDisk())
				m.Disk.Inodes[4] = inode(kind, links, ptrs...)
				want := linksAre(5, links-1)
				if links <= 1 {
					had := slices.DeleteFunc(slices.Clone(ptrs), func(p int) bool { return p == 0 })
					want = goneWith(5, had)
				}
				checkWanted(t, "an inode", m, func(m impl.Mem) impl.Mem { return impl.LoseLink(m, 5) }, want)
				checkDones(t, m)
			}
		}
	}
}

// With an inode go the pointers of it that lean, whatever block they are to, and nothing else.
func TestPointersOfALostInode(t *testing.T) {
	file := []impl.Dep{allocOf(7, 0, 16), seenOf(7, 1, 16)}
	others := []impl.Dep{allocOf(2, 0, 16), seenOf(2, 1, 8), allocOf(8, 0, 5), seenOf(8, 1, 5)}
	checkLost(t, 7, wanted{"an alloc", file[:1], gone(7, []int{16, 16})})
	checkLost(t, 7, wanted{"one seen", file[1:], gone(7, []int{16, 16})})
	checkLost(t, 7, wanted{"both", file, gone(7, []int{16, 16})})
	checkLost(t, 7, wanted{"several", []impl.Dep{file[1], file[1], file[0], file[0]}, gone(7, []int{16, 16})})
	checkLost(t, 7, wanted{"those of others", others, goneWith(7, []int{16, 16})})
	checkLost(t, 7, wanted{"both, and others between", []impl.Dep{others[0], file[0], others[1], others[2], file[1], others[3]}, gone(7, []int{16, 16}, 1, 3, 4, 6)})
	names := []impl.Dep{addIn(16, 3, 5), remIn(1, 2, "c", 7, 0), remIn(1, 3, "d", 7, 9), freeOf(7, 16), shownIn(10, 1, 4), freeOf(7), withFlags(true, true, addIn(16, 3, 5))}
	checkLost(t, 7, wanted{"names and free ones", names, goneWith(7, []int{16, 16})})
	checkLost(t, 3, wanted{"an alloc of one that keeps a link", []impl.Dep{allocOf(3, 0, 3), seenOf(3, 1, 4)}, linksAre(3, 199)})
	checkLost(t, 5, wanted{"none, of which names lean", names, func(m *impl.Mem) { m.Dirty[3] = true }})
	checkLost(t, 1, wanted{"the root", []impl.Dep{allocOf(1, 0, 1), addIn(1, 0, 2), freeOf(1, 1)}, gone(1, []int{1}, 2, 3)})
	checkLost(t, 2, wanted{"a directory that has a link left", []impl.Dep{allocOf(2, 0, 16), seenOf(2, 1, 8)}, linksAre(2, 1)})
	checkLost(t, 6, wanted{"a pointer of no place that is first", []impl.Dep{allocOf(6, 1, 16), allocOf(2, 0, 16)}, gone(6, []int{16}, 2)})
}

func TestLinksOfInodesThatAreNone(t *testing.T) {
	for _, m := range []impl.Mem{leanMem(), impl.MemNew(fullDisk()), impl.MemNew(usedDisk()), impl.MemNew(impl.DiskNew())} {
		for _, i := range append(oddNumbers(), -8, -1, 0, 9, 10, 16, 17, 257, 1<<32+1) {
			if i >= 1 && i <= 8 {
				continue
			}
			if got := impl.LoseLink(m, i); !sameMem(got, m) {
				t.Errorf("LoseLink of inode %d = %v", i, got)
			}
		}
	}
}

// Without room for one more nothing is lost, not even where none would be put, or where those that go would make room.
func TestLinksWithoutRoom(t *testing.T) {
	for _, n := range []int{0, 1, 38, 39, 40} {
		for i := 1; i <= 8; i++ {
			m := memOfDeps(60, freeDeps(n)...)
			got := impl.LoseLink(m, i)
			if sameMem(got, m) != (n == 40) {
				t.Errorf("LoseLink of inode %d with %d that lean = %v", i, n, got)
			}
			checkDones(t, m)
		}
		own := leaningMem(slices.Repeat([]impl.Dep{allocOf(7, 0, 16), seenOf(7, 1, 16)}, 20)[:n]...)
		want := 1
		if n == 40 {
			want = 40
		}
		if got := impl.LoseLink(own, 7); len(got.Deps) != want || sameMem(got, own) != (n == 40) {
			t.Errorf("LoseLink of inode 7 with %d pointers that lean = %v", n, got)
		}
		checkDones(t, own)
	}
	for _, next := range []int{math.MinInt, -1, 0, 1, 2, 99998, 99999, 100000, 100001, math.MaxInt} {
		refused := next < 1 || next > 99999
		for i := 1; i <= 8; i++ {
			m := memOfDeps(next)
			got := impl.LoseLink(m, i)
			if sameMem(got, m) != refused {
				t.Errorf("LoseLink of inode %d with Next %d = %v", i, next, got)
			}
			put := !refused && (i == 1 || i == 4 || i == 6 || i == 7)
			if put && (got.Next != next+1 || len(got.Deps) != 1 || got.Deps[0].Id != next) {
				t.Errorf("LoseLink of inode %d with Next %d puts %v", i, next, got)
			}
			if !put && (got.Next != next || len(got.Deps) != 0) {
				t.Errorf("LoseLink of inode %d with Next %d puts %v", i, next, got)
			}
			checkDones(t, m)
		}
	}
	for _, n := range []int{41, 42, 296} {
		m := memOfDeps(500, freeDeps(n)...)
		if got := impl.LoseLink(m, 7); !sameMem(got, m) {
			t.Errorf("LoseLink with %d that lean = %v", n, got)
		}
	}
}

// Of a memory that is not right an inode loses what is there.
func TestLinksOfMemoriesThatAreNotRight(t *testing.T) {
	for _, links := range []int{math.MinInt, -200, -1, 0, 1, 2, 201, 256, 257, math.MaxInt} {
		for _, kind := range []int{math.MinInt, -1, 0, 1, 2, 3, 256, math.MaxInt} {
			m := leaningMem(allocOf(5, 0, 17), seenOf(5, 9, -1), allocOf(6, 1, 16), ofKind(0, allocOf(5, 0, 3)), ofKind(7, allocOf(5, 0, 3)))
			m.Disk.Inodes[4] = inode(kind, links, 17, -1, 0, 3, math.MaxInt, math.MinInt)
			left := max(links, 1) - 1
			want := fromMem(m)
			want.Disk.Inodes[4].Links = left
			want.Dirty[3] = true
			if left == 0 && kind != 0 {
				want = fromMem(m)
				gone(5, []int{17, 3, math.MaxInt}, 3, 4, 5)(&want)
			}
			if got := impl.LoseLink(m, 5); !sameMem(got, want) {
				t.Errorf("LoseLink of kind %d with %d links = %v, want %v", kind, links, got, want)
			}
			checkDones(t, m)
		}
	}
	for n := range 24 {
		m := leanMem()
		m.Dirty = make([]bool, n)
		checkDones(t, m)
		m = leanMem()
		m.Disk.Inodes = slices.Repeat([]impl.Inode{inode(1, 1, 3, 0)}, n)
		checkDones(t, m)
	}
	// One Id twice: what is not of the inode stays.
	twice := memOfDeps(60, withId(3, allocOf(7, 0, 16)), withId(3, freeOf(2, 4)), withId(60, seenOf(7, 0, 16)), withId(60, freeOf(1)))
	want := fromMem(twice)
	want.Deps = slices.Delete(slices.Delete(want.Deps, 2, 3), 0, 1)
	goneWith(7, []int{16, 16})(&want)
	if got := impl.LoseLink(twice, 7); !sameMem(got, want) {
		t.Errorf("LoseLink with Ids that are there twice = %v, want %v", got, want)
	}
	if got := impl.LoseLink(impl.Mem{}, 1); !sameMem(got, impl.Mem{}) {
		t.Errorf("LoseLink of nothing = %v", got)
	}
}

// checkWritten wants a change of a memory of a full disk when unit u, dirty or not, is written.
func checkWritten(t *testing.T, u int, w wanted) {
	t.Helper()
	for _, dirty := range [][]bool{flags(21, u), flags(21)} {
		m := leaningMem(w.deps...)
		m.Dirty = dirty
		checkWanted(t, w.name, m, func(m impl.Mem) impl.Mem { return impl.Done(m, u) }, func(m *impl.Mem) {
			m.Dirty[u] = false
			w.want(m)
		})
		checkDones(t, m)
	}
}

// dropped is a change without those of these Ids.
func dropped(ids ...int) func(*impl.Mem) {
	return func(m *impl.Mem) {
		m.Deps = without(m.Deps, func(d impl.Dep) bool { return slices.Contains(ids, d.Id) })
	}
}

// kindIs is a change of the kind of the one with this Id, with a unit that is dirty by it.
func kindIs(id, kind, unit int) func(*impl.Mem) {
	return func(m *impl.Mem) {
		for k := range m.Deps {
			if m.Deps[k].Id == id {
				m.Deps[k].Kind = kind
			}
		}
		m.Dirty[unit] = true
	}
}

// marked is a change of the flags of those of these Ids.
func marked(bits bool, ids ...int) func(*impl.Mem) {
	return func(m *impl.Mem) {
		for _, id := range ids {
			slowMark(m, id, bits)
		}
	}
}

func all(changes ...func(*impl.Mem)) func(*impl.Mem) {
	return func(m *impl.Mem) {
		for _, c := range changes {
			c(m)
		}
	}
}

func dirtyToo(units ...int) func(*impl.Mem) {
	return func(m *impl.Mem) {
		for _, u := range units {
			m.Dirty[u] = true
		}
	}
}

// freed is a change of the bits of an inode and its blocks.
func freed(i int, blocks ...int) func(*impl.Mem) {
	return func(m *impl.Mem) {
		m.Disk.Bits.Inos[i-1] = false
		for _, p := range blocks {
			m.Disk.Bits.Blocks[p-1] = false
		}
		m.Dirty[0] = true
	}
}

func afterIs0(unit int, ids ...int) func(*impl.Mem) {
	return func(m *impl.Mem) {
		for k := range m.Deps {
			if slices.Contains(ids, m.Deps[k].Id) {
				m.Deps[k].After = 0
			}
		}
		m.Dirty[unit] = true
	}
}

func TestBitsAreWritten(t *testing.T) {
	checkWritten(t, 0, wanted{"nothing", nil, asItIs})
	checkWritten(t, 0, wanted{"an alloc", []impl.Dep{allocOf(3, 0, 3)}, marked(true, 1)})
	checkWritten(t, 0, wanted{"an add", []impl.Dep{addIn(1, 1, 3)}, marked(true, 1)})
	checkWritten(t, 0, wanted{"several", []impl.Dep{addIn(1, 1, 3), allocOf(3, 1, 4), addIn(8, 0, 1), allocOf(8, 0, 5)}, marked(true, 1, 2, 3, 4)})
	checkWritten(t, 0, wanted{"those that have it", []impl.Dep{withFlags(true, false, addIn(1, 1, 3)), withFlags(true, false, allocOf(3, 1, 4))}, asItIs})
	checkWritten(t, 0, wanted{"an alloc that has the other", []impl.Dep{withFlags(false, true, allocOf(3, 1, 4))}, all(marked(true, 1), kindIs(1, impl.DepSeen, 2))})
	checkWritten(t, 0, wanted{"an add that has the other", []impl.Dep{withFlags(false, true, addIn(1, 1, 3))}, all(marked(true, 1), kindIs(1, impl.DepShown, 5))})
	checkWritten(t, 0, wanted{"kinds that do not lean on it", []impl.Dep{shownIn(1, 1, 3), seenOf(3, 0, 3), freeOf(1, 1, 2), remIn(2, 0, "c", 7, 0), remIn(2, 1, "d", 7, 1)}, asItIs})
}

func TestInodesAreWritten(t *testing.T) {
	checkWritten(t, 2, wanted{"an add of the first", []impl.Dep{addIn(1, 1, 3)}, marked(false, 1)})
	checkWritten(t, 2, wanted{"an add of the second", []impl.Dep{addIn(10, 3, 4)}, marked(false, 1)})
	checkWritten(t, 2, wanted{"an add of another unit", []impl.Dep{addIn(1, 0, 2), addIn(16, 3, 5)}, asItIs})
	checkWritten(t, 2, wanted{"an add that has the bits", []impl.Dep{withFlags(true, false, addIn(10, 1, 4))}, all(marked(false, 1), kindIs(1, impl.DepShown, 14))})
	checkWritten(t, 1, wanted{"one seen of each", []impl.Dep{seenOf(1, 0, 1), seenOf(2, 0, 16), seenOf(2, 1, 8)}, dropped(1, 2, 3)})
	checkWritten(t, 1, wanted{"one seen of another unit", []impl.Dep{seenOf(3, 0, 3), seenOf(8, 0, 5)}, asItIs})
	checkWritten(t, 1, wanted{"an alloc of it", []impl.Dep{allocOf(1, 0, 1), allocOf(2, 0, 16)}, asItIs})
	checkWritten(t, 1, wanted{"names of it", []impl.Dep{shownIn(1, 0, 2), remIn(2, 1, "c", 2, 0), remIn(2, 1, "c", 1, 3)}, asItIs})
	checkWritten(t, 4, wanted{"the last unit of inodes", []impl.Dep{addIn(8, 1, 8), addIn(16, 3, 5), seenOf(7, 0, 16), seenOf(8, 1, 5), seenOf(6, 1, 16)}, all(marked(false, 1), dropped(3, 4))})
	checkWritten(t, 3, wanted{"a unit whose block has the same number", []impl.Dep{allocOf(3, 0, 3), remIn(1, 3, "c", 7, 0)}, asItIs})
}

func TestInodesThatAreGoneAreWritten(t *testing.T) {
	checkWritten(t, 2, wanted{"the first", []impl.Dep{freeOf(3, 4, 8)}, all(freed(3, 4, 8), dropped(1))})
	checkWritten(t, 1, wanted{"the second", []impl.Dep{freeOf(2, 15)}, all(freed(2, 15), dropped(1))})
	checkWritten(t, 1, wanted{"without blocks", []impl.Dep{freeOf(2)}, all(freed(2), dropped(1))})
	checkWritten(t, 1, wanted{"blocks that are free", []impl.Dep{freeOf(1, 2, 3, 2)}, all(freed(1), dropped(1))})
	checkWritten(t, 1, wanted{"of another unit", []impl.Dep{freeOf(3, 4, 8), freeOf(8, 1)}, asItIs})
	checkWritten(t, 1, wanted{"both of it", []impl.Dep{freeOf(2, 1), freeOf(3, 4), freeOf(1, 8)}, all(freed(1, 8), freed(2, 1), dropped(1, 3))})
	checkWritten(t, 1, wanted{"one twice", []impl.Dep{freeOf(2, 1), freeOf(2, 8)}, all(freed(2, 1, 8), dropped(1, 2))})
	checkWritten(t, 1, wanted{"of a Block, of no Blocks", []impl.Dep{{Kind: impl.DepFree, Ino: 2, Block: 1}, remIn(1, 2, "c", 3, 0)}, all(freed(2), dropped(1))})
	rem := remIn(8, 1, "c", 3, 0)
	checkWritten(t, 1, wanted{"a rem in its block", []impl.Dep{freeOf(2, 16, 8), rem}, all(freed(2, 16, 8), dropped(1, 2), linksAre(3, 199))})
	checkWritten(t, 1, wanted{"a rem ahead of it", []impl.Dep{rem, freeOf(2, 16, 8)}, all(freed(2, 16, 8), dropped(1, 2), linksAre(3, 199))})
	checkWritten(t, 1, wanted{"a rem that is shown", []impl.Dep{freeOf(2, 8), remIn(8, 1, "c", 3, 7)}, all(freed(2, 8), dropped(1, 2), linksAre(3, 199))})
	checkWritten(t, 1, wanted{"a rem in another block", []impl.Dep{freeOf(2, 8), remIn(1, 2, "c", 3, 0)}, all(freed(2, 8), dropped(1))})
	checkWritten(t, 1, wanted{"names in its block that are there", []impl.Dep{freeOf(2, 8), addIn(8, 0, 8-7), shownIn(8, 1, 8)}, all(freed(2, 8), dropped(1), marked(false, 2))})
	checkWritten(t, 1, wanted{"several in a block", []impl.Dep{rem, freeOf(2, 8), rem, remIn(8, 3, "d", 3, 5)}, all(freed(2, 8), dropped(1, 2, 3, 4), linksAre(3, 197))})
	checkWritten(t, 1, wanted{"in a block that it has twice", []impl.Dep{freeOf(2, 8, 8), rem}, all(freed(2, 8), dropped(1, 2), linksAre(3, 199))})
	checkWritten(t, 1, wanted{"in a block of two that are gone", []impl.Dep{freeOf(2, 8), rem, freeOf(1, 8, 1)}, all(freed(2, 8), freed(1, 1), dropped(1, 2, 3), linksAre(3, 199))})
	checkWritten(t, 1, wanted{"of an inode that is none", []impl.Dep{freeOf(2, 8), remIn(8, 1, "c", 5, 0)}, all(freed(2, 8), dropped(1, 2), dirtyToo(3))})
}

// What is lost with an inode that is gone leads to others that are: they are not on the disk yet.
func TestInodesThatAreGoneWithOthers(t *testing.T) {
	checkWritten(t, 1, wanted{"one of another unit", []impl.Dep{freeOf(2, 8), remIn(8, 1, "c", 7, 0)}, all(freed(2, 8), dropped(1, 2), goneWith(7, []int{16, 16}))})
	checkWritten(t, 1, wanted{"one of this very unit", []impl.Dep{freeOf(2, 8), remIn(8, 1, "c", 1, 0)}, all(freed(2, 8), dropped(1, 2), goneWith(1, []int{1}))})
	checkWritten(t, 4, wanted{"one of this unit, with a rem in its block", []impl.Dep{freeOf(8, 8), remIn(8, 1, "c", 7, 0), remIn(16, 1, "d", 3, 0)}, all(freed(8, 8), dropped(1, 2), goneWith(7, []int{16, 16}))})
	checkWritten(t, 1, wanted{"two, in the order of the rems", []impl.Dep{remIn(1, 2, "d", 6, 0), freeOf(2, 8, 1), remIn(8, 1, "c", 7, 3), remIn(1, 3, "e", 4, 0)},
		all(freed(2, 8, 1), dropped(1, 2, 3, 4), goneWith(6, []int{16}), goneWith(7, []int{16, 16}), goneWith(4, nil))})
	checkWritten(t, 1, wanted{"two, in the order of those that are gone", []impl.Dep{remIn(1, 2, "d", 6, 0), remIn(8, 1, "c", 7, 3), freeOf(2, 8), freeOf(1, 1)},
		all(freed(2, 8), freed(1, 1), dropped(1, 2, 3, 4), goneWith(7, []int{16, 16}), goneWith(6, []int{16}))})
	checkWritten(t, 1, wanted{"twice the same", []impl.Dep{freeOf(2, 8), remIn(8, 1, "c", 7, 0), remIn(8, 2, "d", 7, 0)}, all(freed(2, 8), dropped(1, 2, 3), goneWith(7, []int{16, 16}))})
	checkWritten(t, 1, wanted{"with its pointers", []impl.Dep{seenOf(7, 0, 16), freeOf(2, 8), allocOf(7, 1, 16), remIn(8, 1, "c", 7, 0)}, all(freed(2, 8), dropped(1, 2, 3, 4), goneWith(7, []int{16, 16}))})
	checkWritten(t, 1, wanted{"with its pointers, on which a name leans", []impl.Dep{freeOf(2, 8), seenOf(7, 0, 16), withFlags(true, true, addIn(16, 3, 5)), remIn(8, 1, "c", 7, 0)},
		all(freed(2, 8), dropped(1, 2, 4), goneWith(7, []int{16, 16}), kindIs(3, impl.DepShown, 20))})
	checkWritten(t, 1, wanted{"with its pointer, on another of which a name leans", []impl.Dep{freeOf(2, 8), seenOf(7, 0, 16), seenOf(6, 1, 16), withFlags(true, true, addIn(16, 3, 5)), remIn(8, 1, "c", 7, 0)},
		all(freed(2, 8), dropped(1, 2, 5), goneWith(7, []int{16, 16}))})
}

func TestBlocksAreWritten(t *testing.T) {
	checkWritten(t, 20, wanted{"allocs of it", []impl.Dep{allocOf(2, 0, 16), allocOf(7, 1, 16), allocOf(7, 0, 16)}, marked(false, 1, 2, 3)})
	checkWritten(t, 20, wanted{"allocs of others", []impl.Dep{allocOf(2, 1, 8), allocOf(3, 0, 3), allocOf(8, 0, 5)}, asItIs})
	checkWritten(t, 20, wanted{"one seen of it", []impl.Dep{seenOf(2, 0, 16), seenOf(7, 1, 16)}, asItIs})
	checkWritten(t, 20, wanted{"an alloc that has the bits", []impl.Dep{withFlags(true, false, allocOf(7, 1, 16))}, all(marked(false, 1), kindIs(1, impl.DepSeen, 4))})
	checkWritten(t, 5, wanted{"an add in it", []impl.Dep{addIn(1, 0, 2), withFlags(true, false, addIn(1, 1, 3))}, asItIs})
	checkWritten(t, 5, wanted{"shown ones", []impl.Dep{shownIn(1, 0, 2), shownIn(1, 1, 3), shownIn(8, 0, 1)}, dropped(1, 2)})
	checkWritten(t, 5, wanted{"free ones of it", []impl.Dep{freeOf(1, 1), {Kind: impl.DepFree, Ino: 2, Block: 1}, seenOf(1, 0, 1)}, asItIs})
	checkWritten(t, 6, wanted{"a rem after nothing", []impl.Dep{remIn(2, 1, "c", 3, 0)}, all(dropped(1), linksAre(3, 199))})
	checkWritten(t, 6, wanted{"a rem after another", []impl.Dep{remIn(2, 1, "c", 3, 9), remIn(2, 2, "d", 3, 1)}, asItIs})
	checkWritten(t, 6, wanted{"a rem in another block", []impl.Dep{remIn(1, 2, "c", 3, 0), remIn(8, 2, "c", 3, 0)}, asItIs})
	checkWritten(t, 6, wanted{"a rem of the last link", []impl.Dep{remIn(2, 1, "c", 7, 0)}, all(dropped(1), goneWith(7, []int{16, 16}))})
	checkWritten(t, 6, wanted{"a rem of no inode", []impl.Dep{remIn(2, 1, "c", 5, 0)}, all(dropped(1), dirtyToo(3))})
	checkWritten(t, 6, wanted{"rems of one link", []impl.Dep{remIn(2, 1, "c", 7, 0), remIn(2, 2, "d", 7, 0)}, all(dropped(1, 2), goneWith(7, []int{16, 16}))})
	checkWritten(t, 6, wanted{"rems of several, in order", []impl.Dep{remIn(2, 1, "c", 7, 0), remIn(2, 2, "d", 4, 0), remIn(2, 0, "e", 6, 5), remIn(2, 3, "f", 1, 0)},
		all(dropped(1, 2, 4), goneWith(7, []int{16, 16}), goneWith(4, nil), goneWith(1, []int{1}))})
	checkWritten(t, 20, wanted{"the alloc that goes with a rem", []impl.Dep{withFlags(true, false, allocOf(7, 0, 16)), remIn(16, 1, "c", 7, 0), withFlags(true, false, allocOf(2, 0, 16))},
		all(dropped(1, 2), marked(false, 3), kindIs(3, impl.DepSeen, 1), goneWith(7, []int{16, 16}))})
	checkWritten(t, 20, wanted{"the alloc behind the rem that it goes with", []impl.Dep{remIn(16, 1, "c", 7, 0), withFlags(true, false, allocOf(7, 0, 16))}, all(dropped(1, 2), goneWith(7, []int{16, 16}))})
}

// What is shown is on the disk now: what waits for it need not be shown any longer, but was in this very writing.
func TestWhatWaitsForAName(t *testing.T) {
	name := shownIn(1, 1, 3)
	checkWritten(t, 5, wanted{"a rem in another block", []impl.Dep{name, remIn(2, 0, "c", 7, 1)}, all(dropped(1), afterIs0(6, 2))})
	checkWritten(t, 5, wanted{"a rem ahead of it", []impl.Dep{remIn(16, 0, "c", 7, 2), name}, all(dropped(2), afterIs0(20, 1))})
	checkWritten(t, 5, wanted{"a rem in the same block", []impl.Dep{name, remIn(1, 2, "c", 7, 1)}, all(dropped(1), afterIs0(5, 2))})
	checkWritten(t, 5, wanted{"a rem in the same block ahead of it", []impl.Dep{remIn(1, 2, "c", 7, 2), name}, all(dropped(2), afterIs0(5, 1))})
	checkWritten(t, 5, wanted{"several", []impl.Dep{remIn(2, 0, "c", 7, 2), name, remIn(8, 0, "d", 6, 2), remIn(8, 1, "e", 6, 4), remIn(1, 3, "f", 3, 0)},
		all(dropped(2, 5), afterIs0(6, 1), afterIs0(12, 3), linksAre(3, 199))})
	checkWritten(t, 5, wanted{"two names", []impl.Dep{name, shownIn(1, 0, 2), remIn(2, 0, "c", 7, 2), remIn(8, 0, "d", 7, 1)}, all(dropped(1, 2), afterIs0(6, 3), afterIs0(12, 4))})
	checkWritten(t, 6, wanted{"a name in another block", []impl.Dep{name, remIn(2, 0, "c", 7, 1)}, asItIs})
	checkWritten(t, 5, wanted{"an add", []impl.Dep{addIn(1, 1, 3), remIn(2, 0, "c", 7, 1), remIn(1, 2, "d", 7, 1)}, asItIs})
	after := func(d impl.Dep, id int) impl.Dep { d.After = id; return d }
	checkWritten(t, 5, wanted{"other kinds", []impl.Dep{name, after(freeOf(1, 2), 1), after(allocOf(3, 0, 3), 1), after(seenOf(3, 1, 4), 1), after(addIn(8, 0, 1), 1), after(shownIn(10, 1, 4), 1)},
		all(dropped(1), afterIs0(7, 2, 3), afterIs0(8, 4), afterIs0(12, 5), afterIs0(14, 6))})
	checkWritten(t, 5, wanted{"a free one of a block", []impl.Dep{name, {Kind: impl.DepFree, Ino: 1, Block: 9, After: 1}}, all(dropped(1), afterIs0(13, 2))})
	checkWritten(t, 5, wanted{"itself", []impl.Dep{after(name, 1)}, dropped(1)})
	checkWritten(t, 5, wanted{"a name that is on the disk with it, too", []impl.Dep{name, after(shownIn(1, 0, 2), 1)}, all(dropped(1, 2), dirtyToo(5))})
	checkWritten(t, 5, wanted{"a name that was on the disk with it", []impl.Dep{after(shownIn(1, 0, 2), 2), name}, dropped(1, 2)})
	checkWritten(t, 5, wanted{"names of each other", []impl.Dep{after(name, 2), after(shownIn(1, 0, 2), 1)}, all(dropped(1, 2), dirtyToo(5))})
}

// A rem that waited goes with the next writing of its block, not with this one.
func TestNamesThatGoOneWritingLater(t *testing.T) {
	m := leaningMem(shownIn(1, 1, 3), remIn(1, 2, "c", 7, 1), remIn(2, 0, "d", 4, 1))
	first := impl.Done(m, 5)
	if len(first.Deps) != 2 || !first.Dirty[5] || !first.Dirty[6] || first.Disk.Inodes[6].Kind != 1 {
		t.Errorf("when the name is written: %v", first)
	}
	second := impl.Done(first, 5)
	want := fromMem(first)
	want.Dirty[5] = false
	all(dropped(2), goneWith(7, []int{16, 16}))(&want)
	if !sameMem(second, want) {
		t.Errorf("when the block is written again: %v, want %v", second, want)
	}
	third := impl.Done(second, 6)
	want.Dirty[6] = false
	all(dropped(3), goneWith(4, nil))(&want)
	if !sameMem(third, want) {
		t.Errorf("when the other block is written: %v, want %v", third, want)
	}
}

// Whatever unit is written, those that have both may be shown; a name waits for the pointer to its block.
func TestWhatHasBoth(t *testing.T) {
	both := func(d impl.Dep) impl.Dep { return withFlags(true, true, d) }
	for u := range 21 {
		checkWritten(t, u, wanted{"an alloc and an add", []impl.Dep{both(allocOf(3, 1, 4)), both(addIn(8, 1, 8))}, all(kindIs(1, impl.DepSeen, 2), kindIs(2, impl.DepShown, 12))})
		checkWritten(t, u, wanted{"allocs of one block", []impl.Dep{both(allocOf(7, 0, 16)), both(allocOf(7, 1, 16)), both(allocOf(2, 0, 16))}, all(kindIs(1, impl.DepSeen, 4), kindIs(2, impl.DepSeen, 4), kindIs(3, impl.DepSeen, 1))})
		checkWritten(t, u, wanted{"an add on an alloc that has both", []impl.Dep{both(allocOf(2, 1, 8)), both(addIn(8, 1, 8))}, kindIs(1, impl.DepSeen, 1)})
		checkWritten(t, u, wanted{"an add ahead of an alloc that has both", []impl.Dep{both(addIn(8, 1, 8)), both(allocOf(2, 1, 8))}, kindIs(2, impl.DepSeen, 1)})
		if u != 1 {
			checkWritten(t, u, wanted{"an add on one seen", []impl.Dep{seenOf(2, 1, 8), both(addIn(8, 1, 8))}, asItIs})
			checkWritten(t, u, wanted{"an add ahead of one seen", []impl.Dep{both(addIn(8, 2, 8)), both(seenOf(2, 1, 8))}, asItIs})
		}
		if u != 0 && u != 12 {
			checkWritten(t, u, wanted{"an add on an alloc", []impl.Dep{allocOf(2, 1, 8), both(addIn(8, 1, 8))}, asItIs})
			checkWritten(t, u, wanted{"an add on an alloc with one of both", []impl.Dep{both(addIn(8, 1, 8)), withFlags(false, true, allocOf(2, 1, 8))}, asItIs})
		}
	}
	checkWritten(t, 0, wanted{"an add and its alloc", []impl.Dep{withFlags(false, true, addIn(8, 1, 8)), withFlags(false, true, allocOf(2, 1, 8))}, all(marked(true, 1, 2), kindIs(2, impl.DepSeen, 1))})
	checkWritten(t, 12, wanted{"the alloc of an add", []impl.Dep{both(addIn(8, 1, 8)), withFlags(true, false, allocOf(2, 1, 8))}, all(marked(false, 2), kindIs(2, impl.DepSeen, 1))})
	checkWritten(t, 4, wanted{"an add whose pointer is seen", []impl.Dep{withFlags(true, false, addIn(8, 1, 8)), seenOf(2, 1, 8)}, marked(false, 1)})
	checkWritten(t, 2, wanted{"the add and the alloc of one inode", []impl.Dep{withFlags(true, true, allocOf(3, 0, 3)), withFlags(true, false, addIn(1, 1, 3))}, all(marked(false, 2), kindIs(1, impl.DepSeen, 2), kindIs(2, impl.DepShown, 5))})
}

// The pointer is on the disk with this writing: nothing is left that the name leans on, and nothing else would show it.
func TestNamesWhosePointerIsWritten(t *testing.T) {
	both := func(d impl.Dep) impl.Dep { return withFlags(true, true, d) }
	checkWritten(t, 1, wanted{"the pointer ahead", []impl.Dep{seenOf(2, 1, 8), both(addIn(8, 1, 8))}, all(dropped(1), kindIs(2, impl.DepShown, 12))})
	checkWritten(t, 1, wanted{"the name ahead", []impl.Dep{both(addIn(8, 1, 8)), seenOf(2, 1, 8)}, all(dropped(2), kindIs(1, impl.DepShown, 12))})
	checkWritten(t, 1, wanted{"a name without one of both", []impl.Dep{withFlags(true, false, addIn(8, 1, 8)), seenOf(2, 1, 8)}, dropped(2)})
	checkWritten(t, 1, wanted{"one of two pointers", []impl.Dep{both(addIn(16, 3, 5)), seenOf(2, 0, 16), seenOf(6, 1, 16)}, dropped(2)})
	checkWritten(t, 1, wanted{"one seen, one alloc", []impl.Dep{both(addIn(16, 3, 5)), seenOf(2, 0, 16), allocOf(6, 1, 16)}, dropped(2)})
	checkWritten(t, 1, wanted{"the pointer and the inode", []impl.Dep{seenOf(1, 0, 1), withFlags(true, false, addIn(1, 0, 2))}, all(dropped(1), marked(false, 2), kindIs(2, impl.DepShown, 5))})
}

func TestSeveralAtOnce(t *testing.T) {
	some := []impl.Dep{
		allocOf(7, 0, 16), withFlags(true, false, allocOf(2, 0, 16)), seenOf(7, 1, 16), withFlags(true, true, addIn(16, 3, 5)),
		shownIn(16, 3, 5), remIn(16, 0, "c", 7, 0), remIn(16, 1, "d", 3, 1), remIn(16, 2, "e", 2, 2), freeOf(7, 16, 1), freeOf(8, 2),
		remIn(1, 2, "f", 4, 3), withFlags(false, true, allocOf(1, 0, 1)),
	}
	n := len(some)
	for k := range n * n * n {
		m := leaningMem(some[k%n], some[k/n%n], some[k/n/n])
		for _, u := range []int{0, 1, 4, 5, 20} {
			checkDone(t, m, u)
		}
	}
}

// 40 lean, and each that goes makes room for the one that its link puts.
func TestNamesThatGoWithoutRoom(t *testing.T) {
	deps := append(slices.Repeat([]impl.Dep{freeOf(1, 4)}, 38), remIn(2, 0, "c", 7, 0), remIn(2, 1, "d", 6, 0))
	checkWritten(t, 6, wanted{"two rems of 40", deps, all(dropped(39, 40), goneWith(7, []int{16, 16}), goneWith(6, []int{16}))})
	deps = append(slices.Repeat([]impl.Dep{freeOf(8, 4)}, 37), freeOf(1, 2), remIn(2, 0, "c", 7, 0), remIn(2, 1, "d", 6, 9))
	checkWritten(t, 1, wanted{"two rems of 40 in a block that is free", deps, all(freed(1, 2), dropped(38, 39, 40), goneWith(7, []int{16, 16}), goneWith(6, []int{16}))})
	rems := slices.Repeat([]impl.Dep{remIn(2, 0, "c", 3, 0)}, 40)
	var ids []int
	for k := range rems {
		ids = append(ids, k+1)
	}
	checkWritten(t, 6, wanted{"40 rems", rems, all(dropped(ids...), linksAre(3, 160))})
	for _, next := range []int{99998, 99999, 100000} {
		m := leaningMem(remIn(2, 0, "c", 7, 0), remIn(2, 1, "d", 6, 0), remIn(2, 2, "e", 3, 0))
		m.Next = next
		checkWanted(t, "at the last Ids", m, func(m impl.Mem) impl.Mem { return impl.Done(m, 6) }, func(m *impl.Mem) {
			dropped(1, 2, 3)(m)
			if next <= 99999 {
				goneWith(7, []int{16, 16})(m)
			}
			if next <= 99998 {
				goneWith(6, []int{16})(m)
			}
		})
		checkDones(t, m)
	}
}

func TestDoneOfUnitsThatAreNone(t *testing.T) {
	for _, m := range []impl.Mem{leanMem(), impl.MemNew(fullDisk()), changedMem(leanMem(), memChange{"", func(m *impl.Mem) { m.Dirty = allFlags(21) }})} {
		for _, u := range append(oddNumbers(), -21, -1, 21, 22, 42, 256, 1<<32) {
			if u >= 0 && u <= 20 {
				continue
			}
			if got := impl.Done(m, u); !sameMem(got, m) {
				t.Errorf("Done of unit %d = %v", u, got)
			}
		}
	}
}

// Just this unit is clean when nothing leans.
func TestUnitsAreNotDirtyAnyMore(t *testing.T) {
	for u := range 21 {
		m := impl.MemNew(fullDisk())
		m.Dirty = allFlags(21)
		got := impl.Done(m, u)
		m.Dirty[u] = false
		if !sameMem(got, m) {
			t.Errorf("Done of unit %d = %v", u, got)
		}
		if again := impl.Done(got, u); !sameMem(again, m) {
			t.Errorf("Done of unit %d again = %v", u, again)
		}
	}
}

func TestDoneOfMemoriesThatAreNotRight(t *testing.T) {
	for _, c := range wrongMemChanges() {
		m := changedMem(leanMem(), c)
		for u := -1; u <= 21; u++ {
			if got := impl.Done(m, u); !sameMem(got, m) {
				t.Errorf("%s: Done of unit %d = %v", c.name, u, got)
			}
		}
	}
	for _, d := range wrongDisks() {
		m := leanMem()
		m.Disk = d
		checkDones(t, m)
	}
	if got := impl.Done(impl.Mem{}, 0); !sameMem(got, impl.Mem{}) {
		t.Errorf("Done of nothing = %v", got)
	}
}

func TestDonesAsTold(t *testing.T) {
	for _, m := range sampleMems() {
		checkDones(t, m)
	}
	for _, d := range rightDisks() {
		checkDones(t, impl.MemNew(d))
	}
}

func TestSettled(t *testing.T) {
	if !impl.Settled(impl.MemNew(impl.DiskNew())) || !impl.Settled(impl.MemNew(fullDisk())) || !impl.Settled(impl.Mem{}) {
		t.Error("not settled where nothing is dirty and nothing leans")
	}
	for u := range 21 {
		m := impl.MemNew(impl.DiskNew())
		m.Dirty[u] = true
		if impl.Settled(m) {
			t.Errorf("settled where unit %d is dirty", u)
		}
		if !impl.Settled(impl.Done(m, u)) {
			t.Errorf("not settled when unit %d is written", u)
		}
	}
	for _, d := range leanDeps() {
		m := memOfDeps(60, d)
		if impl.Settled(m) {
			t.Errorf("settled where %v leans", d)
		}
		m.Dirty[7] = true
		if impl.Settled(m) {
			t.Errorf("settled where %v leans, and a unit is dirty", d)
		}
		if !impl.Settled(impl.DropDep(memOfDeps(60, d), d.Id)) {
			t.Errorf("not settled without %v", d)
		}
	}
	// A memory that is not right is asked for no more than that.
	for _, m := range []impl.Mem{{Next: -1}, {Dirty: make([]bool, 30)}, {Deps: []impl.Dep{}}, {Dirty: []bool{}}} {
		if !impl.Settled(m) {
			t.Errorf("not settled: %v", m)
		}
	}
	for _, m := range []impl.Mem{{Dirty: flags(22, 21)}, {Dirty: flags(1, 0)}, {Deps: make([]impl.Dep, 1)}} {
		if impl.Settled(m) {
			t.Errorf("settled: %v", m)
		}
	}
}

// drawnLeaning is a right memory with up to 40 that lean in few blocks, so that they meet each other.
func drawnLeaning(draw func(n int) int) impl.Mem {
	m := leaningMem()
	for i := range m.Disk.Inodes {
		m.Disk.Inodes[i] = inode(1+draw(2), draw(3), []int{0, 1, 8, 16}[draw(4)], []int{0, 8, 10, 16}[draw(4)])
	}
	for range draw(41) {
		d := impl.Dep{Kind: 1 + draw(6), Ino: 1 + draw(8), Ptr: draw(2), Block: []int{1, 2, 8, 10, 16}[draw(5)], Slot: draw(4), Bits: draw(2) == 0, Other: draw(2) == 0}
		switch d.Kind {
		case 1, 6:
			d.Block = m.Disk.Inodes[d.Ino-1].Ptrs[d.Ptr]
		case 2, 3:
			d.Ino = m.Disk.Blocks[d.Block-1].Slots[d.Slot].Ino
		case 4:
			d.Name, d.After = "old", draw(2)*draw(40)
		case 5:
			d.Block, d.After = draw(17), draw(2)*draw(40)
			d.Blocks = [][]int{nil, {1}, {8, 16}, {10, 10}, {2, 1, 3}}[draw(5)]
		}
		if d.Ino > 0 && d.Block > 0 || d.Kind == 5 {
			m.Deps = append(m.Deps, d)
		}
	}
	for k := range m.Deps {
		m.Deps[k].Id = k + 1
	}
	if draw(3) == 0 {
		m.Next = 99995 + draw(6)
	}
	for u := range m.Dirty {
		m.Dirty[u] = draw(2) == 0
	}
	if draw(2) == 0 {
		slices.Reverse(m.Deps)
	}
	return m
}

// Units of drawn memories are written one behind the other; memory stays right at each of them.
func TestDrawnDones(t *testing.T) {
	state := uint32(10)
	draw := func(n int) int {
		state = state*1664525 + 1013904223
		return int(state>>16) % n
	}
	for range 1500 {
		m := drawnLeaning(draw)
		if !impl.MemOk(m) {
			t.Fatalf("not right: %v", m)
		}
		checkDones(t, m)
		for range 12 {
			u := draw(21)
			checkDone(t, m, u)
			m = impl.Done(m, u)
		}
	}
	for range 300 {
		checkDones(t, drawnMem(draw))
	}
}

// madeMem is a memory in which a file with text was made in a new block of the root.
func madeMem() impl.Mem {
	m := impl.MemNew(impl.DiskNew())
	m, p := impl.TakeBlock(m)
	m, i := impl.TakeIno(m)
	m, q := impl.TakeBlock(m)
	m.Disk.Inodes[0].Ptrs[0] = p
	m.Disk.Blocks[p-1] = filled(slot("a", i))
	m.Disk.Inodes[i-1] = inode(1, 1, 0, q)
	m.Disk.Blocks[q-1] = textBlock("text")
	m, _ = impl.PutDep(m, allocOf(1, 0, p))
	m, _ = impl.PutDep(m, addIn(p, 0, i))
	m, _ = impl.PutDep(m, allocOf(i, 1, q))
	dirtyToo(0, impl.UnitOfIno(1), impl.UnitOfIno(i), impl.UnitOfBlock(p), impl.UnitOfBlock(q))(&m)
	return m
}

// writtenMem is madeMem when all is written.
func writtenMem() impl.Mem { return impl.MemNew(madeMem().Disk) }

// movedMem is a memory in which the file has another name in another slot.
func movedMem() impl.Mem {
	m := writtenMem()
	m.Disk.Inodes[1].Links = 2
	m.Disk.Blocks[0] = filled(slot("", 0), slot("b", 2))
	m, id := impl.PutDep(m, addIn(1, 1, 2))
	m, _ = impl.PutDep(m, remIn(1, 0, "a", 2, id))
	dirtyToo(0, 1, 5)(&m)
	return m
}

// removedMem is a memory in which the file is gone.
func removedMem() impl.Mem {
	m := writtenMem()
	m.Disk.Blocks[0] = filled()
	m, _ = impl.PutDep(m, remIn(1, 0, "a", 2, 0))
	dirtyToo(5)(&m)
	return m
}

// writeAll writes the dirty units in each order that there is, and wants all of them to end with the same, settled.
func writeAll(t *testing.T, m impl.Mem, v impl.Device, left int, want impl.Disk) {
	if impl.Settled(m) {
		told, _ := impl.DiskOf(v)
		if !slowSameDisk(m.Disk, want) || !slowSameDisk(told, want) {
			t.Fatalf("when all is written memory is %v and the disk %v, want %v", m, told, want)
		}
		return
	}
	if left == 0 || !slices.Contains(m.Dirty, true) {
		t.Fatalf("nothing more is written, and this still leans: %v", m)
	}
	for u, dirty := range m.Dirty {
		s, ok := impl.ImageUnit(m, u)
		if !ok {
			t.Fatalf("unit %d of %v is not told", u, m)
		}
		if dirty {
			written, _ := impl.WriteUnit(v, u, s)
			writeAll(t, impl.Done(m, u), written, left-1, want)
		}
	}
}

func TestWhatLeansSettlesInAnyOrder(t *testing.T) {
	blank, _ := impl.DeviceOf(impl.DiskNew())
	writeAll(t, madeMem(), blank, 12, madeMem().Disk)
	full, _ := impl.DeviceOf(writtenMem().Disk)
	moved := writtenMem().Disk
	moved.Blocks[0] = filled(slot("", 0), slot("b", 2))
	writeAll(t, movedMem(), full, 12, moved)
	removed := writtenMem().Disk
	removed.Blocks[0] = filled()
	removed.Inodes[1] = inode(0, 0, 0, 0)
	removed.Bits.Inos[1], removed.Bits.Blocks[1] = false, false
	writeAll(t, removedMem(), full, 12, removed)
}

// sharingRightMem is right, and its lists share memory with each other, with room behind them.
func sharingRightMem() impl.Mem {
	m := leaningMem(freeOf(2), remIn(16, 0, "c", 7, 0), shownIn(8, 1, 8), remIn(1, 2, "d", 4, 3), allocOf(5, 0, 8), freeOf(6), addIn(8, 2, 8), seenOf(5, 1, 16))
	numbers := []int{8, 16, 1, 2, 77, 77}
	for k := range m.Disk.Inodes {
		m.Disk.Inodes[k] = inode(2, 1, numbers[:2]...)
	}
	for k := range m.Deps {
		m.Deps[k].Blocks = numbers[:min(k, 4)]
	}
	flags := make([]bool, 40)
	m.Dirty, m.Disk.Bits.Blocks, m.Disk.Bits.Inos = flags[:21], flags[:16], flags[:8]
	slots := append(fullDisk().Blocks[7].Slots, slot("behind", 3))
	for k := range m.Disk.Blocks {
		m.Disk.Blocks[k] = dirBlock(slots[:4]...)
	}
	return m
}

// doneCalls are all that answer a memory, where they do what is asked and where they refuse it.
func doneCalls() []memCall {
	var list []memCall
	for i := range 10 {
		list = append(list, memCall{"LoseLink " + impl.Decimal(i), func(m impl.Mem) impl.Mem { return impl.LoseLink(m, i) }})
	}
	for u := range 22 {
		list = append(list, memCall{"Done " + impl.Decimal(u), func(m impl.Mem) impl.Mem { return impl.Done(m, u) }})
	}
	return append(list,
		memCall{"LoseLink without room", func(m impl.Mem) impl.Mem { m.Next = 0; return impl.LoseLink(m, 7) }},
		memCall{"Done of a memory that is not right", func(m impl.Mem) impl.Mem { m.Next = 0; return impl.Done(m, 1) }})
}

func TestDonesAreNewMemory(t *testing.T) {
	sharing := sharingRightMem()
	if !impl.MemOk(sharing) {
		t.Fatalf("not right: %v", sharing)
	}
	busy := leaningMem(slices.Repeat([]impl.Dep{freeOf(1, 8, 16), remIn(8, 0, "c", 7, 0), remIn(16, 0, "d", 6, 3), shownIn(8, 0, 1), seenOf(2, 1, 8)}, 5)...)
	for _, m := range []impl.Mem{leanMem(), busy, sharing, sharingMem(), impl.MemNew(usedDisk()), {}} {
		for _, call := range doneCalls() {
			one, other := call.do(m), call.do(m)
			if twoMeet(memLists(one)) {
				t.Errorf("two lists of what %s answers share memory", call.name)
			}
			if anyMeets(memLists(one), memLists(m)) || anyMeets(memLists(one), memLists(other)) {
				t.Errorf("lists of what %s answers share memory with another", call.name)
			}
			if anyMeets(memTexts(one), memTexts(m)) || anyMeets(memTexts(one), memTexts(other)) {
				t.Errorf("texts of what %s answers share memory with another", call.name)
			}
			runtime.KeepAlive(one)
			runtime.KeepAlive(other)
		}
	}
}

// Whoever writes into an answer changes neither what was handed in nor the next answer; and the other way round.
func TestDonesThatAreSpoilt(t *testing.T) {
	for _, m := range []impl.Mem{leanMem(), leaningMem(freeOf(1, 8, 16), remIn(8, 0, "c", 7, 0), remIn(16, 0, "d", 6, 3), shownIn(8, 0, 1))} {
		for _, call := range doneCalls() {
			given := fromMem(m)
			first := call.do(given)
			want := fromMem(first)
			spoilMem(first)
			if !sameMem(given, m) {
				t.Errorf("what %s answers leads back to what was handed in", call.name)
			}
			second := call.do(given)
			if !sameMem(second, want) {
				t.Errorf("%s answers %v behind a spoilt answer, want %v", call.name, second, want)
			}
			spoilMem(given)
			if !sameMem(second, want) {
				t.Errorf("what %s answered changes with what was handed in", call.name)
			}
		}
	}
}

// What stands in spare room behind every list of a memory stays as it is.
func TestRoomBehindDonesIsNotWrittenInto(t *testing.T) {
	deps := []impl.Dep{freeOf(1, 8, 16), remIn(8, 0, "c", 7, 0), remIn(16, 0, "d", 6, 3), shownIn(8, 0, 1), seenOf(2, 1, 8), allocOf(7, 0, 16)}
	m := leaningMem(deps...)
	was := fromMem(m)
	bits, inos := append(m.Disk.Bits.Blocks, true, false), append(m.Disk.Bits.Inos, true, false)
	dirty, behind := append(m.Dirty, false, true), append(m.Deps, impl.Dep{Id: 99, Name: "behind"})
	inodes, blocks := append(m.Disk.Inodes, inode(1, 1, 5, 5)), append(m.Disk.Blocks, textBlock("behind"))
	numbers, ptrs := append(behind[0].Blocks, 77), append(inodes[6].Ptrs, 77)
	behind[0].Blocks, inodes[6].Ptrs = numbers[:2], ptrs[:2]
	m = impl.Mem{Disk: impl.Disk{Bits: bitsOf(bits[:16], inos[:8]), Inodes: inodes[:8], Blocks: blocks[:16]}, Dirty: dirty[:21], Deps: behind[:6], Next: 60}
	for _, call := range doneCalls() {
		call.do(m)
	}
	impl.Settled(m)
	if !sameMem(m, was) {
		t.Errorf("a memory was written into: %v, was %v", m, was)
	}
	if !bits[16] || bits[17] || !inos[8] || inos[9] || dirty[21] || !dirty[22] || !sameDep(behind[6], impl.Dep{Id: 99, Name: "behind"}) {
		t.Error("spare room behind a memory was written into")
	}
	if !sameInode(inodes[8], inode(1, 1, 5, 5)) || !sameBlock(blocks[16], textBlock("behind")) || numbers[2] != 77 || ptrs[2] != 77 {
		t.Error("spare room behind a disk, or behind one that leans, was written into")
	}
}
