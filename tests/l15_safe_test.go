package tests

import (
	"slices"
	"sync"
	"testing"

	"loop.example/g00235/impl"
)

// The signatures that the document gives.
var (
	_ func(d impl.Disk) int  = impl.Dangling
	_ func(d impl.Disk) int  = impl.Shared
	_ func(d impl.Disk) int  = impl.Unmarked
	_ func(d impl.Disk) int  = impl.Short
	_ func(d impl.Disk) int  = impl.WrongKind
	_ func(d impl.Disk) bool = impl.SafeDisk
	_ func(d impl.Disk) bool = impl.ExactDisk
)

// What is counted of a disk.
type counts struct {
	dangling, shared, unmarked, short, wrong int
}

func countsOf(d impl.Disk) counts {
	return counts{impl.Dangling(d), impl.Shared(d), impl.Unmarked(d), impl.Short(d), impl.WrongKind(d)}
}

// How good a disk is: at least so.
const (
	notSafe = iota
	safe
	exact
)

func goodnessOf(d impl.Disk) int {
	switch {
	case impl.ExactDisk(d):
		return exact
	case impl.SafeDisk(d):
		return safe
	}
	return notSafe
}

func slowKind(d impl.Disk, i int) int {
	if i < 1 || i > 8 || i > len(d.Inodes) {
		return 0
	}
	return d.Inodes[i-1].Kind
}

// slowDangles takes an inode that is none for one of KindNone.
func slowDangles(d impl.Disk) int {
	n := 0
	for _, dir := range slowReached(d) {
		for _, s := range slowSlots(d, dir) {
			if slowKind(d, s.Ino) == 0 {
				n++
			}
		}
	}
	return n
}

// slowShared counts, block by block, all that have it but one.
func slowShared(d impl.Disk) int {
	n := 0
	for p := 1; p <= min(16, len(d.Blocks)); p++ {
		have := 0
		for i := 1; i <= min(8, len(d.Inodes)); i++ {
			for _, q := range d.Inodes[i-1].Ptrs {
				if q == p && d.Inodes[i-1].Kind != 0 {
					have++
				}
			}
		}
		n += max(0, have-1)
	}
	return n
}

// slowPointers has each pointer of a reached inode that has a block: the inode, then the block.
func slowPointers(d impl.Disk) [][2]int {
	var list [][2]int
	for _, i := range slowReached(d) {
		for _, p := range d.Inodes[i-1].Ptrs {
			if p >= 1 && p <= 16 && p <= len(d.Blocks) {
				list = append(list, [2]int{i, p})
			}
		}
	}
	return list
}

func slowUnmarked(d impl.Disk) int {
	n := 0
	for _, p := range slowPointers(d) {
		if len(d.Bits.Blocks) >= p[1] && d.Bits.Blocks[p[1]-1] == false {
			n++
		}
	}
	for _, i := range slowReached(d) {
		if len(d.Bits.Inos) >= i && d.Bits.Inos[i-1] == false {
			n++
		}
	}
	return n
}

func slowShort(d impl.Disk) int {
	n := 0
	for _, i := range slowReached(d) {
		if i > 1 && slowLinks(d, i) > d.Inodes[i-1].Links {
			n++
		}
	}
	return n
}

func slowWrongKind(d impl.Disk) int {
	n := 0
	for _, p := range slowPointers(d) {
		dir, of := d.Inodes[p[0]-1].Kind == 2, d.Blocks[p[1]-1].Dir
		if dir && !of || !dir && of {
			n++
		}
	}
	return n
}

func slowCounts(d impl.Disk) counts {
	return counts{slowDangles(d), slowShared(d), slowUnmarked(d), slowShort(d), slowWrongKind(d)}
}

func slowSafe(d impl.Disk) bool {
	return slowDiskOk(d) && d.Inodes[0].Kind == 2 && slowCounts(d) == counts{}
}

// slowExact asks each sentence of the document of each inode and each block.
func slowExact(d impl.Disk) bool {
	if !slowSafe(d) {
		return false
	}
	reached := slowReached(d)
	var had []int
	for _, p := range slowPointers(d) {
		had = append(had, p[1])
	}
	ok := slowLinks(d, 1) == 0 && d.Inodes[0].Links == 1
	for i := 1; i <= 8; i++ {
		is, links := slices.Contains(reached, i), slowLinks(d, i)
		ok = ok && (is || d.Inodes[i-1].Kind == 0) && d.Bits.Inos[i-1] == is
		if i > 1 {
			ok = ok && d.Inodes[i-1].Links == links && (d.Inodes[i-1].Kind != 2 || links == 1)
		}
	}
	for p := 1; p <= 16; p++ {
		ok = ok && d.Bits.Blocks[p-1] == slices.Contains(had, p)
	}
	return ok
}

// checkCounts holds all that is counted of a disk against the document, and wants the disk as it was.
func checkCounts(t *testing.T, d impl.Disk) (counts, int) {
	t.Helper()
	was := fromDisk(d)
	got, want := countsOf(d), slowCounts(d)
	if got != want {
		t.Errorf("of %v is counted %+v, want %+v", d, got, want)
	}
	if got, want := impl.SafeDisk(d), slowSafe(d); got != want {
		t.Errorf("SafeDisk(%v) = %v, want %v", d, got, want)
	}
	if got, want := impl.ExactDisk(d), slowExact(d); got != want {
		t.Errorf("ExactDisk(%v) = %v, want %v", d, got, want)
	}
	if impl.ExactDisk(d) && !impl.SafeDisk(d) {
		t.Errorf("%v is exact, but not safe", d)
	}
	if !slowSameDisk(d, was) {
		t.Errorf("a disk was written into: %v, was %v", d, was)
	}
	return got, goodnessOf(d)
}

// wantCounts wants just these of a right disk, and the disk as good as that.
func wantCounts(t *testing.T, name string, d impl.Disk, want counts, good int) {
	t.Helper()
	if !impl.DiskOk(d) {
		t.Fatalf("%s: the disk is not right: %v", name, d)
	}
	got, is := checkCounts(t, d)
	if got != want {
		t.Errorf("%s: counted is %+v, want %+v", name, got, want)
	}
	if is != good {
		t.Errorf("%s: it is %d good (not safe, safe, exact), want %d", name, is, good)
	}
}

// exactDisk is namedDisk without what is not reached, its bits just as they must be.
func exactDisk() impl.Disk {
	d := namedDisk()
	d.Inodes[7] = inode(0, 0, 0, 0)
	d.Bits = bitsOf(flags(16, 0, 1, 2, 3, 4, 5, 6), flags(8, 0, 1, 2, 3, 4, 5, 6))
	return d
}

type diskDo = func(d *impl.Disk)

func isInode(i, kind, links int, ptrs ...int) diskDo {
	return func(d *impl.Disk) { d.Inodes[i-1] = inode(kind, links, slices.Clone(ptrs)...) }
}

func isGone(i int) diskDo { return isInode(i, 0, 0, 0, 0) }

func isBlock(p int, b impl.Block) diskDo {
	return func(d *impl.Disk) { d.Blocks[p-1] = fromBlock(b) }
}

func isSlot(p, place int, name string, i int) diskDo {
	return func(d *impl.Disk) { d.Blocks[p-1].Slots[place] = slot(name, i) }
}

func pointsTo(i int, ptrs ...int) diskDo {
	return func(d *impl.Disk) { d.Inodes[i-1].Ptrs = slices.Clone(ptrs) }
}

func hasLinks(i, links int) diskDo { return func(d *impl.Disk) { d.Inodes[i-1].Links = links } }

func marksBlocks(used bool, blocks ...int) diskDo {
	return func(d *impl.Disk) {
		for _, p := range blocks {
			d.Bits.Blocks[p-1] = used
		}
	}
}

func marksInos(used bool, inos ...int) diskDo {
	return func(d *impl.Disk) {
		for _, i := range inos {
			d.Bits.Inos[i-1] = used
		}
	}
}

func exactBut(do ...diskDo) impl.Disk {
	d := exactDisk()
	for _, f := range do {
		f(&d)
	}
	return d
}

// A spoilt exact disk: what is counted of it, and how good it is.
type spoilt struct {
	name string
	do   []diskDo
	want counts
	good int
}

func does(do ...diskDo) []diskDo { return do }

func wantSpoilt(t *testing.T, rows []spoilt) {
	t.Helper()
	for _, r := range rows {
		wantCounts(t, r.name, exactBut(r.do...), r.want, r.good)
	}
}

func TestNewDisksAreExact(t *testing.T) {
	wantCounts(t, "a new disk", impl.DiskNew(), counts{}, exact)
	wantCounts(t, "files and directories", exactDisk(), counts{}, exact)
	wantCounts(t, "an empty disk", emptyDisk(), counts{unmarked: 1}, notSafe)
	f := impl.Flush(calledFs(t, askMake("/a", 1), askMake("/d", 2), askMake("/d/f", 1), askWrite("/d/f", 1, "text"), askMove("/a", "/b"), askMake("/g", 1), askRemove("/g")))
	wantCounts(t, "a flushed memory", f.Mem.Disk, counts{}, exact)
	wantCounts(t, "what is flushed", slowDisk(f.Device), counts{}, exact)
}

func TestNamesThatDangle(t *testing.T) {
	wantSpoilt(t, []spoilt{
		{"in the first block", does(isGone(2)), counts{dangling: 1}, notSafe},
		{"in the second block", does(isGone(4)), counts{dangling: 1}, notSafe},
		{"in both blocks", does(isGone(2), isGone(4)), counts{dangling: 2}, notSafe},
		{"in both blocks, of one inode", does(isSlot(1, 1, "n", 8), isSlot(2, 0, "n", 8)), counts{dangling: 2}, notSafe},
		{"twice in a block", does(isSlot(1, 1, "n", 8), isSlot(1, 3, "o", 8)), counts{dangling: 2}, notSafe},
		{"in all slots", does(isBlock(1, dirBlock(slot("a", 8), slot("b", 8), slot("c", 8), slot("d", 8)))), counts{dangling: 4}, notSafe},
		{"of two directories", does(isGone(5)), counts{dangling: 2}, notSafe},
		{"below", does(isGone(7)), counts{dangling: 1}, notSafe},
		{"a directory", does(isGone(6)), counts{dangling: 1}, notSafe},
		{"a directory with names", does(isGone(3)), counts{dangling: 1}, notSafe},
		{"a directory with names that dangle", does(isGone(3), isGone(6), isGone(7)), counts{dangling: 1}, notSafe},
		{"two deep", does(pointsTo(6, 0, 8), isBlock(8, filled(slot("n", 8))), marksBlocks(true, 8)), counts{dangling: 1}, notSafe},
		{"of a directory that is not reached", does(isSlot(5, 3, "", 0), isGone(7), isInode(8, 2, 1, 8, 0), isBlock(8, filled(slot("n", 7), slot("o", 7)))), counts{}, safe},
		{"of one below a directory that is not reached", does(isSlot(5, 1, "", 0), isSlot(5, 3, "", 0), isGone(7), isInode(8, 2, 1, 8, 0), isBlock(8, filled(slot("d", 6))), pointsTo(6, 9, 0), isBlock(9, filled(slot("n", 7)))), counts{}, safe},
		{"of a ring that is not reached", does(isSlot(5, 3, "", 0), isGone(7), isInode(8, 2, 1, 8, 0), isBlock(8, filled(slot("n", 7), slot("o", 8)))), counts{}, safe},
		{"in a block that nobody has", does(isBlock(8, filled(slot("n", 8)))), counts{}, exact},
		{"in a block of a file", does(pointsTo(4, 6, 8), isBlock(8, filled(slot("n", 8))), marksBlocks(true, 8)), counts{wrong: 1}, notSafe},
		{"a name less", does(isSlot(5, 3, "", 0), isGone(7), marksInos(false, 7)), counts{}, exact},
	})
	// Each of eight inodes, named at each place of the root; the root is never of KindNone there.
	for i := 1; i <= 8; i++ {
		for place := range 8 {
			d := impl.DiskNew()
			d.Inodes[0].Ptrs, d.Blocks[0], d.Blocks[1] = []int{1, 2}, filled(), filled()
			d.Blocks[place/4].Slots[place%4] = slot("n", i)
			marksBlocks(true, 1, 2)(&d)
			want := counts{dangling: min(i-1, 1)}
			good := notSafe
			if i == 1 {
				good = safe
			}
			wantCounts(t, "a name alone", d, want, good)
		}
	}
}

// A block that two pointers have has its names twice.
func TestNamesThatDangleTwice(t *testing.T) {
	wantSpoilt(t, []spoilt{
		{"both pointers of one", does(pointsTo(1, 1, 1), isSlot(1, 1, "n", 8), hasLinks(2, 2), hasLinks(3, 2)), counts{dangling: 2, shared: 1}, notSafe},
		{"two directories", does(pointsTo(6, 5, 0), hasLinks(6, 2), hasLinks(5, 3), hasLinks(7, 2), isSlot(5, 0, "n", 8)), counts{dangling: 2, shared: 1}, notSafe},
	})
}

func TestBlocksThatAreShared(t *testing.T) {
	wantSpoilt(t, []spoilt{
		{"two inodes", does(pointsTo(4, 3, 0), marksBlocks(false, 6)), counts{shared: 1}, notSafe},
		{"two inodes, other pointers", does(pointsTo(4, 0, 3), marksBlocks(false, 6)), counts{shared: 1}, notSafe},
		{"one inode", does(pointsTo(4, 6, 6)), counts{shared: 1}, notSafe},
		{"three pointers", does(pointsTo(4, 3, 0), pointsTo(5, 0, 3), marksBlocks(false, 6, 7)), counts{shared: 2}, notSafe},
		{"three pointers of two", does(pointsTo(4, 3, 3), marksBlocks(false, 6)), counts{shared: 2}, notSafe},
		{"four pointers of two", does(pointsTo(2, 4, 4), pointsTo(4, 4, 4), marksBlocks(false, 3, 6)), counts{shared: 3}, notSafe},
		{"both pointers of two", does(pointsTo(4, 4, 3), marksBlocks(false, 6)), counts{shared: 2}, notSafe},
		{"two blocks of three", does(pointsTo(4, 6, 3), pointsTo(7, 4, 0)), counts{shared: 2}, notSafe},
		{"two directories", does(pointsTo(6, 8, 8), isBlock(8, filled()), marksBlocks(true, 8)), counts{shared: 1}, notSafe},
		{"a directory and a file", does(pointsTo(6, 3, 0)), counts{shared: 1, wrong: 1}, notSafe},
		{"the root and a file", does(pointsTo(4, 2, 0), marksBlocks(false, 6)), counts{shared: 1, wrong: 1}, notSafe},
		{"one that is not reached", does(isInode(8, 1, 1, 3, 0)), counts{shared: 1}, notSafe},
		{"one that is not reached, both pointers", does(isInode(8, 1, 1, 3, 6)), counts{shared: 2}, notSafe},
		{"a directory that is not reached", does(isInode(8, 2, 1, 0, 1)), counts{shared: 1}, notSafe},
		{"one alone that is not reached", does(isInode(8, 1, 1, 9, 9)), counts{shared: 1}, notSafe},
		{"two that are not reached", does(isSlot(5, 3, "", 0), pointsTo(7, 9, 0), isInode(8, 1, 1, 9, 9)), counts{shared: 2}, notSafe},
		{"one that is not reached, ahead of one that is", does(isSlot(1, 0, "", 0), pointsTo(7, 3, 0)), counts{shared: 1}, notSafe},
		{"one that is not reached and shares nothing", does(isInode(8, 1, 1, 9, 8)), counts{}, safe},
		{"inodes that are gone", does(isGone(2), isSlot(1, 0, "", 0), pointsTo(4, 3, 4), marksBlocks(false, 6), marksInos(false, 2)), counts{}, exact},
		{"pointers of 0", does(pointsTo(2, 0, 0), pointsTo(4, 0, 0), pointsTo(5, 0, 0), marksBlocks(false, 3, 4, 6, 7)), counts{}, exact},
		{"blocks alike", does(isBlock(3, textBlock("x")), isBlock(4, textBlock("x")), isBlock(6, textBlock("x"))), counts{}, exact},
	})
	// All pointers of all inodes lead to one block.
	for p := 1; p <= 16; p++ {
		d := emptyDisk()
		for i := range 8 {
			d.Inodes[i] = inode(1+i%2, 1, p, p)
		}
		if got, _ := checkCounts(t, d); got.shared != 15 {
			t.Errorf("of 16 pointers to block %d are shared %d", p, got.shared)
		}
	}
}

func TestWhatIsNotMarked(t *testing.T) {
	for n := 1; n <= 16; n++ {
		want, good := counts{unmarked: 1}, notSafe
		if n > 7 {
			want, good = counts{}, exact
		}
		wantCounts(t, "the bit of a block", exactBut(marksBlocks(false, n)), want, good)
		if n <= 8 {
			wantCounts(t, "the bit of an inode", exactBut(marksInos(false, n)), want, good)
		}
		if n <= 7 {
			wantCounts(t, "both", exactBut(marksBlocks(false, n), marksInos(false, 8-n)), counts{unmarked: 2}, notSafe)
		}
	}
	wantSpoilt(t, []spoilt{
		{"an inode and its block", does(marksBlocks(false, 6), marksInos(false, 4)), counts{unmarked: 2}, notSafe},
		{"an inode and both its blocks", does(marksBlocks(false, 3, 4), marksInos(false, 2)), counts{unmarked: 3}, notSafe},
		{"nothing is marked", does(marksBlocks(false, 1, 2, 3, 4, 5, 6, 7), marksInos(false, 1, 2, 3, 4, 5, 6, 7)), counts{unmarked: 14}, notSafe},
		{"a block that is had twice", does(pointsTo(4, 3, 0), marksBlocks(false, 3)), counts{shared: 1, unmarked: 2}, notSafe},
		{"one that is not reached", does(isInode(8, 1, 0, 8, 9)), counts{}, safe},
		{"one that is not reached, of a block that is", does(isInode(8, 1, 0, 3, 0), marksBlocks(false, 3)), counts{shared: 1, unmarked: 1}, notSafe},
		{"one that is not reached any more", does(isSlot(1, 0, "", 0), marksBlocks(false, 3, 4), marksInos(false, 2)), counts{}, safe},
		{"all below what is not reached", does(isSlot(1, 2, "", 0), marksBlocks(false, 5), marksInos(false, 3, 6, 7)), counts{}, safe},
		{"too many of each", does(marksBlocks(true, 8, 9, 10, 11, 12, 13, 14, 15, 16), marksInos(true, 8)), counts{}, safe},
	})
	root := impl.DiskNew()
	root.Bits = bitsOf(flags(16), flags(8))
	wantCounts(t, "the root's own bit", root, counts{unmarked: 1}, notSafe)
	root.Inodes[0].Ptrs, root.Blocks[8], root.Blocks[15] = []int{9, 16}, filled(), filled()
	wantCounts(t, "the root and its blocks", root, counts{unmarked: 3}, notSafe)
}

func TestLinksThatAreTooFew(t *testing.T) {
	for i, links := range []int{0, 0, 1, 1, 1, 2, 1, 1} {
		if i < 2 {
			continue
		}
		for n := 0; n <= 200; n++ {
			want, good := counts{}, safe
			switch {
			case n < links:
				want, good = counts{short: 1}, notSafe
			case n == links:
				good = exact
			}
			wantCounts(t, "links of "+impl.Decimal(i), exactBut(hasLinks(i, n)), want, good)
		}
	}
	wantSpoilt(t, []spoilt{
		{"two", does(hasLinks(2, 0), hasLinks(5, 0)), counts{short: 2}, notSafe},
		{"all", does(hasLinks(2, 0), hasLinks(3, 0), hasLinks(4, 0), hasLinks(5, 1), hasLinks(6, 0), hasLinks(7, 0), hasLinks(1, 0)), counts{short: 6}, notSafe},
		{"a name more", does(isSlot(2, 0, "z", 2)), counts{short: 1}, notSafe},
		{"a name more, and a link", does(isSlot(2, 0, "z", 2), hasLinks(2, 2)), counts{}, exact},
		{"a name more of a directory", does(isSlot(2, 0, "e", 3)), counts{short: 1}, notSafe},
		{"a name less", does(isSlot(2, 3, "", 0)), counts{}, safe},
		{"a name less, and a link", does(isSlot(2, 3, "", 0), hasLinks(5, 1)), counts{}, exact},
		{"the root", does(hasLinks(1, 0)), counts{}, safe},
		{"the root with a name", does(isSlot(1, 1, "r", 1), hasLinks(1, 0)), counts{}, safe},
		{"the root with two names", does(isSlot(1, 1, "r", 1), isSlot(5, 0, "r", 1), hasLinks(1, 1)), counts{}, safe},
		{"one that is not reached", does(isInode(8, 1, 0, 0, 0)), counts{}, safe},
		{"one that a directory names that is not reached", does(isSlot(5, 3, "", 0), hasLinks(7, 0), isInode(8, 2, 0, 8, 0), isBlock(8, filled(slot("x", 7)))), counts{}, safe},
		{"a name that dangles", does(isSlot(1, 1, "n", 8)), counts{dangling: 1}, notSafe},
		{"a block that two have", does(pointsTo(6, 5, 0)), counts{shared: 1, short: 3}, notSafe},
		{"a block that is had twice", does(pointsTo(1, 2, 2), marksBlocks(false, 1)), counts{shared: 1, short: 1}, notSafe},
	})
}

func TestBlocksOfTheWrongKind(t *testing.T) {
	nothing, text, names, noNames := impl.Block{}, textBlock("x"), filled(slot("n", 2)), filled()
	wantSpoilt(t, []spoilt{
		{"a directory with a text", does(pointsTo(6, 8, 0), isBlock(8, text), marksBlocks(true, 8)), counts{wrong: 1}, notSafe},
		{"a directory with a text behind", does(pointsTo(6, 0, 8), isBlock(8, text), marksBlocks(true, 8)), counts{wrong: 1}, notSafe},
		{"a directory with two texts", does(pointsTo(6, 8, 9), isBlock(8, text), isBlock(9, text), marksBlocks(true, 8, 9)), counts{wrong: 2}, notSafe},
		{"a directory with nothing", does(pointsTo(6, 8, 0), isBlock(8, nothing), marksBlocks(true, 8)), counts{wrong: 1}, notSafe},
		{"a directory without names", does(pointsTo(6, 8, 0), isBlock(8, noNames), marksBlocks(true, 8)), counts{}, exact},
		{"a directory with names and text", does(pointsTo(3, 8, 5), isBlock(8, text), marksBlocks(true, 8)), counts{wrong: 1}, notSafe},
		{"the root with a text", does(isBlock(2, text)), counts{wrong: 1}, notSafe},
		{"the root with two texts", does(isBlock(2, text), isBlock(1, nothing)), counts{wrong: 2}, notSafe},
		{"a file with names", does(isBlock(3, names)), counts{wrong: 1}, notSafe},
		{"a file with names behind", does(isBlock(4, names)), counts{wrong: 1}, notSafe},
		{"a file with names in both", does(isBlock(3, names), isBlock(4, noNames)), counts{wrong: 2}, notSafe},
		{"a file with no names", does(isBlock(6, noNames)), counts{wrong: 1}, notSafe},
		{"a file with nothing", does(isBlock(3, nothing), isBlock(4, nothing), isBlock(6, nothing)), counts{}, exact},
		{"a file that was a directory", does(isInode(3, 1, 1, 0, 5)), counts{wrong: 1}, notSafe},
		{"a directory that was a file", does(isInode(2, 2, 1, 3, 4)), counts{wrong: 2}, notSafe},
		{"both", does(isInode(4, 2, 1, 6, 0), isBlock(4, names)), counts{wrong: 2}, notSafe},
		{"a block that two have", does(pointsTo(4, 3, 0), isBlock(3, noNames), marksBlocks(false, 6)), counts{shared: 1, wrong: 2}, notSafe},
		{"a directory that is not reached", does(isInode(8, 2, 1, 8, 9), isBlock(8, text), isBlock(9, nothing)), counts{}, safe},
		{"a file that is not reached", does(isInode(8, 1, 1, 8, 9), isBlock(8, names), isBlock(9, noNames)), counts{}, safe},
		{"one that is not reached any more", does(isSlot(1, 0, "", 0), isBlock(3, names)), counts{}, safe},
		{"blocks that nobody has", does(isBlock(8, names), isBlock(9, text), isBlock(16, noNames)), counts{}, exact},
	})
}

func TestRootsAreDirectories(t *testing.T) {
	root := func(x impl.Inode, bits ...int) impl.Disk {
		d := impl.DiskNew()
		d.Inodes[0], d.Blocks[0], d.Blocks[1] = x, filled(), textBlock("x")
		marksBlocks(true, bits...)(&d)
		return d
	}
	wantCounts(t, "a directory", root(inode(2, 1, 1, 0), 1), counts{}, exact)
	wantCounts(t, "of no kind", root(inode(0, 0, 0, 0)), counts{}, notSafe)
	wantCounts(t, "a file", root(inode(1, 1, 0, 0)), counts{}, notSafe)
	wantCounts(t, "a file with text", root(inode(1, 1, 2, 0), 2), counts{}, notSafe)
	wantCounts(t, "a file with text that is not marked", root(inode(1, 1, 2, 0)), counts{unmarked: 1}, notSafe)
	wantCounts(t, "a file with names", root(inode(1, 1, 0, 1), 1), counts{wrong: 1}, notSafe)
	wantCounts(t, "a file with one block twice", root(inode(1, 1, 2, 2), 2), counts{shared: 1}, notSafe)
	// Its blocks tell no names: nothing else is reached, and nothing dangles.
	d := exactBut(isInode(1, 1, 1, 1, 2), isSlot(1, 1, "n", 8), hasLinks(2, 0), marksInos(false, 2))
	wantCounts(t, "a file of names", d, counts{wrong: 2}, notSafe)
	wantCounts(t, "names without a root", exactBut(isGone(1), hasLinks(2, 0), marksInos(false, 2)), counts{}, notSafe)
}

// Each sentence of ExactDisk is spoilt alone, on a disk that stays safe.
func TestDisksThatAreNotExact(t *testing.T) {
	for _, kind := range []int{1, 2} {
		wantCounts(t, "not reached", exactBut(isInode(8, kind, 0, 0, 0)), counts{}, safe)
		wantCounts(t, "not reached, with a link", exactBut(isInode(8, kind, 1, 0, 0)), counts{}, safe)
		wantCounts(t, "not reached, but marked", exactBut(isInode(8, kind, 0, 0, 0), marksInos(true, 8)), counts{}, safe)
		wantCounts(t, "not reached, with a block that is marked", exactBut(isInode(8, kind, 0, 8, 0), marksBlocks(true, 8)), counts{}, safe)
	}
	for i := 1; i <= 7; i++ {
		d := exactDisk()
		d.Inodes[i-1].Links++
		wantCounts(t, "a link more", d, counts{}, safe)
	}
	for p := 8; p <= 16; p++ {
		wantCounts(t, "a bit of a block more", exactBut(marksBlocks(true, p)), counts{}, safe)
	}
	wantSpoilt(t, []spoilt{
		{"a bit of an inode more", does(marksInos(true, 8)), counts{}, safe},
		{"the root with no link", does(hasLinks(1, 0)), counts{}, safe},
		{"the root with 200 links", does(hasLinks(1, 200)), counts{}, safe},
		{"a directory with two names", does(isSlot(2, 0, "e", 3), hasLinks(3, 2)), counts{}, safe},
		{"a directory with two names in two directories", does(isSlot(1, 1, "y", 6), hasLinks(6, 2)), counts{}, safe},
		{"a directory in itself", does(isSlot(5, 0, "s", 3), hasLinks(3, 2)), counts{}, safe},
		{"a directory that one below it names", does(pointsTo(6, 8, 0), isBlock(8, filled(slot("u", 3))), marksBlocks(true, 8), hasLinks(3, 2)), counts{}, safe},
		{"a file with two names", does(isSlot(2, 0, "e", 4), hasLinks(4, 2)), counts{}, exact},
		{"the root in itself", does(isSlot(1, 1, "r", 1)), counts{}, safe},
		{"the root in its second block", does(isSlot(2, 2, "r", 1)), counts{}, safe},
		{"the root below", does(isSlot(5, 0, "r", 1)), counts{}, safe},
		{"the root in itself, with a link more", does(isSlot(1, 1, "r", 1), hasLinks(1, 2)), counts{}, safe},
		{"the root in a directory that is not reached", does(isInode(8, 2, 0, 8, 0), isBlock(8, filled(slot("r", 1)))), counts{}, safe},
		{"the root in a block that nobody has", does(isBlock(8, filled(slot("r", 1)))), counts{}, exact},
		{"a ring that is not reached", does(isSlot(5, 1, "", 0), isInode(6, 2, 1, 8, 0), isInode(8, 2, 1, 9, 0), isBlock(8, filled(slot("a", 8))), isBlock(9, filled(slot("b", 6))), marksBlocks(true, 8, 9), marksInos(true, 8)), counts{}, safe},
	})
}

// Disks that are exact, though no call leads there: the document asks for nothing else.
func TestOtherDisksAreExact(t *testing.T) {
	wantSpoilt(t, []spoilt{
		{"a name twice in a directory", does(isSlot(2, 0, "z", 4), hasLinks(4, 2)), counts{}, exact},
		{"a name twice, of one file", does(isSlot(2, 0, "z", 2), hasLinks(2, 2)), counts{}, exact},
		{"pointers turned round", does(pointsTo(1, 2, 1), pointsTo(2, 4, 3), pointsTo(3, 5, 0), pointsTo(4, 0, 6)), counts{}, exact},
		{"the last inode", does(isGone(7), isInode(8, 1, 1, 0, 0), isSlot(5, 3, "x", 8), marksInos(false, 7), marksInos(true, 8)), counts{}, exact},
		{"the last block", does(pointsTo(4, 0, 16), marksBlocks(false, 6), marksBlocks(true, 16)), counts{}, exact},
		{"the root alone", does(isBlock(1, filled()), isBlock(2, filled()), isGone(2), isGone(3), isGone(4), isGone(5), isGone(6), isGone(7), marksBlocks(false, 3, 4, 5, 6, 7), marksInos(false, 2, 3, 4, 5, 6, 7)), counts{}, exact},
	})
	d := deepDisk(2)
	d.Bits = bitsOf(flags(16, 0, 1, 2, 3, 4, 5, 6, 7), allFlags(8))
	wantCounts(t, "deeper than a path", d, counts{}, exact)
	d.Blocks[7].Slots[1] = slot("h", 5)
	wantCounts(t, "a ring deeper than a path", d, counts{short: 1}, notSafe)
	d.Blocks[7].Slots[1], d.Inodes[5].Kind = slot("h", 8), 1
	wantCounts(t, "cut in the deep", d, counts{wrong: 1}, notSafe)
	d.Inodes[5].Ptrs = []int{0, 0}
	wantCounts(t, "lost in the deep", d, counts{}, safe)
}

// oneThingChanged hands out disks on which each pointer leads to each block, each slot to each inode, or each inode is of each kind.
func oneThingChanged(use func(d impl.Disk)) {
	for i := 1; i <= 8; i++ {
		for p := range 17 {
			for ptr := range 2 {
				use(exactBut(func(d *impl.Disk) {
					if d.Inodes[i-1].Kind == 0 {
						d.Inodes[i-1].Kind = 1
					}
					d.Inodes[i-1].Ptrs[ptr] = p
				}))
			}
		}
		for place := range 20 {
			for _, name := range []string{"n", "z", "a"} {
				d := exactBut(isBlock(8, filled()), pointsTo(6, 0, 8), marksBlocks(true, 8), isInode(8, 2, 1, 9, 0), isBlock(9, filled()))
				b := &d.Blocks[[]int{0, 1, 4, 7, 8}[place/4]]
				if impl.SlotOf(*b, name) < 0 {
					b.Slots[place%4] = slot(name, i)
				}
				use(d)
			}
		}
		for kind := range 3 {
			for links := range 4 {
				x := exactDisk().Inodes[i-1]
				if kind == 0 {
					x, links = inode(0, 0, 0, 0), 0
				}
				use(exactBut(isInode(i, kind, links, x.Ptrs...)))
			}
		}
	}
}

func TestDisksWithOneThingChanged(t *testing.T) {
	oneThingChanged(func(d impl.Disk) { checkCounts(t, d) })
}

func TestCountsOfSampleDisks(t *testing.T) {
	for _, d := range append(rightDisks(), namedDisk(), pathDisk(), deepDisk(1), deepDisk(2)) {
		checkCounts(t, d)
	}
	for _, c := range rightChanges() {
		d := exactDisk()
		c.do(&d)
		if impl.DiskOk(d) {
			checkCounts(t, d)
		}
	}
}

// Of a disk that is not right no one is safe or exact, whatever is counted of it.
func TestCountsOfWrongDisks(t *testing.T) {
	for _, from := range []impl.Disk{exactDisk(), impl.DiskNew(), fullDisk(), deepDisk(2), pathDisk(), usedDisk(), emptyDisk()} {
		for _, c := range wrongChanges() {
			d := changed(from, c)
			if _, good := checkCounts(t, d); good != notSafe || impl.SafeDisk(d) || impl.ExactDisk(d) {
				t.Errorf("%s: a wrong disk is %d good", c.name, good)
			}
		}
	}
	for inodes := range 9 {
		for blocks := range 17 {
			for _, d := range []impl.Disk{exactDisk(), pathDisk(), deepDisk(2)} {
				d.Inodes, d.Blocks, d.Bits.Blocks, d.Bits.Inos = d.Inodes[:inodes], d.Blocks[:blocks], d.Bits.Blocks[:16-blocks], d.Bits.Inos[:8-inodes]
				checkCounts(t, d)
			}
		}
	}
	if got, good := checkCounts(t, impl.Disk{}); got != (counts{}) || good != notSafe {
		t.Errorf("of no disk is counted %+v", got)
	}
}

// What a wrong disk has not is not counted; a name that leads to no inode dangles.
func TestCountsOfWhatIsNotThere(t *testing.T) {
	wide := func() impl.Disk {
		d := exactDisk()
		d.Inodes = append(d.Inodes, slices.Repeat([]impl.Inode{inode(2, 0, 1, 17)}, 260)...)
		d.Blocks = append(d.Blocks, slices.Repeat([]impl.Block{filled(slot("b", 8))}, 260)...)
		d.Bits = bitsOf(append(d.Bits.Blocks, flags(260)...), append(d.Bits.Inos, flags(260)...))
		return d
	}
	if got, good := checkCounts(t, wide()); got != (counts{}) || good != notSafe {
		t.Errorf("of a ninth inode and a 17th block is counted %+v", got)
	}
	for _, n := range append(oddNumbers(), -1, 17) {
		for _, d := range []impl.Disk{exactDisk(), wide()} {
			d.Inodes[3].Ptrs, d.Inodes[5].Ptrs = []int{n, n}, []int{n, n}
			if got, _ := checkCounts(t, d); got != (counts{}) {
				t.Errorf("of pointers of %d is counted %+v", n, got)
			}
			d.Blocks[0].Slots[1] = slot("n", n)
			if got, _ := checkCounts(t, d); got != (counts{dangling: 1}) {
				t.Errorf("of a name of %d is counted %+v", n, got)
			}
		}
	}
	for _, c := range []struct {
		name string
		do   diskDo
		want counts
	}{
		{"an inode without a name", isSlot(1, 1, "", 8), counts{}},
		{"a name without an inode", isSlot(1, 1, "n", 0), counts{dangling: 1}},
		{"a slot more", func(d *impl.Disk) { d.Blocks[1].Slots = append(d.Blocks[1].Slots, slot("n", 8)) }, counts{dangling: 1}},
		{"a name twice", isSlot(1, 1, "z", 8), counts{dangling: 1}},
		{"pointers of no kind", isInode(8, 0, 0, 3, 3), counts{}},
		{"pointers of another kind", isInode(8, 3, 0, 3, 3), counts{shared: 2}},
		{"a name of another kind", func(d *impl.Disk) { d.Inodes[1].Kind = 3 }, counts{}},
		{"a third pointer", pointsTo(4, 6, 0, 3), counts{shared: 1}},
		{"a third pointer of names", pointsTo(4, 6, 0, 2), counts{shared: 1, wrong: 1}},
		{"a pointer alone", pointsTo(4, 6), counts{}},
		{"links below 0", hasLinks(4, -1), counts{short: 1}},
		{"a root of no kind with pointers", isInode(1, 0, 0, 1, 3), counts{wrong: 1}},
		{"texts beside names", func(d *impl.Disk) { d.Blocks[0].Text = "x" }, counts{}},
		{"names in a text", func(d *impl.Disk) { d.Blocks[0].Dir = false }, counts{wrong: 1}},
		{"no bits", func(d *impl.Disk) { d.Bits = impl.Bits{} }, counts{}},
		{"few bits", func(d *impl.Disk) { d.Bits = bitsOf(flags(2), flags(3)) }, counts{unmarked: 5}},
		{"no blocks", func(d *impl.Disk) { d.Blocks = nil }, counts{}},
	} {
		d := exactBut(c.do)
		got, good := checkCounts(t, d)
		if impl.DiskOk(d) || got != c.want || good != notSafe {
			t.Errorf("%s: counted is %+v, want %+v; it is %d good", c.name, got, c.want, good)
		}
	}
}

// Right and wrong disks that no life leads to.
func TestDrawnCounts(t *testing.T) {
	draw := drawer(15)
	var all counts
	for k := range 900 {
		d := drawnPathDisk(draw, k%3 > 0)
		for i := range d.Inodes {
			if d.Inodes[i].Kind != 0 {
				d.Inodes[i].Links = draw(4)
			}
		}
		for _, list := range [][]bool{d.Bits.Blocks, d.Bits.Inos} {
			for at := range list {
				list[at] = draw(3) > 0
			}
		}
		got, _ := checkCounts(t, d)
		all = counts{all.dangling + got.dangling, all.shared + got.shared, all.unmarked + got.unmarked, all.short + got.short, all.wrong + got.wrong}
	}
	if min(all.dangling, all.shared, all.unmarked, all.short, all.wrong) < 500 {
		t.Errorf("only %+v are drawn", all)
	}
}

// oneChange changes one number, name or bit of a right disk; it is right still.
func oneChange(draw func(n int) int, d *impl.Disk) {
	x := &d.Inodes[draw(8)]
	b := &d.Blocks[draw(16)]
	switch draw(7) {
	case 0:
		at := draw(16)
		d.Bits.Blocks[at] = !d.Bits.Blocks[at]
	case 1:
		at := draw(8)
		d.Bits.Inos[at] = !d.Bits.Inos[at]
	case 2:
		*x = []impl.Inode{inode(0, 0, 0, 0), inode(1, 1, x.Ptrs...), inode(2, 1, x.Ptrs...)}[draw(3)]
	case 3:
		if x.Kind != 0 {
			x.Links = draw(4)
		}
	case 4:
		if x.Kind != 0 {
			x.Ptrs[draw(2)] = draw(17)
		}
	case 5:
		*b = []impl.Block{{}, filled(), filled(slot("a", 1+draw(8)))}[draw(3)]
	default:
		if name := []string{"a", "b", "c"}[draw(3)]; b.Dir && impl.SlotOf(*b, name) < 0 {
			b.Slots[draw(4)] = []impl.Slot{{}, slot(name, 1+draw(8))}[draw(2)]
		}
	}
}

// Over drawn lives the disk is safe at any moment, and exact when all is written; changed, it is what the document tells of it.
func TestCountsOfDrawnLives(t *testing.T) {
	var seen [3]int
	for seed := range 80 {
		draw := drawer(uint32(1500 + seed))
		l := newLife()
		for range 60 {
			l.drawn(t, draw)
			checkCounts(t, l.m.Disk)
			if got, good := checkCounts(t, slowDisk(l.v)); good == notSafe {
				t.Fatalf("the disk %v is not safe: %+v", slowDisk(l.v), got)
			}
		}
		l.settle(t, draw)
		for _, d := range []impl.Disk{l.m.Disk, slowDisk(l.v)} {
			wantCounts(t, "all is written", d, counts{}, exact)
		}
		for range 60 {
			d := fromDisk(l.m.Disk)
			for range 1 + draw(2) {
				oneChange(draw, &d)
			}
			if !impl.DiskOk(d) {
				t.Fatalf("a changed disk is not right: %v", d)
			}
			_, good := checkCounts(t, d)
			seen[good]++
		}
	}
	if seen[notSafe] < 500 || seen[safe] < 500 || seen[exact] < 500 {
		t.Errorf("of changed disks are seen only %v (not safe, safe, exact)", seen)
	}
}

// What stands in spare room behind the lists of a disk is neither counted nor written into.
func TestRoomBehindCountsIsLeftAlone(t *testing.T) {
	d := exactDisk()
	ptrs, slots := append(d.Inodes[0].Ptrs, 3), append(d.Blocks[0].Slots, slot("behind", 8))
	inodes, blocks := append(d.Inodes, inode(1, 0, 1, 1)), append(d.Blocks, filled(slot("behind", 8)))
	bits, inos := append(d.Bits.Blocks, true), append(d.Bits.Inos, true)
	inodes[0].Ptrs, blocks[0].Slots = ptrs[:2], slots[:4]
	d = impl.Disk{Bits: bitsOf(bits[:16], inos[:8]), Inodes: inodes[:8], Blocks: blocks[:16]}
	wantCounts(t, "spare room", d, counts{}, exact)
	if ptrs[2] != 3 || slots[4] != slot("behind", 8) || !sameInode(inodes[8], inode(1, 0, 1, 1)) || !sameBlock(blocks[16], filled(slot("behind", 8))) || !bits[16] || !inos[8] {
		t.Error("spare room behind a disk was written into")
	}
}

// Calls at the same time, of one disk: each answers as it does alone.
func TestCountsAtTheSameTime(t *testing.T) {
	d, spoilt := exactDisk(), exactBut(isGone(2), pointsTo(4, 1, 1), hasLinks(5, 0), marksInos(false, 1))
	want := counts{dangling: 1, shared: 2, unmarked: 1, short: 1, wrong: 2}
	var all sync.WaitGroup
	var same [8]bool
	for k := range same {
		all.Go(func() {
			same[k] = impl.ExactDisk(d) && impl.SafeDisk(d) && countsOf(spoilt) == want && !impl.SafeDisk(spoilt) && !impl.ExactDisk(spoilt)
		})
	}
	all.Wait()
	if slices.Contains(same[:], false) {
		t.Errorf("at the same time as others answers are the same: %v", same)
	}
}
