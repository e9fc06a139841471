package tests

import (
	"runtime"
	"slices"
	"sync"
	"testing"

	"loop.example/g00235/impl"
)

// The signatures that the document gives.
var (
	_ func(d impl.Disk) impl.Disk = impl.MendPointers
	_ func(d impl.Disk) impl.Disk = impl.MendNames
	_ func(d impl.Disk) impl.Disk = impl.MendRest
	_ func(d impl.Disk) impl.Disk = impl.MendAll
)

// slowMendPointers goes block by block: of the pointers that lead there the first one of the right kind stays.
func slowMendPointers(d impl.Disk) impl.Disk {
	c := fromDisk(d)
	if len(c.Inodes) > 0 && c.Inodes[0].Kind != 2 {
		c.Inodes[0] = inode(2, 1, 0, 0)
	}
	for p := 1; p <= min(16, len(c.Blocks)); p++ {
		has := 0
		for _, x := range c.Inodes[:min(8, len(c.Inodes))] {
			for k, q := range x.Ptrs {
				if q != p || x.Kind == 0 {
					continue
				}
				if dir := x.Kind == 2; has > 0 || c.Blocks[p-1].Dir != dir {
					x.Ptrs[k] = 0
				} else {
					has++
				}
			}
		}
	}
	return c
}

// A slot with a name: its directory, its block, and its place there.
type nameSpot struct {
	dir, block, place int
	slot              impl.Slot
}

func slowSpots(d impl.Disk) []nameSpot {
	var list []nameSpot
	var seen []int
	for i := 1; i <= min(8, len(d.Inodes)); i++ {
		for _, p := range d.Inodes[i-1].Ptrs {
			if d.Inodes[i-1].Kind != 2 || p < 1 || p > 16 || p > len(d.Blocks) || slices.Contains(seen, p) {
				continue
			}
			seen = append(seen, p)
			for k, s := range d.Blocks[p-1].Slots {
				if len(s.Name) > 0 {
					list = append(list, nameSpot{i, p, k, s})
				}
			}
		}
	}
	return list
}

// slowMendNames collects what stays; all others are without anything.
func slowMendNames(d impl.Disk) impl.Disk {
	c := fromDisk(d)
	var stay []nameSpot
	for _, n := range slowSpots(d) {
		kind := slowKind(d, n.slot.Ino)
		taken := slices.ContainsFunc(stay, func(o nameSpot) bool { return o.dir == n.dir && o.slot.Name == n.slot.Name })
		named := slices.ContainsFunc(stay, func(o nameSpot) bool { return o.slot.Ino == n.slot.Ino })
		if kind == 0 || n.slot.Ino == 1 || taken || kind == 2 && named {
			c.Blocks[n.block-1].Slots[n.place] = impl.Slot{}
		} else {
			stay = append(stay, n)
		}
	}
	return c
}

func slowMendRest(d impl.Disk) impl.Disk {
	c := fromDisk(d)
	c.Bits = bitsOf(flags(16), flags(8))
	for i := 1; i <= min(8, len(d.Inodes)); i++ {
		if !slices.Contains(slowReached(d), i) {
			c.Inodes[i-1] = inode(0, 0, 0, 0)
			continue
		}
		c.Bits.Inos[i-1] = true
		c.Inodes[i-1].Links = slowLinks(d, i)
	}
	if len(d.Inodes) > 0 {
		c.Inodes[0].Links = 1
	}
	for _, p := range slowPointers(d) {
		c.Bits.Blocks[p[1]-1] = true
	}
	return c
}

func slowMendAll(d impl.Disk) impl.Disk {
	if !slowDiskOk(d) {
		return fromDisk(d)
	}
	return slowMendRest(slowMendNames(slowMendPointers(d)))
}

type mend struct {
	name string
	call func(d impl.Disk) impl.Disk
	slow func(d impl.Disk) impl.Disk
}

func mends() []mend {
	return []mend{
		{"MendPointers", impl.MendPointers, slowMendPointers},
		{"MendNames", impl.MendNames, slowMendNames},
		{"MendRest", impl.MendRest, slowMendRest},
		{"MendAll", impl.MendAll, slowMendAll},
	}
}

// wantExact is the promise: mended it is exact, and mended again it is the same.
func wantExact(t *testing.T, d impl.Disk) {
	t.Helper()
	got := impl.MendAll(d)
	if !impl.ExactDisk(got) || !slowExact(got) {
		t.Errorf("MendAll(%v) = %v, which is not exact", d, got)
	}
	if again := impl.MendAll(got); !impl.SameDisk(again, got) || !slowSameDisk(again, got) {
		t.Errorf("MendAll(%v) = %v, mended again it is %v", d, got, again)
	}
}

// checkMends holds all that mends against the document, and wants the disk as it was.
func checkMends(t *testing.T, d impl.Disk) {
	t.Helper()
	was := fromDisk(d)
	for _, m := range mends() {
		got := m.call(d)
		if want := m.slow(was); !slowSameDisk(got, want) {
			t.Errorf("%s(%v) = %v, want %v", m.name, was, got, want)
		}
		if again := m.call(got); !slowSameDisk(again, got) {
			t.Errorf("%s(%v) = %v, and once more %v", m.name, was, got, again)
		}
		if !slowSameDisk(d, was) {
			t.Fatalf("%s wrote into a disk: %v, was %v", m.name, d, was)
		}
	}
	if slowDiskOk(d) {
		wantExact(t, d)
	}
}

// A spoilt exact disk, and what more is so when it is mended.
type mendRow struct {
	name   string
	spoilt []diskDo
	mended []diskDo
}

func wantMended(t *testing.T, call func(d impl.Disk) impl.Disk, rows []mendRow) {
	t.Helper()
	for _, r := range rows {
		d, want := exactBut(r.spoilt...), exactBut(slices.Concat(r.spoilt, r.mended)...)
		if got := call(d); !slowSameDisk(got, want) {
			t.Errorf("%s: of %v it makes %v, want %v", r.name, d, got, want)
		}
		checkMends(t, d)
	}
}

func emptied(p, place int) diskDo { return isSlot(p, place, "", 0) }

func TestRootsThatAreMended(t *testing.T) {
	root := isInode(1, 2, 1, 0, 0)
	wantMended(t, impl.MendPointers, []mendRow{
		{"a directory", nil, nil},
		{"a directory with other links", does(hasLinks(1, 77)), nil},
		{"a directory without links", does(hasLinks(1, 0)), nil},
		{"a directory without pointers", does(pointsTo(1, 0, 0)), nil},
		{"of no kind", does(isGone(1)), does(root)},
		{"a file", does(isInode(1, 1, 1, 0, 0)), does(root)},
		{"a file with links", does(isInode(1, 1, 200, 0, 0)), does(root)},
		{"a file with texts", does(isInode(1, 1, 1, 9, 16)), does(root)},
		{"a file with names", does(isInode(1, 1, 1, 1, 2)), does(root)},
		{"a file with names and a text", does(isInode(1, 1, 0, 9, 2)), does(root)},
		// What it was has nothing any more: others keep their blocks.
		{"a file with texts of others", does(isInode(1, 1, 1, 3, 6)), does(root)},
		{"another directory has its names", does(isInode(1, 1, 1, 1, 2), pointsTo(6, 2, 1)), does(root)},
		{"a directory has what others have, too", does(pointsTo(1, 5, 2)), does(pointsTo(3, 0, 0))},
	})
}

func TestPointersOfTheWrongKind(t *testing.T) {
	wantMended(t, impl.MendPointers, []mendRow{
		{"a file with names", does(pointsTo(4, 8, 6)), does(pointsTo(4, 0, 6))},
		{"a file with names behind", does(pointsTo(4, 6, 8)), does(pointsTo(4, 6, 0))},
		{"a file with a block without names", does(pointsTo(4, 6, 9), isBlock(9, filled())), does(pointsTo(4, 6, 0))},
		{"a file with two blocks of names", does(pointsTo(4, 8, 9), isBlock(9, filled())), does(pointsTo(4, 0, 0))},
		{"a file with the root's names", does(pointsTo(4, 1, 6)), does(pointsTo(4, 0, 6))},
		{"a file whose block has names now", does(isBlock(3, filled(slot("n", 4)))), does(pointsTo(2, 0, 4))},
		{"a directory with a text", does(pointsTo(6, 9, 8), isBlock(9, textBlock("x"))), does(pointsTo(6, 0, 8))},
		{"a directory with a text behind", does(pointsTo(6, 8, 16)), does(pointsTo(6, 8, 0))},
		{"a directory with two texts", does(pointsTo(6, 9, 16)), does(pointsTo(6, 0, 0))},
		{"a directory whose block has a text now", does(isBlock(5, textBlock("x"))), does(pointsTo(3, 0, 0))},
		{"a directory whose block has nothing now", does(isBlock(5, impl.Block{})), does(pointsTo(3, 0, 0))},
		{"the root with a text", does(isBlock(1, textBlock("x"))), does(pointsTo(1, 0, 2))},
		{"the root with a text of a file", does(pointsTo(1, 3, 2)), does(pointsTo(1, 0, 2))},
		{"a file that is a directory now", does(isInode(2, 2, 1, 3, 4)), does(pointsTo(2, 0, 0))},
		{"a directory that is a file now", does(isInode(3, 1, 1, 0, 5)), does(pointsTo(3, 0, 0))},
		{"a file that is not reached", does(isInode(8, 1, 3, 8, 9)), does(pointsTo(8, 0, 9))},
		{"a directory that is not reached", does(isInode(8, 2, 0, 9, 8)), does(pointsTo(8, 0, 8))},
		{"blocks that nobody has", does(isBlock(9, filled()), isBlock(10, textBlock("x"))), nil},
	})
}

func TestPointersToBlocksThatAreHad(t *testing.T) {
	wantMended(t, impl.MendPointers, []mendRow{
		{"two files", does(pointsTo(4, 3, 6)), does(pointsTo(4, 0, 6))},
		{"two files, another pointer", does(pointsTo(4, 6, 3)), does(pointsTo(4, 6, 0))},
		{"both of a file", does(pointsTo(4, 4, 3)), does(pointsTo(4, 0, 0))},
		{"two directories", does(pointsTo(6, 0, 5)), does(pointsTo(6, 0, 0))},
		{"the root and a directory", does(pointsTo(3, 2, 5)), does(pointsTo(3, 0, 5))},
		{"one file twice", does(pointsTo(4, 6, 6)), does(pointsTo(4, 6, 0))},
		{"one directory twice", does(pointsTo(3, 5, 5)), does(pointsTo(3, 5, 0))},
		{"the root twice", does(pointsTo(1, 2, 2)), does(pointsTo(1, 2, 0))},
		{"three files", does(pointsTo(4, 3, 0), pointsTo(5, 7, 3)), does(pointsTo(4, 0, 0), pointsTo(5, 7, 0))},
		{"three directories", does(pointsTo(3, 5, 1), pointsTo(6, 1, 8)), does(pointsTo(3, 5, 0), pointsTo(6, 0, 8))},
		{"one twice, and another", does(pointsTo(4, 6, 6), pointsTo(7, 6, 0)), does(pointsTo(4, 6, 0), pointsTo(7, 0, 0))},
		{"one, and another twice", does(pointsTo(7, 6, 6)), does(pointsTo(7, 0, 0))},
		{"two of two", does(pointsTo(2, 9, 10), pointsTo(4, 10, 9)), does(pointsTo(4, 0, 0))},
		{"the last block", does(pointsTo(4, 16, 0), pointsTo(7, 16, 16)), does(pointsTo(7, 0, 0))},
		{"one that is not reached, behind", does(isInode(8, 1, 1, 3, 9)), does(pointsTo(8, 0, 9))},
		{"one that is not reached, ahead", does(emptied(1, 0), pointsTo(7, 4, 3)), does(pointsTo(7, 0, 0))},
		{"one that is gone", does(isGone(2), pointsTo(4, 3, 4)), nil},
		{"two that have nothing", does(pointsTo(2, 0, 0), pointsTo(4, 0, 0)), nil},
	})
}

// Only a pointer that stays has its block.
func TestPointersBehindOneThatGoes(t *testing.T) {
	wantMended(t, impl.MendPointers, []mendRow{
		{"a directory behind a file", does(pointsTo(2, 8, 4), pointsTo(6, 0, 8)), does(pointsTo(2, 0, 4))},
		{"a file behind a directory", does(pointsTo(3, 6, 5)), does(pointsTo(3, 0, 5))},
		{"a file behind the root", does(pointsTo(1, 1, 6)), does(pointsTo(1, 1, 0))},
		{"two behind one", does(pointsTo(2, 8, 4), pointsTo(3, 5, 8), pointsTo(6, 8, 0)), does(pointsTo(2, 0, 4), pointsTo(6, 0, 0))},
		{"one behind two", does(pointsTo(2, 8, 8), pointsTo(4, 6, 8), pointsTo(6, 8, 0)), does(pointsTo(2, 0, 0), pointsTo(4, 6, 0))},
		{"one behind, twice", does(pointsTo(2, 8, 4), pointsTo(6, 8, 8)), does(pointsTo(2, 0, 4), pointsTo(6, 8, 0))},
		{"one between", does(pointsTo(2, 8, 4), pointsTo(3, 8, 5), pointsTo(4, 8, 6)), does(pointsTo(2, 0, 4), pointsTo(4, 0, 6))},
		{"behind a root that is a file", does(isInode(1, 1, 1, 3, 4)), does(isInode(1, 2, 1, 0, 0))},
		{"nobody behind", does(pointsTo(2, 8, 4), pointsTo(4, 8, 6)), does(pointsTo(2, 0, 4), pointsTo(4, 0, 6))},
	})
}

// Neither names nor links nor bits are those of MendPointers.
func TestPointersAlone(t *testing.T) {
	wantMended(t, impl.MendPointers, []mendRow{
		{"names", does(isSlot(1, 1, "n", 8), isSlot(1, 3, "r", 1), isSlot(2, 0, "z", 3)), nil},
		{"links", does(hasLinks(1, 0), hasLinks(2, 3), hasLinks(5, 0)), nil},
		{"bits", does(marksBlocks(false, 1, 3), marksInos(false, 1, 4), marksBlocks(true, 9), marksInos(true, 8)), nil},
		{"what is not reached", does(isInode(8, 2, 5, 9, 10), isBlock(9, filled()), isBlock(10, filled(slot("n", 3)))), nil},
	})
}

func TestNamesOfNothing(t *testing.T) {
	wantMended(t, impl.MendNames, []mendRow{
		{"no such name", nil, nil},
		{"in the first block", does(isGone(2)), does(emptied(1, 0))},
		{"in the second block", does(isGone(4)), does(emptied(2, 1))},
		{"in two directories", does(isGone(5)), does(emptied(2, 3), emptied(5, 2))},
		{"a directory", does(isGone(6)), does(emptied(5, 1))},
		{"a directory with names, which stay in their block", does(isGone(3)), does(emptied(1, 2))},
		{"all", does(isBlock(1, dirBlock(slot("a", 8), slot("b", 8), slot("c", 8), slot("d", 8)))), does(isBlock(1, filled()))},
		{"of a directory that is not reached", does(isInode(8, 2, 1, 8, 0), isBlock(8, filled(slot("a", 2), slot("b", 8))), isGone(7)), does(emptied(5, 3))},
		{"of one that is not reached, of nothing", does(isInode(8, 2, 1, 0, 8), isBlock(8, dirBlock(slot("", 0), slot("a", 7), slot("", 0), slot("b", 2))), isGone(7)), does(emptied(5, 3), emptied(8, 1))},
		{"in a block that nobody has", does(isSlot(8, 1, "n", 8)), nil},
		{"in a block of a file", does(pointsTo(4, 6, 8), isSlot(8, 1, "n", 8)), nil},
	})
}

// A name that leads to the root goes, wherever it is and whatever the root is.
func TestNamesOfTheRoot(t *testing.T) {
	for kind := range 3 {
		x := []impl.Inode{inode(0, 0, 0, 0), inode(1, 1, 0, 0), inode(2, 1, 1, 2)}[kind]
		for place := range 4 {
			for _, p := range []int{1, 2, 5} {
				d := exactBut(isInode(1, x.Kind, x.Links, x.Ptrs...), isSlot(p, place, "r", 1))
				want := fromDisk(d)
				if kind == 2 || p == 5 {
					want.Blocks[p-1].Slots[place] = impl.Slot{}
				}
				if got := impl.MendNames(d); !slowSameDisk(got, want) {
					t.Errorf("place %d of block %d, a root of kind %d: MendNames(%v) = %v", place, p, kind, d, got)
				}
				checkMends(t, d)
			}
		}
	}
	wantMended(t, impl.MendNames, []mendRow{
		{"several", does(isSlot(1, 1, "r", 1), isSlot(2, 0, "s", 1), isSlot(5, 0, "r", 1)), does(emptied(1, 1), emptied(2, 0), emptied(5, 0))},
		{"of one that is not reached", does(isInode(8, 2, 1, 8, 0), isSlot(8, 3, "r", 1)), does(emptied(8, 3))},
		{"in a block that nobody has", does(isSlot(8, 3, "r", 1)), nil},
		{"in a block of a file", does(pointsTo(4, 6, 8), isSlot(8, 3, "r", 1)), nil},
		{"ahead of another of that name", does(isSlot(1, 1, "n", 1), isSlot(2, 0, "n", 4)), does(emptied(1, 1))},
		{"behind another of that name", does(isSlot(1, 1, "n", 4), isSlot(2, 0, "n", 1)), does(emptied(2, 0))},
	})
}

func TestNamesThatADirectoryHasTwice(t *testing.T) {
	wantMended(t, impl.MendNames, []mendRow{
		{"in both blocks", does(isSlot(2, 0, "z", 4)), does(emptied(2, 0))},
		{"in both blocks, at the end", does(isSlot(2, 2, "d", 4)), does(emptied(2, 2))},
		{"in both blocks, turned round", does(isSlot(2, 0, "z", 4), pointsTo(1, 2, 1)), does(emptied(1, 0))},
		{"in both blocks, of one file", does(isSlot(2, 0, "z", 2)), does(emptied(2, 0))},
		{"two names in both blocks", does(isSlot(2, 0, "d", 4), isSlot(2, 2, "z", 5)), does(emptied(2, 0), emptied(2, 2))},
		{"of a directory and a file", does(isSlot(2, 0, "d", 2)), does(emptied(2, 0))},
		{"of a file and a directory", does(isSlot(2, 0, "z", 6)), does(emptied(2, 0))},
		{"of a directory that is not reached", does(isInode(8, 2, 1, 8, 9), isBlock(9, filled(slot("b", 4), slot("no", 5)))), does(emptied(9, 1))},
		{"in two directories", does(isSlot(5, 0, "z", 4), isSlot(2, 0, "x", 2)), nil},
		{"in three directories", does(isSlot(5, 0, "z", 4), pointsTo(6, 9, 0), isBlock(9, filled(slot("z", 4)))), nil},
		{"in a block that nobody has", does(isSlot(8, 1, "z", 4)), nil},
		{"a longer name", does(isSlot(2, 0, "zz", 2), isSlot(2, 2, "dz", 2)), nil},
		// Blocks that have a name twice are on no right disk.
		{"in one block", does(isSlot(1, 1, "z", 4)), does(emptied(1, 1))},
		{"in one block, ahead", does(isSlot(5, 0, "x", 4)), does(emptied(5, 3))},
		{"in all slots", does(isBlock(1, dirBlock(slot("n", 4), slot("n", 3), slot("n", 4), slot("n", 2)))), does(isBlock(1, filled(slot("n", 4))))},
		{"in all slots of both", does(isBlock(1, dirBlock(slot("n", 4), slot("n", 2), slot("n", 4), slot("n", 5))), isBlock(2, dirBlock(slot("n", 4), slot("n", 2), slot("n", 4), slot("n", 5)))), does(isBlock(1, filled(slot("n", 4))), isBlock(2, filled()))},
	})
}

// A slot that has gone has no name, and names nothing: those behind it may stay.
func TestNamesBehindOneThatGoes(t *testing.T) {
	wantMended(t, impl.MendNames, []mendRow{
		{"a name of nothing", does(isSlot(1, 1, "n", 8), isSlot(2, 0, "n", 4)), does(emptied(1, 1))},
		{"a name of nothing, and two", does(isBlock(1, dirBlock(slot("n", 8), slot("n", 4), slot("d", 3), slot("n", 2)))), does(emptied(1, 0), emptied(1, 3))},
		{"a name of a directory that has one", does(isSlot(1, 3, "n", 3), isSlot(2, 0, "n", 4)), does(emptied(1, 3))},
		{"a directory whose name was taken", does(isSlot(2, 0, "z", 6)), does(emptied(2, 0))},
		{"a directory whose name was taken, and two", does(isSlot(2, 0, "z", 6), isSlot(2, 2, "y", 6)), does(emptied(2, 0), emptied(5, 1))},
		{"a directory that names itself", does(emptied(1, 2), isSlot(5, 0, "s", 3)), nil},
	})
}

func TestNamesOfOneDirectory(t *testing.T) {
	wantMended(t, impl.MendNames, []mendRow{
		{"in one block, behind", does(isSlot(1, 3, "e", 3)), does(emptied(1, 3))},
		{"in one block, ahead", does(isSlot(1, 1, "e", 3)), does(emptied(1, 2))},
		{"in the other block", does(isSlot(2, 0, "e", 3)), does(emptied(2, 0))},
		{"in the other block, turned round", does(isSlot(2, 0, "e", 3), pointsTo(1, 2, 1)), does(emptied(1, 2))},
		{"in two directories, ahead", does(isSlot(1, 1, "y", 6)), does(emptied(5, 1))},
		{"in two directories, behind", does(pointsTo(6, 9, 0), isBlock(9, filled(slot("d", 3), slot("y", 6)))), does(isBlock(9, filled()))},
		{"three times", does(isSlot(2, 0, "e", 3), isSlot(5, 0, "f", 3)), does(emptied(2, 0), emptied(5, 0))},
		{"in itself", does(isSlot(5, 0, "s", 3)), does(emptied(5, 0))},
		{"a ring", does(pointsTo(6, 9, 0), isBlock(9, filled(slot("up", 3)))), does(emptied(9, 0))},
		{"a ring that is not reached", does(emptied(1, 2), pointsTo(6, 9, 0), isBlock(9, filled(slot("up", 3)))), nil},
		{"by one that is not reached, behind", does(isInode(8, 2, 1, 9, 0), isBlock(9, filled(slot("y", 6)))), does(emptied(9, 0))},
		// What is not reached counts as well, when it is ahead.
		{"by one that is not reached, ahead", does(emptied(1, 2), isSlot(1, 1, "k", 8), isInode(8, 2, 1, 9, 0), isBlock(9, filled(slot("y", 6)))), does(emptied(9, 0))},
		{"in a block that nobody has", does(isSlot(8, 1, "y", 6)), nil},
		{"in a block of a file ahead", does(pointsTo(2, 3, 8), isSlot(8, 1, "y", 6)), nil},
	})
}

func TestNamesOfOneFile(t *testing.T) {
	wantMended(t, impl.MendNames, []mendRow{
		{"in one block", does(isSlot(1, 1, "e", 2)), nil},
		{"in both blocks", does(isSlot(1, 1, "e", 4), isSlot(2, 0, "f", 4)), nil},
		{"in two directories", does(isSlot(5, 0, "0", 4)), nil},
		{"in one that is not reached", does(isInode(8, 2, 1, 9, 0), isBlock(9, dirBlock(slot("a", 2), slot("b", 2), slot("c", 2), slot("d", 2)))), nil},
		{"everywhere", does(isBlock(1, dirBlock(slot("a", 2), slot("b", 2), slot("d", 3), slot("c", 2))), isBlock(2, dirBlock(slot("e", 2), slot("f", 2), slot("g", 2), slot("h", 2))), isSlot(5, 0, "b", 2)), nil},
		{"a file that was a directory", does(isInode(3, 1, 1, 0, 0), isSlot(2, 0, "e", 3)), nil},
	})
}

// Slots of a block that two have are those of the first, and each of them is there once.
func TestNamesInBlocksThatAreHad(t *testing.T) {
	wantMended(t, impl.MendNames, []mendRow{
		{"both pointers of one", does(pointsTo(1, 1, 1)), nil},
		{"both pointers of one, names that go", does(pointsTo(1, 1, 1), isSlot(1, 1, "n", 8), isSlot(1, 3, "e", 3)), does(emptied(1, 1), emptied(1, 3))},
		{"two directories", does(pointsTo(6, 5, 0)), nil},
		{"two directories, names that go", does(pointsTo(6, 5, 0), isSlot(5, 0, "r", 1)), does(emptied(5, 0))},
		{"the root and a directory", does(pointsTo(3, 1, 5)), nil},
		{"a name of the second's other block", does(pointsTo(6, 5, 9), isBlock(9, filled(slot("x", 4)))), nil},
		{"a name of the first's other block", does(pointsTo(3, 5, 9), pointsTo(6, 5, 0), isBlock(9, filled(slot("x", 4)))), does(emptied(9, 0))},
		{"a name of the first's other block, ahead", does(pointsTo(3, 9, 5), pointsTo(6, 5, 0), isBlock(9, filled(slot("x", 4)))), does(emptied(5, 3))},
		{"a name of the second's block ahead", does(pointsTo(6, 9, 5), isBlock(9, filled(slot("x", 4)))), nil},
		{"a directory that the second names again", does(pointsTo(6, 5, 9), isBlock(9, filled(slot("s", 6)))), does(emptied(9, 0))},
		{"three directories", does(pointsTo(3, 5, 2), pointsTo(6, 2, 5)), nil},
		{"a file ahead has it", does(pointsTo(2, 5, 0), isSlot(5, 0, "r", 1)), does(emptied(5, 0))},
		{"a file behind has it", does(pointsTo(4, 5, 0), isSlot(5, 0, "r", 1)), does(emptied(5, 0))},
	})
}

// Neither inodes nor bits are those of MendNames, nor slots without a name.
func TestNamesAlone(t *testing.T) {
	wantMended(t, impl.MendNames, []mendRow{
		{"pointers", does(pointsTo(4, 3, 3), pointsTo(7, 8, 5), pointsTo(6, 3, 16)), nil},
		{"links", does(hasLinks(1, 0), hasLinks(2, 3), hasLinks(5, 0)), nil},
		{"bits", does(marksBlocks(false, 1, 3), marksInos(false, 1, 4), marksBlocks(true, 9), marksInos(true, 8)), nil},
		{"a root without names", does(isBlock(1, filled()), isBlock(2, filled())), nil},
		{"a root that is a file", does(isInode(1, 1, 1, 1, 2), isSlot(1, 1, "n", 8)), nil},
		{"an inode without a name", does(isSlot(1, 1, "", 8), isSlot(1, 3, "", 1), isSlot(2, 0, "", 3)), nil},
	})
}

func TestInodesThatAreNotReached(t *testing.T) {
	wantMended(t, impl.MendRest, []mendRow{
		{"none", nil, nil},
		{"a file", does(isInode(8, 1, 1, 0, 0)), does(isGone(8))},
		{"a file with links and pointers", does(isInode(8, 1, 200, 9, 10)), does(isGone(8))},
		{"a file with blocks of others", does(isInode(8, 1, 2, 3, 1)), does(isGone(8))},
		{"a file, marked", does(isInode(8, 1, 1, 9, 10), marksBlocks(true, 9, 10), marksInos(true, 8)), does(isGone(8), marksBlocks(false, 9, 10), marksInos(false, 8))},
		{"a directory", does(isInode(8, 2, 0, 8, 9)), does(isGone(8))},
		{"a directory that names others", does(isInode(8, 2, 1, 9, 0), isBlock(9, filled(slot("a", 5), slot("b", 3), slot("c", 8), slot("d", 1)))), does(isGone(8))},
		{"one that has no name any more", does(emptied(1, 0)), does(isGone(2), marksBlocks(false, 3, 4), marksInos(false, 2))},
		{"one that a directory names that is not reached", does(emptied(5, 3), isInode(8, 2, 1, 8, 0), isSlot(8, 0, "x", 7)), does(isGone(7), isGone(8), marksInos(false, 7))},
		{"all below one", does(emptied(1, 2)), does(isGone(3), isGone(6), isGone(7), hasLinks(5, 1), marksBlocks(false, 5), marksInos(false, 3, 6, 7))},
		{"a ring", does(emptied(1, 2), isSlot(5, 0, "s", 3), pointsTo(6, 9, 0), isBlock(9, filled(slot("up", 3)))), does(isGone(3), isGone(6), isGone(7), hasLinks(5, 1), marksBlocks(false, 5), marksInos(false, 3, 6, 7))},
		{"all", does(isBlock(1, filled()), isBlock(2, textBlock("x"))), does(isGone(2), isGone(3), isGone(4), isGone(5), isGone(6), isGone(7), marksBlocks(false, 3, 4, 5, 6, 7), marksInos(false, 2, 3, 4, 5, 6, 7))},
	})
}

func TestLinksThatAreMended(t *testing.T) {
	for i := 1; i <= 7; i++ {
		right := exactDisk().Inodes[i-1].Links
		for _, links := range []int{0, right - 1, right, right + 1, 200} {
			wantMended(t, impl.MendRest, []mendRow{{"links of " + impl.Decimal(i), does(hasLinks(i, links)), does(hasLinks(i, right))}})
		}
	}
	wantMended(t, impl.MendRest, []mendRow{
		{"all", does(hasLinks(1, 9), hasLinks(2, 0), hasLinks(3, 2), hasLinks(4, 0), hasLinks(5, 1), hasLinks(6, 5), hasLinks(7, 9)), does(hasLinks(1, 1), hasLinks(2, 1), hasLinks(3, 1), hasLinks(4, 1), hasLinks(5, 2), hasLinks(6, 1), hasLinks(7, 1))},
		{"a name more", does(isSlot(1, 1, "e", 2)), does(hasLinks(2, 2))},
		{"a name less", does(emptied(5, 2)), does(hasLinks(5, 1))},
		{"a directory with two names", does(isSlot(1, 1, "e", 6)), does(hasLinks(6, 2))},
		{"the root with names", does(isSlot(1, 1, "r", 1), isSlot(5, 0, "r", 1)), nil},
		{"the root with names and links", does(isSlot(1, 1, "r", 1), isSlot(5, 0, "r", 1), hasLinks(1, 2)), does(hasLinks(1, 1))},
		{"a block that is had twice", does(pointsTo(1, 1, 1)), does(hasLinks(2, 2), hasLinks(3, 2), hasLinks(5, 1), isGone(4), marksBlocks(false, 2, 6), marksInos(false, 4))},
	})
}

func TestBitsThatAreMended(t *testing.T) {
	for p := 1; p <= 16; p++ {
		wantMended(t, impl.MendRest, []mendRow{{"block " + impl.Decimal(p), does(marksBlocks(p > 7, p)), does(marksBlocks(p <= 7, p))}})
	}
	for i := 1; i <= 8; i++ {
		wantMended(t, impl.MendRest, []mendRow{{"inode " + impl.Decimal(i), does(marksInos(i > 7, i)), does(marksInos(i <= 7, i))}})
	}
	bits := func(b impl.Bits) diskDo { return func(d *impl.Disk) { d.Bits = b } }
	right := bits(exactDisk().Bits)
	wantMended(t, impl.MendRest, []mendRow{
		{"none", does(bits(bitsOf(flags(16), flags(8)))), does(right)},
		{"all", does(bits(bitsOf(allFlags(16), allFlags(8)))), does(right)},
		{"a block more", does(pointsTo(4, 6, 16)), does(marksBlocks(true, 16))},
		{"a block of the wrong kind", does(pointsTo(4, 6, 8)), does(marksBlocks(true, 8))},
		{"a block less", does(pointsTo(4, 0, 0)), does(marksBlocks(false, 6))},
		{"a block that is had twice", does(pointsTo(4, 3, 6)), nil},
		// Bits of no right number become right.
		{"no bits", does(bits(impl.Bits{})), does(right)},
		{"few bits", does(bits(bitsOf(flags(2), flags(3)))), does(right)},
		{"many bits", does(bits(bitsOf(allFlags(17), allFlags(99)))), does(right)},
	})
}

// MendRest alone leaves a root of another kind as it is, but for its link.
func TestRestOfOtherRoots(t *testing.T) {
	alone := does(isGone(2), isGone(3), isGone(4), isGone(5), isGone(6), isGone(7), marksInos(false, 2, 3, 4, 5, 6, 7), marksBlocks(false, 3, 4, 5, 6, 7))
	wantMended(t, impl.MendRest, []mendRow{
		{"a file", does(isInode(1, 1, 3, 1, 2)), append(alone, hasLinks(1, 1))},
		{"of no kind", does(isGone(1)), append(alone, hasLinks(1, 1), marksBlocks(false, 1, 2))},
	})
}

func TestMendedAsItIs(t *testing.T) {
	for _, d := range []impl.Disk{impl.DiskNew(), exactDisk(), exactBut(isBlock(16, filled(slot("n", 8), slot("r", 1)))), exactBut(isSlot(2, 0, "e", 4), hasLinks(4, 2))} {
		if !impl.ExactDisk(d) {
			t.Fatalf("the disk is not exact: %v", d)
		}
		for _, m := range mends() {
			if got := m.call(d); !slowSameDisk(got, d) {
				t.Errorf("%s of an exact disk: %v, want %v", m.name, got, d)
			}
		}
	}
	f := impl.Flush(calledFs(t, askMake("/a", 1), askMake("/d", 2), askMake("/d/f", 1), askWrite("/d/f", 1, "text"), askMove("/a", "/b"), askMake("/g", 1), askRemove("/g")))
	if got := impl.MendAll(slowDisk(f.Device)); !slowSameDisk(got, f.Mem.Disk) {
		t.Errorf("what is flushed is mended to %v, was %v", got, f.Mem.Disk)
	}
}

// Passes that go on with what the one ahead of them made.
func TestMendedAllTogether(t *testing.T) {
	wantMended(t, impl.MendAll, []mendRow{
		{"nothing is there", does(func(d *impl.Disk) { *d = emptyDisk() }), does(func(d *impl.Disk) { *d = impl.DiskNew() })},
		{"a file that was named by a block of the wrong kind", does(pointsTo(1, 3, 2)), does(pointsTo(1, 0, 2), isGone(2), isGone(3), isGone(6), isGone(7), hasLinks(5, 1), marksBlocks(false, 1, 3, 4, 5), marksInos(false, 2, 3, 6, 7))},
		{"a block that two directories have", does(pointsTo(6, 5, 0), hasLinks(6, 2), hasLinks(7, 2)), does(pointsTo(6, 0, 0), hasLinks(6, 1), hasLinks(7, 1))},
		{"a name that goes leaves its file", does(isSlot(2, 0, "z", 8), isInode(8, 1, 1, 9, 0), marksInos(true, 8), marksBlocks(true, 9)), does(emptied(2, 0), isGone(8), marksInos(false, 8), marksBlocks(false, 9))},
		{"a name of the root", does(isSlot(5, 0, "r", 1), hasLinks(1, 2)), does(emptied(5, 0), hasLinks(1, 1))},
		{"a directory with two names", does(isSlot(2, 0, "e", 3), hasLinks(3, 2)), does(emptied(2, 0), hasLinks(3, 1))},
		{"a ring below the root", does(isSlot(5, 0, "s", 3), hasLinks(3, 2)), does(emptied(5, 0), hasLinks(3, 1))},
		{"a file with two names and one link", does(isSlot(2, 0, "e", 4)), does(hasLinks(4, 2))},
		{"names of a file that was a directory", does(isInode(3, 1, 1, 0, 5)), does(isInode(3, 1, 1, 0, 0), isGone(6), isGone(7), hasLinks(5, 1), marksBlocks(false, 5), marksInos(false, 6, 7))},
		{"a directory that was a file", does(isInode(2, 2, 1, 3, 4)), does(isInode(2, 2, 1, 0, 0), marksBlocks(false, 3, 4))},
		{"a root that was a file", does(isInode(1, 1, 1, 1, 2)), does(func(d *impl.Disk) {
			blocks := d.Blocks
			*d = impl.DiskNew()
			d.Blocks = blocks
		})},
	})
	// A directory that is not reached takes what a reached one names, when it is ahead: all of that is gone.
	d := treeDisk([]impl.Inode{inode(2, 1, 1, 0), inode(2, 1, 2, 0), inode(2, 1, 3, 0), inode(2, 1, 0, 0)}, filled(slot("c", 3)), filled(slot("a", 4)), filled(slot("b", 4)))
	d.Bits = bitsOf(flags(16, 0, 1, 2), flags(8, 0, 1, 2, 3))
	want := treeDisk([]impl.Inode{inode(2, 1, 1, 0), inode(0, 0, 0, 0), inode(2, 1, 3, 0)}, filled(slot("c", 3)), filled(slot("a", 4)), filled())
	want.Bits = bitsOf(flags(16, 0, 2), flags(8, 0, 2))
	if got := impl.MendAll(d); !slowSameDisk(got, want) {
		t.Errorf("MendAll(%v) = %v, want %v", d, got, want)
	}
	checkMends(t, d)
}

func TestDisksWithOneThingChangedAreMended(t *testing.T) {
	oneThingChanged(func(d impl.Disk) { checkMends(t, d) })
}

func TestSampleDisksAreMended(t *testing.T) {
	for _, d := range append(rightDisks(), namedDisk(), pathDisk(), deepDisk(1), deepDisk(2)) {
		checkMends(t, d)
	}
}

// A disk that is not right is left as it is by MendAll; the passes take what is there.
func TestWrongDisksAreMended(t *testing.T) {
	list := append(wrongDisks(), impl.Disk{})
	for _, c := range wrongChanges() {
		list = append(list, changed(exactDisk(), c), changed(deepDisk(2), c), changed(namedDisk(), c))
	}
	for inodes := range 9 {
		for blocks := range 17 {
			for _, d := range []impl.Disk{exactDisk(), pathDisk(), fullDisk()} {
				d.Inodes, d.Blocks, d.Bits.Blocks, d.Bits.Inos = d.Inodes[:inodes], d.Blocks[:blocks], d.Bits.Blocks[:16-blocks], d.Bits.Inos[:8-inodes]
				list = append(list, d)
			}
		}
	}
	for _, d := range list {
		if impl.DiskOk(d) || !slowSameDisk(impl.MendAll(d), d) {
			t.Errorf("MendAll(%v) = %v, want it as it is", d, impl.MendAll(d))
		}
		checkMends(t, d)
	}
}

// What is not there is not mended: a pointer that leads to no block stays, a name that leads to no inode goes.
func TestMendingWhatIsNotThere(t *testing.T) {
	wide := func() impl.Disk {
		d := exactDisk()
		d.Inodes = append(d.Inodes, slices.Repeat([]impl.Inode{inode(2, 0, 1, 17)}, 260)...)
		d.Blocks = append(d.Blocks, slices.Repeat([]impl.Block{filled(slot("b", 8), slot("b", 1))}, 260)...)
		return d
	}
	for _, m := range mends() {
		if got := m.call(wide()); !slowSameDisk(got, wide()) {
			t.Errorf("%s: a ninth inode or a 17th block is mended: %v", m.name, got)
		}
	}
	for _, n := range append(oddNumbers(), -1, 17) {
		for _, d := range []impl.Disk{exactDisk(), wide()} {
			d.Inodes[3].Ptrs, d.Inodes[5].Ptrs = []int{n, n}, []int{n, n}
			if got := impl.MendPointers(d); !slowSameDisk(got, d) {
				t.Errorf("pointers of %d are mended: %v", n, got)
			}
			d.Blocks[0].Slots[1] = slot("n", n)
			if got := impl.MendNames(d).Blocks[0].Slots[1]; got != (impl.Slot{}) {
				t.Errorf("a name of %d is mended to %v", n, got)
			}
			checkMends(t, d)
		}
	}
	wantMended(t, impl.MendPointers, []mendRow{
		{"pointers of no kind", does(isInode(2, 0, 0, 6, 1)), nil},
		{"pointers of another kind", does(isInode(2, 3, 0, 6, 1)), does(isInode(2, 3, 0, 6, 0), pointsTo(4, 0, 0))},
		{"three pointers", does(pointsTo(4, 6, 3, 9)), does(pointsTo(4, 6, 0, 9))},
		{"one pointer", does(pointsTo(4, 3)), does(pointsTo(4, 0))},
	})
	wantMended(t, impl.MendNames, []mendRow{
		{"names of no kind", does(isInode(8, 0, 0, 8, 0), isSlot(8, 1, "r", 1)), nil},
		{"a name of another kind", does(isInode(2, 3, 1, 0, 0), isSlot(1, 1, "e", 2)), nil},
		{"a name without an inode", does(isSlot(1, 1, "n", 0)), does(emptied(1, 1))},
		{"an inode without a name, ahead", does(isSlot(1, 1, "", 3)), nil},
		{"names in a text", does(func(d *impl.Disk) { d.Blocks[0].Dir = false }, isSlot(1, 1, "n", 8)), does(emptied(1, 1))},
		{"five slots", does(isBlock(1, dirBlock(slot("z", 2), slot("", 0), slot("d", 3), slot("", 0), slot("r", 1)))), does(emptied(1, 4))},
		{"a third pointer", does(pointsTo(1, 1, 2, 8), isBlock(8, filled(slot("z", 4), slot("n", 4)))), does(emptied(8, 0))},
	})
	wantMended(t, impl.MendRest, []mendRow{
		{"one of another kind", does(isInode(2, 3, 5, 3, 4)), does(isGone(2), marksBlocks(false, 3, 4), marksInos(false, 2))},
		{"one of no kind with links", does(isInode(8, 0, 7, 3, 9)), does(isGone(8))},
		{"a name of nothing", does(isSlot(1, 1, "n", 8)), nil},
		{"links below 0", does(hasLinks(4, -1)), does(hasLinks(4, 1))},
		{"three pointers", does(pointsTo(4, 6, 0, 9)), does(marksBlocks(true, 9))},
	})
}

// The promise, of right disks that no life leads to; wrong ones are held against the document, too.
func TestDrawnDisksAreMended(t *testing.T) {
	draw := drawer(16)
	var ptrs, names, gone, left int
	for k := range 900 {
		d := drawnPathDisk(draw, k%3 > 0)
		if len(d.Inodes) > 0 && draw(8) == 0 {
			d.Inodes[0] = []impl.Inode{inode(0, 0, 0, 0), inode(1, draw(3), draw(8), draw(8))}[draw(2)]
		}
		for _, list := range [][]bool{d.Bits.Blocks, d.Bits.Inos} {
			for at := range list {
				list[at] = draw(2) > 0
			}
		}
		checkMends(t, d)
		p := impl.MendPointers(d)
		n := impl.MendNames(p)
		ptrs += len(changedPlaces(p.Inodes, d.Inodes, sameInode))
		names += len(changedPlaces(n.Blocks, p.Blocks, sameBlock))
		gone += len(changedPlaces(impl.MendRest(n).Inodes, n.Inodes, sameInode))
		if k%3 > 0 {
			left += len(impl.TreeOf(impl.MendAll(d)))
		}
	}
	if min(ptrs, names, gone, left) < 500 {
		t.Errorf("only %d inodes with pointers, %d blocks with names and %d inodes are mended, %d paths are left", ptrs, names, gone, left)
	}
}

func changedPlaces[T any](a, b []T, same func(a, b T) bool) []int {
	var list []int
	for k := range a {
		if !same(a[k], b[k]) {
			list = append(list, k)
		}
	}
	return list
}

// The promise, of disks of drawn lives: what the power leaves tells the same when it is mended; spoilt, it is made exact.
func TestDisksOfDrawnLivesAreMended(t *testing.T) {
	mended, kept := 0, 0
	for seed := range 80 {
		draw := drawer(uint32(1600 + seed))
		l := newLife()
		for range 50 {
			l.drawn(t, draw)
			for _, d := range []impl.Disk{slowDisk(l.v), l.m.Disk} {
				checkMends(t, d)
				got := impl.MendAll(d)
				if !impl.SameTree(impl.TreeOf(got), impl.TreeOf(d)) {
					t.Fatalf("%v tells %v when it is mended, told %v", d, impl.TreeOf(got), impl.TreeOf(d))
				}
				if !slowSameDisk(got, d) {
					mended++
				}
			}
			d := slowDisk(l.v)
			for range 1 + draw(6) {
				oneChange(draw, &d)
			}
			checkMends(t, d)
			// Where no name goes, a safe disk tells the same.
			if impl.SafeDisk(d) && slowSameDisk(impl.MendNames(d), d) {
				kept++
				if got := impl.MendAll(d); !impl.SameTree(impl.TreeOf(got), impl.TreeOf(d)) {
					t.Fatalf("the safe disk %v tells %v when it is mended, told %v", d, impl.TreeOf(got), impl.TreeOf(d))
				}
			}
		}
		l.settle(t, draw)
		if got := impl.MendAll(slowDisk(l.v)); !slowSameDisk(got, l.m.Disk) {
			t.Fatalf("when all is written %v is mended to %v", l.m.Disk, got)
		}
	}
	if mended < 1000 || kept < 200 {
		t.Errorf("only %d disks of lives had to be mended, %d changed ones were safe", mended, kept)
	}
}

// A device whose units are torn, lost or written over tells a disk, and that is mended.
func TestTornDevicesAreMended(t *testing.T) {
	draw := drawer(1699)
	full := slowDevice(exactDisk())
	for u := range full.Units {
		for _, s := range []string{"", "x", full.Units[draw(21)], full.Units[u] + "x", "d\x00\x00\x01\x01a\x02\x01b\x03\x01c", "\x02\x01\x05\x05\x01\x01\x05\x01"} {
			d, ok := impl.DiskOf(withText(full, u, s))
			if !ok {
				t.Fatalf("unit %d of %q tells no disk", u, s)
			}
			checkMends(t, d)
		}
	}
	for range 200 {
		v := full
		for range 2 + draw(5) {
			v = withText(v, draw(21), full.Units[draw(21)])
		}
		d, _ := impl.DiskOf(v)
		checkMends(t, d)
	}
}

// sharingDisk has one list of pointers for all files, and one list of slots for all directories.
func sharingDisk() impl.Disk {
	d := fromDisk(exactDisk())
	ptrs, slots := []int{3, 3}, []impl.Slot{slot("a", 2), slot("r", 1), slot("", 0), slot("d", 3)}
	for i := range d.Inodes {
		if d.Inodes[i].Kind == 1 {
			d.Inodes[i].Ptrs = ptrs
		}
	}
	for p := range d.Blocks {
		if d.Blocks[p].Dir {
			d.Blocks[p].Slots = slots
		}
	}
	return d
}

func TestMendedDisksAreNewMemory(t *testing.T) {
	wrong := exactDisk()
	wrong.Inodes = wrong.Inodes[:7]
	for _, d := range []impl.Disk{exactDisk(), namedDisk(), pathDisk(), fullDisk(), usedDisk(), emptyDisk(), sharingDisk(), wrong} {
		if !impl.DiskOk(d) && len(d.Inodes) == 8 {
			t.Fatalf("the disk is not right: %v", d)
		}
		shares := d
		d = ownTexts(d)
		for _, m := range mends() {
			one, other := m.call(d), m.call(d)
			if twoMeet(diskLists(one)) || anyMeets(diskLists(one), diskLists(d)) || anyMeets(diskLists(one), diskLists(other)) {
				t.Errorf("lists that %s answers share memory", m.name)
			}
			if anyMeets(diskTexts(one), diskTexts(d)) {
				t.Errorf("%s answers texts of what was handed in", m.name)
			}
			if got := m.call(shares); twoMeet(diskLists(got)) || !slowSameDisk(got, one) {
				t.Errorf("%s of lists that share memory answers %v, want %v", m.name, got, one)
			}
			runtime.KeepAlive(other)
			runtime.KeepAlive(d)
		}
	}
}

// Whoever writes into an answer changes nothing of what was handed in.
func TestMendedDisksThatAreSpoilt(t *testing.T) {
	for _, d := range []impl.Disk{exactDisk(), pathDisk(), fullDisk(), {Inodes: dirs(1), Blocks: []impl.Block{filled()}}} {
		was := fromDisk(d)
		for _, m := range mends() {
			got := m.call(d)
			spoilBits(got.Bits.Blocks)
			spoilBits(got.Bits.Inos)
			for i := range got.Inodes {
				spoilNumbers(got.Inodes[i].Ptrs)
				got.Inodes[i] = inode(3, 300, 77)
			}
			for p := range got.Blocks {
				spoilBlock(got.Blocks[p])
				got.Blocks[p] = textBlock("spoilt")
			}
			if !slowSameDisk(d, was) {
				t.Errorf("a spoilt answer of %s leads back to %v", m.name, d)
			}
		}
		checkMends(t, d)
	}
}

// What stands in spare room behind the lists of a disk is neither mended nor written into.
func TestRoomBehindMendedDisksIsLeftAlone(t *testing.T) {
	d := exactBut(isSlot(1, 1, "r", 1), pointsTo(4, 3, 6), marksBlocks(false, 1))
	want := slowMendAll(d)
	ptrs, slots := append(d.Inodes[0].Ptrs, 3), append(d.Blocks[0].Slots, slot("behind", 8))
	inodes, blocks := append(d.Inodes, inode(1, 0, 1, 1)), append(d.Blocks, filled(slot("behind", 8)))
	bits, inos := append(d.Bits.Blocks, true), append(d.Bits.Inos, true)
	inodes[0].Ptrs, blocks[0].Slots = ptrs[:2], slots[:4]
	d = impl.Disk{Bits: bitsOf(bits[:16], inos[:8]), Inodes: inodes[:8], Blocks: blocks[:16]}
	checkMends(t, d)
	if got := impl.MendAll(d); !slowSameDisk(got, want) {
		t.Errorf("with spare room MendAll = %v, want %v", got, want)
	}
	if ptrs[2] != 3 || slots[4] != slot("behind", 8) || !sameInode(inodes[8], inode(1, 0, 1, 1)) || !sameBlock(blocks[16], filled(slot("behind", 8))) || !bits[16] || !inos[8] {
		t.Error("spare room behind a disk was written into")
	}
}

// Calls at the same time, of one disk: each answers as it does alone.
func TestMendsAtTheSameTime(t *testing.T) {
	d := exactBut(isSlot(1, 1, "r", 1), pointsTo(4, 3, 6), marksBlocks(false, 1), isInode(8, 2, 3, 9, 1))
	var all sync.WaitGroup
	var same [8]bool
	for k := range same {
		all.Go(func() {
			m := mends()[k%4]
			same[k] = slowSameDisk(m.call(d), m.slow(d))
		})
	}
	all.Wait()
	if slices.Contains(same[:], false) {
		t.Errorf("at the same time as others answers are the same: %v", same)
	}
}
