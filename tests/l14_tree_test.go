package tests

import (
	"maps"
	"math"
	"runtime"
	"slices"
	"strings"
	"sync"
	"testing"

	"loop.example/g00235/impl"
)

// The signatures and the struct that the document gives.
var (
	_ func(d impl.Disk) []impl.Node           = impl.TreeOf
	_ func(a []impl.Node, b []impl.Node) bool = impl.SameTree
	_ func(d impl.Disk, i int) int            = impl.LinksOf
	_ func(d impl.Disk) []int                 = impl.Reached

	_ struct {
		Path string
		Dir  bool
		Head string
		Tail string
	} = impl.Node{}
)

func fileNode(path, head, tail string) impl.Node {
	return impl.Node{Path: path, Head: head, Tail: tail}
}

func dirNode(path string) impl.Node { return impl.Node{Path: path, Dir: true} }

func dirNodes(paths ...string) []impl.Node {
	var list []impl.Node
	for _, p := range paths {
		list = append(list, dirNode(p))
	}
	return list
}

func isKind(d impl.Disk, i int) bool {
	return i >= 1 && i <= 8 && i <= len(d.Inodes) && (d.Inodes[i-1].Kind == 1 || d.Inodes[i-1].Kind == 2)
}

// slowNodes goes one name deeper at a time, by paths alone, and sorts what it has found.
func slowNodes(d impl.Disk) []impl.Node {
	if !slowDiskOk(d) {
		return nil
	}
	var list []impl.Node
	from := []string{""}
	for range 4 {
		var next []string
		for _, p := range from {
			dir := slowWalk(d, "/"+strings.TrimPrefix(p, "/"))
			for _, name := range slices.Compact(slices.Sorted(slices.Values(slowNames(d, dir)))) {
				to := slowWalk(d, p+"/"+name)
				if !isKind(d, to) {
					continue
				}
				head, tail := slowTexts(d, to)
				list = append(list, impl.Node{Path: p + "/" + name, Dir: d.Inodes[to-1].Kind == 2, Head: head, Tail: tail})
				next = append(next, p+"/"+name)
			}
		}
		from = next
	}
	slices.SortFunc(list, func(a, b impl.Node) int { return strings.Compare(a.Path, b.Path) })
	return list
}

// slowReached marks what marked ones name, until that is all.
func slowReached(d impl.Disk) []int {
	if len(d.Inodes) == 0 {
		return nil
	}
	marks := map[int]bool{1: true}
	for range 9 {
		for i := range 9 {
			if !marks[i] {
				continue
			}
			for _, s := range slowSlots(d, i) {
				if isKind(d, s.Ino) {
					marks[s.Ino] = true
				}
			}
		}
	}
	return slices.Sorted(maps.Keys(marks))
}

func slowLinks(d impl.Disk, i int) int {
	n := 0
	for _, dir := range slowReached(d) {
		for _, s := range slowSlots(d, dir) {
			if s.Ino == i {
				n++
			}
		}
	}
	return n
}

func slowSameTree(a, b []impl.Node) bool {
	for k := range min(len(a), len(b)) {
		if a[k].Path != b[k].Path || a[k].Dir != b[k].Dir || a[k].Head != b[k].Head || a[k].Tail != b[k].Tail {
			return false
		}
	}
	return len(a) == len(b)
}

// inOrder tells whether each path is there once, in the order of paths.
func inOrder(list []impl.Node) bool {
	for k := 1; k < len(list); k++ {
		if list[k-1].Path >= list[k].Path {
			return false
		}
	}
	return true
}

// checkTree holds all that a disk tells against the document, and wants the disk as it was.
func checkTree(t *testing.T, d impl.Disk) []impl.Node {
	t.Helper()
	was := fromDisk(d)
	got, want := impl.TreeOf(d), slowNodes(d)
	if !slowSameTree(got, want) || !inOrder(got) {
		t.Errorf("TreeOf(%v) = %v, want %v", d, got, want)
	}
	if !impl.SameTree(got, want) || !impl.SameTree(got, impl.TreeOf(was)) {
		t.Errorf("the tree of %v is not the same as itself", d)
	}
	reached := impl.Reached(d)
	if want := slowReached(d); !slices.Equal(reached, want) {
		t.Errorf("Reached(%v) = %v, want %v", d, reached, want)
	}
	for i := -2; i <= 11; i++ {
		if got, want := impl.LinksOf(d, i), slowLinks(d, i); got != want {
			t.Errorf("LinksOf(%v, %d) = %d, want %d", d, i, got, want)
		}
	}
	for _, n := range got {
		if i := impl.WalkPath(d, n.Path); !slices.Contains(reached, i) {
			t.Errorf("%q leads to %d, which is not of the reached %v", n.Path, i, reached)
		}
	}
	if !slowSameDisk(d, was) {
		t.Errorf("a disk was written into: %v, was %v", d, was)
	}
	return got
}

// wantTree wants this tree, and these inodes reached.
func wantTree(t *testing.T, name string, d impl.Disk, reached []int, nodes ...impl.Node) {
	t.Helper()
	if !impl.DiskOk(d) {
		t.Fatalf("%s: the disk is not right: %v", name, d)
	}
	if got := checkTree(t, d); !slowSameTree(got, nodes) {
		t.Errorf("%s: TreeOf = %v, want %v", name, got, nodes)
	}
	if got := impl.Reached(d); !slices.Equal(got, reached) {
		t.Errorf("%s: Reached = %v, want %v", name, got, reached)
	}
}

// wantLinks wants so many links of the inodes from 1 on.
func wantLinks(t *testing.T, name string, d impl.Disk, links ...int) {
	t.Helper()
	for i := range 8 {
		want := 0
		if i < len(links) {
			want = links[i]
		}
		if got := impl.LinksOf(d, i+1); got != want {
			t.Errorf("%s: LinksOf %d = %d, want %d", name, i+1, got, want)
		}
	}
}

// treeDisk has these inodes from the root on, and these blocks from the first on.
func treeDisk(inodes []impl.Inode, blocks ...impl.Block) impl.Disk {
	d := emptyDisk()
	copy(d.Inodes, inodes)
	copy(d.Blocks, blocks)
	return d
}

func dirs(ptrs ...int) []impl.Inode {
	var list []impl.Inode
	for _, p := range ptrs {
		list = append(list, inode(2, 1, p, 0))
	}
	return list
}

func TestTreesOfNothing(t *testing.T) {
	wantTree(t, "a new disk", impl.DiskNew(), []int{1})
	wantLinks(t, "a new disk", impl.DiskNew())
	wantTree(t, "a root with a block without names", treeDisk(dirs(1), filled()), []int{1})
	wantTree(t, "a root with two", treeDisk([]impl.Inode{inode(2, 1, 1, 2)}, filled(), filled()), []int{1})
	wantTree(t, "a root with texts", treeDisk([]impl.Inode{inode(2, 1, 1, 2)}, textBlock("a"), textBlock("")), []int{1})
	// What nothing names is not there, whatever its bits tell.
	d := impl.DiskNew()
	d.Bits = bitsOf(allFlags(16), allFlags(8))
	for k := 1; k < 8; k++ {
		d.Inodes[k] = inode(1+k%2, 1, 1, 2)
	}
	d.Blocks[0], d.Blocks[1] = filled(slot("a", 2), slot("b", 3)), filled(slot("c", 8), slot("d", 1))
	wantTree(t, "what nothing names", d, []int{1})
	wantLinks(t, "what nothing names", d)
}

// namedDisk has files and directories, some of them with texts, one with two names.
func namedDisk() impl.Disk {
	return treeDisk([]impl.Inode{
		inode(2, 1, 1, 2), inode(1, 1, 3, 4), inode(2, 1, 0, 5), inode(1, 1, 6, 0), inode(1, 2, 0, 7), inode(2, 1, 0, 0), inode(1, 1, 0, 0), inode(2, 1, 8, 0),
	},
		dirBlock(slot("z", 2), slot("", 0), slot("d", 3), slot("", 0)),
		dirBlock(slot("", 0), slot("0", 4), slot("", 0), slot("m", 5)),
		textBlock("head"), textBlock("tail"),
		dirBlock(slot("", 0), slot("y", 6), slot("a", 5), slot("x", 7)),
		textBlock("0123456789abcdef"), textBlock("\x00\xff\n "),
		filled(slot("no", 2)),
	)
}

func TestTreesOfFilesAndDirectories(t *testing.T) {
	wantTree(t, "a file", treeDisk([]impl.Inode{inode(2, 1, 1, 0), inode(1, 1, 0, 0)}, filled(slot("a", 2))), []int{1, 2}, fileNode("/a", "", ""))
	wantTree(t, "a directory", treeDisk(dirs(1, 0), filled(slot("a", 2))), []int{1, 2}, dirNode("/a"))
	wantTree(t, "the last inode and block", treeDisk([]impl.Inode{inode(2, 1, 0, 2), {Ptrs: []int{0, 0}}, inode(1, 0, 0, 16)}, filled(), dirBlock(slot("", 0), slot("", 0), slot("", 0), slot("abcdef", 3))), []int{1, 3}, fileNode("/abcdef", "", ""))
	d := namedDisk()
	wantTree(t, "several", d, []int{1, 2, 3, 4, 5, 6, 7},
		fileNode("/0", "0123456789abcdef", ""),
		dirNode("/d"),
		fileNode("/d/a", "", "\x00\xff\n "),
		fileNode("/d/x", "", ""),
		dirNode("/d/y"),
		fileNode("/m", "", "\x00\xff\n "),
		fileNode("/z", "head", "tail"),
	)
	wantLinks(t, "several", d, 0, 1, 1, 1, 2, 1, 1, 0)
}

// Neither bits nor Links are asked for.
func TestTreesWithoutBitsAndLinks(t *testing.T) {
	want := impl.TreeOf(namedDisk())
	for _, links := range []int{0, 1, 2, 200} {
		for _, bits := range []impl.Bits{bitsOf(flags(16), flags(8)), bitsOf(allFlags(16), allFlags(8)), bitsOf(flags(16, 0, 15), flags(8, 7))} {
			d := namedDisk()
			d.Bits = bits
			for k := range d.Inodes {
				d.Inodes[k].Links = links
			}
			wantTree(t, "other links", d, []int{1, 2, 3, 4, 5, 6, 7}, want...)
			wantLinks(t, "other links", d, 0, 1, 1, 1, 2, 1, 1, 0)
		}
	}
}

func TestTextsOfTrees(t *testing.T) {
	for _, c := range []struct {
		name       string
		x          impl.Inode
		head, tail string
	}{
		{"both", inode(1, 1, 2, 3), "one", "0123456789abcdef"},
		{"both, turned round", inode(1, 1, 3, 2), "0123456789abcdef", "one"},
		{"the first", inode(1, 1, 2, 0), "one", ""},
		{"the second", inode(1, 1, 0, 3), "", "0123456789abcdef"},
		{"none", inode(1, 1, 0, 0), "", ""},
		{"one block twice", inode(1, 1, 2, 2), "one", "one"},
		{"blocks without text", inode(1, 1, 5, 16), "", ""},
		{"a block of names", inode(1, 1, 1, 2), "", "one"},
		{"any bytes", inode(1, 1, 4, 4), "\x00/\n\xff", "\x00/\n\xff"},
	} {
		d := treeDisk([]impl.Inode{inode(2, 1, 1, 0), c.x}, filled(slot("f", 2)), textBlock("one"), textBlock("0123456789abcdef"), textBlock("\x00/\n\xff"))
		wantTree(t, c.name, d, []int{1, 2}, fileNode("/f", c.head, c.tail))
		// Of a directory nothing stands beside its path, even if its blocks have text.
		d.Inodes[1].Kind = 2
		d.Blocks[0].Slots[0].Name = "dir"
		if got := checkTree(t, d)[0]; got != dirNode("/dir") {
			t.Errorf("%s: of a directory it is told %v", c.name, got)
		}
	}
}

// deepDisk has eight directories one below the other; the last has the kind that is asked for.
func deepDisk(kind int) impl.Disk {
	d := emptyDisk()
	for k := range 8 {
		d.Inodes[k] = inode(2, 1, 0, k+1)
		d.Blocks[k] = filled()
		if k < 7 {
			d.Blocks[k].Slots[k%4] = slot(string(rune('a'+k)), k+2)
		}
	}
	d.Inodes[4].Kind = kind
	return d
}

func TestTreesAreNotDeeper(t *testing.T) {
	all := []int{1, 2, 3, 4, 5, 6, 7, 8}
	wantTree(t, "deep directories", deepDisk(2), all, dirNodes("/a", "/a/b", "/a/b/c", "/a/b/c/d")...)
	wantLinks(t, "deep directories", deepDisk(2), 0, 1, 1, 1, 1, 1, 1, 1)
	file := deepDisk(1)
	file.Inodes[4].Ptrs = []int{9, 10}
	file.Blocks[8], file.Blocks[9] = textBlock("deep"), textBlock("text")
	wantTree(t, "a deep file", file, all[:5], append(dirNodes("/a", "/a/b", "/a/b/c"), fileNode("/a/b/c/d", "deep", "text"))...)
	wantLinks(t, "a deep file", file, 0, 1, 1, 1, 1)
	// One name deeper is not told, but is reached; by a shorter path it is told, too.
	deeper := deepDisk(2)
	deeper.Inodes[5] = inode(1, 1, 9, 0)
	deeper.Blocks[8] = textBlock("far")
	wantTree(t, "a file too deep", deeper, all[:6], dirNodes("/a", "/a/b", "/a/b/c", "/a/b/c/d")...)
	deeper.Blocks[2].Slots[0] = slot("f", 6)
	wantTree(t, "a file by two paths", deeper, all[:6], append(dirNodes("/a", "/a/b", "/a/b/c", "/a/b/c/d"), fileNode("/a/b/f", "far", ""))...)
	wantLinks(t, "a file by two paths", deeper, 0, 1, 1, 1, 1, 2)
	// The same directory at two depths: what is below it is told where it is not too deep.
	twice := deepDisk(2)
	twice.Blocks[0].Slots[2] = slot("s", 5)
	wantTree(t, "a directory by two paths", twice, all, dirNodes("/a", "/a/b", "/a/b/c", "/a/b/c/d", "/s", "/s/e", "/s/e/f", "/s/e/f/g")...)
	wantLinks(t, "a directory by two paths", twice, 0, 1, 1, 1, 2, 1, 1, 1)
}

// What leads on is at every place from 1 to 4 deep.
func TestTreesByDepth(t *testing.T) {
	for deep := 1; deep <= 8; deep++ {
		d := deepDisk(2)
		if deep < 8 {
			d.Blocks[deep] = filled()
		}
		want := dirNodes("/a", "/a/b", "/a/b/c", "/a/b/c/d")
		reached := []int{1, 2, 3, 4, 5, 6, 7, 8}
		wantTree(t, "cut", d, reached[:min(deep+1, 8)], want[:min(deep, 4)]...)
	}
}

// A name in two blocks of a directory, at each place of both: the first one counts.
func TestNamesThatAreThereTwice(t *testing.T) {
	for first := range 4 {
		for second := range 4 {
			d := treeDisk([]impl.Inode{inode(2, 1, 2, 1), inode(1, 1, 3, 0), inode(1, 1, 4, 0)}, filled(), filled(), textBlock("first"), textBlock("second"))
			d.Blocks[1].Slots[first], d.Blocks[0].Slots[second] = slot("n", 2), slot("n", 3)
			wantTree(t, "twice", d, []int{1, 2, 3}, fileNode("/n", "first", ""))
			wantLinks(t, "twice", d, 0, 1, 1)
			d.Inodes[0].Ptrs = []int{1, 2}
			wantTree(t, "turned round", d, []int{1, 2, 3}, fileNode("/n", "second", ""))
			wantLinks(t, "turned round", d, 0, 1, 1)
			d.Inodes[0].Ptrs = []int{0, 2}
			wantTree(t, "once", d, []int{1, 2}, fileNode("/n", "first", ""))
			wantLinks(t, "once", d, 0, 1)
		}
	}
}

func TestNamesThatAreThereTwiceOfSeveralKinds(t *testing.T) {
	for _, c := range []struct {
		name    string
		first   int
		second  int
		reached []int
		nodes   []impl.Node
	}{
		{"two files", 2, 3, []int{1, 2, 3}, []impl.Node{fileNode("/n", "two", "")}},
		{"one file", 2, 2, []int{1, 2}, []impl.Node{fileNode("/n", "two", "")}},
		{"a file and a directory", 2, 4, []int{1, 2, 3, 4}, []impl.Node{fileNode("/n", "two", "")}},
		{"a directory and a file", 4, 2, []int{1, 2, 3, 4}, []impl.Node{dirNode("/n"), fileNode("/n/x", "three", "")}},
		{"two directories", 4, 5, []int{1, 2, 3, 4, 5}, []impl.Node{dirNode("/n"), fileNode("/n/x", "three", "")}},
		{"turned round", 5, 4, []int{1, 2, 3, 4, 5}, []impl.Node{dirNode("/n"), fileNode("/n/x", "two", ""), dirNode("/n/y"), fileNode("/n/y/x", "three", "")}},
		{"nothing and a file", 8, 2, []int{1, 2}, nil},
		{"nothing and a directory", 8, 4, []int{1, 3, 4}, nil},
		{"a file and nothing", 2, 8, []int{1, 2}, []impl.Node{fileNode("/n", "two", "")}},
		{"nothing and nothing", 8, 7, []int{1}, nil},
		{"the root and a file", 1, 2, []int{1, 2}, dirNodes("/n", "/n/n", "/n/n/n", "/n/n/n/n")},
		{"a file and the root", 2, 1, []int{1, 2}, []impl.Node{fileNode("/n", "two", "")}},
	} {
		d := treeDisk([]impl.Inode{inode(2, 1, 1, 2), inode(1, 1, 3, 0), inode(1, 1, 4, 0), inode(2, 1, 5, 0), inode(2, 1, 6, 0)},
			filled(slot("n", c.first)), filled(slot("n", c.second)), textBlock("two"), textBlock("three"), filled(slot("x", 3)), filled(slot("x", 2), slot("y", 4)))
		wantTree(t, c.name, d, c.reached, c.nodes...)
	}
}

// A directory that has one block twice has each of its names twice.
func TestNamesThatAreThereTwiceInOneBlock(t *testing.T) {
	d := treeDisk([]impl.Inode{inode(2, 1, 1, 1), inode(1, 1, 2, 2), inode(2, 1, 3, 3)}, filled(slot("f", 2), slot("d", 3)), textBlock("text"), filled(slot("f", 2)))
	wantTree(t, "one block", d, []int{1, 2, 3}, dirNode("/d"), fileNode("/d/f", "text", "text"), fileNode("/f", "text", "text"))
	wantLinks(t, "one block", d, 0, 4, 2)
	// Two slots of one name are in no right block.
	d.Blocks[2] = filled(slot("f", 2), slot("f", 3))
	if impl.DiskOk(d) || len(checkTree(t, d)) != 0 {
		t.Errorf("of a block that has a name twice TreeOf = %v", impl.TreeOf(d))
	}
	if impl.LinksOf(d, 3) != 4 || !slices.Equal(impl.Reached(d), []int{1, 2, 3}) {
		t.Errorf("of a block that has a name twice are %d links, reached %v", impl.LinksOf(d, 3), impl.Reached(d))
	}
}

// The same name in several directories is another path in each; a block that two have has its names in both.
func TestNamesOfSeveralDirectories(t *testing.T) {
	d := treeDisk([]impl.Inode{inode(2, 1, 1, 0), inode(2, 1, 2, 0), inode(2, 1, 3, 0), inode(1, 1, 0, 0), inode(1, 1, 0, 0)},
		filled(slot("n", 2), slot("m", 3)), filled(slot("n", 4)), filled(slot("n", 5)))
	wantTree(t, "several", d, []int{1, 2, 3, 4, 5}, dirNode("/m"), fileNode("/m/n", "", ""), dirNode("/n"), fileNode("/n/n", "", ""))
	d.Inodes[2].Ptrs = []int{0, 2}
	wantTree(t, "one block of both", d, []int{1, 2, 3, 4}, dirNode("/m"), fileNode("/m/n", "", ""), dirNode("/n"), fileNode("/n/n", "", ""))
	wantLinks(t, "one block of both", d, 0, 1, 1, 2)
}

func TestNamesOfInodesOfNoKind(t *testing.T) {
	d := namedDisk()
	d.Inodes[1] = inode(0, 0, 0, 0)
	d.Inodes[2] = inode(0, 0, 0, 0)
	wantTree(t, "none", d, []int{1, 4, 5}, fileNode("/0", "0123456789abcdef", ""), fileNode("/m", "", "\x00\xff\n "))
	// Their slots are counted all the same, but not those of what is not reached.
	wantLinks(t, "none", d, 0, 1, 1, 1, 1)
	d.Inodes[3], d.Inodes[4] = inode(0, 0, 0, 0), inode(0, 0, 0, 0)
	wantTree(t, "none at all", d, []int{1})
	wantLinks(t, "none at all", d, 0, 1, 1, 1, 1)
}

func TestTreesOfRings(t *testing.T) {
	d := treeDisk(dirs(1), filled(slot("r", 1)))
	wantTree(t, "the root in itself", d, []int{1}, dirNodes("/r", "/r/r", "/r/r/r", "/r/r/r/r")...)
	wantLinks(t, "the root in itself", d, 1)
	d = treeDisk(dirs(1, 2), filled(slot("d", 2)), filled(slot("s", 2)))
	wantTree(t, "a directory in itself", d, []int{1, 2}, dirNodes("/d", "/d/s", "/d/s/s", "/d/s/s/s")...)
	wantLinks(t, "a directory in itself", d, 0, 2)
	d = treeDisk(dirs(1, 2), filled(slot("d", 2)), filled(slot("u", 1)))
	wantTree(t, "the root below", d, []int{1, 2}, dirNodes("/d", "/d/u", "/d/u/d", "/d/u/d/u")...)
	wantLinks(t, "the root below", d, 1, 1)
	d = treeDisk(dirs(1, 2, 3, 4), filled(slot("a", 2)), filled(slot("b", 3)), filled(slot("c", 4)), filled(slot("a", 2)))
	wantTree(t, "one above", d, []int{1, 2, 3, 4}, dirNodes("/a", "/a/b", "/a/b/c", "/a/b/c/a")...)
	wantLinks(t, "one above", d, 0, 2, 1, 1)
	d = treeDisk(dirs(1, 2, 3), filled(slot("x", 2), slot("y", 3)), filled(slot("y", 3)), filled(slot("x", 2)))
	wantTree(t, "each other", d, []int{1, 2, 3}, dirNodes("/x", "/x/y", "/x/y/x", "/x/y/x/y", "/y", "/y/x", "/y/x/y", "/y/x/y/x")...)
	wantLinks(t, "each other", d, 0, 2, 2)
	// A ring of all eight is longer than a path; one that nothing names is not there.
	ring := deepDisk(2)
	ring.Blocks[7] = filled(slot("h", 1))
	wantTree(t, "all", ring, []int{1, 2, 3, 4, 5, 6, 7, 8}, dirNodes("/a", "/a/b", "/a/b/c", "/a/b/c/d")...)
	wantLinks(t, "all", ring, 1, 1, 1, 1, 1, 1, 1, 1)
	d = treeDisk(dirs(0, 1, 2), filled(slot("x", 3)), filled(slot("x", 2), slot("r", 1)))
	wantTree(t, "apart", d, []int{1})
	wantLinks(t, "apart", d)
}

// The most that a tree can be: eight names in each directory, all of which lead to the root.
func TestTreesOfManyPaths(t *testing.T) {
	d := treeDisk([]impl.Inode{inode(2, 1, 2, 1)},
		dirBlock(slot("h", 1), slot("b", 1), slot("0", 1), slot("ab", 1)), dirBlock(slot("a", 1), slot("9zzzzz", 1), slot("z", 1), slot("a0", 1)))
	list := checkTree(t, d)
	if len(list) != 8+64+512+4096 || !inOrder(list) {
		t.Errorf("of many paths %d are told", len(list))
	}
	wantLinks(t, "many", d, 8)
	for _, n := range list {
		if impl.WalkPath(d, n.Path) != 1 || !n.Dir {
			t.Errorf("of many paths there is %v", n)
		}
	}
}

func TestRootsThatAreNoDirectory(t *testing.T) {
	for _, root := range []impl.Inode{inode(1, 1, 1, 2), inode(1, 0, 0, 0), inode(0, 0, 0, 0)} {
		d := namedDisk()
		d.Inodes[0] = root
		wantTree(t, "no directory", d, []int{1})
		wantLinks(t, "no directory", d)
	}
	wantTree(t, "an empty disk", emptyDisk(), []int{1})
}

// A path that is the beginning of another is ahead of it; what is below it is ahead of longer names.
func TestOrderOfPaths(t *testing.T) {
	d := treeDisk([]impl.Inode{inode(2, 1, 1, 2), inode(2, 1, 3, 4), inode(1, 1, 0, 0)},
		dirBlock(slot("ab", 2), slot("a0", 3), slot("b", 3), slot("a", 2)), dirBlock(slot("9", 3), slot("aa", 3), slot("abc", 3), slot("", 0)),
		dirBlock(slot("z", 3), slot("", 0), slot("a", 3), slot("0", 3)), filled(slot("aa", 3)))
	var want []string
	for _, n := range checkTree(t, d) {
		want = append(want, n.Path)
	}
	if !slices.Equal(want, []string{"/9", "/a", "/a/0", "/a/a", "/a/aa", "/a/z", "/a0", "/aa", "/ab", "/ab/0", "/ab/a", "/ab/aa", "/ab/z", "/abc", "/b"}) {
		t.Errorf("the paths are %q", want)
	}
}

// Eight names in each order of their slots that a step makes.
func TestOrderOfSlots(t *testing.T) {
	names := []string{"", "0", "9", "a", "a0", "aa", "b", "zz"}
	for step := 1; step < 8; step += 2 {
		for from := range 8 {
			d := treeDisk([]impl.Inode{inode(2, 1, 1, 2), inode(2, 1, 3, 0), inode(1, 1, 0, 0)}, filled(), filled(), filled(slot("x", 3)))
			for k, name := range names {
				if at := (from + k*step) % 8; name != "" {
					d.Blocks[at/4].Slots[at%4] = slot(name, 2)
				}
			}
			var want []impl.Node
			for _, name := range names[1:] {
				want = append(want, dirNode("/"+name), fileNode("/"+name+"/x", "", ""))
			}
			if got := checkTree(t, d); !slowSameTree(got, want) {
				t.Errorf("the tree is %v, want %v", got, want)
			}
		}
	}
}

func TestTreesOfWrongDisks(t *testing.T) {
	for _, from := range []impl.Disk{namedDisk(), fullDisk(), deepDisk(2), pathDisk(), emptyDisk()} {
		for _, c := range wrongChanges() {
			d := changed(from, c)
			if got := impl.TreeOf(d); len(got) != 0 {
				t.Errorf("%s: TreeOf = %v", c.name, got)
			}
			checkTree(t, d)
		}
	}
	if got := impl.Reached(impl.Disk{}); len(got) != 0 || impl.LinksOf(impl.Disk{}, 1) != 0 {
		t.Errorf("on no disk are reached %v", got)
	}
}

// Of a wrong disk what is there is reached and counted, but a ninth inode or a 17th block is none.
func TestWhatIsReachedOnWrongDisks(t *testing.T) {
	for inodes := range 9 {
		for blocks := range 17 {
			for _, d := range []impl.Disk{namedDisk(), pathDisk(), deepDisk(2)} {
				d.Inodes, d.Blocks = d.Inodes[:inodes], d.Blocks[:blocks]
				checkTree(t, d)
			}
		}
	}
	for _, n := range append(oddNumbers(), -1, 0, 9, 17) {
		d := namedDisk()
		d.Inodes = append(d.Inodes, slices.Repeat([]impl.Inode{inode(2, 1, 8, 8)}, 260)...)
		d.Blocks = append(d.Blocks, slices.Repeat([]impl.Block{filled(slot("b", 8))}, 260)...)
		d.Blocks[0].Slots[0].Ino = n
		// A ninth block there is.
		if n != 9 {
			d.Inodes[0].Ptrs[1] = n
		}
		if got := impl.Reached(d); slices.Contains(got, n) || slices.Contains(got, 8) || slices.Contains(got, 2) {
			t.Errorf("with numbers of %d are reached %v", n, got)
		}
		checkTree(t, d)
	}
	for _, kind := range []int{3, -1, 257, math.MaxInt} {
		d := namedDisk()
		d.Inodes[2].Kind = kind
		if got := impl.Reached(d); !slices.Equal(got, []int{1, 2, 4, 5}) {
			t.Errorf("with a kind of %d are reached %v", kind, got)
		}
		d.Inodes[0].Kind = kind
		if got := impl.Reached(d); !slices.Equal(got, []int{1}) || len(impl.TreeOf(d)) != 0 {
			t.Errorf("of a root of kind %d are reached %v", kind, got)
		}
	}
}

func someNodes() []impl.Node {
	return []impl.Node{fileNode("/a", "head", "tail"), dirNode("/b"), fileNode("/b/c", "", "x")}
}

func wantSame(t *testing.T, name string, a, b []impl.Node, same bool) {
	t.Helper()
	if impl.SameTree(a, b) != same || impl.SameTree(b, a) != same {
		t.Errorf("%s: SameTree of %v and %v is not %v both ways", name, a, b, same)
	}
}

func TestSameTree(t *testing.T) {
	none := []impl.Node{}
	wantSame(t, "nil", nil, nil, true)
	wantSame(t, "none and nil", none, nil, true)
	wantSame(t, "none", none, []impl.Node{}, true)
	wantSame(t, "the same", someNodes(), someNodes(), true)
	list := someNodes()
	wantSame(t, "itself", list, list, true)
	wantSame(t, "none and some", none, list, false)
	wantSame(t, "nil and some", nil, list, false)
	wantSame(t, "an empty node", none, []impl.Node{{}}, false)
	wantSame(t, "empty nodes", []impl.Node{{}, {}}, []impl.Node{{}}, false)
	wantSame(t, "spare room", append(someNodes(), dirNode("/z"))[:3], list, true)
	wantSame(t, "twice", append(someNodes(), someNodes()...), list, false)
	wantSame(t, "texts turned round", []impl.Node{fileNode("/a", "x", "")}, []impl.Node{fileNode("/a", "", "x")}, false)
	wantSame(t, "texts one behind the other", []impl.Node{fileNode("/a", "xy", "z")}, []impl.Node{fileNode("/a", "x", "yz")}, false)
	if !slowSameTree(list, someNodes()) {
		t.Errorf("SameTree has written into a tree: %v", list)
	}
}

func TestTreesThatAreNotTheSame(t *testing.T) {
	for k := range 3 {
		for _, do := range []func(n *impl.Node){
			func(n *impl.Node) { n.Path += "x" },
			func(n *impl.Node) { n.Path = "" },
			func(n *impl.Node) { n.Path = strings.ToUpper(n.Path) },
			func(n *impl.Node) { n.Dir = !n.Dir },
			func(n *impl.Node) { n.Head += "x" },
			func(n *impl.Node) { n.Head = "\x00" + n.Head },
			func(n *impl.Node) { n.Tail += "x" },
			func(n *impl.Node) { n.Tail += "\x00" },
		} {
			other := someNodes()
			do(&other[k])
			wantSame(t, "another field", someNodes(), other, false)
			wantSame(t, "the same field", other, slices.Clone(other), true)
		}
		wantSame(t, "one less", someNodes(), slices.Delete(someNodes(), k, k+1), false)
		wantSame(t, "one more", someNodes(), slices.Insert(someNodes(), k, someNodes()[k]), false)
		turned := someNodes()
		turned[k], turned[(k+1)%3] = turned[(k+1)%3], turned[k]
		wantSame(t, "another order", someNodes(), turned, false)
	}
}

func TestLinksAreCounted(t *testing.T) {
	d := treeDisk([]impl.Inode{
		inode(2, 1, 1, 2), inode(2, 1, 3, 0), inode(2, 1, 0, 4), inode(1, 5, 0, 0), inode(1, 1, 0, 0), inode(1, 0, 0, 0), inode(2, 1, 5, 0),
	},
		filled(slot("a", 2), slot("f", 4), slot("g", 4)), filled(slot("f", 4), slot("h", 5)),
		filled(slot("f", 4), slot("b", 3), slot("n", 8)), filled(slot("f", 4), slot("u", 1), slot("n", 8)),
		filled(slot("f", 4), slot("g", 5), slot("i", 6), slot("n", 8)),
	)
	checkTree(t, d)
	wantLinks(t, "several", d, 1, 1, 1, 5, 1, 0, 0, 2)
	// Reached, the seventh one counts with all its slots.
	d.Blocks[3].Slots[3] = slot("s", 7)
	checkTree(t, d)
	wantLinks(t, "one more directory", d, 1, 1, 1, 6, 2, 1, 1, 3)
	// A file's blocks tell no names.
	d.Inodes[6].Kind = 1
	checkTree(t, d)
	wantLinks(t, "a file", d, 1, 1, 1, 5, 1, 0, 1, 2)
	for _, i := range append(oddNumbers(), 0, -1, -2, -8, 9, 10, 16) {
		for _, d := range []impl.Disk{d, impl.DiskNew(), fullDisk(), usedDisk()} {
			if got := impl.LinksOf(d, i); got != 0 {
				t.Errorf("LinksOf %d = %d", i, got)
			}
		}
	}
}

func TestWhatIsReached(t *testing.T) {
	for _, c := range []struct {
		name    string
		d       impl.Disk
		reached []int
	}{
		{"the root alone", impl.DiskNew(), []int{1}},
		{"files", treeDisk([]impl.Inode{inode(2, 1, 0, 1), inode(1, 1, 0, 0), inode(1, 1, 0, 0)}, filled(slot("a", 3), slot("b", 2))), []int{1, 2, 3}},
		{"one of two files", treeDisk([]impl.Inode{inode(2, 1, 0, 1), inode(1, 1, 0, 0), inode(1, 1, 0, 0)}, filled(slot("a", 3))), []int{1, 3}},
		{"directories downward", treeDisk(dirs(1, 3, 2), filled(slot("a", 3)), filled(slot("b", 2)), filled()), []int{1, 2, 3}},
		{"below what nothing names", treeDisk(dirs(1, 2, 3, 4), filled(slot("a", 2)), filled(), filled(slot("b", 4)), filled()), []int{1, 2}},
		{"below what is of no kind", treeDisk([]impl.Inode{inode(2, 1, 1, 0), inode(0, 0, 0, 0), inode(1, 1, 0, 0)}, filled(slot("a", 2)), filled(slot("b", 3))), []int{1}},
		{"below a file", treeDisk([]impl.Inode{inode(2, 1, 1, 0), inode(1, 1, 2, 2), inode(1, 1, 0, 0)}, filled(slot("a", 2)), filled(slot("b", 3))), []int{1, 2}},
		{"only the root is named", treeDisk(dirs(1, 0), filled(slot("a", 1))), []int{1}},
		{"all at once", usedDisk(), []int{1, 8}},
	} {
		if got := impl.Reached(c.d); !slices.Equal(got, c.reached) {
			t.Errorf("%s: Reached = %v, want %v", c.name, got, c.reached)
		}
		checkTree(t, c.d)
	}
	// One alone below the root, whichever it is.
	for i := 2; i <= 8; i++ {
		d := treeDisk(dirs(1, 2, 2, 2, 2, 2, 2, 2), filled(slot("a", i)), filled(slot("b", i)))
		wantTree(t, "one alone", d, []int{1, i}, dirNodes("/a", "/a/b", "/a/b/b", "/a/b/b/b")...)
	}
}

func TestTreesOfSampleDisks(t *testing.T) {
	for _, d := range append(rightDisks(), namedDisk(), pathDisk(), deepDisk(1), deepDisk(2)) {
		checkTree(t, d)
	}
}

// Right disks that no life leads to, and wrong ones.
func TestDrawnTrees(t *testing.T) {
	draw := drawer(14)
	paths, reached, twice := 0, 0, 0
	for k := range 600 {
		d := drawnPathDisk(draw, k%3 > 0)
		for p := 8; p < len(d.Blocks); p++ {
			d.Blocks[p] = textBlock(strings.Repeat("x", draw(17)))
		}
		for i := range d.Inodes {
			if d.Inodes[i].Kind == 1 {
				d.Inodes[i].Ptrs = []int{draw(17), draw(17)}
			}
		}
		paths += len(checkTree(t, d))
		reached += len(impl.Reached(d))
		if names := impl.NamesOf(d, 1); len(names) > len(slices.Compact(slices.Sorted(slices.Values(names)))) {
			twice++
		}
	}
	if paths < 5000 || reached < 1200 || twice < 100 {
		t.Errorf("only %d paths, %d reached and %d roots with a name twice are drawn", paths, reached, twice)
	}
}

// wantPaths wants of each inode that is reached a path that the tree has.
func wantPaths(t *testing.T, d impl.Disk) {
	t.Helper()
	with := []int{1}
	for _, n := range checkTree(t, d) {
		with = append(with, impl.WalkPath(d, n.Path))
	}
	for _, i := range impl.Reached(d) {
		if !slices.Contains(with, i) {
			t.Fatalf("inode %d is reached, and has no path: %v", i, d)
		}
	}
}

// The promise, over drawn lives: in memory and on the disk a tree has each path once, in order, and what is reached has a path; in memory it is just what was asked for.
func TestTreesOfDrawnLives(t *testing.T) {
	nodes := 0
	for seed := range 120 {
		draw := drawer(uint32(1400 + seed))
		l := newLife()
		for range 80 {
			l.drawn(t, draw)
			wantPaths(t, l.m.Disk)
			wantPaths(t, slowDisk(l.v))
			told := map[string]string{}
			for _, n := range impl.TreeOf(l.m.Disk) {
				kind := " 1 "
				if n.Dir {
					kind = " 2 "
				}
				told[n.Path] = impl.Decimal(impl.WalkPath(l.m.Disk, n.Path)) + kind + n.Head + " " + n.Tail
			}
			if !maps.Equal(told, l.tree) {
				t.Fatalf("TreeOf tells %q, asked for was %q", told, l.tree)
			}
			nodes += len(told)
		}
		l.settle(t, draw)
		for _, i := range impl.Reached(l.m.Disk) {
			if links := impl.LinksOf(l.m.Disk, i); i > 1 && links != l.m.Disk.Inodes[i-1].Links {
				t.Fatalf("when all is written inode %d has %d links: %v", i, links, l.m.Disk)
			}
		}
		if !impl.SameTree(impl.TreeOf(slowDisk(l.v)), impl.TreeOf(l.m.Disk)) {
			t.Fatalf("when all is written the disk tells %v", impl.TreeOf(slowDisk(l.v)))
		}
	}
	if nodes < 10000 {
		t.Errorf("only %d nodes are told of drawn lives", nodes)
	}
}

func nodeTexts(list []impl.Node) []room {
	var rooms []room
	for _, n := range list {
		rooms = append(rooms, textRooms(n.Path, n.Head, n.Tail)...)
	}
	return rooms
}

func TestTreesAreNewMemory(t *testing.T) {
	ring := treeDisk(dirs(1), filled(slot("r", 1)))
	for _, d := range []impl.Disk{namedDisk(), deepDisk(1), pathDisk(), ring, fullDisk()} {
		d = ownTexts(d)
		one, other := impl.TreeOf(d), impl.TreeOf(d)
		if anyMeets(nodeTexts(one), diskTexts(d)) {
			t.Errorf("the tree %v shares texts with its disk", one)
		}
		if listRoom(one).meets(listRoom(other)) {
			t.Error("two trees share memory")
		}
		first, second := impl.Reached(d), impl.Reached(d)
		if listRoom(first).meets(listRoom(second)) || anyMeets([]room{listRoom(first)}, diskLists(d)) {
			t.Error("what is reached shares memory with another")
		}
		runtime.KeepAlive(other)
		runtime.KeepAlive(second)
		runtime.KeepAlive(d)
	}
}

// Whoever writes into an answer, or into what was handed in, changes nothing else.
func TestTreesThatAreSpoilt(t *testing.T) {
	for _, d := range []impl.Disk{namedDisk(), deepDisk(2), pathDisk()} {
		was := fromDisk(d)
		list, reached := impl.TreeOf(d), impl.Reached(d)
		for k := range list {
			list[k] = fileNode("spoilt", "spoilt", "spoilt")
		}
		for k := range reached {
			reached[k] = 77
		}
		_, _ = append(list, dirNode("spoilt")), append(reached, 77)
		if !slowSameDisk(d, was) {
			t.Errorf("a spoilt answer leads back to %v", d)
		}
		list, reached = checkTree(t, d), impl.Reached(d)
		want := slices.Clone(list)
		for p := range d.Blocks {
			spoilBlock(d.Blocks[p])
			d.Blocks[p] = textBlock("spoilt")
		}
		for i := range d.Inodes {
			spoilNumbers(d.Inodes[i].Ptrs)
			d.Inodes[i] = inode(0, 0, 0, 0)
		}
		if !slowSameTree(list, want) || !slices.Equal(reached, slowReached(was)) {
			t.Errorf("answers change with a disk that is spoilt: %v, %v", list, reached)
		}
	}
}

// What stands in spare room behind the lists of a disk is neither told nor written into.
func TestRoomBehindTreesIsLeftAlone(t *testing.T) {
	d := namedDisk()
	want := impl.TreeOf(d)
	ptrs, slots := append(d.Inodes[0].Ptrs, 8), append(d.Blocks[0].Slots, slot("behind", 8))
	inodes, blocks := append(d.Inodes, inode(2, 1, 1, 1)), append(d.Blocks, filled(slot("behind", 8)))
	bits := append(d.Bits.Blocks, true)
	inodes[0].Ptrs, blocks[0].Slots = ptrs[:2], slots[:4]
	d = impl.Disk{Bits: bitsOf(bits[:16], d.Bits.Inos), Inodes: inodes[:8], Blocks: blocks[:16]}
	wantTree(t, "spare room", d, []int{1, 2, 3, 4, 5, 6, 7}, want...)
	wantLinks(t, "spare room", d, 0, 1, 1, 1, 2, 1, 1)
	if ptrs[2] != 8 || slots[4] != slot("behind", 8) || !sameInode(inodes[8], inode(2, 1, 1, 1)) || !sameBlock(blocks[16], filled(slot("behind", 8))) || !bits[16] {
		t.Error("spare room behind a disk was written into")
	}
	list := append(someNodes(), dirNode("/behind"))
	if !impl.SameTree(list[:3], someNodes()) || list[3] != dirNode("/behind") {
		t.Error("spare room behind a tree was written into")
	}
}

// Calls at the same time, of one disk: each answers as it does alone.
func TestTreesAtTheSameTime(t *testing.T) {
	d := pathDisk()
	want, reached := impl.TreeOf(d), impl.Reached(d)
	var all sync.WaitGroup
	var same [8]bool
	for k := range same {
		all.Go(func() {
			same[k] = impl.SameTree(impl.TreeOf(d), want) && slices.Equal(impl.Reached(d), reached) && impl.LinksOf(d, 3) == 2
		})
	}
	all.Wait()
	if slices.Contains(same[:], false) {
		t.Errorf("at the same time as others answers are the same: %v", same)
	}
}
