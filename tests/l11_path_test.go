package tests

import (
	"math"
	"runtime"
	"slices"
	"strings"
	"testing"

	"loop.example/g00235/impl"
)

// The signatures that the document gives.
var (
	_ func(p string) ([]string, bool)           = impl.SplitPath
	_ func(d impl.Disk, p string) int           = impl.WalkPath
	_ func(d impl.Disk, i int) []string         = impl.NamesOf
	_ func(d impl.Disk, i int) (string, string) = impl.TextOf
	_ [4]struct{}                               = [impl.MaxDeep]struct{}{}
)

// slowSplit takes the path to pieces as bytes, and asks of all pieces at once.
func slowSplit(p string) ([]string, bool) {
	if p == "/" {
		return nil, true
	}
	pieces := strings.Split(p, "/")
	if len(pieces) < 2 || len(pieces) > 5 || pieces[0] != "" {
		return nil, false
	}
	for _, name := range pieces[1:] {
		if !slowName(name) {
			return nil, false
		}
	}
	return pieces[1:], true
}

// slowBlockAt is the block that a pointer of an inode of this kind leads to; an empty one when there is none.
func slowBlockAt(d impl.Disk, i, kind, ptr int) impl.Block {
	if i < 1 || i > 8 || i > len(d.Inodes) || d.Inodes[i-1].Kind != kind || ptr >= len(d.Inodes[i-1].Ptrs) {
		return impl.Block{}
	}
	p := d.Inodes[i-1].Ptrs[ptr]
	if p < 1 || p > 16 || p > len(d.Blocks) {
		return impl.Block{}
	}
	return d.Blocks[p-1]
}

// slowSlots are all slots with a name of a directory, in order; no test has an inode of more than ten pointers.
func slowSlots(d impl.Disk, i int) []impl.Slot {
	var list []impl.Slot
	for ptr := range 10 {
		for _, s := range slowBlockAt(d, i, 2, ptr).Slots {
			if s.Name != "" {
				list = append(list, s)
			}
		}
	}
	return list
}

func slowNames(d impl.Disk, i int) []string {
	var names []string
	for _, s := range slowSlots(d, i) {
		names = append(names, s.Name)
	}
	return names
}

func slowWalk(d impl.Disk, p string) int {
	names, ok := slowSplit(p)
	at := 1
	for _, name := range names {
		slots := slowSlots(d, at)
		k := slices.IndexFunc(slots, func(s impl.Slot) bool { return s.Name == name })
		if k < 0 {
			return 0
		}
		at = slots[k].Ino
	}
	if !ok || at < 1 || at > 8 || at > len(d.Inodes) {
		return 0
	}
	return at
}

func slowTexts(d impl.Disk, i int) (string, string) {
	return slowBlockAt(d, i, 1, 0).Text, slowBlockAt(d, i, 1, 1).Text
}

func checkSplit(t *testing.T, p string) {
	t.Helper()
	got, ok := impl.SplitPath(p)
	if want, is := slowSplit(p); ok != is || !slices.Equal(got, want) {
		t.Errorf("SplitPath(%.80q) = %q, %v, want %q, %v", p, got, ok, want, is)
	}
}

func checkWalk(t *testing.T, d impl.Disk, p string) {
	t.Helper()
	if got, want := impl.WalkPath(d, p), slowWalk(d, p); got != want {
		t.Errorf("WalkPath(%v, %.80q) = %d, want %d", d, p, got, want)
	}
}

func checkInodeTold(t *testing.T, d impl.Disk, i int) {
	t.Helper()
	if got, want := impl.NamesOf(d, i), slowNames(d, i); !slices.Equal(got, want) {
		t.Errorf("NamesOf(%v, %d) = %q, want %q", d, i, got, want)
	}
	head, tail := impl.TextOf(d, i)
	if first, second := slowTexts(d, i); head != first || tail != second {
		t.Errorf("TextOf(%v, %d) = %q, %q, want %q, %q", d, i, head, tail, first, second)
	}
}

// checkPaths holds what a disk tells of these paths and of all inodes against the document, and wants it as it was.
func checkPaths(t *testing.T, d impl.Disk, paths []string) {
	t.Helper()
	was := fromDisk(d)
	for _, p := range paths {
		checkWalk(t, d, p)
	}
	for i := -2; i <= 11; i++ {
		checkInodeTold(t, d, i)
	}
	if !slowSameDisk(d, was) {
		t.Errorf("a disk was written into: %v, was %v", d, was)
	}
}

// pathsOf are all paths of these names, up to so many deep, and the root's.
func pathsOf(deep int, names ...string) []string {
	list, from := []string{"/"}, []string{""}
	for range deep {
		var next []string
		for _, p := range from {
			for _, name := range names {
				next = append(next, p+"/"+name)
			}
		}
		list, from = append(list, next...), next
	}
	return list
}

// pathDisk has names in both blocks of the root, in the second one alone, and four deep; one in both, one that leads back, one of no kind.
func pathDisk() impl.Disk {
	d := emptyDisk()
	d.Inodes[0] = inode(2, 1, 1, 2)
	d.Inodes[1] = inode(2, 1, 0, 3)
	d.Inodes[2] = inode(1, 2, 7, 8)
	d.Inodes[3] = inode(2, 1, 4, 5)
	d.Inodes[4] = inode(2, 1, 6, 6)
	d.Inodes[5] = inode(1, 2, 0, 9)
	d.Inodes[6] = inode(1, 1, 10, 0)
	d.Blocks[0] = dirBlock(slot("a", 2), slot("f", 3), slot("", 0), slot("x", 3))
	d.Blocks[1] = dirBlock(slot("", 0), slot("b", 6), slot("x", 7), slot("gone", 8))
	d.Blocks[2] = dirBlock(slot("c", 4), slot("", 0), slot("", 0), slot("up", 1))
	d.Blocks[3] = filled()
	d.Blocks[4] = dirBlock(slot("", 0), slot("", 0), slot("", 0), slot("d", 5))
	d.Blocks[5] = dirBlock(slot("e12345", 6), slot("", 0), slot("g", 5), slot("", 0))
	d.Blocks[6] = textBlock("head")
	d.Blocks[7] = textBlock("0123456789abcdef")
	d.Blocks[8] = textBlock("\x00\xff\n")
	d.Blocks[9] = textBlock("one")
	return d
}

func pathDiskPaths() []string {
	return append(pathsOf(4, "a", "c", "d", "x", "up"), "/b", "/gone", "/gone/a", "/f", "/f/a", "/a/c/d/e12345", "/a/c/d/g", "", "a", "/a/", "//a")
}

type splitCase struct {
	path  string
	names []string
}

func TestPathsAreSplit(t *testing.T) {
	for _, c := range []splitCase{
		{"/", nil},
		{"/a", []string{"a"}},
		{"/9", []string{"9"}},
		{"/abcdef", []string{"abcdef"}},
		{"/012345", []string{"012345"}},
		{"/a/b", []string{"a", "b"}},
		{"/a/a", []string{"a", "a"}},
		{"/a/b/c", []string{"a", "b", "c"}},
		{"/a/b/c/d", []string{"a", "b", "c", "d"}},
		{"/zzzzzz/0/az09/q", []string{"zzzzzz", "0", "az09", "q"}},
		{"/abcdef/ghijkl/mnopqr/stuvwx", []string{"abcdef", "ghijkl", "mnopqr", "stuvwx"}},
	} {
		got, ok := impl.SplitPath(c.path)
		if !ok || !slices.Equal(got, c.names) {
			t.Errorf("SplitPath(%q) = %q, %v, want %q", c.path, got, ok, c.names)
		}
		checkSplit(t, c.path)
	}
}

func wantNoPath(t *testing.T, p string) {
	t.Helper()
	if got, ok := impl.SplitPath(p); ok || len(got) != 0 {
		t.Errorf("SplitPath(%.80q) = %q, %v, want a refusal", p, got, ok)
	}
	if i := impl.WalkPath(pathDisk(), p); i != 0 {
		t.Errorf("WalkPath of %.80q = %d, want 0", p, i)
	}
}

func TestPathsRefused(t *testing.T) {
	for _, p := range []string{
		"", "a", "a/", "a/b", "a/b/c/d", " ", " /a", "\n/a", "./a", "\\a", "\x00/a",
		"//", "///", "////", "/////", "//////", "/a/", "/a/c/", "/a/c/d/g/", "//a", "/a//", "/a//c", "/a/c//d", "//a/c",
		"/abcdefg", "/a/abcdefg", "/abcdefg/a", "/a/b/c/abcdefg", "/a/b/c/d/e", "/a/c/d/g/g", "/a/a/a/a/", "/a/b/c/d/", "/a/b/c/d//",
		"/A", "/a/C", "/aB/c", "/a b", "/ a", "/a ", "/a.", "/.", "/..", "/a/../a", "/a-b", "/a_b", "/a\x00", "/\x00", "/a\n", "/a\\c",
		"/{", "/`", "/:", "/a:c",
	} {
		wantNoPath(t, p)
	}
}

// Signs of several bytes, among them such that look like a mark or a name, or have its number as their last byte; and bytes that are no rune.
func TestPathsOfOtherRunes(t *testing.T) {
	for _, s := range []string{
		"é", "ä", "日", "\U0001f600", "／", "⁄", "∕", "ａ", "٣", "į", "š", "ı", "ſ", "\u022f", "\u202f", "\u2f61", "\u612f", "\U0001002f", "\U00010061",
		"\ufffd", "\u0080", "\u00ff", "\U0010ffff", "\ufeff",
		"\x80", "\xbf", "\xff", "\xfe", "\xc3", "\xe2", "\xe2\x88", "\xf0\x9f\x98", "\xc0\xaf", "\xe0\x80\xaf", "\xc1\xa1", "\xed\xa0\x80", "\xf4\x90\x80\x80",
	} {
		for _, p := range []string{s, "/" + s, s + "/", s + "/a", "/a" + s, "/" + s + "a", "/a" + s + "c", "/a/" + s, "/" + s + "/a", "/a/c/d/" + s, "/a/c" + s + "d", s + "a/c"} {
			wantNoPath(t, p)
			checkSplit(t, p)
		}
	}
}

// Each byte, at each place of a path.
func TestPathsByEachByte(t *testing.T) {
	for _, p := range []string{"/", "/a", "/ab/cd", "/abcdef", "/a/b/c/d", "/zz/0/abcdef/q9"} {
		for at := range len(p) + 1 {
			for c := range 256 {
				sign := string([]byte{byte(c)})
				checkSplit(t, p[:at]+sign+p[at:])
				if at < len(p) {
					checkSplit(t, p[:at]+sign+p[at+1:])
				}
			}
		}
	}
}

// Every path of up to seven of these pieces.
func TestPathsOfAllPieces(t *testing.T) {
	told := 0
	var grow func(p string, left int)
	grow = func(p string, left int) {
		checkSplit(t, p)
		if _, ok := impl.SplitPath(p); ok {
			told++
		}
		if left == 0 {
			return
		}
		for _, piece := range []string{"/", "a", "09z", "é", "\xff"} {
			grow(p+piece, left-1)
		}
	}
	grow("", 7)
	if told < 50 {
		t.Errorf("only %d paths are split", told)
	}
}

func TestPathsByLength(t *testing.T) {
	for deep := range 12 {
		for long := range 12 {
			p := strings.Repeat("/"+strings.Repeat("a", long), deep)
			checkSplit(t, p)
			names, ok := impl.SplitPath(p)
			is := deep >= 1 && deep <= 4 && long >= 1 && long <= 6
			if root := deep == 1 && long == 0; ok != (is || root) || is && len(names) != deep {
				t.Errorf("SplitPath(%q) = %q, %v", p, names, ok)
			}
		}
	}
}

func TestVeryLongPaths(t *testing.T) {
	const long = 1000000
	for _, p := range []string{
		strings.Repeat("/a", long), strings.Repeat("a", long), strings.Repeat("/", long), "/" + strings.Repeat("a", long), "/a/" + strings.Repeat("a", long),
		"/" + strings.Repeat("a", long) + "/a", strings.Repeat("/abcdef", long), strings.Repeat("\xff", long), "/" + strings.Repeat("é", long),
		"/a/b/c/d" + strings.Repeat("/", long), "/a/b/c/d/" + strings.Repeat("a", long), "/a" + strings.Repeat("\x00", long),
	} {
		wantNoPath(t, p)
	}
}

type walkCase struct {
	path string
	ino  int
}

func TestPathsLead(t *testing.T) {
	d := pathDisk()
	if !impl.DiskOk(d) {
		t.Fatal("the disk is not right")
	}
	for _, c := range []walkCase{
		{"/", 1}, {"/a", 2}, {"/f", 3}, {"/b", 6}, {"/gone", 8},
		{"/x", 3}, {"/a/c", 4}, {"/a/up", 1}, {"/a/c/d", 5}, {"/a/c/d/e12345", 6}, {"/a/c/d/g", 5},
		{"/a/up/a/up", 1}, {"/a/up/x", 3}, {"/a/up/b", 6}, {"/a/up/a/c", 4},
		{"/a/c/d/g/g", 0}, {"/a/up/a/c/d", 0}, {"/q", 0}, {"/c", 0}, {"/d", 0}, {"/up", 0}, {"/a/a", 0}, {"/a/d", 0}, {"/a/c/c", 0}, {"/a/c/e12345", 0},
		{"/aa", 0}, {"/e1234", 0}, {"/a/c/d/e1234", 0}, {"/gon", 0}, {"/gone1", 0},
		{"/f/a", 0}, {"/x/a", 0}, {"/b/a", 0}, {"/f/f", 0}, {"/gone/a", 0}, {"/gone/gone", 0}, {"/q/a", 0}, {"/a/q/c", 0}, {"/f/a/c", 0},
		{"", 0}, {"a", 0}, {"/a/", 0}, {"//a", 0}, {"//", 0}, {"/A", 0}, {"/a/c/d/g/", 0}, {"/abcdefg", 0},
	} {
		if got := impl.WalkPath(d, c.path); got != c.ino {
			t.Errorf("WalkPath of %q = %d, want %d", c.path, got, c.ino)
		}
	}
	checkPaths(t, d, pathDiskPaths())
}

func TestRootsAreLedTo(t *testing.T) {
	for _, x := range []impl.Inode{inode(0, 0, 0, 0), inode(1, 1, 1, 2), inode(2, 0, 0, 0), inode(2, 200, 16, 16), inode(3, 1, 1, 2), inode(-1, 1, 1, 2), inode(2, 1), {}} {
		d := pathDisk()
		d.Inodes[0] = x
		if got := impl.WalkPath(d, "/"); got != 1 {
			t.Errorf("WalkPath of the root %v = %d", x, got)
		}
		if got := impl.WalkPath(d, "/a"); got != 0 {
			t.Errorf("WalkPath of a name in the root %v = %d", x, got)
		}
		checkPaths(t, d, pathDiskPaths())
	}
	d := impl.DiskNew()
	if i := impl.WalkPath(d, "/"); i != 1 || len(impl.NamesOf(d, 1)) != 0 || impl.WalkPath(d, "/a") != 0 {
		t.Errorf("a new disk has the root %d with %q", i, impl.NamesOf(d, 1))
	}
}

// A name at each place of both blocks, alone and with another one of its name behind it.
func TestNamesInBothBlocks(t *testing.T) {
	for first := range 8 {
		d := impl.DiskNew()
		d.Inodes[0] = inode(2, 1, 16, 1)
		d.Inodes[1], d.Inodes[2] = inode(1, 1, 0, 0), inode(1, 1, 0, 0)
		d.Blocks[15], d.Blocks[0] = filled(), filled()
		blocks := []int{15, 0}
		d.Blocks[blocks[first/4]].Slots[first%4] = slot("n", 2)
		if got := impl.WalkPath(d, "/n"); got != 2 || !slices.Equal(impl.NamesOf(d, 1), []string{"n"}) {
			t.Errorf("a name at place %d leads to %d, of %q", first, got, impl.NamesOf(d, 1))
		}
		checkPaths(t, d, pathsOf(2, "n", "m"))
		if first > 3 {
			continue
		}
		for second := range 4 {
			both := fromDisk(d)
			both.Blocks[0].Slots[second] = slot("n", 3)
			if got := impl.WalkPath(both, "/n"); got != 2 || !slices.Equal(impl.NamesOf(both, 1), []string{"n", "n"}) {
				t.Errorf("a name at places %d and %d leads to %d, of %q", first, second, got, impl.NamesOf(both, 1))
			}
			checkPaths(t, both, pathsOf(2, "n", "m"))
			both.Inodes[0].Ptrs[0] = 0
			if got := impl.WalkPath(both, "/n"); got != 3 {
				t.Errorf("without its first block a name at places %d and %d leads to %d", first, second, got)
			}
		}
	}
}

func TestPointersThatLeadToNoBlock(t *testing.T) {
	for _, p := range append(oddNumbers(), 0, -1, -16, 17, 18, 32, 33) {
		if p >= 1 && p <= 16 {
			continue
		}
		d := pathDisk()
		d.Inodes[0].Ptrs[0] = p
		if a, x := impl.WalkPath(d, "/a"), impl.WalkPath(d, "/x"); a != 0 || x != 7 {
			t.Errorf("with a first pointer of %d the names lead to %d and %d", p, a, x)
		}
		if names := impl.NamesOf(d, 1); !slices.Equal(names, []string{"b", "x", "gone"}) {
			t.Errorf("with a first pointer of %d the names are %q", p, names)
		}
		d.Inodes[0].Ptrs[1] = p
		if names := impl.NamesOf(d, 1); len(names) != 0 || impl.WalkPath(d, "/x") != 0 {
			t.Errorf("with pointers of %d the names are %q", p, names)
		}
		d.Inodes[2].Ptrs[0] = p
		if head, tail := impl.TextOf(d, 3); head != "" || tail != "0123456789abcdef" {
			t.Errorf("with a first pointer of %d the texts are %q and %q", p, head, tail)
		}
		d.Inodes[2].Ptrs = []int{7, p}
		if head, tail := impl.TextOf(d, 3); head != "head" || tail != "" {
			t.Errorf("with a second pointer of %d the texts are %q and %q", p, head, tail)
		}
		// A 17th block and those behind it are none, even if they are there.
		d.Blocks = append(d.Blocks, slices.Repeat([]impl.Block{filled(slot("a", 2)), textBlock("more")}, 130)...)
		checkPaths(t, d, []string{"/", "/a", "/x", "/a/c"})
	}
}

// Of a name that leads to no inode the path leads nowhere, whatever another one of its name leads to.
func TestNamesThatLeadToNoInode(t *testing.T) {
	for _, ino := range append(oddNumbers(), 0, -1, -8, 9, 10, 16, 17) {
		if ino >= 1 && ino <= 8 {
			continue
		}
		d := pathDisk()
		d.Blocks[0].Slots[3].Ino = ino
		d.Blocks[2].Slots[0].Ino = ino
		for _, more := range []int{0, 1, 260} {
			d.Inodes = append(d.Inodes, slices.Repeat([]impl.Inode{inode(2, 1, 1, 2)}, more)...)
			for _, p := range []string{"/x", "/x/a", "/a/c", "/a/c/d", "/a/c/a"} {
				if got := impl.WalkPath(d, p); got != 0 {
					t.Errorf("WalkPath of %q over an Ino of %d = %d", p, ino, got)
				}
			}
			if names := impl.NamesOf(d, 1); !slices.Equal(names, []string{"a", "f", "x", "b", "x", "gone"}) {
				t.Errorf("with an Ino of %d the names are %q", ino, names)
			}
			if head, tail := impl.TextOf(d, ino); len(impl.NamesOf(d, ino)) != 0 || head+tail != "" {
				t.Errorf("inode %d has names %q and texts %q, %q", ino, impl.NamesOf(d, ino), head, tail)
			}
			checkPaths(t, d, pathDiskPaths())
		}
	}
}

// An inode of no kind is led to, but through it leads nothing.
func TestPathsOverInodesOfNoKind(t *testing.T) {
	for _, kind := range []int{0, 1, 3, -1, 258, math.MinInt, math.MaxInt} {
		d := pathDisk()
		d.Inodes[3].Kind = kind
		if c, deeper := impl.WalkPath(d, "/a/c"), impl.WalkPath(d, "/a/c/d"); c != 4 || deeper != 0 {
			t.Errorf("over an inode of kind %d lead %d and %d", kind, c, deeper)
		}
		if names := impl.NamesOf(d, 4); len(names) != 0 {
			t.Errorf("an inode of kind %d has the names %q", kind, names)
		}
		d.Inodes[2].Kind = kind
		if head, tail := impl.TextOf(d, 3); (head == "head") != (kind == 1) || (tail == "0123456789abcdef") != (kind == 1) {
			t.Errorf("an inode of kind %d has the texts %q and %q", kind, head, tail)
		}
		checkPaths(t, d, pathDiskPaths())
	}
}

// Disks with fewer inodes, fewer blocks, none at all; and with more.
func TestPathsOfCutDisks(t *testing.T) {
	for inodes := range 9 {
		for blocks := range 17 {
			d := pathDisk()
			d.Inodes, d.Blocks = d.Inodes[:inodes], d.Blocks[:blocks]
			checkPaths(t, d, pathDiskPaths())
		}
	}
	if i := impl.WalkPath(impl.Disk{}, "/"); i != 0 {
		t.Errorf("a disk without inodes has the root %d", i)
	}
	d := pathDisk()
	d.Inodes = d.Inodes[:7]
	if i := impl.WalkPath(d, "/gone"); i != 0 {
		t.Errorf("of seven inodes the eighth one is led to: %d", i)
	}
	d.Blocks = d.Blocks[:1]
	if a, b := impl.WalkPath(d, "/a"), impl.WalkPath(d, "/b"); a != 2 || b != 0 {
		t.Errorf("of a disk with one block the names lead to %d and %d", a, b)
	}
	d.Blocks = nil
	if i := impl.WalkPath(d, "/"); i != 1 || impl.WalkPath(d, "/a") != 0 || len(impl.NamesOf(d, 1)) != 0 {
		t.Errorf("of a disk without blocks the root is %d with %q", i, impl.NamesOf(d, 1))
	}
}

// Inodes of other than two pointers, blocks of other than four slots, and both that are not what their kind says.
func TestPathsByOtherLengths(t *testing.T) {
	for n := range 10 {
		d := pathDisk()
		d.Inodes[0].Ptrs = slices.Repeat([]int{3, 1}, n)[:n]
		d.Inodes[2].Ptrs = slices.Repeat([]int{7, 8}, n)[:n]
		d.Blocks[2].Slots = slices.Repeat([]impl.Slot{slot("c", 4), slot("new", 8), slot("", 5), slot("new", 7)}, n)[:n]
		checkPaths(t, d, append(pathDiskPaths(), "/new", "/a/new"))
	}
	d := pathDisk()
	d.Blocks[0].Dir, d.Blocks[0].Text = false, "text of names"
	d.Blocks[6].Dir, d.Blocks[6].Slots = true, []impl.Slot{slot("a", 1)}
	d.Blocks[7].Text = strings.Repeat("long", 20)
	d.Blocks[1].Slots[1].Name = "not a name"
	checkPaths(t, d, pathDiskPaths())
}

func TestNamesAreTold(t *testing.T) {
	d := pathDisk()
	for i, want := range [][]string{
		nil,
		{"a", "f", "x", "b", "x", "gone"},
		{"c", "up"},
		nil,
		{"d"},
		{"e12345", "g", "e12345", "g"},
		nil, nil, nil, nil,
	} {
		if got := impl.NamesOf(d, i); !slices.Equal(got, want) {
			t.Errorf("NamesOf %d = %q, want %q", i, got, want)
		}
	}
	d.Inodes[7] = inode(2, 1, 0, 0)
	if got := impl.NamesOf(d, 8); len(got) != 0 {
		t.Errorf("NamesOf a directory without blocks = %q", got)
	}
	d.Inodes[7].Ptrs = []int{4, 7}
	if got := impl.NamesOf(d, 8); len(got) != 0 {
		t.Errorf("NamesOf a directory without names = %q", got)
	}
	full := usedDisk()
	full.Inodes[7].Ptrs = []int{16, 1}
	full.Blocks[0] = dirBlock(slot("z", 1), slot("y", 1), slot("0", 1), slot("abcdef", 1))
	if got, want := impl.NamesOf(full, 8), []string{"abcdef", "abcdeg", "abcdeh", "abcdei", "z", "y", "0", "abcdef"}; !slices.Equal(got, want) {
		t.Errorf("NamesOf a full directory = %q, want %q", got, want)
	}
}

func TestTextsAreTold(t *testing.T) {
	d := pathDisk()
	d.Inodes[7] = inode(1, 1, 10, 10)
	for i, want := range [][2]string{
		{}, {}, {},
		{"head", "0123456789abcdef"},
		{}, {},
		{"", "\x00\xff\n"},
		{"one", ""},
		{"one", "one"},
		{},
	} {
		if head, tail := impl.TextOf(d, i); head != want[0] || tail != want[1] {
			t.Errorf("TextOf %d = %q, %q, want %q", i, head, tail, want)
		}
	}
	for _, x := range []impl.Inode{inode(1, 1, 0, 0), inode(1, 1, 16, 11), inode(1, 1, 1, 2), inode(2, 1, 7, 8), inode(0, 0, 7, 8), inode(3, 0, 7, 8), inode(1, 1)} {
		d.Inodes[7] = x
		if head, tail := impl.TextOf(d, 8); head != "" || tail != "" {
			t.Errorf("TextOf %v = %q, %q", x, head, tail)
		}
	}
}

func TestNothingIsToldOfInodesThatAreNone(t *testing.T) {
	for _, d := range []impl.Disk{pathDisk(), fullDisk(), usedDisk(), {}} {
		d.Inodes = append(d.Inodes, slices.Repeat([]impl.Inode{inode(2, 1, 1, 8), inode(1, 1, 7, 8)}, 130)...)
		for _, i := range append(oddNumbers(), 0, -1, -2, -8, 9, 10, 11, 16, 17) {
			if i >= 1 && i <= 8 {
				continue
			}
			if names := impl.NamesOf(d, i); len(names) != 0 {
				t.Errorf("NamesOf %d = %q", i, names)
			}
			if head, tail := impl.TextOf(d, i); head != "" || tail != "" {
				t.Errorf("TextOf %d = %q, %q", i, head, tail)
			}
		}
	}
}

func TestPathsOfSampleDisks(t *testing.T) {
	paths := append(pathsOf(2, "a", "b", "abcdef", "new"), "/a/012345/a", "/a/last", "/a/last/a", "/neu", "", "a", "/a/")
	for _, d := range append(rightDisks(), wrongDisks()...) {
		checkPaths(t, d, paths)
	}
}

// drawnPathDisk has few names and many directories; of a wrong one some numbers are none.
func drawnPathDisk(draw func(n int) int, right bool) impl.Disk {
	d := impl.DiskNew()
	wide := 0
	if !right {
		wide = 2
	}
	for k := range d.Inodes {
		d.Inodes[k] = inode([]int{2, 1, 2, 2, 0}[draw(5)], 1, draw(8+wide), draw(8+wide)*(1+draw(1+wide)))
		if k == 0 {
			d.Inodes[k].Kind = 2
		}
		if d.Inodes[k].Kind == 0 && right {
			d.Inodes[k] = inode(0, 0, 0, 0)
		}
	}
	for k := range 8 {
		d.Blocks[k] = filled()
		for at, name := range []string{"a", "b", "c", "d"} {
			if draw(2) == 0 {
				d.Blocks[k].Slots[(at+k)%4] = slot(name, 1+draw(8+wide)-draw(1+wide))
			}
		}
		if draw(4) == 0 {
			d.Blocks[k] = textBlock(strings.Repeat(impl.Decimal(k), draw(8)))
		}
	}
	if !right && draw(3) == 0 {
		d.Inodes, d.Blocks = d.Inodes[:draw(9)], d.Blocks[:draw(17)]
	}
	return d
}

func drawer(seed uint32) func(n int) int {
	return func(n int) int {
		seed = seed*1664525 + 1013904223
		return int(seed>>16) % n
	}
}

func TestDrawnPaths(t *testing.T) {
	draw := drawer(11)
	paths, led := pathsOf(4, "a", "b", "c", "e"), 0
	for k := range 400 {
		d := drawnPathDisk(draw, k%2 == 0)
		if k%2 == 0 && !impl.DiskOk(d) {
			t.Fatalf("a drawn disk is not right: %v", d)
		}
		checkPaths(t, d, paths)
		for _, p := range paths[100:] {
			if impl.WalkPath(d, p) != 0 {
				led++
			}
		}
	}
	if led < 500 {
		t.Errorf("only %d deep paths lead somewhere", led)
	}
}

// leadsOn wants each path below this one to lead where the first slot of its name does, and no other one anywhere.
func leadsOn(t *testing.T, d impl.Disk, path string, deep int) int {
	t.Helper()
	i, paths := impl.WalkPath(d, path), 0
	from := strings.TrimSuffix(path, "/")
	names := impl.NamesOf(d, i)
	for _, name := range []string{"a", "b", "c", "d", "e"} {
		to, has := impl.WalkPath(d, from+"/"+name), slices.Contains(names, name)
		if (to != 0) != (has && deep < impl.MaxDeep) {
			t.Errorf("%q has %q, but %q leads to %d", path, names, name, to)
		}
		if to != 0 && deep < impl.MaxDeep {
			paths += 1 + leadsOn(t, d, from+"/"+name, deep+1)
		}
	}
	return paths
}

// The promise: paths lead where names do, on whatever right disk.
func TestPathsLeadWhereNamesDo(t *testing.T) {
	draw, paths := drawer(12), 0
	for range 200 {
		paths += leadsOn(t, drawnPathDisk(draw, true), "/", 0)
	}
	if paths < 2000 {
		t.Errorf("only %d paths lead somewhere", paths)
	}
}

// ownTexts is the disk with texts of its own, which no constant shares.
func ownTexts(d impl.Disk) impl.Disk {
	d = fromDisk(d)
	for p := range d.Blocks {
		d.Blocks[p].Text = strings.Clone(d.Blocks[p].Text)
		for k, s := range d.Blocks[p].Slots {
			d.Blocks[p].Slots[k].Name = strings.Clone(s.Name)
		}
	}
	return d
}

func textRooms(texts ...string) []room {
	var list []room
	for _, s := range texts {
		list = append(list, textRoom(s))
	}
	return list
}

func TestPathsAreNewMemory(t *testing.T) {
	for _, p := range []string{"/a", "/abcdef", "/a/b/c/d", "/a/a/a/a", "/zzzzzz/0"} {
		p = strings.Clone(p)
		one, _ := impl.SplitPath(p)
		other, _ := impl.SplitPath(p)
		if anyMeets(textRooms(one...), textRooms(p)) || anyMeets(textRooms(one...), textRooms(other...)) {
			t.Errorf("names of %q share memory with another text", p)
		}
		if listRoom(one).meets(listRoom(other)) {
			t.Errorf("two answers for %q share a list", p)
		}
		runtime.KeepAlive(p)
		runtime.KeepAlive(other)
	}
	for _, d := range []impl.Disk{ownTexts(pathDisk()), ownTexts(usedDisk()), ownTexts(fullDisk())} {
		texts := diskTexts(d)
		for i := range 10 {
			one, other := impl.NamesOf(d, i), impl.NamesOf(d, i)
			head, tail := impl.TextOf(d, i)
			if anyMeets(textRooms(one...), texts) || anyMeets(textRooms(head, tail), texts) || listRoom(one).meets(listRoom(other)) {
				t.Errorf("what is told of inode %d shares memory with another", i)
			}
			runtime.KeepAlive(other)
		}
		runtime.KeepAlive(d)
	}
}

// Whoever writes into an answer changes neither what was handed in nor the next answer.
func TestPathsThatAreSpoilt(t *testing.T) {
	d := pathDisk()
	for i := range 10 {
		names := impl.NamesOf(d, i)
		want := slices.Clone(names)
		for k := range names {
			names[k] = "spoilt"
		}
		_ = append(names, "spoilt")
		if got := impl.NamesOf(d, i); !slices.Equal(got, want) || !slowSameDisk(d, pathDisk()) {
			t.Errorf("behind a spoilt answer NamesOf %d = %q, want %q", i, got, want)
		}
	}
	names, _ := impl.SplitPath("/a/c")
	names[0], names[1] = "spoilt", "spoilt"
	if got, ok := impl.SplitPath("/a/c"); !ok || !slices.Equal(got, []string{"a", "c"}) {
		t.Errorf("behind a spoilt answer SplitPath = %q, %v", got, ok)
	}
	told := impl.NamesOf(d, 1)
	d.Blocks[0].Slots[0] = slot("spoilt", 8)
	if told[0] != "a" || impl.WalkPath(d, "/a") != 0 || impl.WalkPath(d, "/spoilt") != 8 {
		t.Errorf("names %q, told of a disk that is spoilt", told)
	}
}

// What stands in spare room behind the lists of a disk is neither told nor written into.
func TestRoomBehindPathsIsLeftAlone(t *testing.T) {
	d := pathDisk()
	ptrs, slots := append(d.Inodes[1].Ptrs, 1), append(d.Blocks[2].Slots, slot("behind", 3))
	inodes, blocks := append(d.Inodes[:7:7], inode(2, 1, 1, 1)), append(d.Blocks[:15:15], filled(slot("behind", 3)))
	inodes[0].Ptrs = []int{16, 2}
	d.Inodes, d.Blocks = inodes[:7], blocks[:15]
	d.Inodes[1].Ptrs, d.Blocks[2].Slots = ptrs[:2], slots[:4]
	for _, p := range []string{"/behind", "/a/behind", "/a/f", "/gone"} {
		if i := impl.WalkPath(d, p); i != 0 {
			t.Errorf("WalkPath of %q = %d", p, i)
		}
	}
	checkPaths(t, d, pathDiskPaths())
	if ptrs[2] != 1 || slots[4] != slot("behind", 3) || !sameInode(inodes[7], inode(2, 1, 1, 1)) || !sameBlock(blocks[15], filled(slot("behind", 3))) {
		t.Error("spare room behind a disk was written into")
	}
}

// What a memory's disk names can be walked to while it is not written yet, and what is on the disk only when it is.
func TestPathsOfWhatIsWritten(t *testing.T) {
	m := madeMem()
	name := impl.NamesOf(m.Disk, 1)
	if len(name) != 1 || impl.WalkPath(m.Disk, "/"+name[0]) != 2 {
		t.Fatalf("a made file has the names %q", name)
	}
	v := slowDevice(impl.DiskNew())
	for round := range 4 {
		for u := range 21 {
			v.Units[u], _ = impl.ImageUnit(m, u)
			m = impl.Done(m, u)
			d, ok := impl.DiskOf(v)
			if i := impl.WalkPath(d, "/"+name[0]); !ok || i != 0 && d.Inodes[i-1].Kind != impl.KindFile {
				t.Errorf("in round %d behind unit %d the name leads to %d of %v", round, u, i, d)
			}
		}
	}
	if d, _ := impl.DiskOf(v); !impl.Settled(m) || impl.WalkPath(d, "/"+name[0]) != 2 {
		t.Errorf("when all is written the names are %q", impl.NamesOf(d, 1))
	}
}
