package tests

import (
	"math"
	"slices"
	"testing"

	"loop.example/g00235/impl"
)

// The signatures and the struct that the document gives.
var (
	_ func(int) impl.Inode            = impl.InodeNew
	_ func(impl.Inode) bool           = impl.InodeOk
	_ func(impl.Inode) (string, bool) = impl.InodeText
	_ func(string) (impl.Inode, bool) = impl.ReadInode

	_ struct {
		Kind  int
		Links int
		Ptrs  []int
	} = impl.Inode{}
)

func TestInodeConstants(t *testing.T) {
	if impl.MaxInos != 8 || impl.MaxBlocks != 16 || impl.Ptrs != 2 {
		t.Error("a limit is not the document's")
	}
	if impl.KindNone != 0 || impl.KindFile != 1 || impl.KindDir != 2 {
		t.Error("a kind is not the document's")
	}
	// Constants without a type of their own fit every kind of number.
	var b byte = impl.KindDir
	var f float64 = impl.MaxBlocks
	if b != 2 || f != 16 {
		t.Error("a constant has a type of its own")
	}
}

func inode(kind, links int, ptrs ...int) impl.Inode {
	return impl.Inode{Kind: kind, Links: links, Ptrs: ptrs}
}

func sameInode(a, b impl.Inode) bool {
	return a.Kind == b.Kind && a.Links == b.Links && slices.Equal(a.Ptrs, b.Ptrs)
}

// rightInode goes field by field, as the document's words do.
func rightInode(x impl.Inode) bool {
	if x.Kind != 0 && x.Kind != 1 && x.Kind != 2 || x.Links < 0 || x.Links > 200 || len(x.Ptrs) != 2 {
		return false
	}
	for _, p := range x.Ptrs {
		if p < 0 || p > 16 {
			return false
		}
	}
	return x.Kind != 0 || x.Links == 0 && x.Ptrs[0] == 0 && x.Ptrs[1] == 0
}

func TestInodeNew(t *testing.T) {
	for _, c := range []struct {
		kind, links int
		right       bool
	}{
		{impl.KindNone, 0, true}, {impl.KindFile, 1, true}, {impl.KindDir, 1, true},
		{3, 1, false}, {-1, 1, false}, {256, 1, false}, {257, 1, false}, {math.MinInt, 1, false}, {math.MaxInt, 1, false},
	} {
		x := impl.InodeNew(c.kind)
		if !sameInode(x, inode(c.kind, c.links, 0, 0)) {
			t.Errorf("InodeNew(%d) = %v", c.kind, x)
		}
		if impl.InodeOk(x) != c.right {
			t.Errorf("InodeOk(InodeNew(%d)) = %v", c.kind, !c.right)
		}
	}
}

// checkInode holds one inode, right or not, against the document.
func checkInode(t *testing.T, x impl.Inode) {
	t.Helper()
	right := rightInode(x)
	if impl.InodeOk(x) != right {
		t.Errorf("InodeOk(%v) = %v", x, !right)
	}
	s, ok := impl.InodeText(x)
	want := ""
	if right {
		want = string([]byte{byte(x.Kind), byte(x.Links), byte(x.Ptrs[0]), byte(x.Ptrs[1])})
	}
	if ok != right || s != want {
		t.Errorf("InodeText(%v) = %q, %v, want %q, %v", x, s, ok, want, right)
	}
	if !ok {
		return
	}
	if back, read := impl.ReadInode(s); !read || !sameInode(back, x) {
		t.Errorf("%v is read back as %v, %v", x, back, read)
	}
}

func TestInodesKnown(t *testing.T) {
	for _, c := range []struct {
		x    impl.Inode
		text string
	}{
		{inode(impl.KindNone, 0, 0, 0), "\x00\x00\x00\x00"},
		{inode(impl.KindFile, 0, 0, 0), "\x01\x00\x00\x00"},
		{inode(impl.KindFile, 2, 3, 0), "\x01\x02\x03\x00"},
		{inode(impl.KindFile, 200, 16, 16), "\x01\xc8\x10\x10"},
		{inode(impl.KindDir, 0, 0, 0), "\x02\x00\x00\x00"},
		{inode(impl.KindDir, 1, 0, 7), "\x02\x01\x00\x07"},
		{inode(impl.KindDir, 200, 1, 16), "\x02\xc8\x01\x10"},
	} {
		if s, ok := impl.InodeText(c.x); !ok || s != c.text || !impl.InodeOk(c.x) {
			t.Errorf("InodeText(%v) = %q, %v", c.x, s, ok)
		}
		if x, ok := impl.ReadInode(c.text); !ok || !sameInode(x, c.x) {
			t.Errorf("ReadInode(%q) = %v, %v", c.text, x, ok)
		}
	}
}

func wantNoInode(t *testing.T, x impl.Inode) {
	t.Helper()
	if impl.InodeOk(x) {
		t.Errorf("InodeOk(%v) is true", x)
	}
	if s, ok := impl.InodeText(x); ok || s != "" {
		t.Errorf("InodeText(%v) = %q, %v, want a refusal", x, s, ok)
	}
}

func TestInodesRefused(t *testing.T) {
	for _, x := range []impl.Inode{
		{}, // the zero value has no pointers
		inode(-1, 0, 0, 0), inode(3, 0, 0, 0), inode(3, 1, 1, 1), inode(256, 0, 0, 0), inode(257, 1, 0, 0),
		inode(1, -1, 0, 0), inode(1, 201, 0, 0), inode(2, 201, 0, 0), inode(1, 256, 0, 0), inode(2, math.MinInt, 0, 0),
		inode(1, 1, -1, 0), inode(1, 1, 0, -1), inode(1, 1, 17, 0), inode(2, 1, 0, 17), inode(2, 1, 256, 0), inode(2, 1, 0, 257),
		inode(0, 1, 0, 0), inode(0, 200, 0, 0), inode(0, 0, 1, 0), inode(0, 0, 0, 1), inode(0, 0, 16, 16), inode(0, 1, 1, 1),
		inode(0, -1, 0, 0), inode(0, 256, 0, 0), inode(0, 0, 0, 256), inode(0, 0, -1, 0),
	} {
		wantNoInode(t, x)
	}
}

func TestInodePointerLists(t *testing.T) {
	for kind := range 3 {
		for _, list := range [][]int{nil, {}, {0}, {1}, {0, 0, 0}, {1, 2, 3}, {1, 2, 0}, {0, 0, 0, 0}, make([]int, 1000), make([]int, 0, 2), make([]int, 1, 2)} {
			wantNoInode(t, inode(kind, 0, list...))
			wantNoInode(t, inode(kind, 1, list...))
		}
		// Spare room behind a list is none of it.
		if spare := []int{0, 0, 99, -1}; !impl.InodeOk(inode(kind, 0, spare[:2]...)) {
			t.Errorf("kind %d: a list with spare room is refused", kind)
		}
	}
}

func TestInodeEdges(t *testing.T) {
	kinds := []int{math.MinInt, -256, -255, -2, -1, 0, 1, 2, 3, 4, 255, 256, 257, 258, 1 << 32, math.MaxInt}
	links := []int{math.MinInt, -256, -201, -1, 0, 1, 2, 199, 200, 201, 255, 256, 257, 1 << 32, math.MaxInt}
	ptrs := []int{math.MinInt, -256, -16, -1, 0, 1, 2, 15, 16, 17, 255, 256, 257, 1 << 32, math.MaxInt}
	for _, kind := range kinds {
		for _, n := range links {
			for _, p := range ptrs {
				for _, q := range ptrs {
					checkInode(t, inode(kind, n, p, q))
				}
			}
		}
	}
}

// Every right inode comes back, and no two have the same bytes.
func TestInodesComeBack(t *testing.T) {
	seen := map[string]impl.Inode{}
	for kind := range 3 {
		for links := range 201 {
			for p := range impl.MaxBlocks + 1 {
				for q := range impl.MaxBlocks + 1 {
					x := inode(kind, links, p, q)
					checkInode(t, x)
					s, ok := impl.InodeText(x)
					if other, twice := seen[s]; ok && twice {
						t.Fatalf("%v and %v are both %q", other, x, s)
					}
					if ok {
						seen[s] = x
					}
				}
			}
		}
	}
	if want := 1 + 2*201*17*17; len(seen) != want {
		t.Errorf("%d inodes have bytes, want %d", len(seen), want)
	}
}

func checkText(t *testing.T, s string) {
	t.Helper()
	var want impl.Inode
	if len(s) == 4 {
		want = inode(int(s[0]), int(s[1]), int(s[2]), int(s[3]))
	}
	right := rightInode(want)
	if !right {
		want = impl.Inode{}
	}
	x, ok := impl.ReadInode(s)
	if ok != right || !sameInode(x, want) {
		t.Errorf("ReadInode(%q) = %v, %v, want %v, %v", s, x, ok, want, right)
	}
	if !ok {
		return
	}
	if back, wrote := impl.InodeText(x); !wrote || back != s {
		t.Errorf("%q is written back as %q, %v", s, back, wrote)
	}
}

func TestReadInodeEachByte(t *testing.T) {
	for _, s := range []string{"\x00\x00\x00\x00", "\x01\x00\x00\x00", "\x01\x01\x03\x00", "\x01\xc8\x10\x10", "\x02\x01\x00\x00", "\x02\x02\x10\x01", "\x02\xc8\x00\x0f"} {
		if _, ok := impl.ReadInode(s); !ok {
			t.Errorf("ReadInode(%q) is false", s)
		}
		for i := range len(s) {
			for c := range 256 {
				b := []byte(s)
				b[i] = byte(c)
				checkText(t, string(b))
			}
		}
	}
}

func TestReadInodeEdges(t *testing.T) {
	bytes := []byte{0, 1, 2, 3, 15, 16, 17, 18, 127, 128, 199, 200, 201, 202, 254, 255}
	for _, a := range bytes {
		for _, b := range bytes {
			for _, c := range bytes {
				for _, d := range bytes {
					checkText(t, string([]byte{a, b, c, d}))
				}
			}
		}
	}
}

func TestReadInodeRefusesOtherLengths(t *testing.T) {
	texts := append(someTexts(), "\x01\x02\x03\x00\x01\x02\x03\x00", "\x00\x00\x00\x00\x00\x00\x00\x00")
	for _, s := range []string{"\x00\x00\x00\x00", "\x01\x02\x03\x00", "\x02\x01\x10\x10"} {
		for k := range len(s) {
			texts = append(texts, s[:k], s[k+1:])
		}
		for _, more := range []string{"\x00", "\x01", "\x10", "\x00\x00"} {
			texts = append(texts, s+more, more+s)
		}
	}
	for _, s := range texts {
		if x, ok := impl.ReadInode(s); len(s) != 4 && (ok || !sameInode(x, impl.Inode{})) {
			t.Errorf("ReadInode(%q) = %v, %v, want a refusal", s, x, ok)
		}
		checkText(t, s)
	}
}

func TestInodesAreNotWrittenInto(t *testing.T) {
	for _, full := range [][]int{{3, 4, 98, 99}, {0, 0, 98, 99}, {17, -1, 98, 99}} {
		for n := range len(full) + 1 {
			for kind := -1; kind < 4; kind++ {
				room := slices.Clone(full)
				x := inode(kind, 5, room[:n]...)
				impl.InodeOk(x)
				impl.InodeText(x)
				if !slices.Equal(room, full) || x.Kind != kind || x.Links != 5 || len(x.Ptrs) != n {
					t.Errorf("an argument was written into: %v, %v", room, x)
				}
			}
		}
	}
}

// Lists of two answers share nothing: what is written into one is not seen in another.
func TestInodesAreNewMemory(t *testing.T) {
	spoil := func(x impl.Inode) {
		for k := range x.Ptrs {
			x.Ptrs[k] = 77
		}
		room := x.Ptrs[:cap(x.Ptrs)]
		for k := range room {
			room[k] = 78
		}
	}
	for kind := range 3 {
		one, other := impl.InodeNew(kind), impl.InodeNew(kind)
		spoil(one)
		again := impl.InodeNew(kind)
		if !slices.Equal(other.Ptrs, []int{0, 0}) || !slices.Equal(again.Ptrs, []int{0, 0}) {
			t.Errorf("kind %d: new inodes share pointers: %v, %v", kind, other, again)
		}
	}
	const text = "\x01\x02\x03\x04"
	one, _ := impl.ReadInode(text)
	other, _ := impl.ReadInode(text)
	spoil(one)
	again, _ := impl.ReadInode(text)
	if !slices.Equal(other.Ptrs, []int{3, 4}) || !slices.Equal(again.Ptrs, []int{3, 4}) {
		t.Errorf("inodes that were read share pointers: %v, %v", other, again)
	}
}

// A text that was written stays as it is when its inode is changed.
func TestInodeTextKeepsNothing(t *testing.T) {
	x := inode(impl.KindFile, 2, 3, 4)
	s, ok := impl.InodeText(x)
	x.Ptrs[0], x.Ptrs[1] = 9, 9
	if !ok || s != "\x01\x02\x03\x04" {
		t.Errorf("a text changed to %q", s)
	}
}
