package tests

import (
	"slices"
	"strings"
	"testing"

	"loop.example/g00235/impl"
)

// The signatures and the struct that the document gives.
var (
	_ func() impl.Bits               = impl.BitsNew
	_ func(impl.Bits) bool           = impl.BitsOk
	_ func(impl.Bits) (string, bool) = impl.BitsText
	_ func(string) (impl.Bits, bool) = impl.ReadBits
	_ func([]bool) int               = impl.FirstFree

	_ struct {
		Blocks []bool
		Inos   []bool
	} = impl.Bits{}
)

func sameBits(a, b impl.Bits) bool {
	return slices.Equal(a.Blocks, b.Blocks) && slices.Equal(a.Inos, b.Inos)
}

// flags is a list of n flags of which these are true.
func flags(n int, used ...int) []bool {
	list := make([]bool, n)
	for _, k := range used {
		list[k] = true
	}
	return list
}

func allFlags(n int) []bool { return slices.Repeat([]bool{true}, n) }

func bitsOf(blocks, inos []bool) impl.Bits { return impl.Bits{Blocks: blocks, Inos: inos} }

// slowBits adds up what each place counts, as the document's words do.
func slowBits(b impl.Bits) string {
	text := ""
	for _, list := range [][]bool{b.Blocks[:8], b.Blocks[8:], b.Inos} {
		sum, counts := 0, 1
		for _, used := range list {
			if used {
				sum += counts
			}
			counts *= 2
		}
		text += string([]byte{byte(sum)})
	}
	return text
}

// slowReadBits divides each byte by 2, eight times.
func slowReadBits(s string) impl.Bits {
	var all []bool
	for _, c := range []byte(s) {
		for range 8 {
			all = append(all, c%2 == 1)
			c /= 2
		}
	}
	return bitsOf(slices.Clone(all[:16]), slices.Clone(all[16:]))
}

// checkBits holds right bits against the document, and wants them back.
func checkBits(t *testing.T, b impl.Bits) {
	t.Helper()
	if !impl.BitsOk(b) {
		t.Errorf("BitsOk(%v) is false", b)
	}
	s, ok := impl.BitsText(b)
	if want := slowBits(b); !ok || s != want {
		t.Errorf("BitsText(%v) = %q, %v, want %q", b, s, ok, want)
	}
	if back, read := impl.ReadBits(s); !read || !sameBits(back, b) {
		t.Errorf("%v comes back as %v, %v", b, back, read)
	}
}

func wantNoBits(t *testing.T, b impl.Bits) {
	t.Helper()
	if impl.BitsOk(b) {
		t.Errorf("BitsOk of %d and %d is true", len(b.Blocks), len(b.Inos))
	}
	if s, ok := impl.BitsText(b); ok || s != "" {
		t.Errorf("BitsText of %d and %d = %q, %v, want a refusal", len(b.Blocks), len(b.Inos), s, ok)
	}
}

func checkBitsText(t *testing.T, s string) {
	t.Helper()
	b, ok := impl.ReadBits(s)
	if want := slowReadBits(s); !ok || !sameBits(b, want) {
		t.Errorf("ReadBits(%q) = %v, %v, want %v", s, b, ok, want)
	}
	if back, wrote := impl.BitsText(b); !wrote || back != s {
		t.Errorf("%q is written back as %q, %v", s, back, wrote)
	}
}

func wantNoBitsText(t *testing.T, s string) {
	t.Helper()
	if b, ok := impl.ReadBits(s); ok || !sameBits(b, impl.Bits{}) {
		t.Errorf("ReadBits(%q) = %v, %v, want a refusal", s, b, ok)
	}
}

func TestBitsNew(t *testing.T) {
	b := impl.BitsNew()
	if !sameBits(b, bitsOf(flags(16), flags(8, 0))) {
		t.Errorf("BitsNew() = %v", b)
	}
	checkBits(t, b)
	if impl.FirstFree(b.Blocks) != 1 || impl.FirstFree(b.Inos) != 2 {
		t.Error("of new bits block 1 and inode 2 are the first that are free")
	}
}

func TestBitsKnown(t *testing.T) {
	for _, c := range []struct {
		b    impl.Bits
		text string
	}{
		{impl.BitsNew(), "\x00\x00\x01"},
		{bitsOf(flags(16), flags(8)), "\x00\x00\x00"},
		{bitsOf(allFlags(16), allFlags(8)), "\xff\xff\xff"},
		{bitsOf(allFlags(16), flags(8)), "\xff\xff\x00"},
		{bitsOf(flags(16), allFlags(8)), "\x00\x00\xff"},
		{bitsOf(flags(16, 0), flags(8)), "\x01\x00\x00"},
		{bitsOf(flags(16, 7), flags(8)), "\x80\x00\x00"},
		{bitsOf(flags(16, 8), flags(8)), "\x00\x01\x00"},
		{bitsOf(flags(16, 15), flags(8)), "\x00\x80\x00"},
		{bitsOf(flags(16), flags(8, 7)), "\x00\x00\x80"},
		{bitsOf(flags(16, 0, 1, 9), flags(8, 0, 2)), "\x03\x02\x05"},
	} {
		if s, ok := impl.BitsText(c.b); !ok || s != c.text || !impl.BitsOk(c.b) {
			t.Errorf("BitsText(%v) = %q, %v, want %q", c.b, s, ok, c.text)
		}
		if b, ok := impl.ReadBits(c.text); !ok || !sameBits(b, c.b) {
			t.Errorf("ReadBits(%q) = %v, %v, want %v", c.text, b, ok, c.b)
		}
	}
}

// One of each used, one of each free, and every two beside each other.
func TestBitsComeBack(t *testing.T) {
	for p := range 16 {
		for i := range 8 {
			checkBits(t, bitsOf(flags(16, p), flags(8, i)))
			blocks, inos := allFlags(16), allFlags(8)
			blocks[p], inos[i] = false, false
			checkBits(t, bitsOf(blocks, inos))
			checkBits(t, bitsOf(flags(16, p, (p+1)%16), flags(8, i, (i+1)%8)))
		}
	}
	// What the first inode is makes bits neither right nor wrong.
	checkBits(t, bitsOf(flags(16), flags(8)))
	checkBits(t, bitsOf(allFlags(16), allFlags(8)))
}

func TestBitsOfOtherLengths(t *testing.T) {
	wantNoBits(t, impl.Bits{})
	lengths := []int{0, 1, 2, 7, 8, 9, 15, 16, 17, 23, 24, 25, 32, 255, 256, 264, 272, 1 << 16}
	for _, p := range lengths {
		for _, i := range lengths {
			if p == 16 && i == 8 {
				continue
			}
			wantNoBits(t, bitsOf(flags(p), flags(i)))
			wantNoBits(t, bitsOf(allFlags(p), allFlags(i)))
		}
	}
	for _, b := range []impl.Bits{
		bitsOf(nil, flags(8)), bitsOf(flags(16), nil), bitsOf([]bool{}, []bool{}), bitsOf(flags(8), flags(16)),
		bitsOf(make([]bool, 15, 16), flags(8)), bitsOf(flags(16), make([]bool, 7, 8)), bitsOf(make([]bool, 0, 16), make([]bool, 0, 8)),
	} {
		wantNoBits(t, b)
	}
	// Spare room behind a list is none of it.
	room := allFlags(40)
	checkBits(t, bitsOf(room[:16], room[20:28]))
}

// Each of the three bytes turned in every way.
func TestReadBitsEachByte(t *testing.T) {
	for _, s := range []string{"\x00\x00\x00", "\x00\x00\x01", "\xff\xff\xff", "\x03\x02\x05", "\x80\x01\xfe", "\xaa\x55\xaa"} {
		for at := range 3 {
			for c := range 256 {
				text := []byte(s)
				text[at] = byte(c)
				checkBitsText(t, string(text))
			}
		}
	}
}

// No two texts are read as the same bits.
func TestReadBitsTellsTextsApart(t *testing.T) {
	seen := map[[24]bool]string{}
	some := []byte{0, 1, 2, 3, 4, 8, 16, 32, 64, 127, 128, 129, 170, 254, 255}
	for _, x := range some {
		for _, y := range some {
			for _, z := range some {
				s := string([]byte{x, y, z})
				checkBitsText(t, s)
				b, _ := impl.ReadBits(s)
				key := [24]bool(append(slices.Clone(b.Blocks), b.Inos...))
				if other, twice := seen[key]; twice {
					t.Errorf("%q and %q are read as the same bits", other, s)
				}
				seen[key] = s
			}
		}
	}
}

func TestReadBitsRefusesOtherLengths(t *testing.T) {
	for n := range 600 {
		if n == 3 {
			continue
		}
		for _, c := range []string{"\x00", "\x01", "\xff", "0"} {
			wantNoBitsText(t, strings.Repeat(c, n))
		}
	}
	for _, s := range []string{"\x00\x01", "\x00\x00\x01\x00", "\x00\x00\x00\x01", "\x00\x00\x00\x00\x00\x01", strings.Repeat("\x00", 259), strings.Repeat("\x00", 1<<16+3)} {
		wantNoBitsText(t, s)
	}
	for _, s := range someTexts() {
		if len(s) != 3 {
			wantNoBitsText(t, s)
		}
	}
}

func TestFirstFreeKnown(t *testing.T) {
	for _, c := range []struct {
		list []bool
		want int
	}{
		{nil, 0}, {[]bool{}, 0}, {[]bool{true}, 0}, {[]bool{false}, 1},
		{[]bool{false, true}, 1}, {[]bool{false, false}, 1}, {[]bool{true, false}, 2}, {[]bool{true, true}, 0},
		{[]bool{true, false, false}, 2}, {[]bool{true, false, true}, 2}, {[]bool{true, true, false}, 3},
		{[]bool{true, true, true, false, true, false}, 4},
		{append(allFlags(300), false), 301}, {append(allFlags(70000), false, false), 70001}, {allFlags(70000), 0},
		{make([]bool, 0, 5), 0}, {allFlags(5)[:3], 0}, {append(allFlags(4), false)[:4], 0},
	} {
		if got := impl.FirstFree(c.list); got != c.want {
			t.Errorf("FirstFree of %d = %d, want %d", len(c.list), got, c.want)
		}
	}
}

// Lists of every length and every flags, up to twelve, and each place of longer ones.
func TestFirstFreeEach(t *testing.T) {
	for n := range 13 {
		for code := range 1 << n {
			list, want := make([]bool, n), 0
			for k := n - 1; k >= 0; k-- {
				list[k] = code>>k&1 == 1
				if !list[k] {
					want = k + 1
				}
			}
			if got := impl.FirstFree(list); got != want {
				t.Errorf("FirstFree(%v) = %d, want %d", list, got, want)
			}
		}
	}
	for n := 1; n <= 40; n++ {
		for k := range n {
			list := allFlags(n)
			list[k] = false
			if got := impl.FirstFree(list); got != k+1 {
				t.Errorf("FirstFree of %d with %d free = %d", n, k+1, got)
			}
			// What is free behind the first one changes nothing.
			for j := k; j < n; j++ {
				list[j] = false
			}
			if got := impl.FirstFree(list); got != k+1 {
				t.Errorf("FirstFree of %d with all from %d on free = %d", n, k+1, got)
			}
		}
	}
}

func TestBitsAreNotWrittenInto(t *testing.T) {
	for _, p := range []int{0, 15, 16, 17} {
		for _, i := range []int{0, 7, 8, 9} {
			blocks, inos := flags(20, 0, 3, 15, 16, 19), flags(12, 1, 7, 9)
			b := bitsOf(blocks[:p], inos[:i])
			impl.BitsOk(b)
			impl.BitsText(b)
			impl.FirstFree(b.Blocks)
			impl.FirstFree(b.Inos)
			if !slices.Equal(blocks, flags(20, 0, 3, 15, 16, 19)) || !slices.Equal(inos, flags(12, 1, 7, 9)) {
				t.Errorf("an argument of %d and %d was written into", p, i)
			}
		}
	}
}

// spoilBits turns every flag of a list, and of the spare room behind it.
func spoilBits(list []bool) {
	room := list[:cap(list)]
	for k := range room {
		room[k] = !room[k]
	}
}

// Lists of one answer share nothing, nor do those of two.
func TestBitsAreNewMemory(t *testing.T) {
	read := func() impl.Bits {
		b, _ := impl.ReadBits("\x03\x02\x05")
		return b
	}
	for _, c := range []struct {
		made func() impl.Bits
		want impl.Bits
	}{
		{impl.BitsNew, bitsOf(flags(16), flags(8, 0))},
		{read, bitsOf(flags(16, 0, 1, 9), flags(8, 0, 2))},
	} {
		made, want := c.made, c.want
		one, other := made(), made()
		spoilBits(one.Blocks)
		if !slices.Equal(one.Inos, want.Inos) {
			t.Error("the lists of one answer share memory")
		}
		spoilBits(one.Inos)
		if !sameBits(other, want) || !sameBits(made(), want) {
			t.Errorf("answers share memory: %v, %v", other, made())
		}
		spoilBits(other.Inos)
		if !slices.Equal(other.Blocks, want.Blocks) {
			t.Error("the lists of one answer share memory")
		}
	}
}

// A text that was written stays as it is when its bits are changed.
func TestBitsTextKeepsNothing(t *testing.T) {
	b := bitsOf(flags(16, 0, 1, 9), flags(8, 0, 2))
	s, ok := impl.BitsText(b)
	spoilBits(b.Blocks)
	spoilBits(b.Inos)
	if !ok || s != "\x03\x02\x05" {
		t.Errorf("a text changed to %q", s)
	}
}
