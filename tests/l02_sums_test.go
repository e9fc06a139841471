package tests

import (
	"strings"
	"testing"
	"unsafe"

	"loop.example/g00235/impl"
)

// The signatures that the document gives.
var (
	_ func(uint32, string) uint32 = impl.SumMore
	_ func(string) uint32         = impl.SumOf
	_ func(string) (string, bool) = impl.Sealed
	_ func(string) (string, bool) = impl.Unsealed
)

// slowSum goes bit by bit, as the document's words do.
func slowSum(sum uint32, text string) uint32 {
	for _, c := range []byte(text) {
		sum ^= uint32(c)
		for range 8 {
			odd := sum%2 == 1
			sum /= 2
			if odd {
				sum ^= 3558460437
			}
		}
	}
	return sum
}

var someSums = []uint32{0, 1, 2, 127, 128, 255, 256, 0x01020304, 0x7fffffff, 0x80000000, 0xdeadbeef, 3558460437, 4294967294, 4294967295}

func TestSumsKnown(t *testing.T) {
	for _, c := range []struct {
		text      string
		of, more0 uint32
	}{
		{"", 4294967295, 0},
		{"\x00", 2175125468, 0},
		{"a", 2675860630, 517710666},
		{"abc", 2815232641, 157603473},
		{"123456789", 2026809993, 2518010058},
		{allBytes(), 2660958145, 368623690},
		{strings.Repeat("x", impl.MaxText), 2468554020, 611971911},
	} {
		if of := impl.SumOf(c.text); of != c.of {
			t.Errorf("SumOf of %d bytes = %d, want %d", len(c.text), of, c.of)
		}
		if more := impl.SumMore(0, c.text); more != c.more0 {
			t.Errorf("SumMore of 0 and %d bytes = %d, want %d", len(c.text), more, c.more0)
		}
	}
	if impl.SumMore(0, "\x80") != 3558460437 {
		t.Error("the bits of a byte are taken in the wrong order")
	}
}

func TestSumMoreOfEachByte(t *testing.T) {
	for _, sum := range someSums {
		for c := range 256 {
			text := string([]byte{byte(c)})
			if got := impl.SumMore(sum, text); got != slowSum(sum, text) {
				t.Errorf("SumMore(%d, %q) = %d", sum, text, got)
			}
		}
	}
}

func TestSumsOfTexts(t *testing.T) {
	// A sum knows no limit of length.
	texts := append(someTexts(), "ab", "ba", strings.Repeat("q", impl.MaxText+1), strings.Repeat(allBytes(), 200))
	for _, text := range texts {
		for _, sum := range someSums {
			if got := impl.SumMore(sum, text); got != slowSum(sum, text) {
				t.Errorf("SumMore of %d and %d bytes = %d", sum, len(text), got)
			}
		}
		if got := impl.SumOf(text); got != slowSum(4294967295, text) {
			t.Errorf("SumOf of %d bytes = %d", len(text), got)
		}
	}
}

func TestSumMoreGoesOn(t *testing.T) {
	text := "what is written goes on " + allBytes()
	for k := range len(text) + 1 {
		if impl.SumMore(impl.SumOf(text[:k]), text[k:]) != impl.SumOf(text) {
			t.Errorf("a sum gone on at %d is another one", k)
		}
		for _, sum := range someSums {
			if impl.SumMore(impl.SumMore(sum, text[:k]), text[k:]) != impl.SumMore(sum, text) {
				t.Errorf("a sum of %d gone on at %d is another one", sum, k)
			}
		}
	}
	for _, sum := range someSums {
		if impl.SumMore(sum, "") != sum {
			t.Errorf("%d and no bytes is another sum", sum)
		}
	}
}

func TestSealedBytes(t *testing.T) {
	for _, text := range someTexts() {
		sum := slowSum(4294967295, text)
		want := text + string([]byte{byte(sum >> 24), byte(sum >> 16), byte(sum >> 8), byte(sum)})
		if s, ok := impl.Sealed(text); !ok || s != want {
			t.Errorf("Sealed of %d bytes: %d bytes, %v", len(text), len(s), ok)
		}
	}
	if s, ok := impl.Sealed(""); !ok || s != "\xff\xff\xff\xff" {
		t.Errorf("Sealed of nothing = %q, %v", s, ok)
	}
	if s, ok := impl.Sealed("abc"); !ok || s != "abc\xa7\xcd\x0a\x81" {
		t.Errorf("Sealed of abc = %q, %v", s, ok)
	}
}

func TestSealedReadsBack(t *testing.T) {
	for _, text := range append(someTexts(), "ab", "abc", "\xff\xff\xff\xff", "abc\xa7\xcd\x0a\x81") {
		s, ok := impl.Sealed(text)
		if back, right := impl.Unsealed(s); !ok || !right || back != text {
			t.Errorf("%d bytes are read back as %d bytes, %v, %v", len(text), len(back), ok, right)
		}
	}
}

func wantNoSeal(t *testing.T, text string) {
	t.Helper()
	if s, ok := impl.Unsealed(text); ok || s != "" {
		t.Errorf("Unsealed of %d bytes = %d bytes, %v, want a refusal", len(text), len(s), ok)
	}
}

func TestSealsRefuseTooMuch(t *testing.T) {
	for _, n := range []int{impl.MaxText + 1, impl.MaxText + 4, 2 * impl.MaxText} {
		text := strings.Repeat("s", n)
		if s, ok := impl.Sealed(text); ok || s != "" {
			t.Errorf("Sealed of %d bytes: %d bytes, %v", n, len(s), ok)
		}
		// The right sum behind a text that may not be sealed.
		sum := slowSum(4294967295, text)
		wantNoSeal(t, text+string([]byte{byte(sum >> 24), byte(sum >> 16), byte(sum >> 8), byte(sum)}))
	}
}

func TestUnsealedRefusesShortTexts(t *testing.T) {
	for _, text := range []string{"", "a", "\xff", "\xff\xff", "abc", "\xff\xff\xff", "\x00\x00\x00"} {
		wantNoSeal(t, text)
	}
	for _, text := range []string{"abcd", "\x00\x00\x00\x00", "\xff\xff\xff\xfe", "\xfe\xff\xff\xff", "\xff\xff\xff\xff\xff"} {
		wantNoSeal(t, text)
	}
}

func TestUnsealedRefusesTurnedBytes(t *testing.T) {
	for _, text := range []string{"", "\x00", "a", "abc", "\xff\xff\xff\xff", "make /a", allBytes()} {
		s, _ := impl.Sealed(text)
		for i := range len(s) {
			for turn := 1; turn < 256; turn++ {
				b := []byte(s)
				b[i] ^= byte(turn)
				wantNoSeal(t, string(b))
			}
		}
	}
}

func TestUnsealedRefusesTurnedBytesOfLongTexts(t *testing.T) {
	long := strings.Repeat("long\x00\xff", impl.MaxText/6)
	s, _ := impl.Sealed(long)
	for _, i := range []int{0, 1, 4095, 10000, len(long) - 1, len(long), len(long) + 1, len(long) + 2, len(long) + 3} {
		for turn := 1; turn < 256; turn++ {
			b := []byte(s)
			b[i] ^= byte(turn)
			wantNoSeal(t, string(b))
		}
	}
}

func TestUnsealedRefusesOtherForms(t *testing.T) {
	for _, text := range []string{"abc", "make /a", allBytes()} {
		s, _ := impl.Sealed(text)
		for k := range len(s) {
			wantNoSeal(t, s[:k])
		}
		n := len(text)
		lowFirst := string([]byte{s[n+3], s[n+2], s[n+1], s[n]})
		wantNoSeal(t, text+lowFirst)
		wantNoSeal(t, s[n:]+text)
		wantNoSeal(t, s+"\x00")
		wantNoSeal(t, "\x00"+s)
	}
}

func TestUnsealedIsNewMemory(t *testing.T) {
	s, _ := impl.Sealed("new memory")
	u, ok := impl.Unsealed(s)
	if !ok || unsafe.StringData(u) == unsafe.StringData(s) {
		t.Error("what is unsealed lies in what was sealed")
	}
}
