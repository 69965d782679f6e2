package tests

import (
	"bytes"
	"math"
	"strings"
	"sync"
	"testing"

	"loop.example/g00105/impl"
)

// sumByBits is SumMore as the chapter tells it, a bit at a time.
func sumByBits(sum uint32, text string) uint32 {
	for _, b := range []byte(text) {
		sum ^= uint32(b)
		for range 8 {
			odd := sum%2 == 1
			sum /= 2
			if odd {
				sum ^= 3558460437
			}
		}
	}
	return sum
}

var someSums = []uint32{0, 1, 2, 127, 128, 255, 256, 65535, 65536, 1 << 31, 3558460437, math.MaxUint32 - 1, math.MaxUint32}

// sealedByHand seals texts of every length, also those that Sealed refuses.
func sealedByHand(text string) string {
	s := sumByBits(math.MaxUint32, text)
	return text + string([]byte{byte(s >> 24), byte(s >> 16), byte(s >> 8), byte(s)})
}

func mustSeal(t *testing.T, text string) string {
	t.Helper()
	sealed, ok := impl.Sealed(text)
	if !ok {
		t.Fatalf("Sealed of %d bytes is false", len(text))
	}
	return sealed
}

func refusesToUnseal(t *testing.T, what, text string) {
	t.Helper()
	if inner, ok := impl.Unsealed(text); inner != "" || ok {
		t.Errorf("%s: Unsealed of %d bytes = %d bytes, %v", what, len(text), len(inner), ok)
	}
}

func TestSumOfWrittenOut(t *testing.T) {
	for _, c := range []struct {
		sum  uint32
		text string
		want uint32
	}{
		{0, "", 0},
		{math.MaxUint32, "", math.MaxUint32},
		{0, "\x00", 0},
		{0, "\x80", 3558460437},
		{128, "\x80", 0},
		{256, "\x00", 1},
		{math.MaxUint32, "\xff", 16777215},
		// The seventh halving drops the bit, and leaves an odd sum to the eighth.
		{0, "\x40", 3558460437/2 ^ 3558460437},
	} {
		if got := impl.SumMore(c.sum, c.text); got != c.want {
			t.Errorf("SumMore(%d, %q) = %d, not %d", c.sum, c.text, got, c.want)
		}
	}
	if got := impl.SumOf(""); got != 4294967295 {
		t.Errorf("SumOf of nothing = %d", got)
	}
}

func TestSumMoreOfEachByte(t *testing.T) {
	for _, sum := range someSums {
		if got := impl.SumMore(sum, ""); got != sum {
			t.Errorf("SumMore(%d, \"\") = %d", sum, got)
		}
		for b := range 256 {
			text := string([]byte{byte(b)})
			if got, want := impl.SumMore(sum, text), sumByBits(sum, text); got != want {
				t.Errorf("SumMore(%d, %q) = %d, not %d", sum, text, got, want)
			}
		}
	}
}

func TestSumsOfLongerTexts(t *testing.T) {
	texts := []string{"ab", "ba", "abc", "123456789", "a\x00b", "\xff\xfe", "käse", strings.Repeat("\x00", 64), strings.Repeat("\xff", 64)}
	for _, size := range []int{2, 3, 4, 5, 63, 64, 65, 1000, impl.MaxText - 1, impl.MaxText, impl.MaxText + 1, 3 * impl.MaxText} {
		texts = append(texts, someBytes(size))
	}
	for _, text := range texts {
		for _, sum := range someSums {
			if got, want := impl.SumMore(sum, text), sumByBits(sum, text); got != want {
				t.Errorf("SumMore of %d and %d bytes = %d, not %d", sum, len(text), got, want)
			}
		}
		if got, want := impl.SumOf(text), sumByBits(math.MaxUint32, text); got != want {
			t.Errorf("SumOf of %d bytes = %d, not %d", len(text), got, want)
		}
	}
}

func TestSumMoreGoesOnWhereSumOfStopped(t *testing.T) {
	for _, whole := range []string{"", "a", "abc", someBytes(300)} {
		for cut := range len(whole) + 1 {
			if got, want := impl.SumMore(impl.SumOf(whole[:cut]), whole[cut:]), impl.SumOf(whole); got != want {
				t.Errorf("%d bytes cut at %d: %d, not %d", len(whole), cut, got, want)
			}
			for _, sum := range someSums {
				if got, want := impl.SumMore(impl.SumMore(sum, whole[:cut]), whole[cut:]), impl.SumMore(sum, whole); got != want {
					t.Errorf("%d bytes cut at %d, from %d: %d, not %d", len(whole), cut, sum, got, want)
				}
			}
		}
	}
	long := someBytes(2 * impl.MaxText)
	if got, want := impl.SumMore(impl.SumOf(long[:impl.MaxText]), long[impl.MaxText:]), impl.SumOf(long); got != want {
		t.Errorf("two texts of MaxText bytes: %d, not %d", got, want)
	}
}

func TestSumsAskedAtOnce(t *testing.T) {
	text := someBytes(200)
	got := make([]uint32, 16)
	var all sync.WaitGroup
	for i := range got {
		all.Go(func() { got[i] = impl.SumMore(uint32(i), text) })
	}
	all.Wait()
	for i, sum := range got {
		if want := sumByBits(uint32(i), text); sum != want {
			t.Errorf("SumMore(%d, ..) beside others = %d, not %d", i, sum, want)
		}
	}
}

func TestSealedIsTextAndSum(t *testing.T) {
	if got := mustSeal(t, ""); got != "\xff\xff\xff\xff" {
		t.Errorf("Sealed of nothing = %q", got)
	}
	for _, size := range []int{0, 1, 2, 3, 4, 5, 64, 1000, impl.MaxText - 1, impl.MaxText} {
		text := someBytes(size)
		sealed := mustSeal(t, text)
		if sealed != sealedByHand(text) {
			t.Errorf("Sealed of %d bytes is not the text and its sum, the highest byte first", size)
		}
		if inner, ok := impl.Unsealed(sealed); inner != text || !ok {
			t.Errorf("Unsealed of Sealed of %d bytes = %d bytes, %v", size, len(inner), ok)
		}
	}
}

func TestSealedRefuses(t *testing.T) {
	for _, size := range []int{impl.MaxText + 1, impl.MaxText + 4, 2 * impl.MaxText} {
		if sealed, ok := impl.Sealed(someBytes(size)); sealed != "" || ok {
			t.Errorf("Sealed of %d bytes = %d bytes, %v", size, len(sealed), ok)
		}
	}
}

func TestSealedTwiceIsUnsealedTwice(t *testing.T) {
	outer := mustSeal(t, mustSeal(t, "abc"))
	inner, ok := impl.Unsealed(outer)
	if inner != mustSeal(t, "abc") || !ok {
		t.Fatalf("Unsealed once = %q, %v", inner, ok)
	}
	if inner, ok = impl.Unsealed(inner); inner != "abc" || !ok {
		t.Errorf("Unsealed twice = %q, %v", inner, ok)
	}
}

func TestUnsealedOfFourBytes(t *testing.T) {
	if inner, ok := impl.Unsealed("\xff\xff\xff\xff"); inner != "" || !ok {
		t.Errorf("Unsealed of the four bytes alone = %q, %v", inner, ok)
	}
	for _, text := range []string{"", "\xff", "\xff\xff", "\xff\xff\xff", "\x00", "abc", "\x00\x00\x00\x00", "abcd", "\xff\xff\xff\xfe", "\x7f\xff\xff\xff"} {
		refusesToUnseal(t, "no sum", text)
	}
}

func TestUnsealedRefusesWhatSealedNeverMakes(t *testing.T) {
	for _, more := range []int{1, 2, 4, impl.MaxText} {
		refusesToUnseal(t, "too long a text, rightly sealed", sealedByHand(someBytes(impl.MaxText+more)))
	}
}

func TestUnsealedRefusesOneByteTurned(t *testing.T) {
	for _, text := range []string{"", "a", "abc", "\x00\x00\x00\x00", someBytes(64)} {
		sealed := mustSeal(t, text)
		for at := range len(sealed) {
			turned := []byte(sealed)
			for turn := 1; turn < 256; turn++ {
				turned[at] = sealed[at] ^ byte(turn)
				refusesToUnseal(t, "a byte turned", string(turned))
			}
		}
	}
	longest := mustSeal(t, someBytes(impl.MaxText))
	for at := 0; at < len(longest); at += 97 {
		turned := []byte(longest)
		turned[at] ^= byte(at%255 + 1)
		refusesToUnseal(t, "a byte turned", string(turned))
	}
	for at := impl.MaxText; at < len(longest); at++ {
		turned := []byte(longest)
		turned[at] ^= 1
		refusesToUnseal(t, "a byte of the sum turned", string(turned))
	}
}

func TestUnsealedRefusesLowestFirst(t *testing.T) {
	for _, text := range []string{"a", "abc", "123456789", someBytes(64), someBytes(impl.MaxText)} {
		sealed := mustSeal(t, text)
		size := len(text)
		lowestFirst := sealed[:size] + string([]byte{sealed[size+3], sealed[size+2], sealed[size+1], sealed[size]})
		if lowestFirst == sealed {
			t.Fatalf("the sum of %d bytes reads the same from both ends", size)
		}
		refusesToUnseal(t, "the lowest byte first", lowestFirst)
	}
}

func TestUnsealedRefusesCutOffOrMore(t *testing.T) {
	for _, text := range []string{"a", "abc", someBytes(64), someBytes(500)} {
		sealed := mustSeal(t, text)
		for size := range len(sealed) {
			refusesToUnseal(t, "cut off at the end", sealed[:size])
			refusesToUnseal(t, "cut off ahead", sealed[len(sealed)-size:])
		}
		for b := range 256 {
			more := string([]byte{byte(b)})
			refusesToUnseal(t, "a byte more behind", sealed+more)
			refusesToUnseal(t, "a byte more ahead", more+sealed)
			refusesToUnseal(t, "a byte more between", text+more+sealed[len(text):])
		}
		refusesToUnseal(t, "the text alone", text)
	}
	longest := mustSeal(t, someBytes(impl.MaxText))
	refusesToUnseal(t, "cut off", longest[:len(longest)-1])
	refusesToUnseal(t, "a byte more", longest+"\x00")
}

func TestSumsShareNoMemory(t *testing.T) {
	text := string(bytes.Repeat([]byte("ab"), 20))
	sealed := mustSeal(t, text)
	if within(sealed, text) {
		t.Error("Sealed answers in the memory of its argument")
	}
	if inner, _ := impl.Unsealed(sealed); within(inner, sealed) {
		t.Error("Unsealed answers a piece of its argument")
	}
}
