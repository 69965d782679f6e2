package tests

import (
	"math"
	"slices"
	"strings"
	"testing"
	"unsafe"

	"loop.example/g00105/impl"
)

// someBytes is every byte, over and over, up to the size.
func someBytes(size int) string {
	out := make([]byte, size)
	for i := range out {
		out[i] = byte(i * 7)
	}
	return string(out)
}

func TestVarTextBytes(t *testing.T) {
	for _, c := range []struct {
		n    int
		text string
		ok   bool
	}{
		{0, "\x00", true},
		{1, "\x01", true},
		{127, "\x7f", true},
		{128, "\x80\x01", true},
		{129, "\x81\x01", true},
		{300, "\xac\x02", true},
		{16383, "\xff\x7f", true},
		{16384, "\x80\x80\x01", true},
		{2097151, "\xff\xff\x7f", true},
		{2097152, "\x80\x80\x80\x01", true},
		{268435455, "\xff\xff\xff\x7f", true},
		{268435456, "\x80\x80\x80\x80\x01", true},
		{impl.MaxNumber, "\x80\x94\xeb\xdc\x03", true},
		{impl.MaxNumber + 1, "", false},
		{-1, "", false},
		{math.MinInt, "", false},
		{math.MaxInt, "", false},
	} {
		if text, ok := impl.VarText(c.n); text != c.text || ok != c.ok {
			t.Errorf("VarText(%d) = %q, %v", c.n, text, ok)
		}
	}
}

func TestVarTextIsReadBack(t *testing.T) {
	check := func(n int) {
		text, ok := impl.VarText(n)
		if !ok {
			t.Fatalf("VarText(%d) is false", n)
		}
		for _, ahead := range []string{"", "\x00", "\xff\x80\x01"} {
			for _, behind := range []string{"", "\x00", "\x80", "\xff"} {
				m, at, ok := impl.ReadVar(ahead+text+behind, len(ahead))
				if m != n || at != len(ahead)+len(text) || !ok {
					t.Fatalf("ReadVar of %d = %d, %d, %v", n, m, at, ok)
				}
			}
		}
	}
	for n := range 70000 {
		check(n)
	}
	for n := 1; n < impl.MaxNumber; n = n*3/2 + 1 {
		check(n)
	}
	for step := range 1000 {
		check(impl.MaxNumber - step*step)
	}
}

func TestReadVarRefuses(t *testing.T) {
	for _, c := range []struct {
		text string
		at   int
	}{
		{"", 0},
		{"", 1},
		{"", -1},
		{"\x05", -1},
		{"\x05", 1},
		{"\x05", 2},
		{"\x05", math.MaxInt},
		{"\x05", math.MinInt},
		{"\x80", 0},                              // cut off
		{"\x05\xff", 1},                          // cut off
		{"\x80\x80\x80\x80", 0},                  // cut off
		{"\x80\x00", 0},                          // a longer form of 0
		{"\xff\x00", 0},                          // of 127
		{"\xac\x82\x00", 0},                      // of 300
		{"\x80\x94\xeb\xdc\x83\x00", 0},          // of MaxNumber
		{"\x81\x94\xeb\xdc\x03", 0},              // MaxNumber + 1
		{"\xff\xff\xff\xff\x7f", 0},              // five bytes, too great
		{"\x80\x80\x80\x80\x80\x01", 0},          // six bytes
		{strings.Repeat("\x80", 9) + "\x01", 0},  // wraps round to nought, or below it
		{strings.Repeat("\x80", 10) + "\x01", 0}, // the same
		{strings.Repeat("\x80", 9000), 0},
		{strings.Repeat("\xff", 9000) + "\x00", 0},
	} {
		if n, at, ok := impl.ReadVar(c.text, c.at); n != 0 || at != 0 || ok {
			t.Errorf("ReadVar(%.20q, %d) = %d, %d, %v", c.text, c.at, n, at, ok)
		}
	}
}

// Of all texts of two bytes just those are read that VarText writes, at each of their places.
func TestReadVarOfAllTwoBytes(t *testing.T) {
	written := map[string]int{}
	for n := range 16384 {
		text, _ := impl.VarText(n)
		written[text] = n
	}
	for i := range 65536 {
		text := string([]byte{byte(i / 256), byte(i % 256)})
		for at := range 3 {
			wantN, wantAt, wantOk := 0, 0, false
			for end := at + 1; end <= len(text); end++ {
				if n, ok := written[text[at:end]]; ok {
					wantN, wantAt, wantOk = n, end, true
				}
			}
			if n, behind, ok := impl.ReadVar(text, at); n != wantN || behind != wantAt || ok != wantOk {
				t.Fatalf("ReadVar(%q, %d) = %d, %d, %v", text, at, n, behind, ok)
			}
		}
	}
}

func TestShortTextIsReadBack(t *testing.T) {
	for _, size := range []int{0, 1, 2, 127, 128, 129, 300, impl.MaxText - 1, impl.MaxText} {
		s := someBytes(size)
		text, ok := impl.ShortText(s)
		head, _ := impl.VarText(size)
		if text != head+s || !ok {
			t.Fatalf("ShortText of %d bytes is wrong", size)
		}
		for _, ahead := range []string{"", "\x00", "\x80abc"} {
			for _, behind := range []string{"", "\x00", "\xff", "more"} {
				back, at, ok := impl.ReadShort(ahead+text+behind, len(ahead))
				if back != s || at != len(ahead)+len(text) || !ok {
					t.Fatalf("ReadShort of %d bytes: %d bytes, %d, %v", size, len(back), at, ok)
				}
			}
		}
	}
	if text, ok := impl.ShortText("ab"); text != "\x02ab" || !ok {
		t.Errorf("ShortText(ab) = %q, %v", text, ok)
	}
}

func TestShortTextRefuses(t *testing.T) {
	for _, size := range []int{impl.MaxText + 1, impl.MaxText + 128, 3 * impl.MaxText} {
		if text, ok := impl.ShortText(someBytes(size)); text != "" || ok {
			t.Errorf("ShortText of %d bytes: %d bytes, %v", size, len(text), ok)
		}
	}
}

func TestReadShortRefuses(t *testing.T) {
	tooLong, _ := impl.VarText(impl.MaxText + 1)
	greatest, _ := impl.VarText(impl.MaxNumber)
	full, _ := impl.ShortText(someBytes(impl.MaxText))
	for _, c := range []struct {
		text string
		at   int
	}{
		{"", 0},
		{"", 1},
		{"\x00", 1},
		{"\x00", 2},
		{"\x00", -1},
		{"\x02ab", 3},
		{"\x02ab", math.MaxInt},
		{"\x02ab", math.MinInt},
		{"\x01", 0},
		{"\x02a", 0},     // shorter than its length says
		{"xx\x05abc", 2}, // the same, behind others
		{"\x80", 0},
		{"\x80\x00", 0},   // a longer form of the length
		{"\x81\x00a", 0},  // the same
		{"\x82\x00ab", 0}, // the same
		{full[:len(full)-1], 0},
		{tooLong + someBytes(impl.MaxText+1), 0},
		{greatest + "abc", 0},
		{"\xff\xff\xff\xff\x7fabc", 0},
	} {
		if s, at, ok := impl.ReadShort(c.text, c.at); s != "" || at != 0 || ok {
			t.Errorf("ReadShort(%.20q, %d) = %.20q, %d, %v", c.text, c.at, s, at, ok)
		}
	}
}

func TestHexIsReadBack(t *testing.T) {
	for _, c := range []struct{ text, hex string }{
		{"", ""},
		{"\x00", "00"},
		{"\x0f", "0f"},
		{"\xf0", "f0"},
		{"\x9a\xff", "9aff"},
		{"Az 09", "417a203039"},
	} {
		if hex, ok := impl.Hex(c.text); hex != c.hex || !ok {
			t.Errorf("Hex(%q) = %q, %v", c.text, hex, ok)
		}
		if text, ok := impl.Unhex(c.hex); text != c.text || !ok {
			t.Errorf("Unhex(%q) = %q, %v", c.hex, text, ok)
		}
	}
	for _, size := range []int{1, 2, 255, 256, 257, impl.MaxText} {
		text := someBytes(size)
		hex, ok := impl.Hex(text)
		back, right := impl.Unhex(hex)
		if !ok || !right || len(hex) != 2*size || back != text {
			t.Errorf("%d bytes do not come back from hex", size)
		}
	}
}

func TestHexRefuses(t *testing.T) {
	if hex, ok := impl.Hex(someBytes(impl.MaxText + 1)); hex != "" || ok {
		t.Errorf("Hex of one byte too many: %d figures, %v", len(hex), ok)
	}
	for _, text := range []string{
		"0", "000", "0g", "g0", "0A", "A0", "FF", " 0", "0 ", "00 ", "-1", "+1", "0x", "0_", "00ff0",
		"00\x00\x00", "\xff\xff", "4142zz", "é0",
		strings.Repeat("0", 2*impl.MaxText-1) + "g",
		strings.Repeat("0", 2*impl.MaxText-1),
		strings.Repeat("0", 2*impl.MaxText+1),
		strings.Repeat("0", 2*impl.MaxText+2),
	} {
		if back, ok := impl.Unhex(text); back != "" || ok {
			t.Errorf("Unhex(%.20q) = %.20q, %v", text, back, ok)
		}
	}
}

// Of all pairs of bytes just those are unhexed that Hex writes.
func TestUnhexOfAllPairs(t *testing.T) {
	written := map[string]string{}
	for b := range 256 {
		text := string([]byte{byte(b)})
		hex, _ := impl.Hex(text)
		written[hex] = text
	}
	if len(written) != 256 {
		t.Fatalf("only %d figures", len(written))
	}
	for i := range 65536 {
		hex := string([]byte{byte(i / 256), byte(i % 256)})
		text, ok := written[hex]
		if back, right := impl.Unhex(hex); back != text || right != ok {
			t.Fatalf("Unhex(%q) = %q, %v", hex, back, right)
		}
	}
}

func TestDecimal(t *testing.T) {
	for _, c := range []struct {
		n    int
		text string
	}{
		{0, "0"},
		{7, "7"},
		{10, "10"},
		{-1, "-1"},
		{-10, "-10"},
		{-5, "-5"},
		{105, "105"},
		{impl.MaxNumber, "1000000000"},
		{impl.MaxNumber + 1, "1000000001"},
		{math.MaxInt, "9223372036854775807"},
		{math.MinInt, "-9223372036854775808"},
		{math.MinInt + 1, "-9223372036854775807"},
	} {
		if text := impl.Decimal(c.n); text != c.text {
			t.Errorf("Decimal(%d) = %q", c.n, text)
		}
	}
}

func TestDecimalIsReadBack(t *testing.T) {
	check := func(n int) {
		if back, ok := impl.ReadDecimal(impl.Decimal(n)); back != n || !ok {
			t.Fatalf("ReadDecimal of %d = %d, %v", n, back, ok)
		}
	}
	for n := range 20000 {
		check(n)
	}
	for n := 1; n < impl.MaxNumber; n = n*3/2 + 1 {
		check(n)
	}
	check(impl.MaxNumber - 1)
	check(impl.MaxNumber)
}

func TestReadDecimalRefuses(t *testing.T) {
	for _, text := range []string{
		"", " ", "-", "+", "-0", "-1", "+1", "00", "01", "007", "0000000000", "00000000000",
		" 1", "1 ", "1 2", "1\n", "1.0", "1e3", "0x1", "1_0", "a", "f", "1a", "a1", "\x00", "1\xff",
		"/", ":", "\u0661", "\uff11",
		"1000000001", "9999999999", "01000000000", "10000000000",
		"9223372036854775807", "9223372036854775808", "18446744073709551616", "18446744073709551617",
		strings.Repeat("9", 9000), strings.Repeat("0", 9000) + "1",
	} {
		if n, ok := impl.ReadDecimal(text); n != 0 || ok {
			t.Errorf("ReadDecimal(%.30q) = %d, %v", text, n, ok)
		}
	}
}

func TestPartsOf(t *testing.T) {
	word := strings.Repeat("w", impl.MaxWords)
	var greatest []string
	for range impl.MaxParts {
		greatest = append(greatest, strings.Repeat("~", impl.MaxWords/impl.MaxParts-1))
	}
	for _, c := range []struct {
		line  string
		parts []string
	}{
		{"", nil},
		{" ", nil},
		{strings.Repeat(" ", impl.MaxWords), nil},
		{"a", []string{"a"}},
		{" join  1 ", []string{"join", "1"}},
		{"a b", []string{"a", "b"}},
		{"   a    b", []string{"a", "b"}},
		{"a b   ", []string{"a", "b"}},
		{"! ~ \x7e\x21", []string{"!", "~", "~!"}},
		{"1 2 3 4 5 6 7", []string{"1", "2", "3", "4", "5", "6", "7"}},
		{"1 2 3 4 5 6 7 8", []string{"1", "2", "3", "4", "5", "6", "7", "8"}},
		{"  8 7 6 5  4 3 2 1  ", []string{"8", "7", "6", "5", "4", "3", "2", "1"}},
		{word, []string{word}},
		{word[1:] + " ", []string{word[1:]}},
		{strings.Join(greatest, " ") + " ", greatest},
	} {
		if parts, ok := impl.PartsOf(c.line); !ok || !slices.Equal(parts, c.parts) {
			t.Errorf("PartsOf(%.30q) = %.60q, %v", c.line, parts, ok)
		}
	}
}

func TestPartsOfRefuses(t *testing.T) {
	for _, line := range []string{
		"1 2 3 4 5 6 7 8 9",
		"1 2 3 4 5 6 7 8 9 10",
		strings.Repeat("a ", impl.MaxWords/2),
		strings.Repeat("a", impl.MaxWords+1),
		strings.Repeat(" ", impl.MaxWords+1),
		"a" + strings.Repeat(" ", impl.MaxWords),
		strings.Repeat("a", 9000),
	} {
		if parts, ok := impl.PartsOf(line); len(parts) != 0 || ok {
			t.Errorf("PartsOf(%.30q) = %.60q, %v", line, parts, ok)
		}
	}
}

func TestPartsOfEachByte(t *testing.T) {
	for b := range 256 {
		line := string([]byte{'x', byte(b), 'y'})
		want := []string{line}
		if b == ' ' {
			want = []string{"x", "y"}
		}
		right := b >= 32 && b <= 126
		if !right {
			want = nil
		}
		for _, around := range []string{"", " "} {
			parts, ok := impl.PartsOf(around + line + around)
			if ok != right || !slices.Equal(parts, want) {
				t.Errorf("PartsOf(%q) = %q, %v", line, parts, ok)
			}
		}
		parts, ok := impl.PartsOf(string([]byte{byte(b)}))
		if ok != right || (len(parts) == 1) != (right && b != ' ') {
			t.Errorf("PartsOf of the byte %d alone = %q, %v", b, parts, ok)
		}
	}
}

// What a caller does to an answer is not seen in the next one.
func TestPartsOfAnswersAnew(t *testing.T) {
	first, _ := impl.PartsOf("a b")
	first[0] = "z"
	again, ok := impl.PartsOf("a b")
	if !ok || !slices.Equal(again, []string{"a", "b"}) {
		t.Errorf("PartsOf(a b) = %q, %v", again, ok)
	}
}

// within tells whether the bytes of the piece stand in the memory of the whole.
func within(piece string, whole string) bool {
	if piece == "" || whole == "" {
		return false
	}
	from := uintptr(unsafe.Pointer(unsafe.StringData(whole)))
	at := uintptr(unsafe.Pointer(unsafe.StringData(piece)))
	return at >= from && at < from+uintptr(len(whole))
}

func TestWordsShareNoMemory(t *testing.T) {
	text := "\x05hello"
	if s, _, _ := impl.ReadShort(text, 0); within(s, text) {
		t.Error("ReadShort answers a piece of its argument")
	}
	for _, line := range []string{"hello", "hello there"} {
		parts, _ := impl.PartsOf(line)
		for _, part := range parts {
			if within(part, line) {
				t.Error("PartsOf answers a piece of its argument")
			}
		}
	}
}
