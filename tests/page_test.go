package tests

import (
	"math"
	"slices"
	"strings"
	"testing"

	"loop.example/g00105/impl"
)

func leafOf(items ...impl.Item) impl.Page {
	return impl.Page{Kind: impl.PageLeaf, Items: items}
}

func innerOf(items ...impl.Item) impl.Page {
	return impl.Page{Kind: impl.PageInner, Items: items}
}

func samePage(a, b impl.Page) bool {
	return a.Kind == b.Kind && slices.Equal(a.Items, b.Items)
}

func mustPage(t *testing.T, p impl.Page) string {
	t.Helper()
	text, ok := impl.PageText(p)
	if !ok {
		t.Fatalf("PageText(%+v) is false", p)
	}
	return text
}

func refusesPage(t *testing.T, what string, p impl.Page) {
	t.Helper()
	if text, ok := impl.PageText(p); ok || text != "" {
		t.Errorf("%s: PageText = %q, %v", what, text, ok)
	}
}

func refusesToRead(t *testing.T, what, text string) {
	t.Helper()
	if p, ok := impl.ReadPage(text); ok || p.Kind != 0 || len(p.Items) != 0 {
		t.Errorf("%s: ReadPage(%q) = %+v, %v", what, text, p, ok)
	}
}

// manyLeaves has a leaf of as many Items as have room: three bytes each.
func manyLeaves() impl.Page {
	p := leafOf()
	for i := range impl.PageRoom / 3 {
		p.Items = append(p.Items, impl.Item{Key: string([]byte{byte(i * 15)})})
	}
	return p
}

// rightPages has pages with their bytes ahead of the seal.
func rightPages() map[string]impl.Page {
	key := someBytes(20)
	return map[string]impl.Page{
		"\x01\x01\x01a\x02xy":                         leafOf(impl.Item{Key: "a", Value: "xy"}),
		"\x01\x01\x01a\x00":                           leafOf(impl.Item{Key: "a"}),
		"\x01\x01\x01\x00\x01\x00":                    leafOf(impl.Item{Key: "\x00", Value: "\x00"}),
		"\x01\x02\x01a\x00\x01b\x00":                  leafOf(impl.Item{Key: "a"}, impl.Item{Key: "b"}),
		"\x01\x03\x01a\x011\x02ab\x00\x01b\x023\xff":  leafOf(impl.Item{Key: "a", Value: "1"}, impl.Item{Key: "ab"}, impl.Item{Key: "b", Value: "3\xff"}),
		"\x01\x02\x04key0\x01v\x04key1\x01v":          leafOf(impl.Item{Key: "key0", Value: "v"}, impl.Item{Key: "key1", Value: "v"}),
		"\x01\x02\x03abc\x00\x04abc\x00\x00":          leafOf(impl.Item{Key: "abc"}, impl.Item{Key: "abc\x00"}),
		"\x01\x02\x01\x7f\x00\x01\x80\x00":            leafOf(impl.Item{Key: "\x7f"}, impl.Item{Key: "\x80"}),
		"\x01\x02\x02ab\x00\x01b\x00":                 leafOf(impl.Item{Key: "ab"}, impl.Item{Key: "b"}),
		"\x01\x01\x14" + key + "\x20" + someBytes(32): leafOf(impl.Item{Key: key, Value: someBytes(32)}),
		"\x02\x01\x01a\x00":                           innerOf(impl.Item{Key: "a"}),
		"\x02\x01\x01a\x07":                           innerOf(impl.Item{Key: "a", Page: 7}),
		"\x02\x01\x01a\x7f":                           innerOf(impl.Item{Key: "a", Page: 127}),
		"\x02\x01\x01a\x80\x01":                       innerOf(impl.Item{Key: "a", Page: 128}),
		"\x02\x01\x01a\x8f\x03":                       innerOf(impl.Item{Key: "a", Page: impl.MaxSectors - 1}),
		"\x02\x03\x01a\x05\x02ab\x05\x01b\xac\x02":    innerOf(impl.Item{Key: "a", Page: 5}, impl.Item{Key: "ab", Page: 5}, impl.Item{Key: "b", Page: 300}),
		"\x02\x02\x04key0\x01\x04key1\x00":            innerOf(impl.Item{Key: "key0", Page: 1}, impl.Item{Key: "key1"}),
	}
}

func TestPageTextBytes(t *testing.T) {
	for inner, p := range rightPages() {
		if text := mustPage(t, p); text != sealedByHand(inner) {
			t.Errorf("PageText(%+v) = %q", p, text)
		}
	}
}

func TestPagesComeBack(t *testing.T) {
	pages := rightPages()
	pages["as many as have room"] = manyLeaves()
	for _, p := range pages {
		text := mustPage(t, p)
		if back, ok := impl.ReadPage(text); !ok || !samePage(back, p) {
			t.Errorf("ReadPage(%q) = %+v, %v, not %+v", text, back, ok, p)
		}
	}
}

func TestEachPageOfAnInnerPageComesBack(t *testing.T) {
	for n := range impl.MaxSectors {
		p := innerOf(impl.Item{Key: "a", Page: n}, impl.Item{Key: "b", Page: impl.MaxSectors - 1 - n})
		if back, ok := impl.ReadPage(mustPage(t, p)); !ok || !samePage(back, p) {
			t.Errorf("an inner page with the sector %d comes back as %+v, %v", n, back, ok)
		}
	}
}

func TestPagesFitIntoSectors(t *testing.T) {
	for _, p := range []impl.Page{manyLeaves(), leafOf(impl.Item{Key: "a", Value: someBytes(impl.PageRoom - 3)})} {
		if text := mustPage(t, p); len(text) != impl.PageRoom+6 || len(text) > impl.SectorSize {
			t.Errorf("a full page has %d bytes", len(text))
		}
	}
}

func TestPageWithOneByteTurnedIsNone(t *testing.T) {
	pages := rightPages()
	pages["as many as have room"] = manyLeaves()
	for _, p := range pages {
		text := mustPage(t, p)
		for at := range len(text) {
			turned := []byte(text)
			for turn := 1; turn < 256; turn++ {
				turned[at] = text[at] ^ byte(turn)
				refusesToRead(t, "a byte turned", string(turned))
			}
		}
	}
}

func TestPageCutOffOrWithMoreIsNone(t *testing.T) {
	for inner, p := range rightPages() {
		text := mustPage(t, p)
		for size := range len(text) {
			refusesToRead(t, "cut off at the end", text[:size])
			refusesToRead(t, "cut off ahead", text[len(text)-size:])
		}
		refusesToRead(t, "a byte more behind", text+"\x00")
		refusesToRead(t, "a byte more ahead", "\x00"+text)
		refusesToRead(t, "twice", text+text)
		refusesToRead(t, "not sealed", inner)
		refusesToRead(t, "sealed twice", sealedByHand(text))
		// Sealed anew, so that the reader itself has to see it.
		for size := range len(inner) {
			refusesToRead(t, "cut off, sealed anew", sealedByHand(inner[:size]))
		}
		for b := range 256 {
			refusesToRead(t, "a byte behind the last Item", sealedByHand(inner+string([]byte{byte(b)})))
		}
		refusesToRead(t, "an Item more than is told", sealedByHand(inner+"\x03zzz\x00"))
	}
}

// sumOfSizes is the bytes of a page's Items: its text without the Kind, the number of Items and the seal.
func sumOfSizes(p impl.Page) int {
	sum := 0
	for _, x := range p.Items {
		sum += impl.ItemSize(p.Kind, x)
	}
	return sum
}

func TestItemSizesAreTheBytesOfThePage(t *testing.T) {
	pages := rightPages()
	pages["as many as have room"] = manyLeaves()
	for _, p := range pages {
		if text := mustPage(t, p); sumOfSizes(p) != len(text)-6 {
			t.Errorf("the ItemSizes of %+v come to %d, its text has %d bytes", p, sumOfSizes(p), len(text))
		}
	}
}

func TestItemSize(t *testing.T) {
	long := someBytes(300)
	for _, c := range []struct {
		kind int
		x    impl.Item
		size int
	}{
		{impl.PageLeaf, impl.Item{}, 2},
		{impl.PageLeaf, impl.Item{Key: "ab", Value: "xyz"}, 7},
		{impl.PageLeaf, impl.Item{Key: "ab", Value: "xyz", Page: 300}, 7},
		{impl.PageLeaf, impl.Item{Key: someBytes(127), Value: someBytes(128)}, 258},
		{impl.PageLeaf, impl.Item{Key: long, Value: long}, 604},
		{impl.PageLeaf, impl.Item{Key: someBytes(impl.MaxText), Value: someBytes(impl.MaxText)}, 2*impl.MaxText + 4},
		{impl.PageInner, impl.Item{}, 2},
		{impl.PageInner, impl.Item{Key: "ab", Page: 127}, 4},
		{impl.PageInner, impl.Item{Key: "ab", Page: 128}, 5},
		{impl.PageInner, impl.Item{Key: "ab", Page: 300}, 5},
		{impl.PageInner, impl.Item{Key: "ab", Value: "xyz", Page: 300}, 5},
		{impl.PageInner, impl.Item{Key: "ab", Page: impl.MaxNumber}, 8},
		{impl.PageInner, impl.Item{Key: long, Page: 1}, 303},
	} {
		if size := impl.ItemSize(c.kind, c.x); size != c.size {
			t.Errorf("ItemSize(%d, an Item of %d, %d, %d) = %d, not %d", c.kind, len(c.x.Key), len(c.x.Value), c.x.Page, size, c.size)
		}
	}
	for _, kind := range wrongKinds() {
		for _, x := range []impl.Item{{}, {Key: "a", Value: "b"}, {Key: "a", Page: 7}, {Key: long}} {
			if size := impl.ItemSize(kind, x); size != 0 {
				t.Errorf("ItemSize(%d, ..) = %d", kind, size)
			}
		}
	}
}

// An Item past what a short text may be is not thought to be a small one.
func TestItemSizeOfItemsThatAreTooGreat(t *testing.T) {
	for _, size := range []int{impl.PageRoom, impl.MaxText, impl.MaxText + 1, impl.MaxText + 128, 3 * impl.MaxText} {
		for _, x := range []impl.Item{{Key: "a", Value: someBytes(size)}, {Key: someBytes(size)}, {Key: someBytes(size), Value: someBytes(size)}} {
			if got := impl.ItemSize(impl.PageLeaf, x); got <= len(x.Key)+len(x.Value) {
				t.Errorf("ItemSize of a leaf's Item of %d, %d bytes is %d", len(x.Key), len(x.Value), got)
			}
		}
		if got := impl.ItemSize(impl.PageInner, impl.Item{Key: someBytes(size)}); got <= size {
			t.Errorf("ItemSize of an inner page's Item of %d bytes is %d", size, got)
		}
	}
}

// roomTaken is a page of several Items whose sizes come to just so many bytes.
func roomTaken(kind, size int) impl.Page {
	p := impl.Page{Kind: kind, Items: []impl.Item{{Key: "a"}, {Key: "b"}}}
	p.Items = append(p.Items, impl.Item{Key: "c" + someBytes(size-sumOfSizes(p)-3)})
	return p
}

func TestPageRoomIsMetAndPassed(t *testing.T) {
	for _, kind := range []int{impl.PageLeaf, impl.PageInner} {
		one := impl.Page{Kind: kind, Items: []impl.Item{{Key: someBytes(impl.PageRoom - 2)}}}
		for _, p := range []impl.Page{one, roomTaken(kind, impl.PageRoom-1), roomTaken(kind, impl.PageRoom)} {
			if back, ok := impl.ReadPage(mustPage(t, p)); !ok || !samePage(back, p) {
				t.Errorf("kind %d: a page of %d bytes does not come back", kind, sumOfSizes(p))
			}
		}
		one.Items[0].Key += "x"
		refusesPage(t, "one Item, one byte too many", one)
		for more := 1; more < 80; more++ {
			refusesPage(t, "several Items, too many bytes", roomTaken(kind, impl.PageRoom+more))
		}
	}
	full := manyLeaves()
	full.Items[5].Value = "x"
	refusesPage(t, "as many as have room, and a byte", full)
	full = manyLeaves()
	full.Items = append(full.Items, impl.Item{Key: "\xff\xff"})
	refusesPage(t, "as many as have room, and an Item", full)
	refusesPage(t, "a longer number that passes the room", innerOf(impl.Item{Key: someBytes(impl.PageRoom - 2), Page: 128}))
	mustPage(t, innerOf(impl.Item{Key: someBytes(impl.PageRoom - 3), Page: 128}))
}

func TestItemsTooGreatByThemselvesAreRefused(t *testing.T) {
	for _, size := range []int{impl.PageRoom, 127, 128, impl.MaxText - 1, impl.MaxText, impl.MaxText + 1, impl.MaxText + 128, 16384, 3 * impl.MaxText} {
		text := "m" + someBytes(size-1)
		for what, p := range map[string]impl.Page{
			"a leaf's Key":                   leafOf(impl.Item{Key: text}),
			"a leaf's Value":                 leafOf(impl.Item{Key: "a", Value: text}),
			"a leaf's Key and Value":         leafOf(impl.Item{Key: text, Value: text}),
			"a leaf's first Key":             leafOf(impl.Item{Key: text}, impl.Item{Key: "z"}),
			"a leaf's last Key":              leafOf(impl.Item{Key: "a"}, impl.Item{Key: text}),
			"a leaf's first Value":           leafOf(impl.Item{Key: "a", Value: text}, impl.Item{Key: "z"}),
			"a leaf's last Value":            leafOf(impl.Item{Key: "a"}, impl.Item{Key: "z", Value: text}),
			"an inner page's Key":            innerOf(impl.Item{Key: text}),
			"an inner page's Key, with Page": innerOf(impl.Item{Key: text, Page: 3}),
			"an inner page's first Key":      innerOf(impl.Item{Key: text}, impl.Item{Key: "z"}),
			"an inner page's last Key":       innerOf(impl.Item{Key: "a"}, impl.Item{Key: text}),
			"an inner page's Value":          innerOf(impl.Item{Key: "a", Value: text}),
		} {
			refusesPage(t, what, p)
		}
	}
}

func wrongKinds() []int {
	return []int{0, -1, 3, 4, 255, 256, 257, 258, impl.PageLeaf + 1<<32, impl.PageInner - 256, math.MinInt, math.MaxInt}
}

func TestWrongPagesAreRefused(t *testing.T) {
	for _, kind := range wrongKinds() {
		refusesPage(t, "a wrong Kind", impl.Page{Kind: kind, Items: []impl.Item{{Key: "a"}}})
		refusesPage(t, "a wrong Kind of nothing", impl.Page{Kind: kind})
	}
	for _, kind := range []int{impl.PageLeaf, impl.PageInner} {
		for what, keys := range map[string][]string{
			"no Item":                                 {},
			"a Key twice":                             {"a", "a"},
			"a Key twice, at the end":                 {"a", "b", "b"},
			"a Key twice, not side by side":           {"a", "b", "a"},
			"Keys that descend":                       {"b", "a"},
			"Keys that descend at the end":            {"a", "c", "b"},
			"Keys that descend by the last":           {"key1", "key0"},
			"a beginning behind":                      {"ab", "a"},
			"bytes below nought, if they were signed": {"\x80", "\x7f"},
			"an empty Key":                            {""},
			"an empty first Key":                      {"", "a"},
			"an empty last Key":                       {"a", ""},
			"two empty Keys":                          {"", ""},
		} {
			p := impl.Page{Kind: kind}
			for _, key := range keys {
				p.Items = append(p.Items, impl.Item{Key: key})
			}
			refusesPage(t, what, p)
		}
	}
}

func TestWrongRestsAreRefused(t *testing.T) {
	for _, n := range []int{1, -1, impl.MaxSectors - 1, math.MinInt, math.MaxInt} {
		wrong := impl.Item{Key: "m", Value: "x", Page: n}
		refusesPage(t, "a leaf with a Page", leafOf(wrong))
		refusesPage(t, "a leaf with a first Page", leafOf(wrong, impl.Item{Key: "z"}))
		refusesPage(t, "a leaf with a last Page", leafOf(impl.Item{Key: "a"}, wrong))
	}
	for _, wrong := range []impl.Item{
		{Key: "m", Value: "x"},
		{Key: "m", Value: "\x00", Page: 1},
		{Key: "m", Page: -1},
		{Key: "m", Page: impl.MaxSectors},
		{Key: "m", Page: impl.MaxSectors + 1},
		{Key: "m", Page: impl.MaxNumber},
		{Key: "m", Page: impl.MaxNumber + 1},
		{Key: "m", Page: 1 << 32},
		{Key: "m", Page: math.MinInt},
		{Key: "m", Page: math.MaxInt},
	} {
		refusesPage(t, "a wrong Item", innerOf(wrong))
		refusesPage(t, "a wrong first Item", innerOf(wrong, impl.Item{Key: "z"}))
		refusesPage(t, "a wrong last Item", innerOf(impl.Item{Key: "a"}, wrong))
	}
}

func TestReadPageRefusesWhatIsNoPage(t *testing.T) {
	refusesToRead(t, "an empty text", "")
	refusesToRead(t, "not sealed", "\x01\x01\x01a\x02xy")
	refusesToRead(t, "not sealed, four bytes more", "\x01\x01\x01a\x02xy\x00\x00\x00\x00")
	refusesToRead(t, "far too long", strings.Repeat("\x01", 3*impl.MaxText))
	greatest, _ := impl.VarText(impl.MaxNumber)
	for what, inner := range map[string]string{
		"nothing":                             "",
		"a Kind alone":                        "\x01",
		"a wrong Kind":                        "\x00\x01\x01a\x00",
		"a Kind that is none":                 "\x03\x01\x01a\x00",
		"a Kind in a longer form":             "\x81\x00\x01\x01a\x00",
		"another word":                        "Rabcdef",
		"no Items in a leaf":                  "\x01\x00",
		"no Items in an inner page":           "\x02\x00",
		"no Items told, but one there":        "\x01\x00\x01a\x00",
		"fewer Items than are told":           "\x01\x02\x01a\x00",
		"far fewer Items than are told":       "\x01" + greatest + "\x01a\x00",
		"a number of Items past all":          "\x01\xff\xff\xff\xff\x7f\x01a\x00",
		"a number of Items that is cut off":   "\x01\x81",
		"more Items than are told":            "\x01\x01\x01a\x00\x01b\x00",
		"a byte behind the last Item":         "\x01\x01\x01a\x00\x00",
		"a byte behind an inner page's":       "\x02\x01\x01a\x05\x00",
		"the number of Items too long":        "\x01\x81\x00\x01a\x00",
		"the length of a Key too long":        "\x01\x01\x81\x00a\x00",
		"the length of a Value too long":      "\x01\x01\x01a\x80\x00",
		"the length of a full Value too long": "\x01\x01\x01a\x82\x00xy",
		"a Page in a longer form":             "\x02\x01\x01a\x85\x00",
		"a Page that is cut off":              "\x02\x01\x01a\x85",
		"no Page":                             "\x02\x01\x01a",
		"no Value":                            "\x01\x01\x01a",
		"a Key that is cut off":               "\x01\x01\x05abc",
		"a Value that is cut off":             "\x01\x01\x01a\x05xy",
		"an empty Key":                        "\x01\x01\x00\x00",
		"an inner page's empty Key":           "\x02\x01\x00\x05",
		"a Key twice":                         "\x01\x02\x01a\x00\x01a\x00",
		"Keys that descend":                   "\x01\x02\x01b\x00\x01a\x00",
		"an inner page's Key twice":           "\x02\x02\x01a\x00\x01a\x00",
		"an inner page's Keys that descend":   "\x02\x02\x01b\x00\x01a\x00",
		"a Page past all sectors":             "\x02\x01\x01a\x90\x03",
		"a Page far past all sectors":         "\x02\x01\x01a" + greatest,
		"a leaf's Item past the room":         "\x01\x01\x01a\x34" + someBytes(52),
		"a leaf's Items past the room":        "\x01\x02\x01a\x00\x01b\x31" + someBytes(49),
		"an inner page's Item past the room":  "\x02\x01\x35" + someBytes(53) + "\x00",
		"a Value past a short text":           "\x01\x01\x01a\xc1\x3e" + someBytes(impl.MaxText-20),
		"noughts":                             strings.Repeat("\x00", 50),
	} {
		refusesToRead(t, what, sealedByHand(inner))
	}
}

// Of all short texts, sealed, just those are read that PageText writes.
func TestReadPageOfAllShortTexts(t *testing.T) {
	bytes := []byte{0, 1, 2, 3, 'a', 0x80, 0xff}
	var look func(inner []byte)
	found := 0
	look = func(inner []byte) {
		text := sealedByHand(string(inner))
		if p, ok := impl.ReadPage(text); ok {
			found++
			if again, right := impl.PageText(p); !right || again != text {
				t.Errorf("ReadPage(%q) = %+v, whose PageText is %q, %v", text, p, again, right)
			}
		}
		if len(inner) < 6 {
			for _, b := range bytes {
				look(append(slices.Clone(inner), b))
			}
		}
	}
	look(nil)
	n := len(bytes)
	// A Key of one byte with no Value or with one of a byte; a Key of two bytes with no Value.
	wantLeaves := n + n*n + n*n
	// A Key of one byte with a Page of a byte (five are below 128), or of two (of six all but 511 are sectors); a Key of two bytes with a Page of a byte.
	wantInners := n*5 + n*5 + n*n*5
	if found != wantLeaves+wantInners {
		t.Errorf("%d texts are pages, not %d", found, wantLeaves+wantInners)
	}
}

func TestEndsPage(t *testing.T) {
	ends := 0
	for i := range 2000 {
		key := impl.Decimal(i * 37)
		want := sumByBits(math.MaxUint32, key)%4 == 0
		if impl.EndsPage(key) != want {
			t.Errorf("EndsPage(%q) is %v", key, !want)
		}
		if want {
			ends++
		}
	}
	if ends == 0 || ends == 2000 {
		t.Errorf("%d of 2000 keys end a page", ends)
	}
	for _, key := range []string{"", "\x00", "\xff", someBytes(300), someBytes(impl.MaxText), someBytes(impl.MaxText + 1), someBytes(3 * impl.MaxText)} {
		if want := sumByBits(math.MaxUint32, key)%4 == 0; impl.EndsPage(key) != want {
			t.Errorf("EndsPage of %d bytes is %v", len(key), !want)
		}
	}
}

func TestPagesAreNotWrittenInto(t *testing.T) {
	for _, kind := range []int{impl.PageLeaf, impl.PageInner, 3} {
		given := func() []impl.Item {
			return []impl.Item{{Key: "a"}, {Key: "b"}, {Key: "spare", Value: "spare", Page: 9}, {Key: "spare", Value: "spare", Page: 9}}
		}
		items := given()
		first, _ := impl.PageText(impl.Page{Kind: kind, Items: items[:2]})
		again, _ := impl.PageText(impl.Page{Kind: kind, Items: items[:2]})
		if !slices.Equal(items, given()) || first != again {
			t.Errorf("kind %d: PageText leaves its argument as %+v", kind, items)
		}
	}
}

func TestPagesShareNothing(t *testing.T) {
	p := leafOf(impl.Item{Key: "key", Value: "value"}, impl.Item{Key: "other", Value: "more"})
	text := mustPage(t, p)
	p.Items[0] = impl.Item{Key: "turned", Value: "turned", Page: 5}
	first, _ := impl.ReadPage(text)
	for _, x := range first.Items {
		if within(x.Key, text) || within(x.Value, text) {
			t.Errorf("the Item %+v stands in the memory of the page's text", x)
		}
	}
	first.Items[0].Key, first.Items[1].Page = "turned", 7
	again, ok := impl.ReadPage(text)
	if !ok || !samePage(again, leafOf(impl.Item{Key: "key", Value: "value"}, impl.Item{Key: "other", Value: "more"})) {
		t.Errorf("ReadPage behind a change of its answer: %+v, %v", again, ok)
	}
}
