package tests

import (
	"math"
	"slices"
	"strings"
	"testing"

	"loop.example/g00105/impl"
)

// draws are numbers that are the same at every run.
type draws uint64

func (d *draws) below(n int) int {
	*d = *d*6364136223846793005 + 1442695040888963407
	return int(*d>>33) % n
}

func (d *draws) text(least, most, letters int) string {
	out := make([]byte, least+d.below(most-least+1))
	for i := range out {
		out[i] = byte(d.below(letters) * 256 / letters)
	}
	return string(out)
}

// pairs draws a right map of so many pairs, whose Values have at most so many bytes.
func (d *draws) pairs(size, most int) []impl.Pair {
	keys := map[string]bool{}
	for len(keys) < size {
		keys[d.text(1, impl.MaxKey, 2+d.below(255))] = true
	}
	var m []impl.Pair
	for key := range keys {
		m = append(m, impl.Pair{Key: key})
	}
	slices.SortFunc(m, func(a, b impl.Pair) int { return strings.Compare(a.Key, b.Key) })
	for i := range m {
		m[i].Value = d.text(0, most, 256)
	}
	return m
}

// device draws a device on which other things stand: texts, pages, pages with a byte turned, writes that are pending.
func (d *draws) device(sectors, pending int) impl.Device {
	return deviceOf(sectors, pending, d.below, d.sector)
}

// pageless draws one on which no page stands.
func (d *draws) pageless(sectors, pending int) impl.Device {
	return deviceOf(sectors, pending, d.below, func() string { return d.text(0, impl.SectorSize, 256) })
}

func deviceOf(sectors, pending int, below func(int) int, text func() string) impl.Device {
	var out impl.Device
	for range sectors {
		out.Sectors = append(out.Sectors, text())
	}
	for range pending {
		out.Pending = append(out.Pending, impl.Put{At: below(sectors), Text: text()})
	}
	return out
}

func (d *draws) sector() string {
	text, _ := impl.PageText(innerOf(impl.Item{Key: d.text(1, 4, 2), Page: d.below(impl.MaxSectors)}))
	switch d.below(4) {
	case 0:
		return d.text(0, impl.SectorSize, 256)
	case 1:
		text, _ = impl.PageText(leafOf(impl.Item{Key: d.text(1, 4, 2), Value: d.text(0, 2, 2)}))
	case 2:
		text = text[:3] + "?" + text[4:]
	}
	return text
}

func (d *draws) shuffled(list []int) []int {
	out := slices.Clone(list)
	for i := range out {
		j := d.below(i + 1)
		out[i], out[j] = out[j], out[i]
	}
	return out
}

// keysThat has so many Keys, ascending, that end a page or do not.
func keysThat(ends bool, size int) []string {
	var keys []string
	for i := 100; len(keys) < size; i++ {
		if key := "k" + impl.Decimal(i); impl.EndsPage(key) == ends {
			keys = append(keys, key)
		}
	}
	return keys
}

func mapOf(value string, keys ...string) []impl.Pair {
	var m []impl.Pair
	for _, key := range keys {
		m = append(m, impl.Pair{Key: key, Value: value})
	}
	return m
}

func itemsOf(m []impl.Pair) []impl.Item {
	var items []impl.Item
	for _, p := range m {
		items = append(items, impl.Item{Key: p.Key, Value: p.Value})
	}
	return items
}

func newDevice(t *testing.T, sectors int) impl.Device {
	t.Helper()
	d, ok := impl.DeviceNew(sectors)
	if !ok {
		t.Fatalf("DeviceNew(%d) is false", sectors)
	}
	return d
}

// A placedTree is what PlaceTree answers beside true.
type placedTree struct {
	device impl.Device
	root   int
	used   []int
}

func mustPlace(t *testing.T, d impl.Device, free []int, m []impl.Pair) placedTree {
	t.Helper()
	e, root, used, ok := impl.PlaceTree(d, free, m)
	if !ok {
		t.Fatalf("PlaceTree of %d pairs on %d sectors, %d of them free, is false", len(m), len(d.Sectors), len(free))
	}
	return placedTree{e, root, used}
}

func refusesToPlace(t *testing.T, what string, d impl.Device, free []int, m []impl.Pair) {
	t.Helper()
	if e, root, used, ok := impl.PlaceTree(d, free, m); ok || !isZeroDevice(e) || root != 0 || len(used) != 0 {
		t.Errorf("%s: PlaceTree = %+v, %d, %v, %v", what, e, root, used, ok)
	}
}

func readsTree(t *testing.T, what string, d impl.Device, root int, m []impl.Pair, used []int) {
	t.Helper()
	if got, sectors, ok := impl.ReadTree(d, root); !ok || !slices.Equal(got, m) || !slices.Equal(sectors, used) {
		t.Errorf("%s: ReadTree(.., %d) = %q, %v, %v, not %q, %v", what, root, got, sectors, ok, m, used)
	}
}

func refusesToReadTree(t *testing.T, what string, d impl.Device, root int) {
	t.Helper()
	if m, used, ok := impl.ReadTree(d, root); ok || len(m) != 0 || len(used) != 0 {
		t.Errorf("%s: ReadTree(.., %d) = %q, %v, %v", what, root, m, used, ok)
	}
}

func TestMapOk(t *testing.T) {
	drawn := draws(1)
	for what, m := range map[string][]impl.Pair{
		"nothing":                 nil,
		"an empty list":           {},
		"one pair":                mapOf("", "a"),
		"one byte of nought":      mapOf("\x00", "\x00"),
		"a longest Key":           mapOf("", someBytes(impl.MaxKey)),
		"a longest Value":         mapOf(someBytes(impl.MaxValue), "a"),
		"a beginning ahead":       mapOf("x", "a", "a\x00", "ab", "b"),
		"bytes above 127":         mapOf("x", "\x7f", "\x80", "\xff"),
		"as many as there may be": drawn.pairs(impl.MaxPairs, impl.MaxValue),
	} {
		if !impl.MapOk(m) {
			t.Errorf("%s: MapOk is false", what)
		}
	}
	for what, m := range wrongMaps() {
		if impl.MapOk(m) {
			t.Errorf("%s: MapOk is true", what)
		}
	}
}

func wrongMaps() map[string][]impl.Pair {
	drawn := draws(2)
	last := drawn.pairs(impl.MaxPairs, 3)
	last[impl.MaxPairs-1].Key = last[impl.MaxPairs-2].Key
	return map[string][]impl.Pair{
		"one pair too many":       drawn.pairs(impl.MaxPairs+1, 3),
		"a Key twice":             mapOf("x", "a", "a"),
		"a Key twice at the end":  mapOf("x", "a", "b", "b"),
		"a last Key twice of all": last,
		"Keys that descend":       mapOf("x", "b", "a"),
		"a last one descends":     mapOf("x", "a", "c", "b"),
		"a Key comes again":       mapOf("x", "a", "b", "a"),
		"a beginning behind":      mapOf("x", "ab", "a"),
		"signed bytes":            mapOf("x", "\x80", "\x7f"),
		"an empty Key":            mapOf("x", ""),
		"an empty first Key":      mapOf("x", "", "a"),
		"an empty last Key":       mapOf("x", "a", ""),
		"too long a Key":          mapOf("x", someBytes(impl.MaxKey+1)),
		"too long a last Key":     mapOf("x", "\x00", "b"+someBytes(impl.MaxKey)),
		"too long a Value":        mapOf(someBytes(impl.MaxValue+1), "a"),
		"too long a last Value":   append(mapOf("x", "a"), mapOf(someBytes(impl.MaxValue+1), "b")...),
		"too long a first Value":  append(mapOf(someBytes(impl.MaxValue+1), "a"), mapOf("", "b")...),
	}
}

// cutByHand is CutItems as the chapter tells it.
func cutByHand(kind int, list []impl.Item) [][]impl.Item {
	var groups [][]impl.Item
	var group []impl.Item
	for i, x := range list {
		group = append(group, x)
		ends := i == len(list)-1 || kind == impl.PageLeaf && impl.EndsPage(x.Key)
		if !ends {
			next := impl.Page{Kind: kind, Items: append(slices.Clone(group), list[i+1])}
			ends = sumOfSizes(next) > impl.PageRoom
		}
		if ends {
			groups, group = append(groups, group), nil
		}
	}
	return groups
}

func cutsTo(t *testing.T, what string, kind int, list []impl.Item, want [][]impl.Item) {
	t.Helper()
	if got := impl.CutItems(kind, list); !slices.EqualFunc(got, want, slices.Equal[[]impl.Item]) {
		t.Errorf("%s: CutItems(%d, %+v) = %+v, not %+v", what, kind, list, got, want)
	}
}

func TestCutItemsByKey(t *testing.T) {
	stay, end := keysThat(false, 6), keysThat(true, 3)
	item := func(key string) impl.Item { return impl.Item{Key: key} }
	s0, s1, e0, e1 := item(stay[0]), item(stay[1]), item(end[0]), item(end[1])
	for what, want := range map[string][][]impl.Item{
		"none":                        nil,
		"one that stays":              {{s0}},
		"one that ends":               {{e0}},
		"two that stay":               {{s0, s1}},
		"two that end":                {{e0}, {e1}},
		"one that ends behind":        {{s0, e0}},
		"one that ends ahead":         {{e0}, {s0}},
		"one that ends between":       {{s0, e0}, {s1}},
		"the last one ends":           {{s0, e0}, {s1, e1}},
		"the order is not looked at":  {{e1}, {e0}, {s1, s0}},
		"the same twice":              {{s0, s0, e0}, {e0}},
		"several behind the last end": {{e0}, {e1}, {s0, s1, s1}},
	} {
		list := slices.Concat(want...)
		cutsTo(t, what, impl.PageLeaf, list, want)
		whole := [][]impl.Item{list}
		if len(list) == 0 {
			whole = nil
		}
		cutsTo(t, what, impl.PageInner, list, whole)
	}
}

// sized is an Item of just so many bytes whose Key does not end a page.
func sized(kind, size int) impl.Item {
	x := impl.Item{Key: keysThat(false, 1)[0]}
	if kind == impl.PageLeaf {
		x.Value = someBytes(size - impl.ItemSize(kind, x))
		return x
	}
	for n := 0; impl.ItemSize(kind, x) != size || impl.EndsPage(x.Key); n++ {
		x.Key = "k" + impl.Decimal(n) + someBytes(size)
		x.Key = x.Key[:size-2]
	}
	return x
}

func TestCutItemsByRoom(t *testing.T) {
	for _, kind := range []int{impl.PageLeaf, impl.PageInner} {
		for _, sizes := range [][][]int{
			{{impl.PageRoom}},
			{{impl.PageRoom + 1}},
			{{impl.PageRoom}, {10}},
			{{impl.PageRoom - 10, 10}},
			{{impl.PageRoom - 10, 10}, {10}},
			{{impl.PageRoom - 9}, {10}},
			{{impl.PageRoom - 10}, {11}},
			{{18, 18, 18}, {18, 18, 18}, {18}},
			{{18, 18}, {19, 18}, {18, 18, 18}},
			{{27, 27}, {27, 27}},
			{{28}, {28}, {28}},
			{{10}, {impl.PageRoom + 1}, {10}},
			{{10}, {impl.PageRoom + 40}, {impl.PageRoom + 1}, {10, 10}},
			{{10}, {120}, {10, 40}, {10}},
		} {
			var want [][]impl.Item
			for _, group := range sizes {
				var items []impl.Item
				for _, size := range group {
					items = append(items, sized(kind, size))
				}
				want = append(want, items)
			}
			cutsTo(t, "by their sizes", kind, slices.Concat(want...), want)
		}
	}
}

// A longer Page is a greater Item of an inner page, and of a leaf none at all.
func TestCutItemsByThePage(t *testing.T) {
	a, b := impl.Item{Key: "k" + someBytes(24), Page: 127}, impl.Item{Key: "k" + someBytes(24), Page: 128}
	cutsTo(t, "two short Pages", impl.PageInner, []impl.Item{a, a}, [][]impl.Item{{a, a}})
	cutsTo(t, "a long Page ahead", impl.PageInner, []impl.Item{b, a}, [][]impl.Item{{b}, {a}})
	cutsTo(t, "a long Page behind", impl.PageInner, []impl.Item{a, b}, [][]impl.Item{{a}, {b}})
}

func TestCutItemsOfOtherKinds(t *testing.T) {
	list := []impl.Item{{Key: someBytes(90)}, {}, {Key: keysThat(true, 1)[0], Value: someBytes(300), Page: -5}, {Key: "a"}}
	for _, kind := range wrongKinds() {
		cutsTo(t, "sizes of nought", kind, list, [][]impl.Item{list})
		cutsTo(t, "none", kind, nil, nil)
	}
}

func TestCutItemsTooGreat(t *testing.T) {
	small := impl.Item{Key: keysThat(false, 1)[0]}
	for _, size := range []int{impl.PageRoom - 1, 127, 128, impl.MaxText, impl.MaxText + 1, 3 * impl.MaxText} {
		great := impl.Item{Key: small.Key, Value: someBytes(size)}
		cutsTo(t, "a great Value", impl.PageLeaf, []impl.Item{small, great, small, small}, [][]impl.Item{{small}, {great}, {small, small}})
		great = impl.Item{Key: someBytes(size)}
		cutsTo(t, "a great Key", impl.PageInner, []impl.Item{small, great, small, small}, [][]impl.Item{{small}, {great}, {small, small}})
		cutsTo(t, "great Keys", impl.PageInner, []impl.Item{great, great}, [][]impl.Item{{great}, {great}})
	}
}

func TestGroupsPutTogetherAreAllItems(t *testing.T) {
	drawn := draws(3)
	for round := range 400 {
		var list []impl.Item
		for range drawn.below(60) {
			list = append(list, impl.Item{Key: drawn.text(0, 12, 256), Value: drawn.text(0, drawn.below(70), 256), Page: drawn.below(500) - 20})
		}
		for _, kind := range []int{impl.PageLeaf, impl.PageInner, 0, round} {
			groups := impl.CutItems(kind, list)
			if !slices.Equal(slices.Concat(groups...), list) {
				t.Fatalf("the groups of kind %d are not all of %+v", kind, list)
			}
			for i, group := range groups {
				if len(group) == 0 {
					t.Fatalf("the group %d of kind %d is empty", i, kind)
				}
			}
			cutsTo(t, "drawn", kind, list, cutByHand(kind, list))
		}
	}
}

// placeByHand is PlaceTree of a right map as the chapter tells it, by the functions that it names; levels is how many there are.
func placeByHand(t *testing.T, d impl.Device, free []int, m []impl.Pair) (tree placedTree, levels int) {
	t.Helper()
	tree = placedTree{device: d, root: -1}
	// What is not free is never written, so it is read once.
	standing := make([]string, len(d.Sectors))
	for at := range standing {
		if !slices.Contains(free, at) {
			standing[at], _ = impl.ReadSector(d, at)
		}
	}
	kind, items, left := impl.PageLeaf, itemsOf(m), free
	for len(items) > 0 {
		var names []impl.Item
		for _, group := range cutByHand(kind, items) {
			text := mustPage(t, impl.Page{Kind: kind, Items: group})
			at := slices.Index(standing, text)
			if at < 0 {
				at, left = left[0], left[1:]
				tree.device = mustWrite(t, tree.device, at, text)
			}
			tree.used = append(tree.used, at)
			names = append(names, impl.Item{Key: group[0].Key, Page: at})
		}
		levels++
		kind, items = impl.PageInner, names
		if len(names) == 1 {
			tree.root, items = names[0].Page, nil
		}
	}
	slices.Sort(tree.used)
	return tree, levels
}

func sameTree(t *testing.T, what string, got, want placedTree) {
	t.Helper()
	if got.root != want.root || !slices.Equal(got.used, want.used) || !sameDevice(got.device, want.device) {
		t.Errorf("%s: placed as %d, %v, not %d, %v, or with other writes", what, got.root, got.used, want.root, want.used)
	}
}

func TestPlaceOnePage(t *testing.T) {
	stay, end := keysThat(false, 3), keysThat(true, 1)
	full := mapOf(someBytes(impl.MaxValue), someBytes(impl.MaxKey))
	for what, m := range map[string][]impl.Pair{
		"one pair":                  mapOf("xy", stay[0]),
		"one pair without a Value":  mapOf("", stay[0]),
		"one pair that ends a page": mapOf("xy", end[0]),
		"three pairs":               mapOf("v", stay...),
		"the longest pair":          full,
	} {
		d := newDevice(t, 5)
		got := mustPlace(t, d, []int{3, 2, 4}, m)
		text := mustPage(t, leafOf(itemsOf(m)...))
		sameTree(t, what, got, placedTree{mustWrite(t, d, 3, text), 3, []int{3}})
		readsTree(t, what, got.device, 3, m, []int{3})
		readsTree(t, what+", flushed", mustFlush(t, got.device), 3, m, []int{3})
	}
}

func TestPlaceTwoLevelsByHand(t *testing.T) {
	stay, end := keysThat(false, 40), keysThat(true, 2)
	keys := []string{stay[0], end[0], end[1]}
	slices.Sort(keys)
	behind := stay[slices.IndexFunc(stay, func(key string) bool { return key > end[1] })]
	m := mapOf("v", append(keys, behind)...)
	texts := []string{}
	var names []impl.Item
	for i, group := range cutByHand(impl.PageLeaf, itemsOf(m)) {
		texts = append(texts, mustPage(t, leafOf(group...)))
		names = append(names, impl.Item{Key: group[0].Key, Page: []int{7, 3, 5}[i]})
	}
	if len(names) != 3 {
		t.Fatalf("there are %d leaves", len(names))
	}
	d := newDevice(t, 9)
	want := mustWrite(t, d, 7, texts[0])
	want = mustWrite(t, want, 3, texts[1])
	want = mustWrite(t, want, 5, texts[2])
	want = mustWrite(t, want, 4, mustPage(t, innerOf(names...)))
	got := mustPlace(t, d, []int{7, 3, 5, 4, 8}, m)
	sameTree(t, "two levels", got, placedTree{want, 4, []int{3, 4, 5, 7}})
	readsTree(t, "two levels", got.device, 4, m, []int{3, 4, 5, 7})
}

// drawnMaps has maps of all sizes: of few and of many, of short Values and of long ones.
func drawnMaps(seed int) [][]impl.Pair {
	drawn := draws(seed)
	var all [][]impl.Pair
	for size := 0; size <= impl.MaxPairs; size += 1 + size/12 {
		for _, most := range []int{0, 3, impl.MaxValue} {
			all = append(all, drawn.pairs(size, most))
		}
	}
	long := drawn.pairs(impl.MaxPairs, impl.MaxValue)
	for i := range long {
		long[i].Value = someBytes(impl.MaxValue)
	}
	for i := range long {
		long[i].Key = "k" + impl.Decimal(1000000+i)
	}
	return append(all, drawn.pairs(impl.MaxPairs, impl.MaxValue), drawn.pairs(impl.MaxPairs, 0), long)
}

func TestPlacedIsReadBack(t *testing.T) {
	drawn, seen := draws(4), map[int]int{}
	for _, m := range drawnMaps(5) {
		for what, d := range map[string]impl.Device{
			"a new device":            newDevice(t, impl.MaxSectors),
			"other things stand":      drawn.device(impl.MaxSectors, 0),
			"other things are coming": drawn.device(impl.MaxSectors, 100),
			"fewer sectors":           drawn.device(200, 100),
		} {
			for _, free := range [][]int{impl.FreeOf(d, nil), drawn.shuffled(impl.FreeOf(d, []int{3, 4, 17})), allPlaces(len(d.Sectors))} {
				want, levels := placeByHand(t, d, free, m)
				seen[levels]++
				got := mustPlace(t, d, free, m)
				sameTree(t, what, got, want)
				readsTree(t, what, got.device, got.root, m, got.used)
				readsTree(t, what+", flushed", mustFlush(t, got.device), got.root, m, got.used)
				if !slices.Equal(got.device.Sectors, d.Sectors) || !slices.Equal(got.device.Pending[:len(d.Pending)], d.Pending) {
					t.Errorf("%s: what stood is not left as it was", what)
				}
			}
		}
	}
	for levels := range 5 {
		if seen[levels] == 0 {
			t.Errorf("no tree of %d levels was placed", levels)
		}
	}
}

func TestPlacedAgainNothingIsWritten(t *testing.T) {
	drawn := draws(6)
	for _, m := range drawnMaps(7) {
		for _, d := range []impl.Device{newDevice(t, 250), drawn.pageless(300, 50), drawn.device(300, 50)} {
			first := mustPlace(t, d, drawn.shuffled(impl.FreeOf(d, nil)), m)
			placesNothing(t, "all others are free", first, drawn.shuffled(impl.FreeOf(first.device, first.used)), m)
		}
		// Where no other page stands, it is all one which sectors are free beside.
		d := drawn.pageless(300, 50)
		first := mustPlace(t, d, drawn.shuffled(impl.FreeOf(d, nil)), m)
		placesNothing(t, "some are free", first, impl.FreeOf(d, append(drawn.shuffled(allPlaces(300))[:250], first.used...)), m)
		placesNothing(t, "none is free", first, nil, m)
		placesNothing(t, "none is free", first, []int{}, m)
	}
}

// placesNothing places a map again, ahead of a flush and behind it.
func placesNothing(t *testing.T, what string, first placedTree, free []int, m []impl.Pair) {
	t.Helper()
	sameTree(t, what, mustPlace(t, first.device, free, m), first)
	flushed := placedTree{mustFlush(t, first.device), first.root, first.used}
	sameTree(t, what+", behind a flush", mustPlace(t, flushed.device, free, m), flushed)
}

// A page that stands in two sectors is looked for in the lesser, so the page that names it is another one then.
func TestPlacedAgainBesideACopy(t *testing.T) {
	m := mapOf(someBytes(30), "a", "b", "c")
	d := newDevice(t, 12)
	first := mustPlace(t, d, []int{6, 7, 8, 9}, m)
	e := mustWrite(t, first.device, 3, mustPage(t, leafOf(itemsOf(m[:1])...)))
	placesNothing(t, "the copy is free", placedTree{e, 9, []int{6, 7, 8, 9}}, []int{3, 4, 5}, m)
	refusesToPlace(t, "the copy is not free, and no other sector is", e, nil, m)
	want := mustWrite(t, e, 5, mustPage(t, innerOf(impl.Item{Key: "a", Page: 3}, impl.Item{Key: "b", Page: 7}, impl.Item{Key: "c", Page: 8})))
	sameTree(t, "the copy is not free", mustPlace(t, e, []int{5, 4}, m), placedTree{want, 5, []int{3, 5, 7, 8}})
}

func TestOneMapBehindTheOther(t *testing.T) {
	drawn := draws(8)
	d := newDevice(t, impl.MaxSectors)
	var m []impl.Pair
	var used []int
	for round := range 60 {
		m = slices.Clone(m)
		for range 1 + drawn.below(4) {
			key := "k" + impl.Decimal(100+drawn.below(200))
			at, there := slices.BinarySearchFunc(m, key, func(p impl.Pair, key string) int { return strings.Compare(p.Key, key) })
			if there {
				m = slices.Delete(m, at, at+1)
			} else if len(m) < impl.MaxPairs {
				m = slices.Insert(m, at, impl.Pair{Key: key, Value: drawn.text(0, impl.MaxValue, 256)})
			}
		}
		free := impl.FreeOf(d, used)
		want, _ := placeByHand(t, d, free, m)
		got := mustPlace(t, d, free, m)
		sameTree(t, "a later map", got, want)
		readsTree(t, "a later map", got.device, got.root, m, got.used)
		if round > 30 && len(got.device.Pending) >= len(got.used) {
			t.Errorf("all %d pages are written, though few pairs are new", len(got.used))
		}
		d, used = mustFlush(t, got.device), got.used
	}
}

func TestPlaceTheEmptyMap(t *testing.T) {
	drawn := draws(9)
	for _, d := range []impl.Device{newDevice(t, 1), newDevice(t, 9), drawn.device(40, 20), fullDevice()} {
		for _, m := range [][]impl.Pair{nil, {}} {
			for _, free := range [][]int{nil, {}, {0}, allPlaces(len(d.Sectors))} {
				sameTree(t, "the empty map", mustPlace(t, d, free, m), placedTree{d, -1, nil})
			}
		}
		readsTree(t, "the empty map", d, -1, nil, nil)
	}
}

func TestPlaceTheGreatestMap(t *testing.T) {
	m := drawnMaps(10)
	greatest := m[len(m)-1]
	d := newDevice(t, impl.MaxSectors)
	got := mustPlace(t, d, impl.FreeOf(d, nil), greatest)
	// No two such pairs have room in one page.
	if len(got.used) <= impl.MaxPairs || len(greatest) != impl.MaxPairs {
		t.Errorf("%d pairs stand in %d pages", len(greatest), len(got.used))
	}
	readsTree(t, "the greatest map", got.device, got.root, greatest, got.used)
}

func TestPlaceTakesTheLeastThatIsNotFree(t *testing.T) {
	m := mapOf("v", keysThat(false, 2)...)
	text := mustPage(t, leafOf(itemsOf(m)...))
	d := newDevice(t, 10)
	for _, at := range []int{1, 3, 5, 8} {
		d.Sectors[at] = text
	}
	for what, c := range map[string]struct {
		free []int
		root int
		puts int
	}{
		"none is free":               {nil, 1, 0},
		"the first is free":          {[]int{1}, 3, 0},
		"the first two are free":     {[]int{3, 1}, 5, 0},
		"all but the last are free":  {[]int{5, 4, 3, 1, 2}, 8, 0},
		"all are free":               {[]int{5, 3, 1, 8}, 5, 1},
		"all are free, behind one":   {[]int{6, 5, 3, 1, 8}, 6, 1},
		"others are free":            {[]int{0, 2, 4, 6}, 1, 0},
		"the last is free, and more": {[]int{9, 8}, 1, 0},
	} {
		want := placedTree{d, c.root, []int{c.root}}
		for range c.puts {
			want.device = mustWrite(t, want.device, c.root, text)
		}
		sameTree(t, what, mustPlace(t, d, c.free, m), want)
	}
	d.Sectors[0] = text
	sameTree(t, "the sector 0 has it", mustPlace(t, d, nil, m), placedTree{d, 0, []int{0}})
}

// What counts is what ReadSector tells: the last write that is pending, and not the sector below it.
func TestPlaceLooksAtWhatIsPending(t *testing.T) {
	m := mapOf("v", keysThat(false, 2)...)
	text := mustPage(t, leafOf(itemsOf(m)...))
	d := newDevice(t, 6)
	d.Sectors[2], d.Sectors[3] = text, text
	d = mustWrite(t, d, 2, "other")
	sameTree(t, "written over by another", mustPlace(t, d, []int{5}, m), placedTree{d, 3, []int{3}})
	d = mustWrite(t, d, 3, "")
	sameTree(t, "both written over", mustPlace(t, d, []int{5}, m), placedTree{mustWrite(t, d, 5, text), 5, []int{5}})
	d = mustWrite(t, d, 4, text)
	sameTree(t, "one is pending", mustPlace(t, d, []int{5}, m), placedTree{d, 4, []int{4}})
	d = mustWrite(t, d, 2, text)
	sameTree(t, "two are pending", mustPlace(t, d, []int{5}, m), placedTree{d, 2, []int{2}})
	for _, near := range []string{text + "\x00", text[:len(text)-1], text[:3] + "?" + text[4:]} {
		e := newDevice(t, 6)
		e.Sectors[2] = near
		sameTree(t, "nearly its text", mustPlace(t, e, []int{4}, m), placedTree{mustWrite(t, e, 4, text), 4, []int{4}})
	}
}

func TestPlaceOnTheLastSectorsLeft(t *testing.T) {
	drawn := draws(11)
	for _, m := range drawnMaps(12) {
		d := drawn.pageless(250, 10)
		free := drawn.shuffled(impl.FreeOf(d, nil))
		whole := mustPlace(t, d, free, m)
		need := len(whole.used)
		sameTree(t, "the last sectors", mustPlace(t, d, free[:need], m), whole)
		if !slices.Equal(whole.used, slices.Sorted(slices.Values(free[:need]))) {
			t.Errorf("%d pages are in %v, not in %v", need, whole.used, free[:need])
		}
		for less := 1; less <= need; less *= 2 {
			refusesToPlace(t, "too few sectors", d, free[:need-less], m)
		}
	}
}

func TestPlaceOnFreeSectorsNamedTwice(t *testing.T) {
	m := mapOf(someBytes(30), "a", "b", "c")
	d := newDevice(t, 9)
	for _, free := range [][]int{{5, 5, 4, 5, 6, 4, 6, 7}, {5, 4, 6, 7, 7, 6, 5, 4}, {5, 5, 5, 5, 4, 4, 4, 4, 6, 7, 8}} {
		got := mustPlace(t, d, free, m)
		sameTree(t, "a sector twice in free", got, mustPlace(t, d, []int{5, 4, 6, 7}, m))
		readsTree(t, "a sector twice in free", got.device, got.root, m, []int{4, 5, 6, 7})
	}
	refusesToPlace(t, "a sector twice does not do for two", d, []int{5, 4, 6, 5, 4, 6, 6}, m)
}

func TestPlaceWithManyWritesPending(t *testing.T) {
	m := mapOf(someBytes(30), "a", "b", "c")
	d := newDevice(t, 9)
	need := len(mustPlace(t, d, impl.FreeOf(d, nil), m).used)
	if need != 4 {
		t.Fatalf("%d pages", need)
	}
	for pending := impl.MaxPending - 6; pending <= impl.MaxPending; pending++ {
		d.Pending = make([]impl.Put, pending)
		if pending+need > impl.MaxPending {
			refusesToPlace(t, "too many writes", d, impl.FreeOf(d, nil), m)
			continue
		}
		got := mustPlace(t, d, impl.FreeOf(d, nil), m)
		readsTree(t, "many writes", got.device, got.root, m, []int{2, 3, 4, 5})
		if len(got.device.Pending) != pending+need {
			t.Errorf("%d writes are pending, not %d", len(got.device.Pending), pending+need)
		}
	}
	d.Pending = make([]impl.Put, impl.MaxPending-need)
	full := mustPlace(t, d, impl.FreeOf(d, nil), m)
	sameTree(t, "placed again with MaxPending writes", mustPlace(t, full.device, impl.FreeOf(d, full.used), m), full)
	refusesToPlace(t, "another map", full.device, impl.FreeOf(d, full.used), mapOf("other", "a"))
	sameTree(t, "the empty map", mustPlace(t, full.device, impl.FreeOf(d, full.used), nil), placedTree{full.device, -1, nil})
}

func TestPlaceTreeRefuses(t *testing.T) {
	right, d := mapOf("v", "a", "b"), newDevice(t, 9)
	for what, m := range wrongMaps() {
		refusesToPlace(t, what, newDevice(t, impl.MaxSectors), impl.FreeOf(newDevice(t, impl.MaxSectors), nil), m)
	}
	for what, wrong := range wrongDevices() {
		for _, m := range [][]impl.Pair{nil, right} {
			for _, free := range [][]int{nil, {0}, {2, 3, 4}} {
				refusesToPlace(t, what, wrong, free, m)
			}
		}
	}
	for _, at := range []int{-1, 9, 10, impl.MaxSectors - 1, impl.MaxSectors, math.MinInt, math.MaxInt} {
		for _, m := range [][]impl.Pair{nil, right} {
			refusesToPlace(t, "free is no place", d, []int{at}, m)
			refusesToPlace(t, "free is no place at first", d, []int{at, 2, 3, 4}, m)
			refusesToPlace(t, "free is no place at last", d, []int{2, 3, 4, 5, 6, at}, m)
		}
		stands := mustPlace(t, d, []int{2, 3, 4}, right)
		refusesToPlace(t, "free is no place, though none is needed", stands.device, []int{at}, right)
	}
	for _, free := range [][]int{nil, {}} {
		refusesToPlace(t, "none is free", d, free, right)
	}
}

// withPages is a device of so many sectors with the pages from the sector 0 on.
func withPages(t *testing.T, sectors int, pages ...impl.Page) impl.Device {
	t.Helper()
	d := newDevice(t, sectors)
	for at, p := range pages {
		d.Sectors[at] = mustPage(t, p)
	}
	return d
}

func TestReadTreeOfALeaf(t *testing.T) {
	leaf := leafOf(impl.Item{Key: "a", Value: "1"}, impl.Item{Key: "b"})
	d := withPages(t, 4, leaf)
	d.Sectors[3] = d.Sectors[0]
	for _, root := range []int{0, 3} {
		readsTree(t, "a leaf", d, root, []impl.Pair{{Key: "a", Value: "1"}, {Key: "b"}}, []int{root})
	}
	e := mustWrite(t, d, 1, d.Sectors[0])
	readsTree(t, "a leaf that is pending", e, 1, []impl.Pair{{Key: "a", Value: "1"}, {Key: "b"}}, []int{1})
	e = mustWrite(t, e, 1, "")
	refusesToReadTree(t, "a leaf that is written over", e, 1)
	refusesToReadTree(t, "the leaf is not yet there", d, 1)
}

// Only what the chapter names is looked at: PlaceTree would have cut these maps otherwise.
func TestReadTreesThatAreCutOtherwise(t *testing.T) {
	ends := keysThat(true, 2)
	d := withPages(t, 9, leafOf(impl.Item{Key: ends[0]}, impl.Item{Key: ends[1]}))
	readsTree(t, "a leaf that goes on behind its end", d, 0, mapOf("", ends...), []int{0})
	d = withPages(t, 9,
		innerOf(impl.Item{Key: "a", Page: 3}, impl.Item{Key: "c", Page: 2}, impl.Item{Key: "d", Page: 1}),
		leafOf(impl.Item{Key: "d"}, impl.Item{Key: "e"}), leafOf(impl.Item{Key: "c"}), leafOf(impl.Item{Key: "a"}, impl.Item{Key: "b"}))
	readsTree(t, "small leaves", d, 0, mapOf("", "a", "b", "c", "d", "e"), []int{0, 1, 2, 3})
	d.Sectors[8] = mustPage(t, innerOf(impl.Item{Key: "a"}))
	readsTree(t, "an inner page alone above all", d, 8, mapOf("", "a", "b", "c", "d", "e"), []int{0, 1, 2, 3, 8})
}

// chain is a leaf in the sector 0 with so many inner pages above it, each of one Item.
func chain(t *testing.T, levels int) impl.Device {
	t.Helper()
	pages := []impl.Page{leafOf(impl.Item{Key: "a", Value: "v"}, impl.Item{Key: "b"})}
	for at := 1; at < levels; at++ {
		pages = append(pages, innerOf(impl.Item{Key: "a", Page: at - 1}))
	}
	return withPages(t, 30, pages...)
}

func TestReadTreesOfManyLevels(t *testing.T) {
	for levels := 1; levels <= 25; levels++ {
		d := chain(t, levels)
		if levels > 12 {
			refusesToReadTree(t, "too deep a tree", d, levels-1)
		} else {
			readsTree(t, "a deep tree", d, levels-1, []impl.Pair{{Key: "a", Value: "v"}, {Key: "b"}}, allPlaces(levels))
		}
	}
}

// Two branches that are equally deep but for the last level of one.
func TestReadTreesWhoseLeavesAreNotEquallyDeep(t *testing.T) {
	for levels := 1; levels <= 10; levels++ {
		for other := 1; other <= 10; other++ {
			d := chain(t, levels)
			d.Sectors[11] = mustPage(t, leafOf(impl.Item{Key: "x"}))
			for at := 1; at < other; at++ {
				d.Sectors[11+at] = mustPage(t, innerOf(impl.Item{Key: "x", Page: 10 + at}))
			}
			d.Sectors[29] = mustPage(t, innerOf(impl.Item{Key: "a", Page: levels - 1}, impl.Item{Key: "x", Page: 10 + other}))
			if levels != other {
				refusesToReadTree(t, "not equally deep", d, 29)
				continue
			}
			used := append(allPlaces(levels), allPlaces(11 + other)[11:]...)
			readsTree(t, "equally deep", d, 29, []impl.Pair{{Key: "a", Value: "v"}, {Key: "b"}, {Key: "x"}}, append(used, 29))
		}
	}
}

func TestReadTreeRefuses(t *testing.T) {
	d := withPages(t, 6,
		leafOf(impl.Item{Key: "a"}, impl.Item{Key: "b"}), leafOf(impl.Item{Key: "c"}, impl.Item{Key: "d"}),
		innerOf(impl.Item{Key: "a"}, impl.Item{Key: "c", Page: 1}))
	d.Sectors[4], d.Sectors[5] = "no page", d.Sectors[0]+"\x00"
	readsTree(t, "all is well", d, 2, mapOf("", "a", "b", "c", "d"), []int{0, 1, 2})
	for _, root := range []int{-2, -3, 3, 4, 5, 6, 7, impl.MaxSectors, math.MinInt, math.MaxInt} {
		refusesToReadTree(t, "no root", d, root)
	}
	for what, top := range map[string]impl.Page{
		"a first name with another Key":     innerOf(impl.Item{Key: "A"}, impl.Item{Key: "c", Page: 1}),
		"a longer first name":               innerOf(impl.Item{Key: "aa"}, impl.Item{Key: "c", Page: 1}),
		"the second Key of the page":        innerOf(impl.Item{Key: "b"}, impl.Item{Key: "c", Page: 1}),
		"a last name with another Key":      innerOf(impl.Item{Key: "a"}, impl.Item{Key: "d", Page: 1}),
		"a last name between":               innerOf(impl.Item{Key: "a"}, impl.Item{Key: "bb", Page: 1}),
		"one page twice":                    innerOf(impl.Item{Key: "a"}, impl.Item{Key: "b"}),
		"an empty sector":                   innerOf(impl.Item{Key: "a"}, impl.Item{Key: "c", Page: 3}),
		"an empty first sector":             innerOf(impl.Item{Key: "a", Page: 3}, impl.Item{Key: "c", Page: 1}),
		"a sector without a page":           innerOf(impl.Item{Key: "a"}, impl.Item{Key: "c", Page: 4}),
		"a page and more":                   innerOf(impl.Item{Key: "a", Page: 5}, impl.Item{Key: "c", Page: 1}),
		"a sector behind all":               innerOf(impl.Item{Key: "a"}, impl.Item{Key: "c", Page: 6}),
		"a sector far behind all":           innerOf(impl.Item{Key: "a"}, impl.Item{Key: "c", Page: impl.MaxSectors - 1}),
		"itself":                            innerOf(impl.Item{Key: "a", Page: 2}),
		"itself at first":                   innerOf(impl.Item{Key: "a", Page: 2}, impl.Item{Key: "c", Page: 1}),
		"itself at last, with another name": innerOf(impl.Item{Key: "a"}, impl.Item{Key: "c", Page: 2}),
	} {
		e := newDevice(t, 6)
		copy(e.Sectors, d.Sectors)
		e.Sectors[2] = mustPage(t, top)
		refusesToReadTree(t, what, e, 2)
	}
	refusesToReadTree(t, "a ring of two", withPages(t, 3, innerOf(impl.Item{Key: "a", Page: 1}), innerOf(impl.Item{Key: "a"})), 0)
}

// A page of each level names all those of the level below it whose first Key is not less than its own: no page is above itself, but they are read again and again.
func TestReadTreeOfTooManyPages(t *testing.T) {
	const width = 13
	letters := strings.Split("abcdefghijklm", "")
	var pages []impl.Page
	for _, letter := range letters {
		pages = append(pages, leafOf(impl.Item{Key: letter}))
	}
	for level := 1; level < 12; level++ {
		for i := range width {
			var names []impl.Item
			for j := i; j < width; j++ {
				names = append(names, impl.Item{Key: letters[j], Page: (level-1)*width + j})
			}
			pages = append(pages, innerOf(names...))
		}
	}
	d := withPages(t, len(pages), pages...)
	readsTree(t, "two levels", d, width, mapOf("", letters...), allPlaces(width+1))
	for root := 2 * width; root < len(pages); root += width {
		refusesToReadTree(t, "pages read again and again", d, root)
	}
	// Read one by one, the leaves would be more than a million.
	if made := testing.AllocsPerRun(1, func() { impl.ReadTree(d, len(pages)-width) }); made > 200000 {
		t.Errorf("ReadTree goes on behind MaxSectors pages: %v pieces of memory", made)
	}
}

func TestReadTreeOfWrongMaps(t *testing.T) {
	leaf := func(keys ...string) impl.Page { return leafOf(itemsOf(mapOf("", keys...))...) }
	for what, leaves := range map[string][]impl.Page{
		"Keys that descend from leaf to leaf": {leaf("a", "c"), leaf("b", "d")},
		"a Key in two leaves":                 {leaf("a", "b"), leaf("b", "c")},
		"a last Key in two leaves":            {leaf("a", "c"), leaf("b", "c")},
	} {
		d := withPages(t, 3, leaves[0], leaves[1], innerOf(impl.Item{Key: leaves[0].Items[0].Key}, impl.Item{Key: leaves[1].Items[0].Key, Page: 1}))
		refusesToReadTree(t, what, d, 2)
	}
	for size := 1; size <= impl.PageRoom-3; size++ {
		d := withPages(t, 2, leafOf(impl.Item{Key: someBytes(size)}), leafOf(impl.Item{Key: "a", Value: someBytes(size)}))
		if size <= impl.MaxKey {
			readsTree(t, "a long Key", d, 0, mapOf("", someBytes(size)), []int{0})
		} else {
			refusesToReadTree(t, "too long a Key", d, 0)
		}
		if size <= impl.MaxValue {
			readsTree(t, "a long Value", d, 1, mapOf(someBytes(size), "a"), []int{1})
		} else {
			refusesToReadTree(t, "too long a Value", d, 1)
		}
	}
}

// fan is a tree of two levels of leaves with so many pairs in all; its root is in the sector 0.
func fan(t *testing.T, size int) (impl.Device, []impl.Pair) {
	t.Helper()
	var m []impl.Pair
	for i := range size {
		m = append(m, impl.Pair{Key: string([]byte{byte(i/12 + 1), byte(i % 12)})})
	}
	d := newDevice(t, 20)
	var names []impl.Item
	for at := 0; at*12 < size; at++ {
		part := m[at*12 : min(at*12+12, size)]
		d.Sectors[at+1] = mustPage(t, leafOf(itemsOf(part)...))
		names = append(names, impl.Item{Key: part[0].Key, Page: at + 1})
	}
	d.Sectors[0] = mustPage(t, innerOf(names...))
	return d, m
}

func TestReadTreeOfMaxPairs(t *testing.T) {
	for size := impl.MaxPairs - 2; size <= impl.MaxPairs+12; size++ {
		d, m := fan(t, size)
		if size > impl.MaxPairs {
			refusesToReadTree(t, "too many pairs", d, 0)
		} else {
			readsTree(t, "many pairs", d, 0, m, allPlaces(1+(size+11)/12))
		}
	}
}

// Any one byte of any page of a tree that is turned is seen.
func TestReadTreeSeesATurnedByte(t *testing.T) {
	drawn := draws(13)
	d := newDevice(t, 100)
	m := drawn.pairs(20, impl.MaxValue)
	tree := mustPlace(t, d, drawn.shuffled(impl.FreeOf(d, nil)), m)
	e := mustFlush(t, tree.device)
	for _, at := range tree.used {
		text := e.Sectors[at]
		for i := range len(text) {
			e.Sectors[at] = text[:i] + string([]byte{text[i] ^ byte(1+i)}) + text[i+1:]
			refusesToReadTree(t, "a byte turned", e, tree.root)
		}
		e.Sectors[at] = ""
		refusesToReadTree(t, "a page lost", e, tree.root)
		e.Sectors[at] = text
	}
	readsTree(t, "turned back", e, tree.root, m, tree.used)
}

func TestReadTreeOfWrongDevices(t *testing.T) {
	for what, d := range wrongDevices() {
		for _, root := range []int{-2, -1, 0, 1, 2} {
			refusesToReadTree(t, what, d, root)
		}
	}
	d := chain(t, 2)
	d.Sectors[20] = someBytes(impl.SectorSize + 1)
	refusesToReadTree(t, "a sector beside the tree is too long", d, 1)
}

func TestFreeOf(t *testing.T) {
	for _, c := range []struct {
		sectors int
		used    []int
		want    []int
	}{
		{1, nil, nil},
		{2, nil, nil},
		{2, []int{0, 1}, nil},
		{3, nil, []int{2}},
		{3, []int{}, []int{2}},
		{3, []int{2}, nil},
		{7, nil, []int{2, 3, 4, 5, 6}},
		{7, []int{0, 1}, []int{2, 3, 4, 5, 6}},
		{7, []int{6, 3}, []int{2, 4, 5}},
		{7, []int{3, 6, 3, 3}, []int{2, 4, 5}},
		{7, []int{2, 3, 4, 5, 6}, nil},
		{7, []int{-1, 7, 4, impl.MaxSectors - 1, impl.MaxSectors, impl.MaxSectors + 3, math.MinInt, math.MaxInt}, []int{2, 3, 5, 6}},
		{impl.MaxSectors, nil, allPlaces(impl.MaxSectors)[2:]},
		{impl.MaxSectors, allPlaces(impl.MaxSectors - 1), []int{impl.MaxSectors - 1}},
		{impl.MaxSectors, allPlaces(impl.MaxSectors), nil},
	} {
		if got := impl.FreeOf(newDevice(t, c.sectors), c.used); !slices.Equal(got, c.want) {
			t.Errorf("FreeOf(%d sectors, %v) = %v, not %v", c.sectors, c.used, got, c.want)
		}
	}
	if got := impl.FreeOf(fullDevice(), []int{5}); len(got) != impl.MaxSectors-3 {
		t.Errorf("FreeOf a device that is full has %d sectors", len(got))
	}
	for what, d := range wrongDevices() {
		for _, used := range [][]int{nil, {2}, {-1}} {
			if got := impl.FreeOf(d, used); len(got) != 0 {
				t.Errorf("%s: FreeOf = %v", what, got)
			}
		}
	}
}

func TestTreesWriteIntoNoArgument(t *testing.T) {
	const far = 99
	d, sectors, pending := roomyDevice()
	oldSectors, oldPending := slices.Clone(sectors), slices.Clone(pending)
	free, used := []int{1, 0, far, far}, []int{1, 0, 1, far, far}
	m := append(mapOf(someBytes(30), "b", "a"), mapOf("spare", "spare", "spare")...)
	m[0], m[1] = m[1], m[0]
	oldMap := slices.Clone(m)
	items := []impl.Item{{Key: "a", Value: "x"}, {Key: keysThat(true, 1)[0]}, {Key: "spare", Page: far}, {Key: "spare", Page: far}}
	oldItems := slices.Clone(items)
	for range 2 {
		impl.MapOk(m[:2])
		impl.FreeOf(d, used[:3])
		impl.PlaceTree(d, free[:2], m[:2])
		impl.PlaceTree(d, free[:2], m[:1])
		impl.PlaceTree(d, free[:1], m[:0])
		for at := -1; at < 3; at++ {
			impl.ReadTree(d, at)
		}
		for kind := range 4 {
			impl.CutItems(kind, items[:2])
		}
	}
	if !slices.Equal(sectors, oldSectors) || !slices.Equal(pending, oldPending) || !slices.Equal(m, oldMap) || !slices.Equal(items, oldItems) {
		t.Errorf("arguments are left as %q, %+v, %q, %+v", sectors, pending, m, items)
	}
	if !slices.Equal(free, []int{1, 0, far, far}) || !slices.Equal(used, []int{1, 0, 1, far, far}) {
		t.Errorf("lists are left as %v, %v", free, used)
	}
}

func TestGroupsShareNothing(t *testing.T) {
	key, value := string([]byte("a key")), string([]byte("a value"))
	for _, kind := range []int{impl.PageLeaf, impl.PageInner, 3} {
		var list []impl.Item
		for range 40 {
			list = append(list, impl.Item{Key: key, Value: value, Page: 7})
		}
		want := cutByHand(kind, slices.Clone(list))
		groups := impl.CutItems(kind, list)
		for i := range list {
			list[i] = impl.Item{Key: "turned"}
		}
		if !slices.EqualFunc(groups, want, slices.Equal[[]impl.Item]) {
			t.Errorf("kind %d: a change of the list is seen in its groups", kind)
		}
		for i := range groups {
			// Whatever room is behind a group, nothing of the next stands in it.
			spare := groups[i][:cap(groups[i])]
			for j := range spare {
				sharesNoText(t, "a group's Item", spare[j].Key, []string{key, value})
				sharesNoText(t, "a group's Item", spare[j].Value, []string{key, value})
				spare[j] = impl.Item{Key: "turned"}
			}
			if i+1 < len(groups) && !slices.Equal(groups[i+1], want[i+1]) {
				t.Errorf("kind %d: the group %d shares memory with the next", kind, i)
			}
		}
	}
}

func TestTreesShareNothing(t *testing.T) {
	drawn := draws(14)
	m := drawn.pairs(25, impl.MaxValue)
	d := drawn.device(90, 12)
	free := impl.FreeOf(d, nil)
	e := mustPlace(t, d, free, m)
	again := mustPlace(t, e.device, impl.FreeOf(d, e.used), m)
	empty := mustPlace(t, d, free, nil)
	given := slices.Clone(d.Sectors)
	for _, p := range d.Pending {
		given = append(given, p.Text)
	}
	for _, p := range m {
		given = append(given, p.Key, p.Value)
	}
	for _, tree := range []placedTree{e, empty, again} {
		for _, text := range tree.device.Sectors {
			sharesNoText(t, "a sector", text, given)
		}
		for _, p := range tree.device.Pending {
			sharesNoText(t, "a write", p.Text, given)
		}
	}
	for _, p := range e.device.Pending {
		given = append(given, p.Text)
	}
	read, used, _ := impl.ReadTree(e.device, e.root)
	for _, p := range read {
		sharesNoText(t, "a Key", p.Key, given)
		sharesNoText(t, "a Value", p.Value, given)
	}
	want := slices.Clone(m)
	for i := range e.device.Sectors {
		d.Sectors[i%len(d.Sectors)], e.device.Sectors[i] = "turned", "turned"
	}
	for i := range e.device.Pending {
		e.device.Pending[i] = impl.Put{At: 1, Text: "turned"}
	}
	for i := range m {
		m[i] = impl.Pair{Key: "turned"}
	}
	for i := range free {
		free[i] = 1
	}
	readsTree(t, "behind all changes", again.device, again.root, want, again.used)
	if !slices.Equal(read, want) || !slices.Equal(used, again.used) || !slices.Equal(e.used, again.used) {
		t.Error("a change of the arguments is seen in the answers")
	}
}

func TestSameCallsSameTrees(t *testing.T) {
	drawn := draws(15)
	m, d := drawn.pairs(60, 20), drawn.device(200, 30)
	free := drawn.shuffled(impl.FreeOf(d, nil))
	first := mustPlace(t, d, free, m)
	for range 20 {
		sameTree(t, "once more", mustPlace(t, d, free, m), first)
	}
}
