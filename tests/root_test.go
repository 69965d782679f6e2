package tests

import (
	"fmt"
	"math"
	"slices"
	"strings"
	"testing"

	"loop.example/g00105/impl"
)

func mustRoot(t *testing.T, r impl.Root) string {
	t.Helper()
	text, ok := impl.RootText(r)
	if !ok {
		t.Fatalf("RootText(%+v) is false", r)
	}
	return text
}

func refusesRoot(t *testing.T, r impl.Root) {
	t.Helper()
	if text, ok := impl.RootText(r); ok || text != "" {
		t.Errorf("RootText(%+v) = %q, %v", r, text, ok)
	}
}

func refusesToReadRoot(t *testing.T, what, text string) {
	t.Helper()
	if r, ok := impl.ReadRoot(text); ok || r != (impl.Root{}) {
		t.Errorf("%s: ReadRoot(%q) = %+v, %v", what, text, r, ok)
	}
}

func lastRootIs(t *testing.T, what string, d impl.Device, r impl.Root, sector int) {
	t.Helper()
	if got, at, ok := impl.LastRoot(d); !ok || got != r || at != sector {
		t.Errorf("%s: LastRoot = %+v, %d, %v, not %+v, %d", what, got, at, ok, r, sector)
	}
}

func hasNoLastRoot(t *testing.T, what string, d impl.Device) {
	t.Helper()
	if got, at, ok := impl.LastRoot(d); ok || got != (impl.Root{}) || at != 0 {
		t.Errorf("%s: LastRoot = %+v, %d, %v", what, got, at, ok)
	}
}

// rightRoots has roots with their bytes ahead of the seal.
func rightRoots() map[string]impl.Root {
	return map[string]impl.Root{
		"R\x00\x00\x00\x00\x00\x00": {Serial: 0, Tree: -1},
		"R\x00\x00\x00\x00\x00\x01": {Serial: 0, Tree: 0},
		"R\x00\x00\x00\x01\x00\x03": {Serial: 1, Tree: 2},
		"R\x00\x00\x00\xff\x00\xff": {Serial: 255, Tree: 254},
		"R\x00\x00\x01\x00\x01\x00": {Serial: 256, Tree: 255},
		"R\x00\x00\x01\x02\x00\x00": {Serial: 258, Tree: -1},
		"R\x00\x00\xff\xff\x01\x01": {Serial: 65535, Tree: 256},
		"R\x00\x01\x00\x00\x00\x00": {Serial: 65536, Tree: -1},
		"R\x00\xff\xff\xff\x01\x8f": {Serial: 1<<24 - 1, Tree: impl.MaxSectors - 2},
		"R\x01\x00\x00\x00\x01\x90": {Serial: 1 << 24, Tree: impl.MaxSectors - 1},
		"R\x01\x02\x03\x04\x01\x02": {Serial: 0x01020304, Tree: 257},
		"R\x3b\x9a\xc9\xff\x00\x01": {Serial: impl.MaxNumber - 1, Tree: 0},
		"R\x3b\x9a\xca\x00\x00\x00": {Serial: impl.MaxNumber, Tree: -1},
		"R\x3b\x9a\xca\x00\x01\x90": {Serial: impl.MaxNumber, Tree: impl.MaxSectors - 1},
	}
}

func TestRootTextBytes(t *testing.T) {
	for inner, r := range rightRoots() {
		text, want := mustRoot(t, r), sealedByHand(inner)
		if len(text) != 11 || len(want) != 11 {
			t.Fatalf("RootText(%+v) has %d bytes", r, len(text))
		}
		for at := range want {
			if text[at] != want[at] {
				t.Errorf("RootText(%+v) has at %d the byte %d, not %d", r, at, text[at], want[at])
			}
		}
	}
}

func TestRootsComeBack(t *testing.T) {
	roots := []impl.Root{}
	for _, r := range rightRoots() {
		roots = append(roots, r)
	}
	for tree := -1; tree < impl.MaxSectors; tree++ {
		roots = append(roots, impl.Root{Serial: 7, Tree: tree}, impl.Root{Serial: impl.MaxNumber, Tree: tree})
	}
	draw := draws(6)
	for range 5000 {
		roots = append(roots, impl.Root{Serial: draw.below(impl.MaxNumber + 1), Tree: draw.below(impl.MaxSectors+1) - 1})
	}
	for _, r := range roots {
		text := mustRoot(t, r)
		if back, ok := impl.ReadRoot(text); !ok || back.Serial != r.Serial || back.Tree != r.Tree {
			t.Errorf("ReadRoot(%q) = %+v, %v, not %+v", text, back, ok, r)
		}
	}
}

func TestWrongRootsAreRefused(t *testing.T) {
	for _, serial := range []int{-1, -2, -256, impl.MaxNumber + 1, impl.MaxNumber + 256, 1<<32 - 1, 1 << 32, 1<<32 + 5, math.MinInt, math.MaxInt} {
		for _, tree := range []int{-1, 0, impl.MaxSectors - 1} {
			refusesRoot(t, impl.Root{Serial: serial, Tree: tree})
		}
	}
	for _, tree := range []int{-2, -3, -257, impl.MaxSectors, impl.MaxSectors + 1, 65534, 65535, 65536, 1 << 32, math.MinInt, math.MaxInt} {
		for _, serial := range []int{0, 1, impl.MaxNumber} {
			refusesRoot(t, impl.Root{Serial: serial, Tree: tree})
		}
		refusesRoot(t, impl.Root{Serial: -1, Tree: tree})
		refusesRoot(t, impl.Root{Serial: impl.MaxNumber + 1, Tree: tree})
	}
}

func TestRootWithOneByteTurnedIsNone(t *testing.T) {
	for _, r := range rightRoots() {
		text := mustRoot(t, r)
		for at := range len(text) {
			turned := []byte(text)
			for turn := 1; turn < 256; turn++ {
				turned[at] = text[at] ^ byte(turn)
				refusesToReadRoot(t, "a byte turned", string(turned))
			}
		}
	}
}

func TestRootCutOffOrWithMoreIsNone(t *testing.T) {
	for inner, r := range rightRoots() {
		text := mustRoot(t, r)
		for size := range len(text) {
			refusesToReadRoot(t, "cut off at the end", text[:size])
			refusesToReadRoot(t, "cut off ahead", text[len(text)-size:])
		}
		refusesToReadRoot(t, "twice", text+text)
		refusesToReadRoot(t, "not sealed", inner)
		refusesToReadRoot(t, "sealed twice", sealedByHand(text))
		for b := range 256 {
			more := string([]byte{byte(b)})
			refusesToReadRoot(t, "a byte more behind", text+more)
			refusesToReadRoot(t, "a byte more ahead", more+text)
			// Sealed anew, so that the reader itself has to see it.
			refusesToReadRoot(t, "a byte more behind, sealed anew", sealedByHand(inner+more))
			refusesToReadRoot(t, "a byte more ahead, sealed anew", sealedByHand(more+inner))
			refusesToReadRoot(t, "a byte more behind the mark, sealed anew", sealedByHand("R"+more+inner[1:]))
		}
		for size := range len(inner) {
			refusesToReadRoot(t, "cut off, sealed anew", sealedByHand(inner[:size]))
		}
	}
}

func TestReadRootRefusesAnotherFirstByte(t *testing.T) {
	for inner, r := range rightRoots() {
		for b := range 256 {
			text := sealedByHand(string([]byte{byte(b)}) + inner[1:])
			if b == 'R' {
				if back, ok := impl.ReadRoot(text); !ok || back != r {
					t.Errorf("ReadRoot(%q) = %+v, %v", text, back, ok)
				}
				continue
			}
			refusesToReadRoot(t, "another first byte", text)
		}
	}
}

// Of all numbers that may stand in the two bytes of Tree, just those up to MaxSectors are one.
func TestReadRootOfEveryTree(t *testing.T) {
	for n := range 1 << 16 {
		text := sealedByHand("R\x00\x00\x00\x05" + string([]byte{byte(n >> 8), byte(n)}))
		if n > impl.MaxSectors {
			refusesToReadRoot(t, "a Tree that is too great", text)
			continue
		}
		if r, ok := impl.ReadRoot(text); !ok || r != (impl.Root{Serial: 5, Tree: n - 1}) {
			t.Errorf("ReadRoot of the Tree %d = %+v, %v", n-1, r, ok)
		}
	}
}

func TestReadRootRefusesGreatSerials(t *testing.T) {
	for _, serial := range []string{"\x3b\x9a\xca\x01", "\x3b\x9a\xcb\x00", "\x3b\x9b\x00\x00", "\x3c\x00\x00\x00", "\x7f\xff\xff\xff", "\x80\x00\x00\x00", "\xff\xff\xff\xff"} {
		for _, tree := range []string{"\x00\x00", "\x00\x01", "\x01\x90"} {
			refusesToReadRoot(t, "a Serial that is too great", sealedByHand("R"+serial+tree))
		}
	}
}

func TestReadRootRefusesWhatIsNoRoot(t *testing.T) {
	refusesToReadRoot(t, "an empty text", "")
	refusesToReadRoot(t, "nothing, sealed", sealedByHand(""))
	refusesToReadRoot(t, "the mark alone", "R")
	refusesToReadRoot(t, "the mark alone, sealed", sealedByHand("R"))
	refusesToReadRoot(t, "noughts", strings.Repeat("\x00", 11))
	refusesToReadRoot(t, "noughts, sealed", sealedByHand(strings.Repeat("\x00", 7)))
	refusesToReadRoot(t, "a seal of noughts", "R\x00\x00\x00\x00\x00\x00\x00\x00\x00\x00")
	refusesToReadRoot(t, "a seal the lowest first", "R\x00\x00\x00\x00\x00\x00"+turnedRound(mustRoot(t, impl.Root{Tree: -1})[7:]))
	refusesToReadRoot(t, "Serial in as few bytes as do", sealedByHand("R\x05\x00\x00"))
	refusesToReadRoot(t, "figures", sealedByHand("R 5 399"))
	refusesToReadRoot(t, "as long as a sealed text may be", sealedByHand("R"+someBytes(impl.MaxText-1)))
	refusesToReadRoot(t, "far too long", strings.Repeat("R", 3*impl.MaxText))
	for _, p := range rightPages() {
		refusesToReadRoot(t, "a page", mustPage(t, p))
	}
	// A page that is just as long as a root.
	page := mustPage(t, leafOf(impl.Item{Key: "a", Value: "xy"}))
	if len(page) != 11 {
		t.Fatalf("the page has %d bytes", len(page))
	}
	refusesToReadRoot(t, "a page as long as a root", page)
}

func turnedRound(text string) string {
	out := []byte(text)
	slices.Reverse(out)
	return string(out)
}

func TestRootsAreNoPages(t *testing.T) {
	for _, r := range rightRoots() {
		refusesToRead(t, "a root", mustRoot(t, r))
	}
}

// serialsUp has Serials, each with a later one; by which byte they differ, and whether one byte alone would tell the other way, is not the same.
func serialsUp() [][2]int {
	return [][2]int{
		{0, 1}, {1, 2}, {9, 10}, {127, 128}, {255, 256}, {256, 257}, {511, 512}, {0x0100, 0x0200}, {0x00ff, 0x0200},
		{65535, 65536}, {0x01ffff, 0x020000}, {1<<24 - 1, 1 << 24}, {0x00ffffff, 0x3b000000},
		{0, impl.MaxNumber}, {impl.MaxNumber - 1, impl.MaxNumber}, {59999, 60000},
	}
}

// Of two roots the later one is read, wherever it stands and whether it is flushed or not.
func TestOfTwoRootsTheLaterOneIsRead(t *testing.T) {
	for _, serials := range serialsUp() {
		for _, trees := range [][2]int{{-1, -1}, {-1, 5}, {5, -1}, {3, 2}, {2, 3}, {0, impl.MaxSectors - 1}, {impl.MaxSectors - 1, 0}} {
			older := impl.Root{Serial: serials[0], Tree: trees[0]}
			later := impl.Root{Serial: serials[1], Tree: trees[1]}
			for at := range 2 {
				what := fmt.Sprintf("%+v, and %+v in the sector %d", older, later, at)
				for _, sectors := range []int{2, 3, 9} {
					d := mustWrite(t, newDevice(t, sectors), 1-at, mustRoot(t, older))
					lastRootIs(t, what+": the older one alone, pending", d, older, 1-at)
					both := mustWrite(t, d, at, mustRoot(t, later))
					lastRootIs(t, what+": pending both", both, later, at)
					lastRootIs(t, what+": flushed both", mustFlush(t, both), later, at)
					flushed := mustFlush(t, d)
					lastRootIs(t, what+": the older one alone, flushed", flushed, older, 1-at)
					lastRootIs(t, what+": pending the later one", mustWrite(t, flushed, at, mustRoot(t, later)), later, at)
					first := mustFlush(t, mustWrite(t, newDevice(t, sectors), at, mustRoot(t, later)))
					lastRootIs(t, what+": pending the older one", mustWrite(t, first, 1-at, mustRoot(t, older)), later, at)
				}
			}
		}
	}
}

func TestLastRootOfDrawnRoots(t *testing.T) {
	draw := draws(61)
	for range 2000 {
		most := []int{2, 300, 70000, impl.MaxNumber + 1}[draw.below(4)]
		var roots [2]impl.Root
		d := newDevice(t, 2+draw.below(4))
		for at := range roots {
			roots[at] = impl.Root{Serial: draw.below(most), Tree: draw.below(impl.MaxSectors+1) - 1}
			d = mustWrite(t, d, at, mustRoot(t, roots[at]))
			if draw.below(2) == 0 {
				d = mustFlush(t, d)
			}
		}
		later := 0
		if roots[1].Serial > roots[0].Serial {
			later = 1
		}
		lastRootIs(t, fmt.Sprintf("%+v", roots), d, roots[later], later)
	}
}

func TestOfEqualSerialsTheRootOfSector0IsRead(t *testing.T) {
	for _, serial := range []int{0, 1, 255, 65536, impl.MaxNumber} {
		for _, trees := range [][2]int{{-1, 0}, {0, -1}, {7, 7}, {2, impl.MaxSectors - 1}, {impl.MaxSectors - 1, 2}} {
			r, other := impl.Root{Serial: serial, Tree: trees[0]}, impl.Root{Serial: serial, Tree: trees[1]}
			for _, order := range [][2]int{{0, 1}, {1, 0}} {
				d := newDevice(t, 2)
				for _, at := range order {
					d = mustWrite(t, d, at, mustRoot(t, []impl.Root{r, other}[at]))
				}
				lastRootIs(t, "equal Serials, pending", d, r, 0)
				lastRootIs(t, "equal Serials, flushed", mustFlush(t, d), r, 0)
			}
		}
	}
}

// noRoots has texts for sectors that are no roots.
func noRoots(t *testing.T) []string {
	text := mustRoot(t, impl.Root{Serial: impl.MaxNumber, Tree: 3})
	return []string{
		"",
		"R",
		text[:10],
		text + "\x00",
		"\x00" + text,
		text[:4] + "?" + text[5:],
		strings.Repeat("R", impl.SectorSize),
		sealedByHand("S" + text[1:7]),
		sealedByHand("R\xff\xff\xff\xff\x00\x00"),
		sealedByHand("R\x00\x00\x00\x09\x01\x91"),
		mustPage(t, leafOf(impl.Item{Key: "a", Value: "xy"})),
	}
}

func TestLastRootOfOneRootAlone(t *testing.T) {
	for _, r := range rightRoots() {
		for at := range 2 {
			for _, none := range noRoots(t) {
				texts := []string{none, none, none}
				texts[at] = mustRoot(t, r)
				what := fmt.Sprintf("%+v in the sector %d, %q in the other", r, at, none)
				for _, sectors := range []int{2, 3} {
					lastRootIs(t, what, impl.Device{Sectors: texts[:sectors]}, r, at)
				}
				pending := impl.Device{Sectors: []string{none, none}, Pending: []impl.Put{{At: at, Text: texts[at]}}}
				lastRootIs(t, what+", pending", pending, r, at)
			}
		}
	}
}

func TestLastRootOfADeviceOfOneSector(t *testing.T) {
	for _, r := range rightRoots() {
		d := mustWrite(t, newDevice(t, 1), 0, mustRoot(t, r))
		lastRootIs(t, "one sector, pending", d, r, 0)
		lastRootIs(t, "one sector, flushed", mustFlush(t, d), r, 0)
	}
	for _, none := range noRoots(t) {
		hasNoLastRoot(t, "one sector without a root", impl.Device{Sectors: []string{none}})
	}
}

func TestLastRootRefusesTwoSectorsWithoutARoot(t *testing.T) {
	for _, a := range noRoots(t) {
		for _, b := range noRoots(t) {
			hasNoLastRoot(t, "two sectors without a root", impl.Device{Sectors: []string{a, b}})
			pending := []impl.Put{{At: 0, Text: a}, {At: 1, Text: b}}
			hasNoLastRoot(t, "two sectors without a root, pending", impl.Device{Sectors: []string{"", ""}, Pending: pending})
		}
	}
	for _, sectors := range []int{1, 2, 3, impl.MaxSectors} {
		hasNoLastRoot(t, "a new device", newDevice(t, sectors))
	}
}

func TestRootsInOtherSectorsAreNotRead(t *testing.T) {
	later, older := impl.Root{Serial: impl.MaxNumber, Tree: 5}, impl.Root{Serial: 3, Tree: -1}
	for _, at := range []int{2, 3, impl.MaxSectors - 1} {
		d := mustWrite(t, newDevice(t, impl.MaxSectors), at, mustRoot(t, later))
		hasNoLastRoot(t, "a root in another sector, pending", d)
		hasNoLastRoot(t, "a root in another sector, flushed", mustFlush(t, d))
		for own := range 2 {
			e := mustWrite(t, d, own, mustRoot(t, older))
			lastRootIs(t, "a later root in another sector, pending", e, older, own)
			lastRootIs(t, "a later root in another sector, flushed", mustFlush(t, e), older, own)
		}
	}
}

// A sector is what ReadSector tells: the last write counts, be it of a lesser Serial or of no root.
func TestLastRootReadsTheLastWrite(t *testing.T) {
	five, six, nine := impl.Root{Serial: 5, Tree: 2}, impl.Root{Serial: 6, Tree: 3}, impl.Root{Serial: 9, Tree: 4}
	for at := range 2 {
		sectors := make([]string, 2)
		sectors[at], sectors[1-at] = mustRoot(t, nine), mustRoot(t, five)
		d := impl.Device{Sectors: sectors}
		lastRootIs(t, "ahead of any write", d, nine, at)
		over := mustWrite(t, d, at, "")
		lastRootIs(t, "nothing over the later one", over, five, 1-at)
		lastRootIs(t, "nothing over the later one, flushed", mustFlush(t, over), five, 1-at)
		less := mustWrite(t, mustWrite(t, d, at, mustRoot(t, impl.Root{Serial: 0, Tree: 8})), 1-at, mustRoot(t, six))
		lastRootIs(t, "a lesser Serial over the greater one", less, six, 1-at)
		twice := mustWrite(t, mustWrite(t, less, at, ""), at, mustRoot(t, nine))
		lastRootIs(t, "and the greater one again", twice, nine, at)
		hasNoLastRoot(t, "nothing over both", mustWrite(t, over, 1-at, "x"))
	}
}

// A later root that is torn is none: the older one is read, until the later one is there as a whole.
func TestLastRootOfATornWrite(t *testing.T) {
	older, later := impl.Root{Serial: 4, Tree: 2}, impl.Root{Serial: 5, Tree: 300}
	for at := range 2 {
		d := mustFlush(t, mustWrite(t, newDevice(t, 2), 1-at, mustRoot(t, older)))
		d = mustWrite(t, d, at, mustRoot(t, later))
		for part := range impl.SectorSize + 1 {
			torn, _ := impl.CrashDevice(d, nil, 0, part)
			if part < 11 {
				lastRootIs(t, "torn", torn, older, 1-at)
			} else {
				lastRootIs(t, "torn behind its end", torn, later, at)
			}
		}
	}
}

func TestLastRootRefusesWrongDevices(t *testing.T) {
	for what, d := range wrongDevices() {
		hasNoLastRoot(t, what, d)
		// With roots in both sectors, wherever it has them.
		roots := impl.Device{Sectors: slices.Clone(d.Sectors), Pending: d.Pending}
		for at := range min(2, len(d.Sectors)) {
			if len(d.Sectors[at]) <= impl.SectorSize {
				roots.Sectors[at] = mustRoot(t, impl.Root{Serial: 5 + at, Tree: 2})
			}
		}
		hasNoLastRoot(t, what+", with roots", roots)
	}
}

func TestLastRootDoesNotAskForTheTree(t *testing.T) {
	r := impl.Root{Serial: 8, Tree: impl.MaxSectors - 1}
	lastRootIs(t, "a Tree that is no sector of the device", impl.Device{Sectors: []string{mustRoot(t, r)}}, r, 0)
	r.Tree = 1
	lastRootIs(t, "a Tree that is no page", impl.Device{Sectors: []string{mustRoot(t, r), "x"}}, r, 0)
}

func TestLastRootWritesIntoNothing(t *testing.T) {
	a, b := mustRoot(t, impl.Root{Serial: 1, Tree: 2}), mustRoot(t, impl.Root{Serial: 2, Tree: 3})
	given := func() ([]string, []impl.Put) {
		return []string{a, "sector", "spare", "spare"}, []impl.Put{{At: 1, Text: b}, {At: 9, Text: "spare"}, {At: 9, Text: "spare"}}
	}
	sectors, pending := given()
	wantSectors, wantPending := given()
	d := impl.Device{Sectors: sectors[:2], Pending: pending[:1]}
	for range 3 {
		lastRootIs(t, "again and again", d, impl.Root{Serial: 2, Tree: 3}, 1)
		if !slices.Equal(sectors, wantSectors) || !slices.Equal(pending, wantPending) {
			t.Fatalf("LastRoot leaves its argument as %q, %+v", sectors, pending)
		}
	}
	// What was told before stays told: nothing is kept of it.
	d.Pending[0].Text = a
	lastRootIs(t, "behind a change of the device", d, impl.Root{Serial: 1, Tree: 2}, 0)
}

func TestRootTextsAreNewMemory(t *testing.T) {
	r := impl.Root{Serial: 77, Tree: 9}
	first, again := mustRoot(t, r), mustRoot(t, r)
	if first != again || within(first, again) {
		t.Error("two texts of one root are not alike, or stand in one memory")
	}
}
