package tests

import (
	"fmt"
	"math"
	"slices"
	"testing"

	"loop.example/g00105/impl"
)

func sameStore(a, b impl.Store) bool {
	return sameDevice(a.Device, b.Device) && slices.Equal(a.Map, b.Map) && a.Root == b.Root
}

func isZeroStore(s impl.Store) bool {
	return sameStore(s, impl.Store{})
}

func mustFormat(t *testing.T, sectors int) impl.Store {
	t.Helper()
	s, ok := impl.FormatStore(sectors)
	if !ok {
		t.Fatalf("FormatStore(%d) is false", sectors)
	}
	return s
}

func mustOpen(t *testing.T, d impl.Device) impl.Store {
	t.Helper()
	s, ok := impl.OpenStore(d)
	if !ok {
		t.Fatal("OpenStore is false")
	}
	return s
}

func opensAs(t *testing.T, what string, d impl.Device, want impl.Store) {
	t.Helper()
	if s, ok := impl.OpenStore(d); !ok || !sameStore(s, want) {
		t.Errorf("%s: OpenStore = %+v, %v, not %+v", what, s, ok, want)
	}
}

func refusesToOpen(t *testing.T, what string, d impl.Device) {
	t.Helper()
	if s, ok := impl.OpenStore(d); ok || !isZeroStore(s) {
		t.Errorf("%s: OpenStore = %+v, %v", what, s, ok)
	}
}

// committed is what CommitStore answers beside true.
type committed struct {
	store impl.Store
	steps []impl.Device
}

func mustCommit(t *testing.T, s impl.Store, m []impl.Pair) committed {
	t.Helper()
	n, steps, ok := impl.CommitStore(s, m)
	if !ok || len(steps) != 2 {
		t.Fatalf("CommitStore of %d pairs on %d sectors is %v, of %d devices", len(m), len(s.Device.Sectors), ok, len(steps))
	}
	return committed{n, steps}
}

// refusesToCommit holds CrashCommit, too, which is false wherever CommitStore is.
func refusesToCommit(t *testing.T, what string, s impl.Store, m []impl.Pair) {
	t.Helper()
	if n, steps, ok := impl.CommitStore(s, m); ok || !isZeroStore(n) || len(steps) != 0 {
		t.Errorf("%s: CommitStore = %+v, %+v, %v", what, n, steps, ok)
	}
	for step := range 2 {
		refusesToCrash(t, what, s, m, step, nil, -1, 0)
	}
}

func comesBackAs(t *testing.T, what string, want, s impl.Store, m []impl.Pair, step int, keep []int, torn, part int) {
	t.Helper()
	if got, ok := impl.CrashCommit(s, m, step, keep, torn, part); !ok || !sameStore(got, want) {
		t.Errorf("%s: CrashCommit(.., %d, %v, %d, %d) = %+v, %v, not %+v", what, step, keep, torn, part, got, ok, want)
	}
}

func refusesToCrash(t *testing.T, what string, s impl.Store, m []impl.Pair, step int, keep []int, torn, part int) {
	t.Helper()
	if got, ok := impl.CrashCommit(s, m, step, keep, torn, part); ok || !isZeroStore(got) {
		t.Errorf("%s: CrashCommit(.., %d, %v, %d, %d) = %+v, %v", what, step, keep, torn, part, got, ok)
	}
}

// rootIn is the sector of the last root, told by the Serial: of a formatted store it is 0 at first, and then 1, 0 and so on.
func rootIn(s impl.Store) int {
	return s.Root.Serial % 2
}

// usedBy has the sectors of a store's tree.
func usedBy(t *testing.T, s impl.Store) []int {
	t.Helper()
	_, used, ok := impl.ReadTree(s.Device, s.Root.Tree)
	if !ok {
		t.Fatal("ReadTree of a store is false")
	}
	return used
}

func freeByHand(sectors int, used []int) []int {
	var free []int
	for at := 2; at < sectors; at++ {
		if !slices.Contains(used, at) {
			free = append(free, at)
		}
	}
	return free
}

// commitByHand is CommitStore as the chapter tells it, of a store whose last root is in the sector at, and which has room.
func commitByHand(t *testing.T, s impl.Store, at int, m []impl.Pair) committed {
	t.Helper()
	tree, _ := placeByHand(t, s.Device, freeByHand(len(s.Device.Sectors), usedBy(t, s)), m)
	root := impl.Root{Serial: s.Root.Serial + 1, Tree: tree.root}
	kept := impl.Device{Sectors: crashByHand(tree.device, allPlaces(len(tree.device.Pending)), -1, 0)}
	text := mustRoot(t, root)
	rooted := impl.Device{Sectors: kept.Sectors, Pending: []impl.Put{{At: 1 - at, Text: text}}}
	done := slices.Clone(kept.Sectors)
	done[1-at] = text
	return committed{
		store: impl.Store{Device: impl.Device{Sectors: done}, Map: m, Root: root},
		steps: []impl.Device{tree.device, rooted},
	}
}

func sameCommit(t *testing.T, what string, got, want committed) {
	t.Helper()
	if !sameStore(got.store, want.store) {
		t.Errorf("%s: committed as %+v, not %+v", what, got.store, want.store)
	}
	if !slices.EqualFunc(got.steps, want.steps, sameDevice) {
		t.Errorf("%s: the devices ahead of the flushes are %+v, not %+v", what, got.steps, want.steps)
	}
}

// growingMaps has maps as they come one behind the other: grown, changed in one pair, the same again, shrunk, emptied, grown at once.
func growingMaps(seed int) [][]impl.Pair {
	drawn := draws(seed)
	all := drawn.pairs(60, impl.MaxValue)
	var maps [][]impl.Pair
	for _, size := range []int{1, 2, 5, 20, 40, 60} {
		maps = append(maps, all[:size])
	}
	for range 6 {
		next := slices.Clone(maps[len(maps)-1])
		next[drawn.below(len(next))].Value = drawn.text(0, impl.MaxValue, 256)
		maps = append(maps, next)
	}
	last := maps[len(maps)-1]
	maps = append(maps, last, slices.Clone(last))
	for _, size := range []int{59, 41, 12, 3, 1, 0, 0, 60, 0, 7} {
		maps = append(maps, last[:size])
	}
	return maps
}

func TestFormatStore(t *testing.T) {
	for _, sectors := range []int{4, 5, 10, 64, impl.MaxSectors - 1, impl.MaxSectors} {
		texts := make([]string, sectors)
		texts[0] = sealedByHand("R\x00\x00\x00\x00\x00\x00")
		want := impl.Store{Device: impl.Device{Sectors: texts}, Root: impl.Root{Serial: 0, Tree: -1}}
		if s := mustFormat(t, sectors); !sameStore(s, want) {
			t.Errorf("FormatStore(%d) = %+v", sectors, s)
		}
		opensAs(t, "a new store", want.Device, want)
	}
	for _, sectors := range []int{3, 2, 1, 0, -1, -4, -10, impl.MaxSectors + 1, impl.MaxSectors + 4, math.MinInt, math.MaxInt} {
		if s, ok := impl.FormatStore(sectors); ok || !isZeroStore(s) {
			t.Errorf("FormatStore(%d) = %+v, %v", sectors, s, ok)
		}
	}
}

// Promise 7, its first half: what is committed is opened as it was committed, each step as the chapter tells it.
func TestCommittedIsOpened(t *testing.T) {
	for seed, sectors := range []int{impl.MaxSectors, 250, 131, 140} {
		s := mustFormat(t, sectors)
		for i, m := range growingMaps(70 + seed) {
			what := fmt.Sprintf("%d sectors, commit %d", sectors, i)
			next := mustCommit(t, s, m)
			sameCommit(t, what, next, commitByHand(t, s, rootIn(s), m))
			opensAs(t, what, next.store.Device, next.store)
			if next.store.Root.Serial != i+1 || !slices.Equal(next.store.Map, m) {
				t.Errorf("%s: the Serial is %d, the map %q", what, next.store.Root.Serial, next.store.Map)
			}
			lastRootIs(t, what, next.store.Device, next.store.Root, (i+1)%2)
			// The root ahead stays where it is, until the commit behind this one.
			reads(t, what, next.store.Device, i%2, mustRoot(t, s.Root))
			s = next.store
		}
	}
}

func TestCommitOfDrawnMaps(t *testing.T) {
	for _, m := range drawnMaps(75) {
		s := mustFormat(t, impl.MaxSectors)
		next := mustCommit(t, s, m)
		sameCommit(t, "a first map", next, commitByHand(t, s, 0, m))
		opensAs(t, "a first map", next.store.Device, next.store)
	}
}

// One small commit, written out.
func TestCommitByTheBytes(t *testing.T) {
	s := mustFormat(t, 4)
	root := s.Device.Sectors[0]
	page := sealedByHand("\x01\x01\x01a\x011")
	first := sealedByHand("R\x00\x00\x00\x01\x00\x03")
	next := mustCommit(t, s, mapOf("1", "a"))
	sameCommit(t, "a first map", next, committed{
		store: impl.Store{Device: impl.Device{Sectors: []string{root, first, page, ""}}, Map: mapOf("1", "a"), Root: impl.Root{Serial: 1, Tree: 2}},
		steps: []impl.Device{
			{Sectors: []string{root, "", "", ""}, Pending: []impl.Put{{At: 2, Text: page}}},
			{Sectors: []string{root, "", page, ""}, Pending: []impl.Put{{At: 1, Text: first}}},
		},
	})
	other := sealedByHand("\x01\x01\x01b\x00")
	second := sealedByHand("R\x00\x00\x00\x02\x00\x04")
	sameCommit(t, "a second map", mustCommit(t, next.store, mapOf("", "b")), committed{
		store: impl.Store{Device: impl.Device{Sectors: []string{second, first, page, other}}, Map: mapOf("", "b"), Root: impl.Root{Serial: 2, Tree: 3}},
		steps: []impl.Device{
			{Sectors: []string{root, first, page, ""}, Pending: []impl.Put{{At: 3, Text: other}}},
			{Sectors: []string{root, first, page, other}, Pending: []impl.Put{{At: 0, Text: second}}},
		},
	})
}

// While the old tree stands, none of its sectors is written to, and of the two roots just the older one.
func TestCommitLeavesTheOldTree(t *testing.T) {
	s := mustFormat(t, 140)
	for i, m := range growingMaps(71) {
		what := fmt.Sprintf("commit %d", i)
		old := usedBy(t, s)
		next := mustCommit(t, s, m)
		for _, p := range next.steps[0].Pending {
			if p.At < 2 || slices.Contains(old, p.At) {
				t.Errorf("%s: the sector %d is written to, while %v stand", what, p.At, old)
			}
		}
		if p := next.steps[1].Pending; len(p) != 1 || p[0].At != 1-rootIn(s) {
			t.Errorf("%s: ahead of the second flush these are pending: %+v", what, p)
		}
		if !slices.Equal(next.steps[0].Sectors, s.Device.Sectors) {
			t.Errorf("%s: ahead of the first flush sectors are turned", what)
		}
		first := mustFlush(t, next.steps[0])
		opensAs(t, what+": flushed first", first, asAhead(s, first.Sectors))
		opensAs(t, what+": flushed both", mustFlush(t, next.steps[1]), next.store)
		s = next.store
	}
}

// asAhead is a store as it was ahead of a commit, on what the power left.
func asAhead(s impl.Store, left []string) impl.Store {
	return impl.Store{Device: impl.Device{Sectors: left}, Map: s.Map, Root: s.Root}
}

// crashesOf holds every crash of a commit of few writes: all sets that are kept, each torn one, at each part.
func crashesOf(t *testing.T, what string, s impl.Store, m []impl.Pair, parts []int) {
	t.Helper()
	next := mustCommit(t, s, m)
	for step, d := range next.steps {
		writes := len(d.Pending)
		for set := range 1 << writes {
			var keep []int
			for i := range writes {
				if set>>i&1 == 1 {
					keep = append(keep, i)
				}
			}
			for torn := -1; torn <= writes; torn++ {
				for _, part := range parts {
					left := crashByHand(d, keep, torn, part)
					want := asAhead(s, left)
					if step == 1 && (len(keep) == 1 || torn == 0 && part >= 11) {
						want = next.store
					}
					comesBackAs(t, what, want, s, m, step, keep, torn, part)
				}
			}
		}
	}
}

// Promise 7, its second half: whatever the power does, the store is the one ahead or the one behind; ahead of the first flush it is always the one ahead.
func TestEveryCrashOfSmallCommits(t *testing.T) {
	s := mustFormat(t, 12)
	end := keysThat(true, 2)
	for i, m := range [][]impl.Pair{
		mapOf("1", "a"), mapOf("2", "a"), nil, mapOf("v", "a", end[0]), mapOf("v", "a", end[0], "z"),
		mapOf("v", "a", end[0], "z"), mapOf("w", "a", end[0], "z"), mapOf("w", "z"), nil, nil,
	} {
		what := fmt.Sprintf("commit %d", i)
		crashesOf(t, what, s, m, allPlaces(impl.SectorSize+1))
		s = mustCommit(t, s, m).store
	}
}

func TestCrashesOfGreaterCommits(t *testing.T) {
	drawn := draws(72)
	s := mustFormat(t, 131)
	for i, m := range growingMaps(73) {
		what := fmt.Sprintf("commit %d", i)
		next := mustCommit(t, s, m)
		writes := len(next.steps[0].Pending)
		crash := func(keep []int, torn, part int) {
			left := crashByHand(next.steps[0], keep, torn, part)
			comesBackAs(t, what, asAhead(s, left), s, m, 0, keep, torn, part)
		}
		crash(nil, -1, 0)
		crash(allPlaces(writes), -1, 0)
		for one := range writes {
			crash([]int{one}, -1, 0)
			crash(nil, one, drawn.below(impl.SectorSize+1))
		}
		for part := range impl.SectorSize + 1 {
			crash(drawn.shuffled(allPlaces(writes))[:drawn.below(writes+1)], drawn.below(writes+1), part)
		}
		comesBackAs(t, what, next.store, s, m, 1, []int{0}, -1, 0)
		comesBackAs(t, what, asAhead(s, next.steps[1].Sectors), s, m, 1, nil, -1, 0)
		s = next.store
	}
}

// What came back is a store like any other: it is committed to, and crashes again.
func TestCommitsBehindCrashes(t *testing.T) {
	drawn := draws(74)
	s := mustFormat(t, 60)
	seen := map[bool]int{}
	for i := range 600 {
		m := drawn.pairs(drawn.below(14), impl.MaxValue)
		next := mustCommit(t, s, m)
		step := drawn.below(2)
		writes := len(next.steps[step].Pending)
		keep := drawn.shuffled(allPlaces(writes))[:drawn.below(writes+1)]
		back, ok := impl.CrashCommit(s, m, step, keep, drawn.below(writes+1), drawn.below(impl.SectorSize+1))
		ahead := slices.Equal(back.Map, s.Map) && back.Root == s.Root
		behind := sameStore(back, next.store)
		if !ok || ahead == behind || step == 0 && behind {
			t.Fatalf("crash %d at the step %d: %v, ahead is %v, behind is %v", i, step, ok, ahead, behind)
		}
		opensAs(t, "behind a crash", back.Device, back)
		seen[behind]++
		s = back
		if drawn.below(3) == 0 {
			s = mustCommit(t, s, drawn.pairs(drawn.below(14), impl.MaxValue)).store
		}
	}
	if seen[true] < 50 || seen[false] < 50 {
		t.Errorf("so many were behind and ahead: %v", seen)
	}
}

// A root is written over the one of two commits ahead: torn, it is that one, or none, and never another one.
func TestTornRootsOfManyCommits(t *testing.T) {
	drawn := draws(76)
	for serial := 2; serial < 60000; serial++ {
		old := impl.Root{Serial: serial - 2, Tree: drawn.below(impl.MaxSectors+1) - 1}
		last := impl.Root{Serial: serial, Tree: drawn.below(impl.MaxSectors+1) - 1}
		ahead, behind := mustRoot(t, old), mustRoot(t, last)
		for part := 1; part < len(behind); part++ {
			torn := behind[:part] + ahead[part:]
			if r, ok := impl.ReadRoot(torn); ok && torn != ahead && torn != behind {
				t.Errorf("%+v over %+v, torn at %d: %+v", last, old, part, r)
			}
		}
	}
}

func TestManyCommits(t *testing.T) {
	s := mustFormat(t, 4)
	maps := [][]impl.Pair{mapOf("1", "a"), mapOf("2", "a"), nil, mapOf("3", "b"), mapOf("3", "b")}
	for serial := 1; serial < 60000; serial++ {
		m := maps[serial%len(maps)]
		next := mustCommit(t, s, m)
		if next.store.Root.Serial != serial || !slices.Equal(next.store.Map, m) {
			t.Fatalf("commit %d is told as %+v", serial, next.store)
		}
		if serial%9973 < 5 || serial >= 59990 {
			opensAs(t, "many commits", next.store.Device, next.store)
			crashesOf(t, "many commits", s, m, []int{0, 1, 3, 4, 5, 6, 7, 8, 9, 10, 11, impl.SectorSize})
		}
		s = next.store
	}
}

func TestCommitOfTheEmptyMap(t *testing.T) {
	s := mustFormat(t, 4)
	for i, m := range [][]impl.Pair{nil, {}, mapOf("1", "a"), {}, nil} {
		next := mustCommit(t, s, m)
		sameCommit(t, "the empty map", next, commitByHand(t, s, rootIn(s), m))
		if len(m) == 0 && (len(next.steps[0].Pending) != 0 || next.store.Root != impl.Root{Serial: i + 1, Tree: -1} || len(next.store.Map) != 0) {
			t.Errorf("the empty map is committed as %+v, with %+v", next.store, next.steps[0].Pending)
		}
		s = next.store
	}
}

func TestCommitOfTheSameMap(t *testing.T) {
	drawn := draws(77)
	for _, m := range [][]impl.Pair{mapOf("1", "a"), drawn.pairs(30, impl.MaxValue), drawn.pairs(impl.MaxPairs, impl.MaxValue)} {
		s := mustCommit(t, mustFormat(t, impl.MaxSectors), m).store
		for range 3 {
			next := mustCommit(t, s, slices.Clone(m))
			if len(next.steps[0].Pending) != 0 || next.store.Root != (impl.Root{Serial: s.Root.Serial + 1, Tree: s.Root.Tree}) {
				t.Errorf("the same map is committed with %+v as %+v", next.steps[0].Pending, next.store.Root)
			}
			if !slices.Equal(next.store.Device.Sectors[2:], s.Device.Sectors[2:]) {
				t.Error("the same map turns a page")
			}
			opensAs(t, "the same map", next.store.Device, next.store)
			s = next.store
		}
	}
}

// withRoot is a store whose last root has this Serial, in the sector at; what stood there is written over.
func withRoot(t *testing.T, s impl.Store, at, serial int) impl.Store {
	t.Helper()
	text := mustRoot(t, impl.Root{Serial: serial, Tree: s.Root.Tree})
	return mustOpen(t, mustFlush(t, mustWrite(t, s.Device, at, text)))
}

func TestCommitOfTheLastSerial(t *testing.T) {
	for at := range 2 {
		for _, m := range [][]impl.Pair{nil, mapOf("1", "a"), mapOf("2", "a")} {
			s := mustCommit(t, mustFormat(t, 6), mapOf("1", "a")).store
			last := mustCommit(t, withRoot(t, s, at, impl.MaxNumber-1), m)
			if last.store.Root.Serial != impl.MaxNumber {
				t.Errorf("the Serial is %d", last.store.Root.Serial)
			}
			lastRootIs(t, "the last Serial", last.store.Device, last.store.Root, 1-at)
			opensAs(t, "the last Serial", last.store.Device, last.store)
			for _, n := range [][]impl.Pair{nil, m, mapOf("3", "a")} {
				refusesToCommit(t, "there is no Serial behind it", last.store, n)
			}
		}
	}
}

func TestCommitsOfSerialsOfMoreBytes(t *testing.T) {
	for _, serial := range []int{255, 256, 65534, 65535, 65536, 1<<24 - 1, 1 << 24, impl.MaxNumber - 2} {
		for at := range 2 {
			s := withRoot(t, mustCommit(t, mustFormat(t, 9), mapOf("1", "a")).store, at, serial)
			next := mustCommit(t, s, mapOf("2", "a", "b"))
			sameCommit(t, "a great Serial", next, commitByHand(t, s, at, mapOf("2", "a", "b")))
			opensAs(t, "a great Serial", next.store.Device, next.store)
		}
	}
}

// Of equal Serials the root of the sector 0 is the last one, so the next one comes into the sector 1.
func TestCommitBehindEqualSerials(t *testing.T) {
	s := mustCommit(t, mustFormat(t, 9), mapOf("1", "a")).store
	d := mustFlush(t, mustWrite(t, s.Device, 0, mustRoot(t, impl.Root{Serial: 1, Tree: -1})))
	e := mustOpen(t, d)
	if len(e.Map) != 0 || e.Root != (impl.Root{Serial: 1, Tree: -1}) {
		t.Errorf("of equal Serials %+v is opened", e)
	}
	next := mustCommit(t, e, mapOf("2", "b"))
	sameCommit(t, "equal Serials", next, commitByHand(t, e, 0, mapOf("2", "b")))
	opensAs(t, "equal Serials", next.store.Device, next.store)
	refusesToCommit(t, "the store of the sector 1", impl.Store{Device: d, Map: s.Map, Root: s.Root}, nil)
}

// Of a device just full enough, and of one sector less: while the old tree stands, its sectors are none to be written to.
func TestCommitOnDevicesThatAreFull(t *testing.T) {
	drawn := draws(78)
	for _, size := range []int{1, 2, 7, 30, 60} {
		a, b := drawn.pairs(size, impl.MaxValue), drawn.pairs(size, impl.MaxValue)
		wide := mustCommit(t, mustFormat(t, impl.MaxSectors), a)
		first := len(wide.steps[0].Pending)
		second := len(mustCommit(t, wide.store, b).steps[0].Pending)
		what := fmt.Sprintf("%d pairs", size)
		just := mustCommit(t, mustFormat(t, 2+first+second), a).store
		next := mustCommit(t, just, b)
		sameCommit(t, what, next, commitByHand(t, just, 1, b))
		opensAs(t, what+", just full enough", next.store.Device, next.store)
		if 2+first+second > 4 {
			less := mustCommit(t, mustFormat(t, 1+first+second), a).store
			refusesToCommit(t, what+", one sector less", less, b)
			// What is refused leaves the store as it was, and what has room is still committed.
			opensAs(t, what+", behind a refused commit", less.Device, less)
			mustCommit(t, less, a)
			mustCommit(t, less, nil)
		}
		if first > 2 {
			refusesToCommit(t, what+", a first map", mustFormat(t, 1+first), a)
			mustCommit(t, mustFormat(t, 2+first), a)
		}
	}
	// The least store has room for two pages: for one that takes the place of another, and for no more.
	s := mustFormat(t, 4)
	end := keysThat(true, 1)
	refusesToCommit(t, "three pages on two sectors", s, mapOf("1", end[0], "z"))
	s = mustCommit(t, s, mapOf("1", "a")).store
	s = mustCommit(t, s, mapOf("2", "a")).store
	s = mustCommit(t, s, mapOf("3", "a")).store
	opensAs(t, "the least store", s.Device, s)
}

// Devices of fewer sectors than FormatStore takes are opened, when they have a root; where there is no place for the next one, nothing is committed.
func TestStoresOnSmallDevices(t *testing.T) {
	root := impl.Root{Serial: 7, Tree: -1}
	one := impl.Device{Sectors: []string{mustRoot(t, root)}}
	s := impl.Store{Device: one, Root: root}
	opensAs(t, "one sector", one, s)
	refusesToCommit(t, "one sector", s, nil)
	two := impl.Device{Sectors: []string{"", mustRoot(t, root)}}
	s = impl.Store{Device: two, Root: root}
	opensAs(t, "two sectors", two, s)
	sameCommit(t, "two sectors", mustCommit(t, s, nil), commitByHand(t, s, 1, nil))
	refusesToCommit(t, "two sectors, and a page", s, mapOf("1", "a"))
}

func TestOpenStoreRefuses(t *testing.T) {
	s := mustCommit(t, mustFormat(t, 9), mapOf("1", "a")).store
	refusesToOpen(t, "a new device", newDevice(t, 9))
	for _, a := range noRoots(t) {
		for _, b := range noRoots(t) {
			d := impl.Device{Sectors: slices.Clone(s.Device.Sectors)}
			d.Sectors[0], d.Sectors[1] = a, b
			refusesToOpen(t, "a device without a root", d)
		}
	}
	elsewhere := newDevice(t, 9)
	elsewhere.Sectors[2] = mustRoot(t, s.Root)
	refusesToOpen(t, "a root in another sector", elsewhere)
	for _, tree := range []int{0, 1, 3, 8, 9, 10, impl.MaxSectors - 1} {
		d := mustFlush(t, mustWrite(t, s.Device, 0, mustRoot(t, impl.Root{Serial: 2, Tree: tree})))
		refusesToOpen(t, "a root whose sector has no page, or is none", d)
	}
	for at := range 2 {
		d := impl.Device{Sectors: slices.Clone(s.Device.Sectors)}
		d.Sectors[2] = d.Sectors[2][:3+at] + "?" + d.Sectors[2][4+at:]
		refusesToOpen(t, "a page with a byte turned", d)
	}
	// The last root alone counts, though the one ahead of it has a tree.
	d := mustCommit(t, s, mapOf("2", "b")).store.Device
	d.Sectors[3] = ""
	refusesToOpen(t, "the last root's page is gone", d)
	for what, d := range wrongDevices() {
		refusesToOpen(t, what, d)
		d.Sectors = slices.Clone(d.Sectors)
		for at := range min(2, len(d.Sectors)) {
			d.Sectors[at] = s.Device.Sectors[at]
		}
		d.Pending = append(slices.Clone(d.Pending), impl.Put{At: 0, Text: ""})
		refusesToOpen(t, what+", with roots and a write", d)
	}
	long := impl.Device{Sectors: slices.Clone(s.Device.Sectors)}
	long.Sectors[8] = someBytes(impl.SectorSize + 1)
	refusesToOpen(t, "a sector that is too long", long)
	many := impl.Device{Sectors: append(slices.Clone(s.Device.Sectors), make([]string, impl.MaxSectors-8)...)}
	refusesToOpen(t, "one sector too many", many)
}

func TestOpenStoreRefusesWhatIsPending(t *testing.T) {
	s := mustCommit(t, mustFormat(t, 9), mapOf("1", "a")).store
	for at := range 9 {
		for _, text := range []string{"", s.Device.Sectors[at], mustRoot(t, impl.Root{Serial: 5, Tree: -1})} {
			refusesToOpen(t, "a write is pending", mustWrite(t, s.Device, at, text))
		}
	}
	next := mustCommit(t, s, mapOf("2", "a"))
	for _, d := range next.steps {
		refusesToOpen(t, "ahead of a flush", d)
		refusesToCommit(t, "ahead of a flush", impl.Store{Device: d, Map: s.Map, Root: s.Root}, nil)
		refusesToCommit(t, "ahead of a flush", impl.Store{Device: d, Map: next.store.Map, Root: next.store.Root}, nil)
	}
}

// A tree that PlaceTree would cut otherwise is a tree all the same.
func TestStoresOfForeignTrees(t *testing.T) {
	b, c := leafOf(impl.Item{Key: "b"}), leafOf(impl.Item{Key: "c"})
	inner := innerOf(impl.Item{Key: "b", Page: 2}, impl.Item{Key: "c", Page: 3})
	root := impl.Root{Serial: 3, Tree: 4}
	d := impl.Device{Sectors: []string{"", mustRoot(t, root), mustPage(t, b), mustPage(t, c), mustPage(t, inner), ""}}
	s := impl.Store{Device: d, Map: mapOf("", "b", "c"), Root: root}
	opensAs(t, "a foreign tree", d, s)
	for _, m := range [][]impl.Pair{nil, mapOf("x", "d"), mapOf("", "b"), mapOf("", "b", "c")} {
		next := mustCommit(t, s, m)
		sameCommit(t, "a foreign tree", next, commitByHand(t, s, 1, m))
		opensAs(t, "a foreign tree", next.store.Device, next.store)
	}
}

// Where a foreign device has a page in the sector into which the next root comes, a tree with this page would be lost by it: none such is committed.
func TestCommitOverAPageInTheSectorOfTheRoot(t *testing.T) {
	page := mustPage(t, leafOf(impl.Item{Key: "a", Value: "1"}))
	for at := range 2 {
		for _, tree := range []int{-1, 1 - at, 2} {
			root := impl.Root{Serial: 4, Tree: tree}
			d := newDevice(t, 7)
			d.Sectors[at], d.Sectors[1-at] = mustRoot(t, root), page
			d.Sectors[2] = mustPage(t, leafOf(impl.Item{Key: "q", Value: "2"}))
			s := mustOpen(t, d)
			refusesToCommit(t, "the page would be lost", s, mapOf("1", "a"))
			next := mustCommit(t, s, mapOf("1", "b"))
			sameCommit(t, "the page is needed no more", next, commitByHand(t, s, at, mapOf("1", "b")))
			opensAs(t, "the page is needed no more", next.store.Device, next.store)
		}
	}
}

func TestCommitStoreRefusesOtherStores(t *testing.T) {
	m := mapOf("1", "a", "b")
	ahead := mustCommit(t, mustFormat(t, 12), mapOf("0", "a")).store
	s := mustCommit(t, ahead, m).store
	for what, wrong := range map[string]impl.Store{
		"nothing at all":                {},
		"no Device":                     {Map: s.Map, Root: s.Root},
		"no Map":                        {Device: s.Device, Root: s.Root},
		"no Root":                       {Device: s.Device, Map: s.Map},
		"a Device alone":                {Device: s.Device},
		"a new Device":                  {Device: newDevice(t, 12), Map: s.Map, Root: s.Root},
		"the Device ahead":              {Device: ahead.Device, Map: s.Map, Root: s.Root},
		"the Map ahead":                 {Device: s.Device, Map: ahead.Map, Root: s.Root},
		"the Root ahead":                {Device: s.Device, Map: s.Map, Root: ahead.Root},
		"Map and Root ahead":            {Device: s.Device, Map: ahead.Map, Root: ahead.Root},
		"one pair less":                 {Device: s.Device, Map: m[:1], Root: s.Root},
		"one pair more":                 {Device: s.Device, Map: mapOf("1", "a", "b", "c"), Root: s.Root},
		"another first Key":             {Device: s.Device, Map: mapOf("1", "A", "b"), Root: s.Root},
		"another last Key":              {Device: s.Device, Map: mapOf("1", "a", "bb"), Root: s.Root},
		"another Value":                 {Device: s.Device, Map: append(mapOf("1", "a"), mapOf("2", "b")...), Root: s.Root},
		"the pairs the other way round": {Device: s.Device, Map: mapOf("1", "b", "a"), Root: s.Root},
		"a lesser Serial":               {Device: s.Device, Map: s.Map, Root: impl.Root{Serial: 1, Tree: s.Root.Tree}},
		"a greater Serial":              {Device: s.Device, Map: s.Map, Root: impl.Root{Serial: 3, Tree: s.Root.Tree}},
		"a Serial below 0":              {Device: s.Device, Map: s.Map, Root: impl.Root{Serial: -1, Tree: s.Root.Tree}},
		"another Tree":                  {Device: s.Device, Map: s.Map, Root: impl.Root{Serial: 2, Tree: s.Root.Tree + 1}},
		"no Tree":                       {Device: s.Device, Map: s.Map, Root: impl.Root{Serial: 2, Tree: -1}},
		"a page gone":                   {Device: turnedAt(s.Device, s.Root.Tree, ""), Map: s.Map, Root: s.Root},
		"both roots gone":               {Device: turnedAt(turnedAt(s.Device, 0, ""), 1, ""), Map: s.Map, Root: s.Root},
		"the last root gone":            {Device: turnedAt(s.Device, 0, ""), Map: s.Map, Root: s.Root},
		"a sector too long":             {Device: turnedAt(s.Device, 11, someBytes(impl.SectorSize+1)), Map: s.Map, Root: s.Root},
		"a write that is empty":         {Device: mustWrite(t, s.Device, 11, ""), Map: s.Map, Root: s.Root},
	} {
		for _, n := range [][]impl.Pair{nil, m, mapOf("9", "z")} {
			refusesToCommit(t, what, wrong, n)
		}
	}
	// Beside all these: what stands in sectors that are not used is no matter of the store.
	other := impl.Store{Device: turnedAt(s.Device, 11, "other"), Map: s.Map, Root: s.Root}
	sameCommit(t, "another text in a free sector", mustCommit(t, other, nil), commitByHand(t, other, 0, nil))
}

func turnedAt(d impl.Device, at int, text string) impl.Device {
	out := impl.Device{Sectors: slices.Clone(d.Sectors), Pending: slices.Clone(d.Pending)}
	out.Sectors[at] = text
	return out
}

func TestCommitStoreRefusesWrongMaps(t *testing.T) {
	for _, s := range []impl.Store{mustFormat(t, impl.MaxSectors), mustCommit(t, mustFormat(t, impl.MaxSectors), mapOf("1", "a")).store} {
		for what, m := range wrongMaps() {
			refusesToCommit(t, what, s, m)
			refusesToCommit(t, what, impl.Store{Device: s.Device, Map: m, Root: s.Root}, nil)
		}
	}
}

func TestCommitStoreRefusesWrongDevices(t *testing.T) {
	for what, d := range wrongDevices() {
		refusesToCommit(t, what, impl.Store{Device: d}, nil)
		refusesToCommit(t, what, impl.Store{Device: d, Root: impl.Root{Serial: 0, Tree: -1}}, mapOf("1", "a"))
	}
}

func TestCrashCommitRefuses(t *testing.T) {
	s := mustCommit(t, mustFormat(t, 9), mapOf("1", "a")).store
	m := mapOf("2", "a")
	for _, step := range []int{-1, -2, 2, 3, math.MinInt, math.MaxInt} {
		refusesToCrash(t, "a step that is none", s, m, step, nil, -1, 0)
		refusesToCrash(t, "a step that is none", s, m, step, []int{0}, 0, 5)
	}
	for step := range 2 {
		for _, part := range []int{-1, -2, impl.SectorSize + 1, impl.SectorSize + 2, math.MinInt, math.MaxInt} {
			for _, torn := range []int{-1, 0, 1} {
				refusesToCrash(t, "a part that is none", s, m, step, nil, torn, part)
				refusesToCrash(t, "a part that is none", s, m, step, []int{0}, torn, part)
			}
		}
	}
}

// Numbers that are no places of writes count for nothing, a place that is told twice counts once, and what is kept is not torn.
func TestCrashCommitOfOddPlaces(t *testing.T) {
	s := mustCommit(t, mustFormat(t, 9), mapOf("1", "a")).store
	m := mapOf("2", "a", "b")
	next := mustCommit(t, s, m)
	for step, d := range next.steps {
		writes := len(d.Pending)
		for _, keep := range [][]int{{-1}, {writes}, {math.MinInt, math.MaxInt}, {0, 0}, {0, -1, 0, writes, 0}, slices.Repeat([]int{0}, 500)} {
			for _, torn := range []int{math.MinInt, -1, 0, writes, math.MaxInt} {
				for _, part := range []int{0, 5, impl.SectorSize} {
					want := asAhead(s, crashByHand(d, keep, torn, part))
					if step == 1 && (slices.Contains(keep, 0) || torn == 0 && part >= 11) {
						want = next.store
					}
					comesBackAs(t, "odd places", want, s, m, step, keep, torn, part)
				}
			}
		}
	}
	comesBackAs(t, "torn in keep", next.store, s, m, 1, []int{0}, 0, 3)
	comesBackAs(t, "the whole of it torn", next.store, s, m, 1, nil, 0, 11)
	comesBackAs(t, "the whole of it torn but a byte", asAhead(s, crashByHand(next.steps[1], nil, 0, 10)), s, m, 1, nil, 0, 10)
}

// On a foreign device a crash may lose a page of the last root's tree: then there is nothing to be opened.
func TestCrashCommitOfAStoreThatIsLost(t *testing.T) {
	root := impl.Root{Serial: 4, Tree: 1}
	d := newDevice(t, 7)
	d.Sectors[0], d.Sectors[1] = mustRoot(t, root), mustPage(t, leafOf(impl.Item{Key: "a", Value: "1"}))
	s := mustOpen(t, d)
	refusesToCrash(t, "the root torn over a page", s, mapOf("2", "b"), 1, nil, 0, 5)
	comesBackAs(t, "the root lost", asAhead(s, mustCommit(t, s, mapOf("2", "b")).steps[1].Sectors), s, mapOf("2", "b"), 1, nil, -1, 5)
}

// roomyStore has spare room behind all its lists, filled, so that a write into it is seen.
func roomyStore(t *testing.T) (impl.Store, []string, []impl.Pair) {
	t.Helper()
	s := mustCommit(t, mustFormat(t, 12), mapOf("1", "a", "b")).store
	sectors := append(slices.Clone(s.Device.Sectors), "spare", "spare")
	pairs := append(slices.Clone(s.Map), mapOf("spare", "spare", "spare")...)
	pending := []impl.Put{{At: 9, Text: "spare"}}
	return impl.Store{Device: impl.Device{Sectors: sectors[:12], Pending: pending[:0]}, Map: pairs[:2], Root: s.Root}, sectors, pairs
}

func TestStoresWriteIntoNoArgument(t *testing.T) {
	s, sectors, pairs := roomyStore(t)
	_, oldSectors, oldPairs := roomyStore(t)
	m := append(mapOf(someBytes(30), "a", "c", "d"), mapOf("spare", "spare", "spare")...)
	oldMap := slices.Clone(m)
	keep := []int{1, 0, 77, 77}
	for range 2 {
		impl.OpenStore(s.Device)
		mustCommit(t, s, m[:3])
		mustCommit(t, s, m[:0])
		mustCommit(t, s, pairs[:2])
		for step := range 2 {
			impl.CrashCommit(s, m[:3], step, keep[:2], 2, 7)
			impl.CrashCommit(s, m[:3], step, keep[:0], 0, 7)
		}
		impl.CommitStore(s, m[:5])
	}
	if !slices.Equal(sectors, oldSectors) || !slices.Equal(pairs, oldPairs) || !slices.Equal(m, oldMap) || !slices.Equal(keep, []int{1, 0, 77, 77}) {
		t.Errorf("arguments are left as %q, %q, %q, %v", sectors, pairs, m, keep)
	}
	if spare := s.Device.Pending[:1]; spare[0] != (impl.Put{At: 9, Text: "spare"}) {
		t.Errorf("the room behind Pending is left as %+v", spare)
	}
}

// textsIn has all texts of a store, and of devices.
func textsIn(s impl.Store, devices ...impl.Device) []string {
	var all []string
	for _, d := range append(devices, s.Device) {
		all = append(all, d.Sectors...)
		for _, p := range d.Pending {
			all = append(all, p.Text)
		}
	}
	for _, p := range s.Map {
		all = append(all, p.Key, p.Value)
	}
	return all
}

// turnAll turns all that a store and devices hold, in their spare room, too.
func turnAll(s impl.Store, devices ...impl.Device) {
	for _, d := range append(devices, s.Device) {
		for i := range d.Sectors[:cap(d.Sectors)] {
			d.Sectors[:cap(d.Sectors)][i] = "turned"
		}
		for i := range d.Pending[:cap(d.Pending)] {
			d.Pending[:cap(d.Pending)][i] = impl.Put{At: 1, Text: "turned"}
		}
	}
	for i := range s.Map[:cap(s.Map)] {
		s.Map[:cap(s.Map)][i] = impl.Pair{Key: "turned"}
	}
}

func TestStoresShareNothing(t *testing.T) {
	drawn := draws(79)
	m := drawn.pairs(20, impl.MaxValue)
	s := mustCommit(t, mustFormat(t, 60), drawn.pairs(9, impl.MaxValue)).store
	given := textsIn(s)
	for _, p := range m {
		given = append(given, p.Key, p.Value)
	}
	opened, next := mustOpen(t, s.Device), mustCommit(t, s, m)
	same, empty := mustCommit(t, s, s.Map), mustCommit(t, s, nil)
	back, _ := impl.CrashCommit(s, m, 0, []int{0}, 1, 9)
	for what, texts := range map[string][]string{
		"OpenStore":                textsIn(opened),
		"CommitStore":              textsIn(next.store, next.steps...),
		"CommitStore of the same":  textsIn(same.store, same.steps...),
		"CommitStore of the empty": textsIn(empty.store, empty.steps...),
		"CrashCommit":              textsIn(back),
	} {
		for _, text := range texts {
			sharesNoText(t, what, text, given)
		}
	}
	want := mustCommit(t, s, m)
	openedWant, backWant := mustOpen(t, s.Device), mustOpen(t, back.Device)
	turnAll(s)
	turnAll(impl.Store{Map: m})
	want.store.Map = slices.Clone(want.store.Map)
	sameCommit(t, "the arguments turned", next, want)
	if !sameStore(opened, openedWant) || !sameStore(back, backWant) {
		t.Error("a change of the arguments is seen in a store")
	}
	// One list of the answer after the other is turned, the others stay.
	turnAll(next.store)
	sameCommit(t, "the store turned", committed{want.store, next.steps}, want)
	turnAll(impl.Store{}, next.steps[0])
	if !sameDevice(next.steps[1], want.steps[1]) {
		t.Error("a change of the first device is seen in the second one")
	}
}

func TestSameCallsSameStores(t *testing.T) {
	drawn := draws(80)
	s := mustCommit(t, mustFormat(t, 300), drawn.pairs(60, impl.MaxValue)).store
	m := drawn.pairs(50, impl.MaxValue)
	first := mustCommit(t, s, m)
	for range 20 {
		sameCommit(t, "once more", mustCommit(t, s, m), first)
		comesBackAs(t, "once more", first.store, s, m, 1, []int{0}, -1, 0)
	}
}

// Stores are committed from many sides at once: each call answers as if it were alone.
func TestStoresAtOnce(t *testing.T) {
	drawn := draws(81)
	s := mustCommit(t, mustFormat(t, 200), drawn.pairs(30, impl.MaxValue)).store
	m := drawn.pairs(30, impl.MaxValue)
	want := mustCommit(t, s, m)
	done := make(chan bool)
	for range 8 {
		go func() {
			well := true
			for range 20 {
				n, steps, ok := impl.CommitStore(s, m)
				well = well && ok && sameStore(n, want.store) && slices.EqualFunc(steps, want.steps, sameDevice)
			}
			done <- well
		}()
	}
	for range 8 {
		if !<-done {
			t.Error("a commit beside others answers otherwise")
		}
	}
}
