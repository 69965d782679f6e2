package tests

import (
	"fmt"
	"math"
	"runtime"
	"slices"
	"strings"
	"testing"
	"time"

	"loop.example/g00105/impl"
)

func mustText(x impl.Ask) string {
	text, ok := impl.AskText(x)
	if !ok {
		panic("no ask")
	}
	return text
}

// deedOf is an ask that is not cut.
func deedOf(x impl.Ask) impl.Deed {
	return impl.Deed{Text: mustText(x), Torn: -1}
}

func deedsOf(asks ...impl.Ask) []impl.Deed {
	var out []impl.Deed
	for _, x := range asks {
		out = append(out, deedOf(x))
	}
	return out
}

// cutAt is an ask that is cut, with these writes kept and none torn.
func cutAt(step int, x impl.Ask, keep ...int) impl.Deed {
	d := deedOf(x)
	d.Cut, d.Step, d.Keep = true, step, keep
	return d
}

// tornAt is an ask that is cut, with no write kept and the one at the place torn behind so many bytes.
func tornAt(step int, x impl.Ask, torn, part int) impl.Deed {
	d := cutAt(step, x)
	d.Torn, d.Part = torn, part
	return d
}

func uncut(d impl.Deed) impl.Deed {
	return impl.Deed{Text: d.Text}
}

func sameLife(a, b impl.Life) bool {
	return sameStore(a.Store, b.Store) && slices.Equal(a.Told, b.Told)
}

// mustLive wants what promise 16 says of any life: its store is right, and opened as it is, and each round is audited.
func mustLive(t *testing.T, sectors int, deeds []impl.Deed) impl.Life {
	t.Helper()
	x, ok := impl.RunLife(sectors, deeds)
	if !ok || len(x.Told) != len(deeds) {
		t.Fatalf("RunLife(%d, %+v) tells %q, %v", sectors, deeds, x.Told, ok)
	}
	opensAs(t, "behind a life", x.Store.Device, x.Store)
	if !impl.StateOk(x.Store.Map) || !impl.Audited(x.Store.Map) {
		t.Fatalf("RunLife(%d, %+v) leaves the map %q", sectors, deeds, x.Store.Map)
	}
	return x
}

func refusesLife(t *testing.T, what string, sectors int, deeds []impl.Deed) {
	t.Helper()
	if x, ok := impl.RunLife(sectors, deeds); ok || !sameLife(x, impl.Life{}) {
		t.Errorf("%s: RunLife(%d, %d deeds) = %+v, %v", what, sectors, len(deeds), x, ok)
	}
}

// A toldDeed has what is told of it.
type toldDeed struct {
	d    impl.Deed
	want string
}

func livesAs(t *testing.T, what string, sectors int, all ...toldDeed) impl.Store {
	t.Helper()
	var deeds []impl.Deed
	for _, c := range all {
		deeds = append(deeds, c.d)
	}
	x := mustLive(t, sectors, deeds)
	for i, c := range all {
		if x.Told[i] != c.want {
			t.Errorf("%s: the deed %d, %+v, is told %q, not %q", what, i, c.d, x.Told[i], c.want)
		}
	}
	return x.Store
}

func isOfSerial(t *testing.T, what string, s impl.Store, want int) {
	t.Helper()
	if s.Root.Serial != want {
		t.Errorf("%s: the Serial is %d, not %d", what, s.Root.Serial, want)
	}
}

// TestLivesWithoutCuts follows a life by hand, what is told letter by letter.
func TestLivesWithoutCuts(t *testing.T) {
	s := livesAs(t, "no cuts", 120, []toldDeed{
		{deedOf(show()), "ok"}, {deedOf(audit(0)), "fail 3"}, {deedOf(leave(3)), "fail 3"}, {impl.Deed{}, "fail 1"},
		{deedOf(join(3)), "ok"}, {deedOf(join(3)), "fail 2"}, {deedOf(join(12)), "fail 3"}, {deedOf(join(1)), "ok"}, {deedOf(show()), "ok 1a 3a"},
		{deedOf(link(3, 1, 2, 0, 0)), "ok"}, {deedOf(link(1, 3, 2, 0, 0)), "ok"}, {deedOf(link(1, 1, 2, 0, 0)), "fail 4"}, {deedOf(link(3, 1, 2, 0, 51)), "fail 5"},
		{deedOf(clearAll()), "ok 0"}, {deedOf(show()), "ok 1p0 3p0"}, {deedOf(audit(0)), "ok 1,3 02010001020000010001a0fe0aa0fe0a00"}, {deedOf(leave(1)), "fail 6"},
		{deedOf(join(10)), "ok"}, {deedOf(join(9)), "ok"}, {deedOf(leave(9)), "ok"}, {deedOf(show()), "ok 1p0 3p0 9l 10a"},
		{deedOf(clearAll()), "ok 1"}, {deedOf(audit(1)), "ok 10 0100000000"}, {deedOf(leave(10)), "ok"},
		{deedOf(clearAll()), "ok 2"}, {deedOf(audit(2)), "ok  00000000"}, {deedOf(clearAll()), "ok 3"}, {deedOf(clearAll()), "ok 4"}, {deedOf(clearAll()), "ok 5"}, {deedOf(clearAll()), "fail 8"},
	}...)
	empty := "\x00\x00\x00\x00"
	sameMap(t, "no cuts", s.Map, []impl.Pair{
		{Key: "e0103", Value: "\x02\x00\x00"}, {Key: "q00", Value: "\x01\x03"}, {Key: "q01", Value: "\x0a"}, {Key: "q02"}, {Key: "q03"}, {Key: "q04"}, {Key: "q05"},
		{Key: "r0000", Value: "\x02\x01\x00\x01\x02\x00\x00\x01\x00\x01\xa0\xfe\x0a\xa0\xfe\x0a\x00"}, {Key: "r0100", Value: "\x01" + empty},
		{Key: "r0200", Value: empty}, {Key: "r0300", Value: empty}, {Key: "r0400", Value: empty}, {Key: "r0500", Value: empty},
		{Key: "v01", Value: "p0"}, {Key: "v03", Value: "p0"}, {Key: "v09", Value: "l"}, {Key: "v10", Value: "l"},
	})
	isOfSerial(t, "no cuts", s, 13)
}

// TestLivesWithCuts follows a life by hand in which the power goes ahead of each flush, and leaves the map ahead or the one behind.
func TestLivesWithCuts(t *testing.T) {
	s := livesAs(t, "cuts", 60, []toldDeed{
		{deedOf(join(3)), "ok"},
		{cutAt(0, join(1)), "cut"}, {deedOf(show()), "ok 3a"}, {deedOf(join(1)), "ok"},
		{cutAt(1, link(3, 1, 2, 0, 0), 0), "cut"}, {cutAt(1, link(1, 3, 2, 0, 0), 0), "ok"},
		{cutAt(1, clearAll()), "cut"}, {deedOf(audit(0)), "fail 3"}, {deedOf(show()), "ok 1a 3a"},
		{deedOf(clearAll()), "ok 0"}, {deedOf(audit(0)), "ok 1,3 02010001020000010001a0fe0aa0fe0a00"},
		{cutAt(1, clearAll(), 0), "cut"}, {deedOf(audit(1)), "ok  00000000"}, {deedOf(clearAll()), "ok 2"},
		{cutAt(0, join(9), allPlaces(60)...), "cut"}, {deedOf(leave(9)), "fail 3"},
		{tornAt(1, join(9), 0, 10), "cut"}, {deedOf(leave(9)), "fail 3"},
		{tornAt(1, join(9), 0, 11), "cut"}, {deedOf(join(9)), "fail 2"}, {deedOf(leave(9)), "ok"},
		{deedOf(show()), "ok 1p0 3p0 9l"},
	}...)
	sameMap(t, "cuts", s.Map, []impl.Pair{
		{Key: "e0103", Value: "\x02\x00\x00"}, {Key: "q00", Value: "\x01\x03"}, {Key: "q01"}, {Key: "q02"},
		{Key: "r0000", Value: "\x02\x01\x00\x01\x02\x00\x00\x01\x00\x01\xa0\xfe\x0a\xa0\xfe\x0a\x00"},
		{Key: "r0100", Value: "\x00\x00\x00\x00"}, {Key: "r0200", Value: "\x00\x00\x00\x00"},
		{Key: "v01", Value: "p0"}, {Key: "v03", Value: "p0"}, {Key: "v09", Value: "l"},
	})
	isOfSerial(t, "cuts", s, 8)
}

// TestCutsByTheBytes has the device of a small life, sector by sector.
func TestCutsByTheBytes(t *testing.T) {
	first := sealedByHand("R\x00\x00\x00\x00\x00\x00")
	page := sealedByHand("\x01\x01\x03v01\x01a")
	root := sealedByHand("R\x00\x00\x00\x01\x00\x03")
	for what, c := range map[string]struct {
		d    impl.Deed
		left []string
		m    []impl.Pair
	}{
		"step 0, none kept":            {cutAt(0, join(1)), []string{first, "", "", ""}, nil},
		"step 0, all kept":             {cutAt(0, join(1), 0), []string{first, "", page, ""}, nil},
		"step 0, torn":                 {tornAt(0, join(1), 0, 5), []string{first, "", page[:5], ""}, nil},
		"step 0, torn at the end":      {tornAt(0, join(1), 0, impl.SectorSize), []string{first, "", page, ""}, nil},
		"step 0, none torn":            {tornAt(0, join(1), 1, 5), []string{first, "", "", ""}, nil},
		"step 1, none kept":            {cutAt(1, join(1)), []string{first, "", page, ""}, nil},
		"step 1, all kept":             {cutAt(1, join(1), 0), []string{first, root, page, ""}, mapOf("a", "v01")},
		"step 1, none that is a place": {cutAt(1, join(1), 1, -1, math.MinInt, math.MaxInt), []string{first, "", page, ""}, nil},
		"step 1, kept again and again": {cutAt(1, join(1), 9, 0, 0, -1, 0), []string{first, root, page, ""}, mapOf("a", "v01")},
		"step 1, torn":                 {tornAt(1, join(1), 0, 10), []string{first, root[:10], page, ""}, nil},
		"step 1, torn at part 0":       {tornAt(1, join(1), 0, 0), []string{first, "", page, ""}, nil},
		"step 1, torn at the end":      {tornAt(1, join(1), 0, 11), []string{first, root, page, ""}, mapOf("a", "v01")},
		"step 1, torn behind the end":  {tornAt(1, join(1), 0, impl.SectorSize), []string{first, root, page, ""}, mapOf("a", "v01")},
		"step 1, kept and torn":        {impl.Deed{Text: "\x01\x01", Cut: true, Step: 1, Keep: []int{0}, Torn: 0, Part: 3}, []string{first, root, page, ""}, mapOf("a", "v01")},
		"not cut":                      {impl.Deed{Text: "\x01\x01", Step: 0, Torn: 0, Part: 3}, []string{first, root, page, ""}, mapOf("a", "v01")},
	} {
		x := mustLive(t, 4, []impl.Deed{c.d})
		want := impl.Life{Store: impl.Store{Device: impl.Device{Sectors: c.left}, Root: impl.Root{Serial: 0, Tree: -1}}, Told: []string{"cut"}}
		if len(c.m) > 0 {
			want.Store.Map, want.Store.Root = c.m, impl.Root{Serial: 1, Tree: 2}
		}
		if !c.d.Cut {
			want.Told = []string{"ok"}
		}
		if !sameLife(x, want) {
			t.Errorf("%s: the life is %+v, not %+v", what, x, want)
		}
	}
}

// TestDeedsBehindACut has, for each way of a cut, what the same ask is told behind it.
func TestDeedsBehindACut(t *testing.T) {
	for part := range impl.SectorSize + 1 {
		for step := range 2 {
			again, shown, serial := "ok", "ok 5a", 2
			if step == 1 && part >= 11 {
				again, shown = "fail 2", "ok 5a 6a"
			}
			what := fmt.Sprintf("step %d, part %d", step, part)
			s := livesAs(t, what, 20, toldDeed{deedOf(join(5)), "ok"}, toldDeed{tornAt(step, join(6), 0, part), "cut"}, toldDeed{deedOf(show()), shown}, toldDeed{deedOf(join(6)), again}, toldDeed{deedOf(show()), "ok 5a 6a"})
			isOfSerial(t, what, s, serial)
		}
	}
}

// TestCutsAgainAndAgain has one ask cut in many ways one behind the other: what earlier cuts left counts for nothing.
func TestCutsAgainAndAgain(t *testing.T) {
	for step := range 2 {
		for from := range 11 {
			all := []toldDeed{{deedOf(join(5)), "ok"}, {deedOf(join(6)), "ok"}}
			for i := range 12 {
				all = append(all, toldDeed{tornAt(step, join(7+i%3), 0, (from+4*i)%11), "cut"})
			}
			all = append(all, toldDeed{deedOf(show()), "ok 5a 6a"}, toldDeed{deedOf(join(9)), "ok"}, toldDeed{cutAt(1, clearAll(), 0), "cut"}, toldDeed{deedOf(show()), "ok 5a 6a 9a"}, toldDeed{deedOf(audit(0)), "ok 5,6,9 03" + strings.Repeat("00", 6)})
			what := fmt.Sprintf("step %d, from %d on", step, from)
			isOfSerial(t, what, livesAs(t, what, 20, all...), 4)
		}
	}
}

// TestCutsThatCutNothing has deeds with Cut whose map would be the same: Handle's answer is told, and the store is as it was.
func TestCutsThatCutNothing(t *testing.T) {
	ahead := deedsOf(join(3), join(1), link(3, 1, 2, 0, 0), join(7), leave(7), join(8), join(4), link(4, 8, 0, 0, 5), leave(4), clearAll())
	was := mustLive(t, 60, ahead)
	for text, want := range map[string]string{
		"": "fail 1", "\x00": "fail 1", "\x07": "fail 1", "\x06\x00": "fail 1", "\x01": "fail 1", "\x01\x80\x00": "fail 1", strings.Repeat("\x01", 40): "fail 1",
		"\x06": "ok 1p0 3p0 4l 7l 8a", "\x05\x00": hallOf(was.Store.Map).reply(audit(0)), "\x05\x01": "fail 3",
		"\x01\x03": "fail 2", "\x01\x08": "fail 2", "\x01\x0c": "fail 3", "\x03\x07": "fail 6", "\x03\x01": "fail 6", "\x03\x09": "fail 3",
		"\x02\x03\x01\x02\x00\x00": "fail 6", "\x02\x08\x08\x00\x00\x00": "fail 4", "\x02\x08\x01\x33\x00\x00": "fail 5", "\x02\x08\x09\x00\x00\x00": "fail 3",
	} {
		for step := range 2 {
			for _, keep := range [][]int{nil, {0}, allPlaces(60)} {
				d := impl.Deed{Text: text, Cut: true, Step: step, Keep: keep, Torn: 1, Part: 3}
				x := mustLive(t, 60, append(slices.Clone(ahead), d))
				if told := x.Told[len(ahead)]; told != want {
					t.Errorf("%q with Cut is told %q, not %q", text, told, want)
				}
				if !sameStore(x.Store, was.Store) {
					t.Errorf("behind %q with Cut the store is %+v, not %+v", text, x.Store, was.Store)
				}
			}
		}
	}
}

// TestFullStoresAreNotCut has deeds with Cut where CommitStore is false, as the device is full: it is as Handle answers.
func TestFullStoresAreNotCut(t *testing.T) {
	for step := range 2 {
		s := livesAs(t, "the least store", 4, []toldDeed{
			{deedOf(join(1)), "ok"}, {cutAt(step, join(2)), "fail 9"}, {cutAt(step, join(2), 0), "fail 9"}, {tornAt(step, join(2), 0, 7), "fail 9"}, {deedOf(join(2)), "fail 9"},
			{deedOf(show()), "ok 1a"}, {cutAt(step, join(0)), "cut"}, {deedOf(show()), "ok 1a"}, {deedOf(join(0)), "ok"}, {cutAt(step, join(11)), "fail 9"},
			{cutAt(1, clearAll(), 0), "cut"}, {deedOf(show()), "ok 0a 1a"}, {deedOf(audit(0)), "ok 0,1 020000000000"},
		}...)
		isOfSerial(t, "the least store", s, 3)
		was := mustLive(t, 4, deedsOf(join(1)))
		x := mustLive(t, 4, append(deedsOf(join(1)), tornAt(step, join(2), 0, 7)))
		if !sameStore(x.Store, was.Store) {
			t.Errorf("behind a deed that does not fit the store is %+v, not %+v", x.Store, was.Store)
		}
	}
}

func TestNoDeedsAtAll(t *testing.T) {
	for _, sectors := range []int{4, 5, 20, impl.MaxSectors - 1, impl.MaxSectors} {
		for _, deeds := range [][]impl.Deed{nil, {}} {
			if x := mustLive(t, sectors, deeds); !sameLife(x, impl.Life{Store: mustFormat(t, sectors)}) {
				t.Errorf("a life of no deeds on %d sectors is %+v", sectors, x)
			}
		}
	}
}

func TestSectorsOfLives(t *testing.T) {
	deeds := deedsOf(join(1), show())
	for _, sectors := range []int{4, impl.MaxSectors} {
		livesAs(t, "the fewest and the most", sectors, toldDeed{deeds[0], "ok"}, toldDeed{deeds[1], "ok 1a"})
	}
	for _, sectors := range []int{3, impl.MaxSectors + 1, 2, 1, 0, -1, -4, math.MinInt, math.MaxInt} {
		refusesLife(t, "too few or too many", sectors, nil)
		refusesLife(t, "too few or too many", sectors, deeds)
	}
}

func TestMaxDeeds(t *testing.T) {
	all := slices.Repeat(deedsOf(show()), impl.MaxDeeds-2)
	all = append(append(deedsOf(join(5)), all...), deedOf(join(6)))
	x := mustLive(t, 20, all)
	if want := append(append([]string{"ok"}, slices.Repeat([]string{"ok 5a"}, impl.MaxDeeds-2)...), "ok"); !slices.Equal(x.Told, want) {
		t.Errorf("MaxDeeds are told %q, not %q", x.Told, want)
	}
	sameMap(t, "MaxDeeds", x.Store.Map, mapOf("a", "v05", "v06"))
	mustLive(t, 20, all[1:])
	refusesLife(t, "one deed more than MaxDeeds", 20, append(slices.Clone(all), deedOf(show())))
	refusesLife(t, "many more than MaxDeeds", 20, slices.Repeat(all, 3))
	refusesLife(t, "one that is none, more than MaxDeeds", 20, append(slices.Clone(all), impl.Deed{Part: -1}))
}

// rightDeeds has deeds at the edges of what DeedOk takes.
func rightDeeds() map[string]impl.Deed {
	out := map[string]impl.Deed{
		"the zero value": {}, "a Text of 40 bytes": {Text: strings.Repeat("a", 40)}, "a Text of 39 bytes": {Text: strings.Repeat("\x80", 39)},
		"Step 1": {Step: 1}, "Step 1, cut": {Step: 1, Cut: true}, "Step 0, cut": {Cut: true},
		"Keep of 60": {Keep: allPlaces(60)}, "Keep of 60, all alike": {Keep: make([]int, 60), Cut: true}, "an empty Keep": {Keep: []int{}}, "Keep of no places": {Keep: []int{-1, math.MinInt, math.MaxInt}},
		"Part SectorSize": {Part: impl.SectorSize}, "Part 1": {Part: 1},
		"all at once": {Text: strings.Repeat("\x06", 40), Cut: true, Step: 1, Keep: make([]int, 60), Torn: math.MaxInt, Part: impl.SectorSize},
	}
	for _, torn := range []int{-1, 1, 400, math.MinInt, math.MaxInt} {
		out[fmt.Sprintf("Torn %d", torn)] = impl.Deed{Torn: torn}
	}
	return out
}

// wrongDeeds has deeds that break one sentence of DeedOk each, with Cut and without.
func wrongDeeds() map[string]impl.Deed {
	out := map[string]impl.Deed{
		"a Text of 41 bytes": {Text: strings.Repeat("a", 41)}, "a Text of 41 bytes in fewer letters": {Text: strings.Repeat("\u00e4", 20) + "a"}, "a long Text": {Text: strings.Repeat("\x06", 100000)},
		"Step -1": {Text: "\x06", Step: -1}, "Step 2": {Text: "\x06", Step: 2}, "the least Step": {Step: math.MinInt}, "the greatest Step": {Step: math.MaxInt},
		"Keep of 61": {Text: "\x06", Keep: allPlaces(61)}, "Keep of 61, all alike": {Keep: make([]int, 61)}, "a long Keep": {Keep: make([]int, 100000)},
		"Part -1": {Text: "\x06", Part: -1}, "Part SectorSize and 1": {Text: "\x06", Part: impl.SectorSize + 1}, "the least Part": {Part: math.MinInt}, "the greatest Part": {Part: math.MaxInt},
	}
	for what, d := range out {
		d.Cut = true
		out[what+", cut"] = d
	}
	return out
}

func TestDeedOk(t *testing.T) {
	for what, d := range rightDeeds() {
		if !impl.DeedOk(d) {
			t.Errorf("%s: DeedOk is false", what)
		}
		mustLive(t, 4, []impl.Deed{d})
	}
	for what, d := range wrongDeeds() {
		if impl.DeedOk(d) {
			t.Errorf("%s: DeedOk is true", what)
		}
	}
}

// TestOneWrongDeedAmongRightOnes has it in each place.
func TestOneWrongDeedAmongRightOnes(t *testing.T) {
	right := append(deedsOf(join(5), join(6), link(5, 6, 1, 0, 0)), cutAt(1, clearAll()), deedOf(show()))
	mustLive(t, 20, right)
	for what, d := range wrongDeeds() {
		for at := range len(right) + 1 {
			refusesLife(t, what, 20, slices.Insert(slices.Clone(right), at, d))
		}
		refusesLife(t, what+", alone", 20, []impl.Deed{d})
		refusesLife(t, what+", the last one of MaxDeeds", 20, append(slices.Repeat(deedsOf(show()), impl.MaxDeeds-1), d))
	}
}

// What becomes of a deed.
const (
	becameAnswered = "answered"
	becameNothing  = "cut, and left nothing"
	becameAll      = "cut, and left all of it"
)

// A plainLife is a life gone through a second way: the hall beside its store, each commit and each crash as their chapters tell them.
type plainLife struct {
	hall   *plainHall
	store  impl.Store
	told   []string
	became []string
}

func newLife(t *testing.T, sectors int) *plainLife {
	t.Helper()
	return &plainLife{hall: newHall(), store: mustFormat(t, sectors)}
}

func (l *plainLife) tell(told, became string) {
	l.told, l.became = append(l.told, told), append(l.became, became)
}

func (l *plainLife) live(t *testing.T, d impl.Deed) {
	t.Helper()
	behind, told := l.hall.asked(t, d.Text)
	m := behind.pairs()
	if slices.Equal(m, l.store.Map) {
		l.tell(told, becameAnswered)
		return
	}
	if _, _, hasRoom := impl.CommitStore(l.store, m); !hasRoom {
		l.tell("fail 9", becameAnswered)
		return
	}
	next := commitByHand(t, l.store, rootIn(l.store), m)
	if !d.Cut {
		l.hall, l.store = behind, next.store
		l.tell(told, becameAnswered)
		return
	}
	left := crashByHand(next.steps[d.Step], d.Keep, d.Torn, d.Part)
	if left[rootIn(next.store)] != mustRoot(t, next.store.Root) {
		l.store = asAhead(l.store, left)
		l.tell("cut", becameNothing)
		return
	}
	l.hall, l.store = behind, impl.Store{Device: impl.Device{Sectors: left}, Map: m, Root: next.store.Root}
	l.tell("cut", becameAll)
}

func (d *draws) among(list ...int) int {
	return list[d.below(len(list))]
}

// deed draws one, cut or not, most of them with writes kept and torn that are there.
func (d *draws) deed(text string) impl.Deed {
	x := impl.Deed{Text: text[:min(len(text), 40)], Cut: d.below(2) == 0, Step: d.below(2), Torn: d.below(5) - 1, Part: d.below(impl.SectorSize + 1)}
	for range d.below(4) {
		x.Keep = append(x.Keep, d.below(4))
	}
	switch d.below(12) {
	case 0:
		x.Keep = d.shuffled(allPlaces(60))[:d.below(61)]
	case 1:
		x.Keep = append(x.Keep, d.among(-1, math.MinInt, math.MaxInt, 60, 400))
	case 2:
		x.Torn = d.among(-1, math.MinInt, math.MaxInt, 60, 400)
	case 3:
		x.Part = d.among(0, 10, 11, 12, impl.SectorSize)
	}
	return x
}

// deeds draws some, the first ones being joins, so that there are links and rounds in so few of them.
func (d *draws) deeds(many int) []impl.Deed {
	var out []impl.Deed
	for _, id := range d.shuffled(allPlaces(impl.MaxIds))[:min(many, d.below(12))] {
		out = append(out, d.deed(mustText(join(id))))
	}
	for len(out) < many {
		text := d.askText()
		if d.below(8) == 0 {
			text = mustText(leave(d.below(impl.MaxIds)))
		}
		out = append(out, d.deed(text))
	}
	return out
}

// kept has those of a list whose deeds did not become so.
func kept[T any](list []T, became []string, but string) []T {
	var out []T
	for i, x := range list {
		if became[i] != but {
			out = append(out, x)
		}
	}
	return out
}

// isSameWithout holds a life against the one without the deeds that were cut and left nothing: all others are told the same, and the map is the same.
func isSameWithout(t *testing.T, sectors int, deeds []impl.Deed, x impl.Life, became []string) {
	t.Helper()
	y := mustLive(t, sectors, kept(deeds, became, becameNothing))
	if want := kept(x.Told, became, becameNothing); !slices.Equal(y.Told, want) {
		t.Fatalf("without the deeds that left nothing of %+v on %d sectors %q is told, not %q", deeds, sectors, y.Told, want)
	}
	sameMap(t, "without the deeds that left nothing", y.Store.Map, x.Store.Map)
	if y.Store.Root != x.Store.Root {
		t.Fatalf("without the deeds that left nothing the root is %+v, not %+v", y.Store.Root, x.Store.Root)
	}
}

// isSameUncut holds a life against the one in which the deeds that were cut and left all of it are not cut: the map is the same.
func isSameUncut(t *testing.T, sectors int, deeds []impl.Deed, x impl.Life, became []string) {
	t.Helper()
	whole := slices.Clone(deeds)
	for i, what := range became {
		if what == becameAll {
			whole[i] = uncut(deeds[i])
		}
	}
	y := mustLive(t, sectors, whole)
	if !sameStore(y.Store, x.Store) {
		t.Fatalf("with the deeds that left all done whole, of %+v on %d sectors the store is %+v, not %+v", deeds, sectors, y.Store, x.Store)
	}
}

// Promise 16, of drawn lives, each held against the second way, and against the lives without the deeds that were cut.
func TestDrawnLives(t *testing.T) {
	draw, seen := draws(15), map[string]int{}
	for n := range 700 {
		sectors := []int{impl.MaxSectors, 100, 60, 30, 12, 6, 4}[n%7]
		deeds := draw.deeds(draw.among(0, 1, 10, 25, impl.MaxDeeds, impl.MaxDeeds))
		want := newLife(t, sectors)
		stop, atStop := draw.below(len(deeds)+1), impl.Life{}
		for i := range len(deeds) + 1 {
			if i == stop {
				atStop = impl.Life{Store: want.store, Told: slices.Clone(want.told)}
			}
			if i < len(deeds) {
				want.live(t, deeds[i])
				isAuditedAs(t, "in a life", want.store.Map, true)
				seen[kindOfDeed(deeds[i], want.told[i], want.became[i])]++
			}
		}
		x := mustLive(t, sectors, deeds)
		if !sameLife(x, impl.Life{Store: want.store, Told: want.told}) {
			t.Fatalf("the life of %+v on %d sectors is %+v, not %+v, %q", deeds, sectors, x, want.store, want.told)
		}
		if y := mustLive(t, sectors, deeds[:stop]); !sameLife(y, atStop) {
			t.Fatalf("the life of %+v on %d sectors is %+v, not %+v", deeds[:stop], sectors, y, atStop)
		}
		isSameWithout(t, sectors, deeds, x, want.became)
		isSameUncut(t, sectors, deeds, x, want.became)
	}
	for _, kind := range kindsOfDeeds() {
		if seen[kind] < 5 {
			t.Errorf("%q was seen %d times", kind, seen[kind])
		}
	}
}

func kindOfDeed(d impl.Deed, told, became string) string {
	return fmt.Sprintf("%s: cut %v, step %d, %s", kindOf(d.Text, told), d.Cut, d.Step, became)
}

// kindsOfDeeds has what drawn lives must have seen.
func kindsOfDeeds() []string {
	var out []string
	for op := 1; op <= 4; op++ {
		out = append(out, fmt.Sprintf("%d ok: cut false, step 0, answered", op), fmt.Sprintf("%d fail 9: cut true, step 0, answered", op), fmt.Sprintf("%d fail 9: cut true, step 1, answered", op))
		out = append(out, fmt.Sprintf("%d cut: cut true, step 0, %s", op, becameNothing), fmt.Sprintf("%d cut: cut true, step 1, %s", op, becameNothing), fmt.Sprintf("%d cut: cut true, step 1, %s", op, becameAll))
	}
	for _, told := range []string{"1 fail 2", "2 fail 3", "2 fail 4", "5 ok", "5 fail 3", "6 ok", "none fail 1"} {
		out = append(out, told+": cut true, step 0, answered", told+": cut true, step 1, answered")
	}
	return out
}

// isBestByHand goes through all pairings.
func isBestByHand(x impl.Cert) bool {
	sums := sumsByHand(x.Graph, x.Pairs)
	for _, m := range pairingsOf(x.Graph) {
		if isBetter(sumsByHand(x.Graph, m), sums) {
			return false
		}
	}
	return true
}

// auditFaults has what a map breaks of the sentences of Audited, told a second way.
func auditFaults(m []impl.Pair) []string {
	if faults := stateFaults(m); len(faults) != 0 {
		return faults
	}
	var faults []string
	h := hallOf(m)
	for n, round := range h.rounds {
		cert, _ := plainCert(round.text)
		if !isBestByHand(cert) {
			faults = append(faults, fmt.Sprintf("the round %d is not best", n))
		}
		coupled := map[int]bool{}
		for _, c := range cert.Pairs {
			coupled[round.pool[c.A]], coupled[round.pool[c.B]] = true, true
		}
		for id := range impl.MaxIds {
			if isPaired := h.became[id] == fmt.Sprintf("p%d", n); isPaired != coupled[id] {
				faults = append(faults, fmt.Sprintf("%d is paired in the round %d: %v, and of a couple: %v", id, n, isPaired, coupled[id]))
			}
		}
	}
	return faults
}

func isAuditedAs(t *testing.T, what string, m []impl.Pair, want bool) {
	t.Helper()
	if got := impl.Audited(m); got != want {
		t.Fatalf("%s: Audited(%q) = %v", what, m, got)
	}
	if faults := auditFaults(m); (len(faults) == 0) != want {
		t.Fatalf("%s: the faults of %q are %q", what, m, faults)
	}
}

// TestAuditsOfAskedHalls has states that asks made: each is audited.
func TestAuditsOfAskedHalls(t *testing.T) {
	for what, m := range map[string][]impl.Pair{
		"the empty map": nil, "an empty list": {}, "three rounds": threeRounds(t), "mixed": mixedHall(t),
		"a round of none": run(t, nil, clearAll()), "a round of one": run(t, nil, join(11), clearAll()), "no round": run(t, nil, join(3), join(4), link(3, 4, 1, 1, 1), leave(3)),
		"all of nine": run(t, nil, append(append(joins(allPlaces(9)...), linksOfAll(allPlaces(9), 1, 2, 3)...), clearAll(), clearAll())...),
		"MaxRounds":   run(t, nil, join(0), join(1), clearAll(), clearAll(), link(0, 1, 0, 0, 0), clearAll(), clearAll(), clearAll(), clearAll()),
	} {
		isAuditedAs(t, what, m, true)
	}
	draw, couples := draws(16), 0
	for range 60 {
		var m []impl.Pair
		for range 90 {
			m, _ = impl.Step(m, draw.ask())
			isAuditedAs(t, "drawn", m, true)
		}
		for n := range impl.MaxRounds {
			_, x, _ := impl.RoundOf(m, n)
			couples += len(x.Pairs)
		}
	}
	if couples < 50 {
		t.Errorf("there were %d couples in all", couples)
	}
}

// ringHall has a round of the ids 0 to 4 with the certificate of a ring, whose couples are 0 and 1, and 3 and 4.
func ringHall(became ...string) []impl.Pair {
	h := newHall()
	for id, value := range became {
		h.became[id] = value
	}
	h.rounds = []plainRound{{pool: allPlaces(5), text: varsOf(numbersOfCert(ringCert())...)}}
	return h.pairs()
}

// TestAuditsOfOtherHalls has right states that no asks lead to: in some, who is paired and who is of a couple are not the same.
func TestAuditsOfOtherHalls(t *testing.T) {
	m := threeRounds(t)
	again := withPair(withPair(m, "q03", valueAt(m, "q01")), "r0300", valueAt(m, "r0100"))
	for what, c := range map[string]struct {
		m    []impl.Pair
		want bool
	}{
		"paired in a round of others":               {withPair(m, "v08", "p0"), false},
		"paired in a round of none":                 {withPair(m, "v08", "p2"), false},
		"paired in a round whose pool it is not of": {withPair(m, "v10", "p1"), false},
		"of a couple, and in the hall":              {withPair(m, "v00", "a"), false},
		"of a couple, and left":                     {withPair(m, "v06", "l"), false},
		"of a couple, and of another round":         {withPair(m, "v06", "p0"), false},
		"both of a couple, and of another round":    {withPair(withPair(m, "v06", "p0"), "v07", "p0"), false},
		"two of a couple, and left":                 {withPair(withPair(m, "v06", "l"), "v07", "l"), false},
		"couples turned":                            {withPair(withPair(m, "v05", "p1"), "v06", "p0"), false},
		"a pool of others":                          {withPair(m, "q01", "\x08\x0a"), false},
		"a pool with one other":                     {withPair(m, "q01", "\x06\x08"), false},
		"a certificate of no couple":                {withPair(m, "r0100", varsOf(2, 0, 0, 0, 0, 0)), false},
		"one couple in two rounds":                  {again, false},
		"one couple in two rounds, the later told":  {withPair(withPair(again, "v06", "p3"), "v07", "p3"), false},
		"a couple less, none of it paired":          {withPair(withPair(withPair(m, "r0100", varsOf(2, 0, 0, 0, 0, 0)), "v06", "a"), "v07", "l"), true},
		"a pool of others, who are paired":          {withPair(withPair(withPair(withPair(withPair(m, "q01", "\x08\x0a"), "v08", "p1"), "v10", "p1"), "v06", "a"), "v07", "l"), true},
		"a pool of some who are paired":             {withPair(withPair(m, "q03", "\x00\x02\x04"), "r0300", varsOf(3, 0, 0, 0, 0, 0, 0)), true},
		"a ring that no solver tells":               {ringHall("p0", "p0", "a", "p0", "p0"), true},
		"a ring, one of four not paired":            {ringHall("p0", "p0", "l", "p0", "a"), false},
		"a ring, another one of it not paired":      {ringHall("p0", "l", "p0", "p0", "p0"), false},
		"a ring, all five paired":                   {ringHall("p0", "p0", "p0", "p0", "p0"), false},
		"other links than in the certificate":       {without(m, "e0001", "e0607"), true},
		"a link of who was paired":                  {withPair(m, "e0008", "\x32\x00\x00"), true},
		"one more that left":                        {withPair(m, "v08", "l"), true},
		"rounds of others":                          {bulkyHall(12, 0, 1).pairs(), false},
		"a map of MaxPairs":                         {bulkyHall(12, 54, 6).pairs(), false},
	} {
		if !impl.StateOk(c.m) {
			t.Fatalf("%s: the state is not right", what)
		}
		isAuditedAs(t, what, c.m, c.want)
	}
}

// TestAuditsOfWrongStates has, among others, a pairing that is not best, and graphs with more or fewer vertices than their pools.
func TestAuditsOfWrongStates(t *testing.T) {
	for what, c := range wrongStates(t) {
		isAuditedAs(t, what, c.m, false)
	}
	for what, m := range wrongMaps() {
		if impl.Audited(m) {
			t.Errorf("%s: Audited(%q) is true", what, m)
		}
	}
	three := thirdWorths(3, 0, 1, 2, 1, 2, 3)
	best := run(t, nil, join(4), join(5), join(6), link(4, 5, 0, 0, 2), link(5, 6, 0, 0, 3), clearAll())
	isAuditedAs(t, "the better couple", best, true)
	worse := withPair(withPair(best, "v04", "p0"), "v06", "a")
	for what, x := range map[string]impl.Cert{
		"the worse couple, its own proof":     certOf(three, []impl.Couple{{A: 0, B: 1}}, []int{4, 0, 0}),
		"the worse couple, the other's proof": certOf(three, []impl.Couple{{A: 0, B: 1}}, []int{0, 6, 0}),
		"the worse couple, a proof of both":   certOf(three, []impl.Couple{{A: 0, B: 1}}, []int{2, 2, 4}),
	} {
		isAuditedAs(t, what, withPair(worse, "r0000", varsOf(numbersOfCert(x)...)), false)
	}
	isAuditedAs(t, "no couple", withPair(withPair(withPair(best, "v05", "a"), "v06", "a"), "r0000", varsOf(numbersOfCert(certOf(three, nil, []int{0, 0, 0}))...)), false)
	isAuditedAs(t, "one vertex fewer", withPair(best, "q00", "\x04\x05"), false)
	isAuditedAs(t, "one vertex more", withPair(withPair(best, "v07", "a"), "q00", "\x04\x05\x06\x07"), false)
}

// TestAuditsOfTurnedStates holds Audited of maps that differ at one place from audited ones against the second way.
func TestAuditsOfTurnedStates(t *testing.T) {
	seen := map[string]int{}
	small := run(t, nil, append(joins(0, 9, 10), link(9, 10, 0, 1, 0), leave(0), clearAll(), join(11), clearAll())...)
	for _, m := range [][]impl.Pair{small, mixedHall(t), threeRounds(t), ringHall("p0", "p0", "l", "p0", "p0")} {
		for _, turned := range turnsOf(m) {
			want := len(auditFaults(turned)) == 0
			isAuditedAs(t, "turned", turned, want)
			seen[fmt.Sprintf("right %v, audited %v", impl.StateOk(turned), want)]++
		}
	}
	for _, kind := range []string{"right true, audited true", "right true, audited false", "right false, audited false"} {
		if seen[kind] < 20 {
			t.Errorf("so many turned maps were seen: %v", seen)
		}
	}
}

// livesToRun has deeds of each kind, on so many sectors.
func livesToRun() map[int][]impl.Deed {
	draw := draws(17)
	out := map[int][]impl.Deed{
		3: deedsOf(join(5)), 4: deedsOf(join(1), join(2), show()),
		20: append(deedsOf(join(5), join(6), link(5, 6, 1, 2, 3)), cutAt(0, clearAll(), 0, 1), cutAt(1, clearAll()), cutAt(1, clearAll(), 0), deedOf(audit(0)), deedOf(show()), impl.Deed{Text: strings.Repeat("x", 40)}),
		21: append(deedsOf(join(5)), impl.Deed{Text: strings.Repeat("x", 41)}), 22: nil,
	}
	for sectors := 30; sectors < 40; sectors++ {
		out[sectors] = draw.deeds(impl.MaxDeeds)
	}
	return out
}

// A deedRoom has deeds with spare room behind their list and behind each Keep, filled, so that a write into it is seen.
type deedRoom struct {
	deeds []impl.Deed
	keeps [][]int
}

func roomOf(deeds []impl.Deed) deedRoom {
	var r deedRoom
	for _, d := range deeds {
		keep := append(slices.Clone(d.Keep), 77, 0, 1)
		r.keeps = append(r.keeps, keep)
		d.Text, d.Keep = strings.Clone(d.Text), keep[:len(d.Keep)]
		r.deeds = append(r.deeds, d)
	}
	for range 3 {
		r.deeds = append(r.deeds, impl.Deed{Text: "\x01\x0b", Keep: []int{0}, Cut: true, Step: 1})
	}
	return r
}

func sameDeed(a, b impl.Deed) bool {
	return a.Text == b.Text && a.Cut == b.Cut && a.Step == b.Step && slices.Equal(a.Keep, b.Keep) && a.Torn == b.Torn && a.Part == b.Part
}

func TestLivesWriteIntoNoArgument(t *testing.T) {
	for sectors, deeds := range livesToRun() {
		given, held := roomOf(deeds), roomOf(deeds)
		want, wantOk := impl.RunLife(sectors, deeds)
		got, ok := impl.RunLife(sectors, given.deeds[:len(deeds)])
		if ok != wantOk || !sameLife(got, want) {
			t.Errorf("%d sectors: a life is told apart by what stands behind the lists", sectors)
		}
		for _, d := range given.deeds {
			impl.DeedOk(d)
		}
		if !slices.EqualFunc(given.deeds, held.deeds, sameDeed) || !slices.EqualFunc(given.keeps, held.keeps, slices.Equal[[]int]) {
			t.Errorf("%d sectors: arguments are left as %+v, %v", sectors, given.deeds, given.keeps)
		}
	}
	for what, plain := range statesToAsk(t) {
		roomy := append(slices.Clone(plain), mapOf("p0", "v11", "zz", "a")...)
		held := slices.Clone(roomy)
		if impl.Audited(roomy[:len(plain)]) != impl.Audited(plain) || !slices.Equal(roomy, held) {
			t.Errorf("%s: of %q became %q", what, held, roomy)
		}
	}
}

// TestLivesShareNothing turns all that was handed in, and then what was handed back.
func TestLivesShareNothing(t *testing.T) {
	for sectors, deeds := range livesToRun() {
		given := roomOf(deeds)
		got, _ := impl.RunLife(sectors, given.deeds[:len(deeds)])
		held, _ := impl.RunLife(sectors, deeds)
		var texts []string
		for _, d := range given.deeds {
			texts = append(texts, d.Text)
		}
		for _, piece := range append(textsIn(got.Store), got.Told...) {
			sharesNoText(t, "a life", piece, texts)
		}
		for i := range given.deeds {
			given.deeds[i] = impl.Deed{Text: "turned"}
		}
		for _, keep := range given.keeps {
			clear(keep)
		}
		if !sameLife(got, held) {
			t.Errorf("%d sectors: a change of the deeds is seen in the life", sectors)
		}
		turnAll(got.Store)
		if !slices.Equal(got.Told, held.Told) {
			t.Errorf("%d sectors: a change of the store is seen in what was told", sectors)
		}
		for i := range got.Told[:cap(got.Told)] {
			got.Told[:cap(got.Told)][i] = "turned"
		}
		if again, _ := impl.RunLife(sectors, deeds); !sameLife(again, held) {
			t.Errorf("%d sectors: a change of one life is seen in the next", sectors)
		}
	}
}

// Lives are run from many sides at once: each is as if it were alone.
func TestLivesAtOnce(t *testing.T) {
	deeds := livesToRun()[20]
	want := mustLive(t, 20, deeds)
	done := make(chan bool)
	for range 8 {
		go func() {
			isWell := true
			for range 20 {
				got, ok := impl.RunLife(20, deeds)
				isWell = isWell && ok && sameLife(got, want) && impl.Audited(got.Store.Map)
			}
			done <- isWell
		}()
	}
	for range 8 {
		if !<-done {
			t.Error("a life beside others is another one")
		}
	}
}

// TestLivesLeaveNobodyBehind has lives that are run to their end, and such as are refused: nobody goes on sending deeds.
func TestLivesLeaveNobodyBehind(t *testing.T) {
	ahead := runtime.NumGoroutine()
	for range 50 {
		for sectors, deeds := range livesToRun() {
			impl.RunLife(sectors, deeds)
		}
	}
	// Who has closed the channel may take a while to be gone.
	for range 1000 {
		if runtime.NumGoroutine() <= ahead {
			return
		}
		time.Sleep(time.Millisecond)
	}
	t.Errorf("%d were running ahead of the lives, and %d are behind them", ahead, runtime.NumGoroutine())
}
