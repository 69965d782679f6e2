package tests

import (
	"math"
	"reflect"
	"slices"
	"strings"
	"testing"

	"loop.example/g00105/impl"
)

func sameDevice(a, b impl.Device) bool {
	return slices.Equal(a.Sectors, b.Sectors) && slices.Equal(a.Pending, b.Pending)
}

func isZeroDevice(d impl.Device) bool {
	return len(d.Sectors) == 0 && len(d.Pending) == 0
}

func mustWrite(t *testing.T, d impl.Device, at int, text string) impl.Device {
	t.Helper()
	e, ok := impl.WriteSector(d, at, text)
	if !ok {
		t.Fatalf("WriteSector(.., %d, %q) is false", at, text)
	}
	return e
}

func mustFlush(t *testing.T, d impl.Device) impl.Device {
	t.Helper()
	e, ok := impl.FlushDevice(d)
	if !ok {
		t.Fatal("FlushDevice is false")
	}
	return e
}

func reads(t *testing.T, what string, d impl.Device, at int, want string) {
	t.Helper()
	if text, ok := impl.ReadSector(d, at); text != want || !ok {
		t.Errorf("%s: ReadSector(.., %d) = %q, %v, not %q", what, at, text, ok, want)
	}
}

func readsAll(t *testing.T, what string, d impl.Device, want ...string) {
	t.Helper()
	for at, text := range want {
		reads(t, what, d, at, text)
	}
	if _, ok := impl.ReadSector(d, len(want)); ok {
		t.Errorf("%s: there are more than %d sectors", what, len(want))
	}
}

// leaves holds what is left of a crash, of which nothing is ever pending.
func leaves(t *testing.T, what string, d impl.Device, keep []int, torn, part int, want ...string) {
	t.Helper()
	got, ok := impl.CrashDevice(d, keep, torn, part)
	if !ok || !sameDevice(got, impl.Device{Sectors: want}) {
		t.Errorf("%s: CrashDevice(.., %v, %d, %d) = %+v, %v, not %q", what, keep, torn, part, got, ok, want)
	}
}

// fullDevice has as much of all as a device may have.
func fullDevice() impl.Device {
	var d impl.Device
	for i := range impl.MaxSectors {
		d.Sectors = append(d.Sectors, someBytes(impl.SectorSize-i%2))
	}
	for i := range impl.MaxPending {
		text := strings.Repeat(string(rune('a'+i%26)), impl.SectorSize-i%3)
		d.Pending = append(d.Pending, impl.Put{At: i / 2 % impl.MaxSectors, Text: text})
	}
	return d
}

func wrongDevices() map[string]impl.Device {
	long := someBytes(impl.SectorSize + 1)
	all := map[string]impl.Device{
		"no sectors":                      {},
		"no sectors, but a write":         {Pending: []impl.Put{{At: 0, Text: "a"}}},
		"one sector too many":             {Sectors: make([]string, impl.MaxSectors+1)},
		"one write too many":              {Sectors: []string{"a"}, Pending: make([]impl.Put, impl.MaxPending+1)},
		"too long a first sector":         {Sectors: []string{long, "", ""}},
		"too long a last sector":          {Sectors: []string{"", "", long}},
		"a first write ahead of all":      {Sectors: []string{"a", "b"}, Pending: []impl.Put{{At: -1}, {At: 0}}},
		"a last write ahead of all":       {Sectors: []string{"a", "b"}, Pending: []impl.Put{{At: 0}, {At: -1}}},
		"a write behind all":              {Sectors: []string{"a", "b"}, Pending: []impl.Put{{At: 0}, {At: 2}}},
		"a write far ahead":               {Sectors: []string{"a", "b"}, Pending: []impl.Put{{At: math.MinInt}}},
		"a write far behind":              {Sectors: []string{"a", "b"}, Pending: []impl.Put{{At: math.MaxInt}}},
		"too long a first write":          {Sectors: []string{"a", "b"}, Pending: []impl.Put{{Text: long}, {Text: "a"}}},
		"too long a last write":           {Sectors: []string{"a", "b"}, Pending: []impl.Put{{Text: "a"}, {Text: long}}},
		"too long a write, written over":  {Sectors: []string{"a"}, Pending: []impl.Put{{Text: long}, {Text: ""}}},
		"too long a sector, written over": {Sectors: []string{long}, Pending: []impl.Put{{Text: ""}}},
	}
	d := fullDevice()
	d.Sectors[impl.MaxSectors-1] = long
	all["too long a sector at the end of a full device"] = d
	d = fullDevice()
	d.Pending[impl.MaxPending-1].At = impl.MaxSectors
	all["a write behind all at the end of a full device"] = d
	return all
}

func TestDeviceOk(t *testing.T) {
	for what, d := range map[string]impl.Device{
		"one empty sector":       {Sectors: []string{""}},
		"one long sector":        {Sectors: []string{someBytes(impl.SectorSize)}},
		"empty lists of writes":  {Sectors: []string{"a"}, Pending: []impl.Put{}},
		"all sectors":            {Sectors: make([]string, impl.MaxSectors)},
		"all writes at one":      {Sectors: []string{"a"}, Pending: make([]impl.Put, impl.MaxPending)},
		"a long write":           {Sectors: []string{"a"}, Pending: []impl.Put{{Text: someBytes(impl.SectorSize)}}},
		"the first and the last": {Sectors: make([]string, 7), Pending: []impl.Put{{At: 6}, {At: 0}, {At: 6}}},
		"all there may be":       fullDevice(),
	} {
		if !impl.DeviceOk(d) {
			t.Errorf("%s: DeviceOk is false", what)
		}
	}
	for what, d := range wrongDevices() {
		if impl.DeviceOk(d) {
			t.Errorf("%s: DeviceOk is true", what)
		}
	}
}

func TestDeviceNew(t *testing.T) {
	for _, n := range []int{1, 2, 3, 64, impl.MaxSectors - 1, impl.MaxSectors} {
		d, ok := impl.DeviceNew(n)
		if !ok || !sameDevice(d, impl.Device{Sectors: make([]string, n)}) || !impl.DeviceOk(d) {
			t.Errorf("DeviceNew(%d) = %+v, %v", n, d, ok)
		}
	}
	for _, n := range []int{0, -1, impl.MaxSectors + 1, math.MinInt, math.MaxInt} {
		if d, ok := impl.DeviceNew(n); ok || !isZeroDevice(d) {
			t.Errorf("DeviceNew(%d) = %d sectors, %v", n, len(d.Sectors), ok)
		}
	}
}

func TestWrittenIsReadAndFlushed(t *testing.T) {
	d := impl.Device{Sectors: []string{"a", "b", "c", "d"}}
	for at := range d.Sectors {
		for _, text := range []string{"", "x", "\x00\xff", someBytes(impl.SectorSize)} {
			want := slices.Clone(d.Sectors)
			want[at] = text
			e := mustWrite(t, d, at, text)
			if !sameDevice(e, impl.Device{Sectors: d.Sectors, Pending: []impl.Put{{At: at, Text: text}}}) {
				t.Errorf("written at %d: %+v", at, e)
			}
			readsAll(t, "ahead of the flush", e, want...)
			f := mustFlush(t, e)
			if !sameDevice(f, impl.Device{Sectors: want}) {
				t.Errorf("flushed with a write at %d: %+v", at, f)
			}
			readsAll(t, "behind the flush", f, want...)
		}
	}
	readsAll(t, "the device itself", d, "a", "b", "c", "d")
}

func TestLastWriteAtAPlaceCounts(t *testing.T) {
	d := impl.Device{Sectors: []string{"a", "b", "c"}}
	e := mustWrite(t, d, 1, "first")
	e = mustWrite(t, e, 2, "other")
	e = mustWrite(t, e, 1, "last")
	want := []impl.Put{{At: 1, Text: "first"}, {At: 2, Text: "other"}, {At: 1, Text: "last"}}
	if !sameDevice(e, impl.Device{Sectors: d.Sectors, Pending: want}) {
		t.Errorf("three writes: %+v", e)
	}
	readsAll(t, "ahead of the flush", e, "a", "last", "other")
	readsAll(t, "behind the flush", mustFlush(t, e), "a", "last", "other")
	e = mustWrite(t, e, 1, "")
	readsAll(t, "an empty text ahead of the flush", e, "a", "", "other")
	readsAll(t, "an empty text behind the flush", mustFlush(t, e), "a", "", "other")
	e = mustWrite(t, e, 1, "first")
	readsAll(t, "the first once more", e, "a", "first", "other")
	readsAll(t, "the first once more, flushed", mustFlush(t, e), "a", "first", "other")
}

func TestFlushOfNothingPending(t *testing.T) {
	d := impl.Device{Sectors: []string{"a", "", someBytes(impl.SectorSize)}}
	if e := mustFlush(t, d); !sameDevice(e, d) {
		t.Errorf("flushed: %+v", e)
	}
}

func TestManyWrites(t *testing.T) {
	d, _ := impl.DeviceNew(impl.MaxSectors)
	want := make([]string, impl.MaxSectors)
	for i := range impl.MaxPending {
		at := i * i % impl.MaxSectors
		text := someBytes(i % (impl.SectorSize + 1))
		d = mustWrite(t, d, at, text)
		want[at] = text
	}
	readsAll(t, "ahead of the flush", d, want...)
	f := mustFlush(t, d)
	if !sameDevice(f, impl.Device{Sectors: want}) {
		t.Error("a flush of MaxPending writes does not leave the last of each place")
	}
	if e, ok := impl.WriteSector(d, 0, ""); ok || !isZeroDevice(e) {
		t.Errorf("WriteSector to a device with MaxPending pending: %v", ok)
	}
	mustWrite(t, f, 0, "")
}

func TestCrashKeepsWhatIsTold(t *testing.T) {
	d := impl.Device{
		Sectors: []string{"a", "b", "c"},
		Pending: []impl.Put{{At: 1, Text: "one"}, {At: 0, Text: "two"}, {At: 1, Text: "three"}},
	}
	leaves(t, "all", d, []int{0, 1, 2}, -1, 0, "two", "three", "c")
	leaves(t, "all, told backward", d, []int{2, 1, 0}, -1, 0, "two", "three", "c")
	leaves(t, "none", d, nil, -1, 0, "a", "b", "c")
	leaves(t, "an empty list", d, []int{}, -1, impl.SectorSize, "a", "b", "c")
	leaves(t, "the first of two at one place", d, []int{0}, -1, 0, "a", "one", "c")
	leaves(t, "the last of two at one place", d, []int{2}, -1, 0, "a", "three", "c")
	leaves(t, "both at one place", d, []int{2, 0}, -1, 0, "a", "three", "c")
	leaves(t, "the one between", d, []int{1}, -1, 0, "two", "b", "c")
	leaves(t, "the first two", d, []int{1, 0}, -1, 0, "two", "one", "c")
	leaves(t, "twice told", d, []int{0, 0, 1, 0}, -1, 0, "two", "one", "c")
	leaves(t, "places of no write", d, []int{-1, 3, 0, math.MinInt, math.MaxInt}, -1, 0, "a", "one", "c")
	leaves(t, "places of no write alone", d, []int{-1, 3}, -1, 0, "a", "b", "c")
}

func TestCrashOfNothingPending(t *testing.T) {
	d := impl.Device{Sectors: []string{"a", "b"}}
	leaves(t, "nothing", d, nil, -1, 0, "a", "b")
	leaves(t, "numbers of no write", d, []int{0, 1, -1}, 0, 1, "a", "b")
	leaves(t, "torn alone", d, nil, 1, impl.SectorSize, "a", "b")
}

func TestCrashTears(t *testing.T) {
	d := impl.Device{Sectors: []string{"left", "abcdefgh"}, Pending: []impl.Put{{At: 1, Text: "WXYZ"}}}
	for part, want := range []string{"abcdefgh", "Wbcdefgh", "WXcdefgh", "WXYdefgh", "WXYZefgh", "WXYZfgh", "WXYZgh", "WXYZh", "WXYZ", "WXYZ"} {
		leaves(t, "torn", d, nil, 0, part, "left", want)
	}
	leaves(t, "torn behind all", d, nil, 0, impl.SectorSize, "left", "WXYZ")
	d.Sectors[1] = "ab"
	for part, want := range []string{"ab", "Wb", "WX", "WXY", "WXYZ", "WXYZ"} {
		leaves(t, "torn over a shorter sector", d, nil, 0, part, "left", want)
	}
	d.Sectors[1] = ""
	leaves(t, "torn over an empty sector", d, nil, 0, 0, "left", "")
	leaves(t, "torn over an empty sector", d, nil, 0, 3, "left", "WXY")
	d.Sectors[1], d.Pending[0].Text = "abc", ""
	leaves(t, "an empty text torn", d, nil, 0, 0, "left", "abc")
	leaves(t, "an empty text torn", d, nil, 0, 2, "left", "c")
	leaves(t, "an empty text torn", d, nil, 0, impl.SectorSize, "left", "")
}

func TestCrashTearsLongestTexts(t *testing.T) {
	old, text := strings.Repeat("o", impl.SectorSize), strings.Repeat("n", impl.SectorSize)
	d := impl.Device{Sectors: []string{old, old, old}, Pending: []impl.Put{{At: 0, Text: text}, {At: 2, Text: text}}}
	for part := range impl.SectorSize + 1 {
		mixed := text[:part] + old[part:]
		leaves(t, "the first place", d, nil, 0, part, mixed, old, old)
		leaves(t, "the last place", d, nil, 1, part, old, old, mixed)
	}
}

func TestCrashTearsLast(t *testing.T) {
	d := impl.Device{
		Sectors: []string{"abcdef"},
		Pending: []impl.Put{{Text: "TORN"}, {Text: "kept!"}, {Text: "late"}},
	}
	leaves(t, "torn ahead of the kept one", d, []int{1}, 0, 2, "TOpt!")
	leaves(t, "torn behind the kept one", d, []int{1}, 2, 2, "lapt!")
	leaves(t, "torn behind two kept ones", d, []int{0, 1}, 2, 3, "latt!")
	leaves(t, "torn between two kept ones", d, []int{0, 2}, 1, 1, "kate")
	leaves(t, "torn alone", d, nil, 1, 1, "kbcdef")
	leaves(t, "a kept one is not torn", d, []int{1}, 1, 2, "kept!")
	leaves(t, "a kept one ahead of others is not torn", d, []int{1, 0}, 0, 2, "kept!")
	leaves(t, "kept twice, not torn", d, []int{2, 2}, 2, 0, "late")
	for _, torn := range []int{-1, 3, math.MinInt, math.MaxInt} {
		leaves(t, "torn is no place", d, []int{0}, torn, 2, "TORN")
		leaves(t, "torn is no place, and is told", d, []int{torn}, torn, 2, "abcdef")
	}
}

// crashByHand is CrashDevice as the chapter tells it, over right arguments.
func crashByHand(d impl.Device, keep []int, torn, part int) []string {
	out := slices.Clone(d.Sectors)
	for i, p := range d.Pending {
		if slices.Contains(keep, i) {
			out[p.At] = p.Text
		}
	}
	if torn >= 0 && torn < len(d.Pending) && !slices.Contains(keep, torn) {
		p := d.Pending[torn]
		old := out[p.At]
		out[p.At] = p.Text[:min(part, len(p.Text))] + old[min(part, len(old)):]
	}
	return out
}

func TestEveryCrashOfAFewWrites(t *testing.T) {
	d := impl.Device{
		Sectors: []string{"abcde", ""},
		Pending: []impl.Put{{At: 0, Text: "123"}, {At: 1, Text: "45"}, {At: 0, Text: "6789+-"}, {At: 1, Text: ""}},
	}
	for set := range 1 << len(d.Pending) {
		var keep []int
		for i := range d.Pending {
			if set>>i&1 == 1 {
				keep = append(keep, i)
			}
		}
		for torn := -1; torn <= len(d.Pending); torn++ {
			for part := range 8 {
				leaves(t, "some of all", d, keep, torn, part, crashByHand(d, keep, torn, part)...)
			}
		}
	}
}

func TestCrashOfAFullDevice(t *testing.T) {
	d := fullDevice()
	var odd []int
	for i := 1; i < impl.MaxPending; i += 2 {
		odd = append(odd, i)
	}
	for _, torn := range []int{0, 1, impl.MaxPending - 2, impl.MaxPending - 1, impl.MaxPending} {
		leaves(t, "every other", d, odd, torn, 40, crashByHand(d, odd, torn, 40)...)
		leaves(t, "none", d, nil, torn, impl.SectorSize, crashByHand(d, nil, torn, impl.SectorSize)...)
	}
	if e := mustFlush(t, d); !slices.Equal(e.Sectors, crashByHand(d, allPlaces(impl.MaxPending), -1, 0)) {
		t.Error("a flush of a full device does not do all writes")
	}
}

func allPlaces(n int) []int {
	var out []int
	for i := range n {
		out = append(out, i)
	}
	return out
}

func TestWrongDevicesAreRefused(t *testing.T) {
	for what, d := range wrongDevices() {
		if e, ok := impl.WriteSector(d, 0, "a"); ok || !isZeroDevice(e) {
			t.Errorf("%s: WriteSector is %v", what, ok)
		}
		if text, ok := impl.ReadSector(d, 0); ok || text != "" {
			t.Errorf("%s: ReadSector is %q, %v", what, text, ok)
		}
		if e, ok := impl.FlushDevice(d); ok || !isZeroDevice(e) {
			t.Errorf("%s: FlushDevice is %v", what, ok)
		}
		for _, keep := range [][]int{nil, {0, 1}} {
			if e, ok := impl.CrashDevice(d, keep, 0, 1); ok || !isZeroDevice(e) {
				t.Errorf("%s: CrashDevice is %v", what, ok)
			}
		}
	}
}

func TestWrongPlacesAndTextsAreRefused(t *testing.T) {
	d := impl.Device{Sectors: []string{"a", "b", "c"}, Pending: []impl.Put{{At: 2, Text: "d"}}}
	for _, at := range []int{-1, 3, 4, impl.MaxSectors, math.MinInt, math.MaxInt} {
		if e, ok := impl.WriteSector(d, at, "x"); ok || !isZeroDevice(e) {
			t.Errorf("WriteSector(.., %d, ..) is %v", at, ok)
		}
		if text, ok := impl.ReadSector(d, at); ok || text != "" {
			t.Errorf("ReadSector(.., %d) is %q, %v", at, text, ok)
		}
	}
	for _, size := range []int{impl.SectorSize + 1, impl.MaxText} {
		if e, ok := impl.WriteSector(d, 0, someBytes(size)); ok || !isZeroDevice(e) {
			t.Errorf("WriteSector of %d bytes is %v", size, ok)
		}
	}
	for _, part := range []int{-1, impl.SectorSize + 1, math.MinInt, math.MaxInt} {
		for _, torn := range []int{-1, 0, 1} {
			if e, ok := impl.CrashDevice(d, []int{0}, torn, part); ok || !isZeroDevice(e) {
				t.Errorf("CrashDevice with part %d, torn %d is %v", part, torn, ok)
			}
		}
	}
}

func TestOneSector(t *testing.T) {
	d, _ := impl.DeviceNew(1)
	e := mustWrite(t, d, 0, "x")
	readsAll(t, "one sector", e, "x")
	readsAll(t, "one sector, flushed", mustFlush(t, e), "x")
	leaves(t, "one sector, lost", e, nil, -1, 0, "")
	leaves(t, "one sector, kept", e, []int{0}, -1, 0, "x")
}

// roomyDevice has spare room behind its lists, filled, so that a write into it is seen.
func roomyDevice() (impl.Device, []string, []impl.Put) {
	sectors := []string{"sector 0", "sector 1", "spare", "spare"}
	pending := []impl.Put{{At: 1, Text: "first"}, {At: 0, Text: "other"}, {At: 1, Text: "last"}, {At: 9, Text: "spare"}, {At: 9, Text: "spare"}}
	return impl.Device{Sectors: sectors[:2], Pending: pending[:3]}, sectors, pending
}

func TestDevicesShareNothing(t *testing.T) {
	deeds := map[string]func(impl.Device, []int) (impl.Device, bool){
		"WriteSector": func(d impl.Device, _ []int) (impl.Device, bool) { return impl.WriteSector(d, 0, "new") },
		"FlushDevice": func(d impl.Device, _ []int) (impl.Device, bool) { return impl.FlushDevice(d) },
		"CrashDevice": func(d impl.Device, keep []int) (impl.Device, bool) { return impl.CrashDevice(d, keep, 2, 3) },
	}
	for what, deed := range deeds {
		d, sectors, pending := roomyDevice()
		numbers := []int{1, 0, 77, 77}
		got, ok := deed(d, numbers[:2])
		_, oldSectors, oldPending := roomyDevice()
		if !ok || !slices.Equal(sectors, oldSectors) || !slices.Equal(pending, oldPending) || !slices.Equal(numbers, []int{1, 0, 77, 77}) {
			t.Errorf("%s: %v, and leaves its arguments as %q, %+v, %v", what, ok, sectors, pending, numbers)
		}
		again, _ := deed(d, numbers[:2])
		for i := range sectors {
			sectors[i] = "turned"
		}
		for i := range pending {
			pending[i] = impl.Put{At: 5, Text: "turned"}
		}
		if !sameDevice(got, again) {
			t.Errorf("%s: a change of the argument is seen in the answer", what)
		}
		for _, text := range got.Sectors {
			sharesNoText(t, what, text, oldSectors)
		}
	}
}

func sharesNoText(t *testing.T, what, text string, others []string) {
	t.Helper()
	for _, other := range others {
		if within(text, other) {
			t.Errorf("%s: the text %q stands in the memory of an argument", what, text)
		}
	}
}

func TestDeviceTextsAreNewMemory(t *testing.T) {
	sector, text := string([]byte("sector")), string([]byte("pending"))
	d := impl.Device{Sectors: []string{sector, sector}, Pending: []impl.Put{{At: 0, Text: text}}}
	given := []string{sector, text}
	e := mustWrite(t, d, 1, text)
	f := mustFlush(t, d)
	g, _ := impl.CrashDevice(d, nil, 0, impl.SectorSize)
	h, _ := impl.CrashDevice(d, nil, 0, 0)
	for _, dev := range []impl.Device{e, f, g, h} {
		for _, s := range dev.Sectors {
			sharesNoText(t, "a sector", s, given)
		}
		for _, p := range dev.Pending {
			sharesNoText(t, "a write", p.Text, given)
		}
	}
	for at := range d.Sectors {
		s, _ := impl.ReadSector(d, at)
		sharesNoText(t, "ReadSector", s, given)
	}
}

func TestSameCallsSameDevices(t *testing.T) {
	d := fullDevice()
	first, _ := impl.CrashDevice(d, allPlaces(200), 300, 20)
	for range 20 {
		if again, _ := impl.CrashDevice(d, allPlaces(200), 300, 20); !reflect.DeepEqual(first, again) {
			t.Fatal("one crash leaves two devices")
		}
	}
}
