package tests

import (
	"encoding/binary"
	"fmt"
	"math"
	"slices"
	"strings"
	"testing"

	"loop.example/g00105/impl"
)

// stateByHand is the text of a map, be it a state or not, as the chapter tells it, but for the seal.
func stateByHand(m []impl.Pair) string {
	out := varsOf(len(m))
	for _, p := range m {
		out += varsOf(len(p.Key)) + p.Key + varsOf(len(p.Value)) + p.Value
	}
	return out
}

// plainState reads a text a second way: as the library reads numbers, held against what is written of the map, and against the sentences of StateOk.
func plainState(text string) ([]impl.Pair, bool) {
	if len(text) < 4 || sealedByHand(text[:len(text)-4]) != text {
		return nil, false
	}
	rest, isShort := []byte(text[:len(text)-4]), false
	next := func() int {
		n, size := binary.Uvarint(rest)
		isShort = isShort || size <= 0
		rest = rest[max(size, 0):]
		return int(min(n, math.MaxInt32))
	}
	piece := func() string {
		size := next()
		isShort = isShort || size > len(rest)
		out := string(rest[:min(size, len(rest))])
		rest = rest[len(out):]
		return out
	}
	var m []impl.Pair
	for count := next(); count > 0 && !isShort; count-- {
		m = append(m, impl.Pair{Key: piece(), Value: piece()})
	}
	if isShort || sealedByHand(stateByHand(m)) != text || len(stateFaults(m)) != 0 {
		return nil, false
	}
	return m, true
}

func mustTell(t *testing.T, what string, m []impl.Pair) string {
	t.Helper()
	text, ok := impl.StateText(m)
	if !ok {
		t.Fatalf("%s: StateText(%q) is false", what, m)
	}
	return text
}

func readsStateAs(t *testing.T, what, text string, want []impl.Pair) {
	t.Helper()
	m, ok := impl.ReadState(text)
	if !ok {
		t.Fatalf("%s: ReadState(%q) is false", what, text)
	}
	sameMap(t, what, m, want)
}

// refusesToReadState holds CopyTo, too, which is false wherever ReadState is.
func refusesToReadState(t *testing.T, what, text string) {
	t.Helper()
	if m, ok := impl.ReadState(text); ok || len(m) != 0 {
		t.Fatalf("%s: ReadState(%q) = %q, %v", what, text, m, ok)
	}
	refusesToCopy(t, what, mustFormat(t, 4), text)
}

func refusesToCopy(t *testing.T, what string, s impl.Store, text string) {
	t.Helper()
	if next, ok := impl.CopyTo(s, text); ok || !isZeroStore(next) {
		t.Fatalf("%s: CopyTo(.., %q) = %+v, %v", what, text, next, ok)
	}
}

// readsStateAsPlain holds what is read against the second way, and answers whether it is a state.
func readsStateAsPlain(t *testing.T, what, text string) bool {
	t.Helper()
	want, isState := plainState(text)
	if !isState {
		refusesToReadState(t, what, text)
		return false
	}
	readsStateAs(t, what, text, want)
	return true
}

// copiesAs wants a store to have the map of a text as CommitStore would have it, and to be opened so.
func copiesAs(t *testing.T, what string, s impl.Store, text string, m []impl.Pair) impl.Store {
	t.Helper()
	next, ok := impl.CopyTo(s, text)
	if want := mustCommit(t, s, m).store; !ok || !sameStore(next, want) {
		t.Fatalf("%s: CopyTo(.., %q) = %+v, %v, not %+v", what, text, next, ok, want)
	}
	sameMap(t, what, next.Map, m)
	opensAs(t, what, next.Device, next)
	return next
}

// isCopied wants promise 21 of a right state, but for the asks.
func isCopied(t *testing.T, what string, m []impl.Pair) {
	t.Helper()
	text := mustTell(t, what, m)
	if want := sealedByHand(stateByHand(m)); text != want {
		t.Fatalf("%s: StateText(%q) = %q, not %q", what, m, text, want)
	}
	readsStateAs(t, what, text, m)
	copiesAs(t, what, mustFormat(t, impl.MaxSectors), text, m)
}

// hasRounds wants a right map.
func hasRounds(m []impl.Pair) bool {
	return slices.ContainsFunc(m, func(p impl.Pair) bool { return p.Key[0] == 'q' })
}

// asksByHand is AsksFor as the chapter tells it, out of the Keys of a right map.
func asksByHand(m []impl.Pair) []impl.Ask {
	var joined, linked, left []impl.Ask
	for _, p := range m {
		var a, b int
		if n, _ := fmt.Sscanf(p.Key, "v%02d", &a); n == 1 {
			joined = append(joined, join(a))
			if p.Value == "l" {
				left = append(left, leave(a))
			}
		}
		if n, _ := fmt.Sscanf(p.Key, "e%02d%02d", &a, &b); n == 2 {
			linked = append(linked, link(a, b, int(p.Value[0]), int(p.Value[1]), int(p.Value[2])))
		}
	}
	return slices.Concat(joined, linked, left)
}

// isAskedFor wants asks that make a state without a round again, each of them well, and none of one with a round.
func isAskedFor(t *testing.T, what string, m []impl.Pair) {
	t.Helper()
	if hasRounds(m) {
		isNotAskedFor(t, what, m)
		return
	}
	asks, ok := impl.AsksFor(m)
	if want := asksByHand(m); !ok || !slices.Equal(asks, want) {
		t.Fatalf("%s: AsksFor(%q) = %+v, %v, not %+v", what, m, asks, ok, want)
	}
	again, codes := impl.Replay(asks)
	sameMap(t, what+", asked again", again, m)
	if !slices.Equal(codes, make([]int, len(asks))) {
		t.Fatalf("%s: the asks %+v are told %v", what, asks, codes)
	}
}

func isNotAskedFor(t *testing.T, what string, m []impl.Pair) {
	t.Helper()
	if asks, ok := impl.AsksFor(m); ok || len(asks) != 0 {
		t.Fatalf("%s: AsksFor(%q) = %+v, %v", what, m, asks, ok)
	}
}

// isNotTold wants nothing of a map that is not right, its text with a right seal among it.
func isNotTold(t *testing.T, what string, m []impl.Pair) {
	t.Helper()
	if text, ok := impl.StateText(m); ok || text != "" {
		t.Fatalf("%s: StateText(%q) = %q, %v", what, m, text, ok)
	}
	isNotAskedFor(t, what, m)
	refusesToReadState(t, what, sealedByHand(stateByHand(m)))
}

func TestStateTextsByTheBytes(t *testing.T) {
	y := "\xa0\xfe\x0a" // 180000
	for _, c := range []struct {
		asks []impl.Ask
		want string
	}{
		{nil, "\x00"},
		{joins(3), "\x01\x03v03\x01a"},
		{append(joins(11), leave(11)), "\x01\x03v11\x01l"},
		{joins(11, 0), "\x02\x03v00\x01a\x03v11\x01a"},
		{append(joins(9, 10), link(10, 9, 0, 50, 7), leave(9)), "\x03\x05e0910\x03\x00\x32\x07\x03v09\x01l\x03v10\x01a"},
		{[]impl.Ask{clearAll()}, "\x02\x03q00\x00\x05r0000\x04\x00\x00\x00\x00"},
		{append(joins(7), clearAll()), "\x03\x03q00\x01\x07\x05r0000\x05\x01\x00\x00\x00\x00\x03v07\x01a"},
		{append(joins(3, 1), link(3, 1, 2, 0, 0), clearAll()), "\x05\x05e0103\x03\x02\x00\x00\x03q00\x02\x01\x03\x05r0000\x11" +
			"\x02\x01\x00\x01\x02\x00\x00\x01\x00\x01" + y + y + "\x00\x03v01\x02p0\x03v03\x02p0"},
		{append(joins(4), clearAll(), leave(4), clearAll()), "\x05\x03q00\x01\x04\x03q01\x00\x05r0000\x05\x01\x00\x00\x00\x00\x05r0100\x04\x00\x00\x00\x00\x03v04\x01l"},
	} {
		m := run(t, nil, c.asks...)
		if text := mustTell(t, "by the bytes", m); text != sealedByHand(c.want) {
			t.Errorf("StateText(%q) = %q, not %q and its sum", m, text, c.want)
		}
		isCopied(t, "by the bytes", m)
		isAskedFor(t, "by the bytes", m)
	}
}

// TestSealedStateTexts has the seals written out.
func TestSealedStateTexts(t *testing.T) {
	if text := mustTell(t, "no pairs", nil); text != "\x00\x81\xa5\xc7\xdc" {
		t.Errorf("the text of no pairs is %q", text)
	}
	if text := mustTell(t, "one id", run(t, nil, joins(3)...)); text != "\x01\x03v03\x01a"+"\x25\x4f\x9f\x3a" {
		t.Errorf("the text of one id is %q", text)
	}
}

func TestStatesWithoutPairs(t *testing.T) {
	for _, m := range [][]impl.Pair{nil, {}} {
		isCopied(t, "no pairs", m)
		isAskedFor(t, "no pairs", m)
	}
	got, ok := impl.ReadState(sealedByHand("\x00"))
	if !ok || len(got) != 0 {
		t.Errorf("the text of no pairs is read as %q, %v", got, ok)
	}
	s := copiesAs(t, "over another map", storeOf(t, 150, threeRounds(t)), sealedByHand("\x00"), nil)
	if s.Root.Tree != -1 {
		t.Errorf("behind no pairs the root is %+v", s.Root)
	}
}

// statesToCopy has states that asks have made, of no round, of one and of several, and right ones that no asks make.
func statesToCopy(t *testing.T) map[string][]impl.Pair {
	t.Helper()
	out := statesToTell(t)
	for what, m := range out {
		if len(stateFaults(m)) != 0 {
			delete(out, what)
		}
	}
	all := append(joins(allPlaces(12)...), linksOfAll(allPlaces(12), 50, 0, 1)...)
	out["all ids, all links"] = run(t, nil, all...)
	out["all ids, all links, all left"] = run(t, out["all ids, all links"], leave(11), leave(0), leave(5), leave(1), leave(2), leave(3), leave(4), leave(6), leave(7), leave(8), leave(9), leave(10))
	out["one round of nine"] = run(t, nil, append(append(joins(allPlaces(9)...), linksOfAll(allPlaces(9), 50, 50, 50)...), clearAll())...)
	out["two rounds"] = run(t, out["one round of nine"], clearAll())
	return out
}

func TestStatesComeBack(t *testing.T) {
	rounds := map[int]int{}
	for what, m := range statesToCopy(t) {
		isCopied(t, what, m)
		isAskedFor(t, what, m)
		rounds[len(hallOf(m).rounds)]++
	}
	for _, n := range []int{0, 1, 2, 3, 6} {
		if rounds[n] == 0 {
			t.Errorf("no state has %d rounds: %v", n, rounds)
		}
	}
}

// TestDrawnHallsAreCopied has each state of drawn rows of asks, some of which are not well.
func TestDrawnHallsAreCopied(t *testing.T) {
	draw, seen := draws(21), map[string]int{}
	s := mustFormat(t, impl.MaxSectors)
	for range 60 {
		var m []impl.Pair
		for range 40 + draw.below(60) {
			m, _ = impl.Step(m, draw.ask())
			text := mustTell(t, "drawn", m)
			if text != sealedByHand(stateByHand(m)) {
				t.Fatalf("StateText(%q) = %q", m, text)
			}
			readsStateAs(t, "drawn", text, m)
			isAskedFor(t, "drawn", m)
			seen[fmt.Sprintf("rounds %v, links %v, left %v", hasRounds(m), strings.Contains(text, "\x05e"), strings.Contains(text, "\x01l"))]++
		}
		// From one map to the other on the same device.
		s = copiesAs(t, "drawn", s, mustTell(t, "drawn", m), m)
	}
	if s.Root.Serial != 60 || len(seen) != 8 {
		t.Errorf("behind 60 copies the root is %+v; seen were %v", s.Root, seen)
	}
}

// TestTurnedStatesAreCopied has maps that differ at one place from right ones: right ones are told, others not, nor are their texts read.
func TestTurnedStatesAreCopied(t *testing.T) {
	small := run(t, nil, append(joins(0, 9, 10), link(9, 10, 0, 1, 0), leave(0))...)
	right, wrong := 0, 0
	for _, m := range [][]impl.Pair{small, run(t, small, clearAll(), join(11)), mixedHall(t)} {
		for _, turned := range turnsOf(m) {
			if len(stateFaults(turned)) != 0 {
				isNotTold(t, "turned", turned)
				wrong++
				continue
			}
			text := mustTell(t, "turned", turned)
			readsStateAs(t, "turned", text, turned)
			isAskedFor(t, "turned", turned)
			right++
		}
	}
	if right < 50 || wrong < 500 {
		t.Errorf("%d turned maps were right, %d not", right, wrong)
	}
}

func TestNothingIsCopiedOfWrongStates(t *testing.T) {
	for what, c := range wrongStates(t) {
		isNotTold(t, what, c.m)
	}
	for what, m := range wrongMaps() {
		isNotTold(t, what, m)
	}
	for what, m := range map[string][]impl.Pair{
		"a link and no ids":     mapOf("\x01\x02\x03", "e0001"),
		"a long map":            mapOf("a", strings.Split(strings.Repeat("v00,", 3000), ",")...),
		"long texts":            mapOf(someBytes(100000), someBytes(100000)),
		"a text beyond MaxText": mapOf(someBytes(impl.MaxText), "v00"),
		"a right map, no state": mapOf("1", "a", "b"),
		"an empty pair":         mapOf("", ""),
	} {
		isNotTold(t, what, m)
	}
}

// TestLongestStates has the greatest states that there are: MaxPairs of the longest Keys and Values come to 5641 bytes, so that no right state meets MaxText.
func TestLongestStates(t *testing.T) {
	full := bulkyHall(12, 54, 6)
	isCopied(t, "MaxPairs", isOfPairs(t, full.pairs(), impl.MaxPairs))
	if text := mustTell(t, "MaxPairs", full.pairs()); len(text) < 2000 || len(text) > 5645 {
		t.Errorf("the text of MaxPairs has %d bytes", len(text))
	}
	isNotTold(t, "one more than MaxPairs", bulkyHall(12, 55, 6).pairs())
	// Maps whose texts are as long as MaxText lets them be, and longer, are no states.
	for _, size := range []int{impl.MaxText - 7, impl.MaxText - 6, impl.MaxText - 5, impl.MaxText, 2 * impl.MaxText} {
		isNotTold(t, "about MaxText", mapOf(someBytes(size), "v00"))
		refusesToReadState(t, "about MaxText", sealedByHand("\x01\x03v00\x01a"+someBytes(size-7)))
		refusesToReadState(t, "about MaxText, of noughts", sealedByHand(strings.Repeat("\x00", size)))
	}
	refusesToReadState(t, "as many empty pairs as there is room for", sealedByHand(varsOf(3999)+strings.Repeat("\x00", 7998)))
}

// textsOfStates has small texts of states.
func textsOfStates(t *testing.T) []string {
	t.Helper()
	var out []string
	for _, asks := range [][]impl.Ask{
		nil, joins(3), append(joins(9, 10), link(10, 9, 0, 50, 7), leave(9)), {clearAll()}, append(joins(3, 1), link(3, 1, 2, 0, 0), clearAll()), joins(allPlaces(12)...),
	} {
		out = append(out, mustTell(t, "a text", run(t, nil, asks...)))
	}
	return out
}

// Promise 21 leans on promise 2: whatever byte is turned, the seal tells.
func TestTextsWithOneByteTurned(t *testing.T) {
	for _, text := range textsOfStates(t) {
		for at := range len(text) {
			turned := []byte(text)
			for by := 1; by < 256; by++ {
				turned[at] = text[at] ^ byte(by)
				refusesToReadState(t, "one byte turned", string(turned))
			}
		}
	}
}

func TestTextsOfOtherLengths(t *testing.T) {
	refusesToReadState(t, "nothing", "")
	for _, text := range textsOfStates(t) {
		for at := range len(text) {
			refusesToReadState(t, "cut off", text[:at])
			refusesToReadState(t, "cut off ahead", text[at+1:])
			refusesToReadState(t, "one byte less", text[:at]+text[at+1:])
		}
		for b := range 256 {
			more := string([]byte{byte(b)})
			refusesToReadState(t, "one byte more", text+more)
			refusesToReadState(t, "one byte more ahead", more+text)
		}
		refusesToReadState(t, "twice", text+text)
		refusesToReadState(t, "sealed twice", sealedByHand(text))
		refusesToReadState(t, "not sealed", text[:len(text)-4])
		refusesToReadState(t, "with very much behind", text+strings.Repeat("\x00", 1000000))
	}
	for size := range 4 {
		refusesToReadState(t, "shorter than a seal", strings.Repeat("\xff", size))
	}
	refusesToReadState(t, "a seal alone", sealedByHand(""))
}

// TestTurnedTextsWithARightSeal has what stands under the seal turned at each place, and sealed again.
func TestTurnedTextsWithARightSeal(t *testing.T) {
	read, refused := 0, 0
	for _, text := range textsOfStates(t) {
		for _, turned := range turnsOfBytes(text[:len(text)-4]) {
			if readsStateAsPlain(t, "sealed again", sealedByHand(turned)) {
				read++
			} else {
				refused++
			}
		}
	}
	if read < 10 || refused < 500 {
		t.Errorf("%d texts were read, %d refused", read, refused)
	}
}

// withNumbers is the text of a map in which each number of a count or a length, one behind the other, is written as told.
func withNumbers(m []impl.Pair, form func(place, n int) string) string {
	out := form(0, len(m))
	for i, p := range m {
		out += form(2*i+1, len(p.Key)) + p.Key + form(2*i+2, len(p.Value)) + p.Value
	}
	return sealedByHand(out)
}

func statesOfNumbers(t *testing.T) [][]impl.Pair {
	t.Helper()
	return [][]impl.Pair{nil, run(t, nil, joins(3)...), run(t, nil, clearAll()), mixedHall(t), threeRounds(t)}
}

func TestNumbersInLongerForms(t *testing.T) {
	for _, m := range statesOfNumbers(t) {
		readsStateAs(t, "in its own form", withNumbers(m, func(_, n int) string { return varsOf(n) }), m)
		for at := range 2*len(m) + 1 {
			for which := range longerForms(0) {
				refusesToReadState(t, "a longer form", withNumbers(m, func(place, n int) string {
					if place == at {
						return longerForms(n)[which]
					}
					return varsOf(n)
				}))
			}
		}
	}
}

func TestOtherNumbersInTexts(t *testing.T) {
	for _, m := range statesOfNumbers(t) {
		for at := range 2*len(m) + 1 {
			for _, other := range []func(n int) int{
				func(n int) int { return n + 1 }, func(n int) int { return n - 1 }, func(n int) int { return n + 2 }, func(int) int { return 127 }, func(n int) int { return 128 + n },
				func(int) int { return impl.MaxText }, func(int) int { return impl.MaxText + 1 }, func(int) int { return impl.MaxNumber }, func(int) int { return impl.MaxNumber + 1 },
				func(n int) int { return 1<<32 + n }, func(n int) int { return 1<<35 + n }, func(int) int { return math.MaxInt },
			} {
				text := withNumbers(m, func(place, n int) string {
					if place == at {
						n = max(other(n), 0)
					}
					return varsOf(n)
				})
				if want := withNumbers(m, func(_, n int) string { return varsOf(n) }); text != want {
					refusesToReadState(t, "another number", text)
				}
			}
		}
	}
}

// TestCountsThatAreNotThePairs has right pairs under a right seal, but more or fewer than are told.
func TestCountsThatAreNotThePairs(t *testing.T) {
	for _, m := range statesOfNumbers(t) {
		body := stateByHand(m)[len(varsOf(len(m))):]
		for count := range impl.MaxPairs + 20 {
			if text := sealedByHand(varsOf(count) + body); count != len(m) {
				refusesToReadState(t, fmt.Sprintf("%d pairs told as %d", len(m), count), text)
			}
		}
	}
	last := run(t, nil, joins(0, 1, 2)...)
	body := stateByHand(last)
	for what, text := range map[string]string{
		"a half pair behind":     body + "\x03v03",
		"a half pair counted":    "\x04" + body[1:] + "\x03v03",
		"a half pair at the end": body[:len(body)-2],
		"a nought behind":        body + "\x00",
		"an empty pair behind":   body + "\x00\x00",
		"an empty pair counted":  "\x04" + body[1:] + "\x00\x00",
		"a count alone":          "\x03",
		"a count that goes on":   "\x80",
		"a pair behind none":     "\x00\x03v03\x01a",
		"a Value that goes on":   body[:len(body)-2] + "\x81",
		"a Value that is longer": body[:len(body)-2] + "\x02a",
	} {
		refusesToReadState(t, what, sealedByHand(text))
	}
}

func TestPairsThatDoNotAscend(t *testing.T) {
	for _, m := range [][]impl.Pair{run(t, nil, joins(3, 4)...), mixedHall(t), threeRounds(t)} {
		for i := range m[1:] {
			turned := slices.Clone(m)
			turned[i], turned[i+1] = turned[i+1], turned[i]
			isNotTold(t, "two pairs turned", turned)
			isNotTold(t, "a pair twice", slices.Insert(slices.Clone(m), i, m[i]))
			isNotTold(t, "a pair again at the end", append(slices.Clone(m), m[i]))
		}
		backwards := slices.Clone(m)
		slices.Reverse(backwards)
		isNotTold(t, "backwards", backwards)
	}
}

func TestDrawnTextsOfStates(t *testing.T) {
	draw := draws(22)
	for range 3000 {
		refusesToReadState(t, "drawn", draw.text(0, 60, 256))
		readsStateAsPlain(t, "drawn, sealed", sealedByHand(draw.text(0, 60, 256)))
		readsStateAsPlain(t, "drawn of few bytes, sealed", sealedByHand(draw.text(0, 12, 3)))
		m := draw.pairs(draw.below(9), impl.MaxValue)
		readsStateAsPlain(t, "a drawn map", sealedByHand(stateByHand(m)))
	}
}

// TestEveryShortTextOfAState goes through all texts of a few bytes under a right seal: of these, no pairs alone are a state.
func TestEveryShortTextOfAState(t *testing.T) {
	texts, read := []string{""}, []string{}
	for len(texts) > 0 {
		text := texts[0]
		texts = texts[1:]
		if readsStateAsPlain(t, "a short text", sealedByHand(text)) {
			read = append(read, text)
		}
		for _, b := range []byte{0, 1, 2, 3, 'v', 'a', 0x80, 0x81} {
			if len(text) < 4 {
				texts = append(texts, text+string([]byte{b}))
			}
		}
	}
	if !slices.Equal(read, []string{"\x00"}) {
		t.Errorf("of all short texts these are read: %q", read)
	}
}

// TestCopiesToNewDevices follows a state from one device to others, of which each is opened as it was.
func TestCopiesToNewDevices(t *testing.T) {
	m := threeRounds(t)
	from := storeOf(t, 150, m)
	text := mustTell(t, "a hall", from.Map)
	for _, sectors := range []int{60, 150, 151, impl.MaxSectors} {
		to := copiesAs(t, "a new device", mustFormat(t, sectors), text, m)
		if to.Root.Serial != 1 || len(to.Device.Sectors) != sectors {
			t.Errorf("on %d sectors the root is %+v", sectors, to.Root)
		}
		back := mustOpen(t, to.Device)
		if again := mustTell(t, "opened", back.Map); again != text {
			t.Errorf("of the copy %q is told, not %q", again, text)
		}
		// The copy lives on by itself.
		handles(t, back, join(11), "ok")
		handles(t, back, show(), hallOf(m).reply(show()))
		handles(t, back, clearAll(), "ok 3")
	}
	opensAs(t, "what was copied", from.Device, from)
}

// TestCopiesOverOtherMaps has stores that already have a map: another state, the same one, one that is no state at all.
func TestCopiesOverOtherMaps(t *testing.T) {
	states := statesToCopy(t)
	for _, others := range []map[string][]impl.Pair{states, {"no state": mapOf("1", "a", "b", "v00")}} {
		for what, other := range others {
			s := storeOf(t, impl.MaxSectors, other)
			for _, to := range []string{"the empty map", "mixed", "three rounds", "nine in the hall"} {
				next := copiesAs(t, to+" over "+what, s, mustTell(t, to, states[to]), states[to])
				if next.Root.Serial != 2 {
					t.Errorf("%s over %s has the root %+v", to, what, next.Root)
				}
			}
		}
	}
	m := threeRounds(t)
	s := storeOf(t, 150, m)
	same := copiesAs(t, "the same map", s, mustTell(t, "the same map", m), m)
	if same.Root != (impl.Root{Serial: 2, Tree: s.Root.Tree}) {
		t.Errorf("behind the same map the root is %+v, and was %+v", same.Root, s.Root)
	}
}

// TestCopiesToFullStores has stores that have just room for the map, and such as have one sector less.
func TestCopiesToFullStores(t *testing.T) {
	states := statesToCopy(t)
	for _, what := range []string{"mixed", "three rounds", "nine in the hall", "bulky"} {
		m, text := states[what], mustTell(t, what, states[what])
		for _, other := range [][]impl.Pair{nil, mapOf("1", "a", "b"), states["a ring"]} {
			wide := storeOf(t, impl.MaxSectors, other)
			sectors := 2 + len(usedBy(t, wide)) + writesOf(t, wide, m)
			copiesAs(t, what+", just room", storeOf(t, sectors, other), text, m)
			less := storeOf(t, sectors-1, other)
			refusesToCopy(t, what+", one sector less", less, text)
			opensAs(t, what+", behind a refused copy", less.Device, less)
			copiesAs(t, what+", no pairs in its place", less, sealedByHand("\x00"), nil)
		}
	}
	least := mustFormat(t, 4)
	refusesToCopy(t, "the least store", least, mustTell(t, "mixed", states["mixed"]))
	one := run(t, nil, joins(3)...)
	copiesAs(t, "one id in the least store", least, mustTell(t, "one id", one), one)
}

// TestCopiesToStoresThatAreNone has stores whose Device can't be read, or does not tell just them.
func TestCopiesToStoresThatAreNone(t *testing.T) {
	for name, m := range map[string][]impl.Pair{"no pairs": nil, "one id": run(t, nil, joins(3)...), "three rounds": threeRounds(t)} {
		text := mustTell(t, name, m)
		refusesToCopy(t, "the zero value", impl.Store{}, text)
		for what, s := range storesOfAnotherMap(t) {
			refusesToCopy(t, name+" to "+what, s, text)
		}
		for at := range 2 {
			s := withRoot(t, storeOf(t, 150, mixedHall(t)), at, impl.MaxNumber)
			refusesToCopy(t, name+" behind the last Serial", s, text)
			last := withRoot(t, storeOf(t, 150, mixedHall(t)), at, impl.MaxNumber-1)
			copiesAs(t, name+" of the last Serial", last, text, m)
		}
	}
}

func TestNoCopiesOfTextsThatAreNone(t *testing.T) {
	for what, s := range map[string]impl.Store{
		"a new store": mustFormat(t, 9), "a hall": storeOf(t, 150, threeRounds(t)), "no state": storeOf(t, 9, mapOf("1", "a")), "the zero value": {},
	} {
		for _, text := range textsOfStates(t) {
			for _, turned := range turnsOfBytes(text) {
				if turned != text {
					refusesToCopy(t, what+", a turned text", s, turned)
				}
			}
		}
		for _, text := range []string{"", sealedByHand(""), sealedByHand(stateByHand(mapOf("1", "a"))), sealedByHand("\x02\x03v01\x01a\x03v00\x01a"), sealedByHand("\x01\x03v00\x01b")} {
			refusesToCopy(t, what, s, text)
		}
	}
}

// replaysAs wants of a row of asks what Step tells of the first 200, one behind the other, and the second way, too.
func replaysAs(t *testing.T, what string, asks []impl.Ask) ([]impl.Pair, []int) {
	t.Helper()
	h := newHall()
	var want []impl.Pair
	var wantCodes []int
	for _, x := range asks[:min(len(asks), 200)] {
		var code int
		want, code = goesAs(t, want, h, x)
		wantCodes = append(wantCodes, code)
	}
	m, codes := impl.Replay(asks)
	if !slices.Equal(codes, wantCodes) {
		t.Fatalf("%s: Replay of %d asks tells the codes %v, not %v", what, len(asks), codes, wantCodes)
	}
	sameMap(t, what, m, want)
	return m, codes
}

func TestReplaysByHand(t *testing.T) {
	for what, c := range map[string]struct {
		asks  []impl.Ask
		want  []impl.Pair
		codes []int
	}{
		"no ask":        {nil, nil, nil},
		"one id":        {joins(3), mapOf("a", "v03"), []int{0}},
		"joined twice":  {joins(3, 3), mapOf("a", "v03"), []int{0, 2}},
		"shown":         {[]impl.Ask{show(), join(1), show(), audit(0)}, mapOf("a", "v01"), []int{0, 0, 0, 3}},
		"nothing works": {[]impl.Ask{leave(1), link(0, 1, 0, 0, 0), audit(0), {Op: 7}, {}, join(12)}, nil, []int{3, 3, 3, 1, 1, 3}},
		"codes between": {
			[]impl.Ask{join(1), join(-1), join(2), link(1, 1, 0, 0, 0), link(1, 2, 51, 0, 0), link(2, 1, 0, 0, 50), leave(3), leave(1), link(1, 2, 0, 0, 0), leave(1)},
			[]impl.Pair{{Key: "e0102", Value: "\x00\x00\x32"}, {Key: "v01", Value: "l"}, {Key: "v02", Value: "a"}},
			[]int{0, 3, 0, 4, 5, 0, 3, 0, 6, 6},
		},
		"rounds up to MaxRounds": {
			slices.Concat(slices.Repeat([]impl.Ask{clearAll()}, 7), []impl.Ask{audit(5), audit(6)}),
			[]impl.Pair{
				{Key: "q00"}, {Key: "q01"}, {Key: "q02"}, {Key: "q03"}, {Key: "q04"}, {Key: "q05"},
				{Key: "r0000", Value: "\x00\x00\x00\x00"}, {Key: "r0100", Value: "\x00\x00\x00\x00"}, {Key: "r0200", Value: "\x00\x00\x00\x00"},
				{Key: "r0300", Value: "\x00\x00\x00\x00"}, {Key: "r0400", Value: "\x00\x00\x00\x00"}, {Key: "r0500", Value: "\x00\x00\x00\x00"},
			},
			[]int{0, 0, 0, 0, 0, 0, 8, 0, 3},
		},
		"more than MaxPool": {append(joins(allPlaces(10)...), clearAll()), mapOf("a", "v00", "v01", "v02", "v03", "v04", "v05", "v06", "v07", "v08", "v09"), append(make([]int, 10), 7)},
	} {
		m, codes := replaysAs(t, what, c.asks)
		sameMap(t, what, m, c.want)
		if !slices.Equal(codes, c.codes) {
			t.Errorf("%s: the codes are %v, not %v", what, codes, c.codes)
		}
	}
}

// TestReplaysOfTwoHundred has rows of which the last asks would each change the state: the ask 199 and the ask 200 count, no further one.
func TestReplaysOfTwoHundred(t *testing.T) {
	counted := append(slices.Repeat([]impl.Ask{show()}, 198), joins(0, 1, 2, 3)...)
	for many, keys := range map[int][]string{0: nil, 1: nil, 198: nil, 199: {"v00"}, 200: {"v00", "v01"}, 201: {"v00", "v01"}, 202: {"v00", "v01"}} {
		m, codes := replaysAs(t, fmt.Sprint(many, " asks"), counted[:many])
		sameMap(t, fmt.Sprint(many, " asks"), m, mapOf("a", keys...))
		if !slices.Equal(codes, make([]int, min(many, 200))) {
			t.Errorf("of %d asks the codes are %v", many, codes)
		}
	}
	for what, beyond := range map[string]impl.Ask{"a link": link(0, 1, 9, 9, 9), "one that leaves": leave(1), "a round": clearAll(), "another id": join(5), "no Op": {Op: 99}, "no id": join(-1)} {
		for _, many := range []int{1, 2, 3000} {
			asks := append(slices.Clone(counted[:200]), slices.Repeat([]impl.Ask{beyond}, many)...)
			m, codes := replaysAs(t, what, asks)
			sameMap(t, what, m, mapOf("a", "v00", "v01"))
			if !slices.Equal(codes, make([]int, 200)) {
				t.Errorf("%s: the codes are %v", what, codes)
			}
		}
	}
	// A code that is not 0 counts as any other: what fails is one of the 200, too.
	failing := append(slices.Repeat([]impl.Ask{join(12)}, 200), join(0))
	if m, codes := replaysAs(t, "200 that fail", failing); len(m) != 0 || !slices.Equal(codes, slices.Repeat([]int{impl.FailNone}, 200)) {
		t.Errorf("behind 200 that fail the map is %q, the codes %v", m, codes)
	}
}

func TestReplaysOfDrawnAsks(t *testing.T) {
	draw, told := draws(23), map[int]int{}
	for i := range 60 {
		var asks []impl.Ask
		for range draw.among(0, 1, 40, 120, 199, 200, 201, 260) {
			asks = append(asks, draw.ask())
		}
		m, codes := replaysAs(t, fmt.Sprint("drawn ", i), asks)
		isCopied(t, "drawn", m)
		isAskedFor(t, "drawn", m)
		for _, code := range codes {
			told[code]++
		}
	}
	for _, code := range []int{0, impl.FailForm, impl.FailKnown, impl.FailNone, impl.FailSelf, impl.FailWorth, impl.FailState, impl.FailPool, impl.FailRounds} {
		if told[code] == 0 {
			t.Errorf("nothing was told %d: %v", code, told)
		}
	}
}

// wrongAsks has asks of a hall of the ids 0 and 1, which change nothing, and what they are told.
func wrongAsks() map[impl.Ask]int {
	out := map[impl.Ask]int{{}: impl.FailForm, {A: 2}: impl.FailForm}
	for _, n := range []int{math.MinInt, math.MinInt32, -1, 7, 8, 255, 256, 1<<32 + 1, math.MaxInt} {
		out[impl.Ask{Op: n, A: 2}] = impl.FailForm
		out[impl.Ask{Op: n, A: n, B: n, W1: n, W2: n, W3: n}] = impl.FailForm
		for _, x := range []impl.Ask{link(n, 0, 0, 0, 0), link(0, n, 0, 0, 0), link(n, n, n, n, n), leave(n), audit(n)} {
			out[x] = impl.FailNone
		}
	}
	for _, n := range []int{math.MinInt, -1, 12, 13, 256, 1 << 32, math.MaxInt} {
		out[join(n)] = impl.FailNone
	}
	for _, n := range []int{math.MinInt, -1, 51, 256, 1 << 32, math.MaxInt} {
		out[link(0, 1, n, 0, 0)], out[link(1, 0, 0, n, 0)], out[link(0, 1, 0, 0, n)] = impl.FailWorth, impl.FailWorth, impl.FailWorth
	}
	return out
}

func TestReplaysOfWrongAsks(t *testing.T) {
	asks := append(joins(0, 1), link(0, 1, 1, 2, 3))
	held := run(t, nil, asks...)
	for x, want := range wrongAsks() {
		what := fmt.Sprintf("%+v", x)
		m, codes := replaysAs(t, what, append(slices.Clone(asks), x, leave(1)))
		sameMap(t, what, m, run(t, held, leave(1)))
		if !slices.Equal(codes, []int{0, 0, 0, want, 0}) {
			t.Errorf("%s is told %v, not %d", what, codes, want)
		}
		if none, codes := replaysAs(t, what, []impl.Ask{x}); len(none) != 0 || len(codes) != 1 || codes[0] == 0 {
			t.Errorf("%s alone makes %q, and is told %v", what, none, codes)
		}
	}
}

func TestAsksForByHand(t *testing.T) {
	for what, c := range map[string]struct {
		asks []impl.Ask
		want []impl.Ask
	}{
		"no pairs":             {nil, nil},
		"one id":               {joins(3), joins(3)},
		"one that left":        {append(joins(3), leave(3)), append(joins(3), leave(3))},
		"ids ascending":        {joins(10, 9, 11, 0, 2), joins(0, 2, 9, 10, 11)},
		"the last of worths":   {append(joins(4, 5), link(5, 4, 1, 1, 1), link(4, 5, 0, 50, 3)), append(joins(4, 5), link(4, 5, 0, 50, 3))},
		"who left, ascending":  {append(joins(8, 1, 10), leave(10), leave(1), leave(8)), append(joins(1, 8, 10), leave(1), leave(8), leave(10))},
		"who left among all":   {append(joins(2, 1, 0), leave(1)), append(joins(0, 1, 2), leave(1))},
		"a link of who left":   {append(joins(7, 6), link(7, 6, 3, 2, 1), leave(6)), append(joins(6, 7), link(6, 7, 3, 2, 1), leave(6))},
		"a link of two such":   {append(joins(0, 11), link(11, 0, 50, 50, 50), leave(11), leave(0)), append(joins(0, 11), link(0, 11, 50, 50, 50), leave(0), leave(11))},
		"a link of no worth":   {append(joins(0, 1), link(0, 1, 0, 0, 0)), append(joins(0, 1), link(0, 1, 0, 0, 0))},
		"links by their Keys":  {append(joins(1, 2, 10, 11), link(10, 11, 1, 0, 0), link(2, 11, 2, 0, 0), link(11, 1, 3, 0, 0), link(10, 2, 4, 0, 0), link(2, 1, 5, 0, 0)), append(joins(1, 2, 10, 11), link(1, 2, 5, 0, 0), link(1, 11, 3, 0, 0), link(2, 10, 4, 0, 0), link(2, 11, 2, 0, 0), link(10, 11, 1, 0, 0))},
		"joined behind a link": {append(joins(5, 4), link(4, 5, 1, 2, 3), leave(5), join(3), link(3, 4, 4, 5, 6), leave(4)), append(joins(3, 4, 5), link(3, 4, 4, 5, 6), link(4, 5, 1, 2, 3), leave(4), leave(5))},
		"what changed nothing": {[]impl.Ask{show(), join(3), show()}, joins(3)},
	} {
		m := run(t, nil, c.asks...)
		if got, ok := impl.AsksFor(m); !ok || !slices.Equal(got, c.want) {
			t.Errorf("%s: AsksFor(%q) = %+v, %v, not %+v", what, m, got, ok, c.want)
		}
		isAskedFor(t, what, m)
	}
}

// TestAsksOfTheGreatestStates has more ids than a pool: each linked with each, it takes 12 joins and 66 links, and each may leave.
func TestAsksOfTheGreatestStates(t *testing.T) {
	m := statesToCopy(t)["all ids, all links, all left"]
	asks, ok := impl.AsksFor(m)
	if !ok || len(asks) != 90 || asks[0] != join(0) || asks[12] != link(0, 1, 50, 0, 1) || asks[77] != link(10, 11, 50, 0, 1) || asks[78] != leave(0) || asks[89] != leave(11) {
		t.Errorf("of the greatest state the asks are %+v, %v", asks, ok)
	}
	isAskedFor(t, "the greatest state", m)
}

func TestNoAsksForStatesWithARound(t *testing.T) {
	for what, m := range map[string][]impl.Pair{
		"a round of nobody":         run(t, nil, clearAll()),
		"a round of one":            run(t, nil, join(3), clearAll()),
		"a round of a couple":       run(t, nil, append(joins(3, 4), link(3, 4, 1, 1, 1), clearAll())...),
		"a round, and nobody any":   run(t, nil, join(3), clearAll(), leave(3)),
		"three rounds":              threeRounds(t),
		"MaxRounds":                 bulkyHall(12, 54, 6).pairs(),
		"a round that nobody asked": ringHall("a", "a", "a", "a", "a"),
	} {
		mustTell(t, what, m)
		isNotAskedFor(t, what, m)
	}
}

// copyAll tells all that chapter 19 tells of a map and of asks, as one text.
func copyAll(m []impl.Pair, asks []impl.Ask) string {
	text, ok := impl.StateText(m)
	told, isTold := impl.AsksFor(m)
	back, isBack := impl.ReadState(text)
	made, codes := impl.Replay(asks)
	return fmt.Sprintf("%q", []any{text, ok, len(told), told, isTold, len(back), back, isBack, len(made), made, len(codes), codes})
}

func TestCopiesWriteIntoNoArgument(t *testing.T) {
	all := append(statesToAsk(t)["nine in the hall"], mapOf("spare", "zz")...)
	for what, plain := range statesToAsk(t) {
		asks, _ := impl.AsksFor(plain)
		asks = append(asks, clearAll(), join(11), leave(0))
		roomy, roomyAsks := append(slices.Clone(plain), all...), append(slices.Clone(asks), joins(10, 11)...)
		held, heldAsks := slices.Clone(roomy), slices.Clone(roomyAsks)
		if got, want := copyAll(roomy[:len(plain)], roomyAsks[:len(asks)]), copyAll(plain, asks); got != want {
			t.Errorf("%s: told apart by what stands behind the lists: %s, not %s", what, got, want)
		}
		if !slices.Equal(roomy, held) || !slices.Equal(roomyAsks, heldAsks) {
			t.Errorf("%s: arguments are left as %q, %+v", what, roomy, roomyAsks)
		}
	}
	s, sectors, pairs := roomyStore(t)
	_, heldSectors, heldPairs := roomyStore(t)
	for _, text := range append(textsOfStates(t), "", "no text", sealedByHand(stateByHand(mapOf("1", "a")))) {
		impl.CopyTo(s, text)
	}
	if !slices.Equal(sectors, heldSectors) || !slices.Equal(pairs, heldPairs) || s.Device.Pending[:1][0] != (impl.Put{At: 9, Text: "spare"}) {
		t.Errorf("of a store is left %q, %q, %+v", sectors, pairs, s.Device.Pending[:1])
	}
}

// TestCopiesShareNothing turns what was handed in, and then what was handed back.
func TestCopiesShareNothing(t *testing.T) {
	for what, m := range statesToCopy(t) {
		given := slices.Clone(m)
		text, _ := impl.StateText(given)
		sharesNoText(t, what, text, textsOfMap(given))
		back, _ := impl.ReadState(text)
		texts := textsOfMap(back)
		for i, piece := range texts {
			sharesNoText(t, what+", read", piece, append(textsOfMap(given), text))
			sharesNoText(t, what+", within the answer", piece, texts[:i])
		}
		asks, _ := impl.AsksFor(given)
		heldText, heldAsks := strings.Clone(text), slices.Clone(asks)
		for i := range given {
			given[i] = impl.Pair{Key: "turned"}
		}
		turnAll(impl.Store{Map: back})
		if text != heldText || !slices.Equal(asks, heldAsks) {
			t.Errorf("%s: a change of the map is seen in %q, %+v", what, text, asks)
		}
		readsStateAs(t, what+", the answer turned", text, m)
		for i := range asks[:cap(asks)] {
			asks[:cap(asks)][i] = impl.Ask{Op: -77}
		}
		isAskedFor(t, what+", the asks turned", m)
	}
}

func TestStoresOfCopiesShareNothing(t *testing.T) {
	text := mustTell(t, "three rounds", threeRounds(t))
	s := storeOf(t, 150, mixedHall(t))
	got, _ := impl.CopyTo(s, text)
	for _, piece := range textsIn(got) {
		sharesNoText(t, "CopyTo", piece, append(textsIn(s), text))
	}
	held := impl.Store{Device: impl.Device{Sectors: slices.Clone(got.Device.Sectors)}, Map: slices.Clone(got.Map), Root: got.Root}
	turnAll(s)
	if !sameStore(got, held) {
		t.Error("a change of the store is seen in its copy")
	}
	turnAll(got)
	copiesAs(t, "the copy turned", storeOf(t, 150, mixedHall(t)), text, threeRounds(t))
}

func TestReplaysShareNothing(t *testing.T) {
	asks := append(joins(0, 1, 2), link(0, 1, 1, 1, 1), clearAll(), leave(2), join(2))
	given := slices.Clone(asks)
	m, codes := impl.Replay(given)
	held, heldCodes := slices.Clone(m), slices.Clone(codes)
	for i := range given {
		given[i] = join(9)
	}
	sameMap(t, "the asks turned", m, held)
	turnAll(impl.Store{Map: m})
	if !slices.Equal(codes, heldCodes) {
		t.Errorf("the codes %v became %v", heldCodes, codes)
	}
	for i := range codes[:cap(codes)] {
		codes[:cap(codes)][i] = -77
	}
	again, codesAgain := replaysAs(t, "once more", asks)
	sameMap(t, "once more", again, held)
	if !slices.Equal(codesAgain, heldCodes) {
		t.Errorf("once more the codes are %v, not %v", codesAgain, heldCodes)
	}
}

// States are copied to many sides at once: each is as if it were alone.
func TestCopiesAtOnce(t *testing.T) {
	m, asks := threeRounds(t), append(joins(3, 1, 7), link(3, 1, 2, 0, 0), clearAll())
	s := mustFormat(t, 150)
	want, wantStore := copyAll(m, asks), copiesAs(t, "alone", s, mustTell(t, "alone", m), m)
	done := make(chan bool)
	for range 8 {
		go func() {
			isWell := true
			for range 20 {
				text, _ := impl.StateText(m)
				next, ok := impl.CopyTo(s, text)
				isWell = isWell && ok && sameStore(next, wantStore) && copyAll(m, asks) == want
			}
			done <- isWell
		}()
	}
	for range 8 {
		if !<-done {
			t.Error("a copy beside others is another one")
		}
	}
}
