package tests

import (
	"fmt"
	"math"
	"slices"
	"strings"
	"testing"

	"loop.example/g00105/impl"
)

func mustAsk(t *testing.T, x impl.Ask) string {
	t.Helper()
	text, ok := impl.AskText(x)
	if !ok {
		t.Fatalf("AskText(%+v) is false", x)
	}
	return text
}

func refusesAsk(t *testing.T, what string, x impl.Ask) {
	t.Helper()
	if text, ok := impl.AskText(x); ok || text != "" {
		t.Errorf("%s: AskText(%+v) = %q, %v", what, x, text, ok)
	}
}

// plainAsk reads an ask a second way.
func plainAsk(text string) (impl.Ask, bool) {
	if text == "" {
		return impl.Ask{}, false
	}
	numbers, ok := numbersIn(text[1:])
	many, isOp := map[byte]int{1: 1, 2: 5, 3: 1, 4: 0, 5: 1, 6: 0}[text[0]]
	if !ok || !isOp || len(numbers) != many {
		return impl.Ask{}, false
	}
	n := append(numbers, 0, 0, 0, 0, 0)
	return impl.Ask{Op: int(text[0]), A: n[0], B: n[1], W1: n[2], W2: n[3], W3: n[4]}, true
}

// readsAskAsPlain holds ReadAsk, and AskText of what it tells, against the second way; it answers whether the text is an ask.
func readsAskAsPlain(t *testing.T, what, text string) bool {
	t.Helper()
	want, isRight := plainAsk(text)
	x, ok := impl.ReadAsk(text)
	if ok != isRight || x != want {
		t.Fatalf("%s: ReadAsk(%q) = %+v, %v, not %+v, %v", what, text, x, ok, want, isRight)
	}
	if again, right := impl.AskText(x); ok && (!right || again != text) {
		t.Fatalf("%s: AskText(%+v) = %q, %v, not %q", what, x, again, right, text)
	}
	return ok
}

func refusesToReadAsk(t *testing.T, what, text string) {
	t.Helper()
	if x, ok := impl.ReadAsk(text); ok || x != (impl.Ask{}) {
		t.Errorf("%s: ReadAsk(%q) = %+v, %v", what, text, x, ok)
	}
}

// comesBackAsked wants an ask to have just these bytes, and to come back from them.
func comesBackAsked(t *testing.T, x impl.Ask, want string) {
	t.Helper()
	if text := mustAsk(t, x); text != want {
		t.Errorf("AskText(%+v) = %q, not %q", x, text, want)
	}
	if back, ok := impl.ReadAsk(want); !ok || back != x {
		t.Errorf("ReadAsk(%q) = %+v, %v, not %+v", want, back, ok, x)
	}
}

func TestAsksByTheBytes(t *testing.T) {
	most := "\x80\x94\xeb\xdc\x03" // MaxNumber
	for _, c := range []struct {
		x    impl.Ask
		text string
	}{
		{join(0), "\x01\x00"},
		{join(5), "\x01\x05"},
		{join(127), "\x01\x7f"},
		{join(128), "\x01\x80\x01"},
		{join(impl.MaxNumber), "\x01" + most},
		{link(0, 0, 0, 0, 0), "\x02\x00\x00\x00\x00\x00"},
		{link(1, 2, 3, 4, 300), "\x02\x01\x02\x03\x04\xac\x02"},
		{link(11, 0, 50, 0, 50), "\x02\x0b\x00\x32\x00\x32"},
		{link(impl.MaxNumber, 1, 16384, 2, 128), "\x02" + most + "\x01\x80\x80\x01\x02\x80\x01"},
		{link(impl.MaxNumber, impl.MaxNumber, impl.MaxNumber, impl.MaxNumber, impl.MaxNumber), "\x02" + most + most + most + most + most},
		{leave(0), "\x03\x00"},
		{leave(11), "\x03\x0b"},
		{leave(impl.MaxNumber), "\x03" + most},
		{clearAll(), "\x04"},
		{audit(0), "\x05\x00"},
		{audit(5), "\x05\x05"},
		{audit(impl.MaxNumber), "\x05" + most},
		{show(), "\x06"},
	} {
		comesBackAsked(t, c.x, c.text)
	}
}

func placesOf(x *impl.Ask) []*int {
	return []*int{&x.A, &x.B, &x.W1, &x.W2, &x.W3}
}

// toldOf has how many of its places an ask of each Op tells.
func toldOf() map[int]int {
	return map[int]int{impl.OpJoin: 1, impl.OpLink: 5, impl.OpLeave: 1, impl.OpClear: 0, impl.OpAudit: 1, impl.OpShow: 0}
}

// TestNumbersOfAsks has each place that is told hold 0, MaxNumber, and the numbers at which a VarText gets longer.
func TestNumbersOfAsks(t *testing.T) {
	numbers := append(edgeNumbers(), 268435455, 268435456, impl.MaxNumber-1, impl.MaxNumber)
	for op, told := range toldOf() {
		for place := range told {
			for _, n := range numbers {
				for _, others := range []int{0, 7, impl.MaxNumber} {
					x := impl.Ask{Op: op}
					want := []int{op}
					for i, p := range placesOf(&x)[:told] {
						*p = others
						if i == place {
							*p = n
						}
						want = append(want, *p)
					}
					comesBackAsked(t, x, varsOf(want...))
				}
			}
		}
	}
}

func TestAsksOfWrongOps(t *testing.T) {
	for _, op := range []int{0, 7, 8, -1, -2, 255, 256, 257, 258, 262, -250, -255, math.MinInt, math.MinInt + 1, math.MaxInt} {
		refusesAsk(t, "an Op that is none", impl.Ask{Op: op})
		refusesAsk(t, "an Op that is none", impl.Ask{Op: op, A: 1})
		refusesAsk(t, "an Op that is none", impl.Ask{Op: op, A: 1, B: 2, W1: 3, W2: 4, W3: 5})
	}
}

// TestAsksOfWrongNumbers has each place of each Op hold numbers that have no VarText, and each place that is not told hold any but 0.
func TestAsksOfWrongNumbers(t *testing.T) {
	for op, told := range toldOf() {
		for place := range 5 {
			for _, n := range []int{-1, -2, -128, impl.MaxNumber + 1, impl.MaxNumber + 2, 1 << 32, math.MinInt, math.MaxInt} {
				x := impl.Ask{Op: op}
				*placesOf(&x)[place] = n
				refusesAsk(t, "a number that is none", x)
			}
			for _, n := range []int{1, 2, 127, 128, impl.MaxNumber} {
				x := impl.Ask{Op: op}
				*placesOf(&x)[place] = n
				if place < told {
					mustAsk(t, x)
				} else {
					refusesAsk(t, "a number that is not told", x)
				}
			}
		}
	}
}

// someAsks has right asks of each Op, with numbers of one byte and of several.
func someAsks() []impl.Ask {
	out := []impl.Ask{clearAll(), show(), link(1, 2, 3, 4, 300), link(0, 0, 0, 0, 0), link(300, 11, 70000, 1, 0), link(impl.MaxNumber, 128, 127, impl.MaxNumber, impl.MaxNumber)}
	for _, n := range []int{0, 1, 11, 12, 127, 128, 16384, impl.MaxNumber} {
		out = append(out, join(n), leave(n), audit(n))
	}
	return out
}

// textsOfNoAsk has texts that differ from those of right asks so that they are none.
func textsOfNoAsk(t *testing.T) map[string]string {
	t.Helper()
	out := map[string]string{"": "the empty text"}
	for _, x := range someAsks() {
		text := mustAsk(t, x)
		for size := range text {
			if size > 0 {
				out[text[:size]] = "cut off"
			}
		}
		for _, b := range []string{"\x00", "\x01", "\x80", "\xff", "\x06", text} {
			out[text+b] = "a byte behind its end"
		}
		for _, op := range []string{"\x00", "\x07", "\x08", "\x80", "\x81", "\x86", "\xff", "1", "4"} {
			out[op+text[1:]] = "an Op that is none"
		}
		numbers, _ := numbersIn(text[1:])
		for at, n := range numbers {
			for _, form := range longerForms(n) {
				out[text[:1]+withForm(numbers, at, form)] = "a longer form"
			}
			for _, great := range []int{impl.MaxNumber + 1, 1 << 32, math.MaxInt} {
				out[text[:1]+withForm(numbers, at, varsOf(great))] = "a number beyond MaxNumber"
			}
			out[text[:1]+withForm(numbers, at, strings.Repeat("\x80", 20)+"\x01")] = "a number without end"
		}
	}
	out["\x06"+strings.Repeat("\x00", 1000000)] = "very much behind its end"
	out["\x01"+strings.Repeat("\x80", 1000000)] = "very long"
	return out
}

func TestTextsThatAreNoAsk(t *testing.T) {
	for text, what := range textsOfNoAsk(t) {
		refusesToReadAsk(t, what, text)
	}
}

// TestShortTextsAsAsks has all texts of up to two bytes, and those of three that begin as asks do.
func TestShortTextsAsAsks(t *testing.T) {
	right := 0
	tell := func(text ...int) {
		if readsAskAsPlain(t, "a short text", textOfBytes(text...)) {
			right++
		}
	}
	tell()
	for a := range 256 {
		tell(a)
		for b := range 256 {
			tell(a, b)
			for c := range 256 {
				if a <= 7 && (b < 3 || b > 126 && b < 131 || b == 255) {
					tell(a, b, c)
				}
			}
		}
	}
	// Two without numbers, three with one of one byte, and three with one of two, for each of four first bytes of it (128, 129, 130, 255).
	if want := 2 + 3*128 + 3*4*127; right != want {
		t.Errorf("%d of the texts are asks, not %d", right, want)
	}
}

func TestTurnedAsks(t *testing.T) {
	right, wrong := 0, 0
	for _, x := range someAsks() {
		for _, text := range turnsOfBytes(mustAsk(t, x)) {
			if readsAskAsPlain(t, "turned", text) {
				right++
			} else {
				wrong++
			}
		}
	}
	if right < 100 || wrong < 100 {
		t.Errorf("%d turned asks were right, %d not", right, wrong)
	}
}

// reply is what the second way answers to an ask of a right hall that is well.
func (h *plainHall) reply(x impl.Ask) string {
	switch {
	case x.Op == impl.OpClear:
		return fmt.Sprintf("ok %d", len(h.rounds)-1)
	case x.Op == impl.OpAudit && x.A >= 0 && x.A < len(h.rounds):
		pool := strings.Trim(strings.ReplaceAll(fmt.Sprint(h.rounds[x.A].pool), " ", ","), "[]")
		return fmt.Sprintf("ok %s %x", pool, h.rounds[x.A].text)
	case x.Op == impl.OpShow:
		told := "ok"
		for _, id := range h.ids() {
			told += fmt.Sprintf(" %d%s", id, h.became[id])
		}
		return told
	}
	return "ok"
}

func repliesAs(t *testing.T, what string, m []impl.Pair, x impl.Ask, code int, want string) {
	t.Helper()
	if told := impl.Reply(m, x, code); told != want {
		t.Errorf("%s: Reply(%q, %+v, %d) = %q, not %q", what, m, x, code, told, want)
	}
}

func TestRepliesByHand(t *testing.T) {
	empty := run(t, nil, clearAll())
	one := run(t, nil, join(10), clearAll())
	two := run(t, nil, join(3), join(1), link(3, 1, 2, 0, 0), clearAll())
	nine := run(t, nil, append(joins(3, 4, 5, 6, 7, 8, 9, 10, 11), clearAll())...)
	all := run(t, nil, joins(allPlaces(12)...)...)
	for _, c := range []struct {
		m    []impl.Pair
		x    impl.Ask
		want string
	}{
		{nil, show(), "ok"},
		{nil, audit(0), "ok"},
		{nil, join(0), "ok"},
		{empty, clearAll(), "ok 0"},
		{empty, audit(0), "ok  00000000"},
		{empty, audit(1), "ok"},
		{empty, show(), "ok"},
		{one, clearAll(), "ok 0"},
		{one, audit(0), "ok 10 0100000000"},
		{one, show(), "ok 10a"},
		{two, clearAll(), "ok 0"},
		{two, audit(0), "ok 1,3 02010001020000010001a0fe0aa0fe0a00"},
		{two, audit(1), "ok"},
		{two, audit(-1), "ok"},
		{two, show(), "ok 1p0 3p0"},
		{two, link(1, 3, 2, 0, 0), "ok"},
		{two, leave(1), "ok"},
		{run(t, two, join(9), join(10), leave(9), clearAll()), show(), "ok 1p0 3p0 9l 10a"},
		{run(t, two, join(9), join(10), leave(9), clearAll()), clearAll(), "ok 1"},
		{run(t, two, join(9), join(10), link(9, 10, 0, 0, 0), clearAll()), audit(1), "ok 9,10 0201" + "0001000000" + "010001" + "0000" + "00"},
		{nine, audit(0), "ok 3,4,5,6,7,8,9,10,11 09" + strings.Repeat("00", 12)},
		{all, show(), "ok 0a 1a 2a 3a 4a 5a 6a 7a 8a 9a 10a 11a"},
		{run(t, nine, clearAll(), clearAll(), clearAll(), clearAll(), clearAll()), clearAll(), "ok 5"},
	} {
		repliesAs(t, "by hand", c.m, c.x, 0, c.want)
	}
	// The words leave open what an OpClear is told whose state has no round, which Step never answers: the last one of none is -1.
	repliesAs(t, "no round", nil, clearAll(), 0, "ok -1")
}

// asksToReply has asks of all Ops and of others, with numbers that count for nothing, and rounds that are none.
func asksToReply() []impl.Ask {
	out := asksOfAll()
	for n := -1; n <= impl.MaxRounds; n++ {
		out = append(out, audit(n))
	}
	for _, n := range []int{-1, 1, impl.MaxNumber + 1, math.MinInt, math.MaxInt} {
		out = append(out, audit(n), impl.Ask{Op: impl.OpAudit, A: 0, B: n, W1: n, W2: n, W3: n})
		out = append(out, impl.Ask{Op: impl.OpShow, A: n, B: n, W1: n, W2: n, W3: n}, impl.Ask{Op: impl.OpClear, A: n, B: n})
		out = append(out, impl.Ask{Op: n * 7}, impl.Ask{Op: 0, A: n}, join(n), link(n, n, n, n, n), leave(n))
	}
	return out
}

func TestRepliesOfEachState(t *testing.T) {
	all := statesToAsk(t)
	for what, m := range map[string][]impl.Pair{
		"a ring":  withPair(withPair(threeRounds(t), "q03", "\x00\x02\x04\x06\x08"), "r0300", varsOf(numbersOfCert(ringCert())...)),
		"all ids": bulkyHall(12, 0, 1).with("l", 0, 10).with("p0", 1, 9, 11).pairs(), "MaxRounds": bulkyHall(11, 3, 6).with("p5", 0, 10).pairs(),
	} {
		all[what] = m
	}
	for what, m := range all {
		isRight := len(stateFaults(m)) == 0
		if isRight == strings.HasPrefix(what, "wrong") {
			t.Fatalf("%s: the faults are %q", what, stateFaults(m))
		}
		for _, x := range asksToReply() {
			want := "ok"
			if isRight {
				want = hallOf(m).reply(x)
			}
			repliesAs(t, what, m, x, 0, want)
		}
	}
}

func TestRepliesOfEachCode(t *testing.T) {
	for what, m := range statesToAsk(t) {
		for op := -1; op <= 8; op++ {
			for code := -2; code <= 12; code++ {
				if code != 0 {
					repliesAs(t, what, m, impl.Ask{Op: op}, code, fmt.Sprintf("fail %d", code))
				}
			}
			repliesAs(t, what, m, impl.Ask{Op: op, A: 11, B: -1}, math.MinInt, "fail -9223372036854775808")
			repliesAs(t, what, m, impl.Ask{Op: op, A: -1, W3: 51}, math.MaxInt, "fail 9223372036854775807")
		}
	}
}

// TestLongestReplies has the answers of states that are as full as can be: they are within MaxAnswer.
func TestLongestReplies(t *testing.T) {
	h := bulkyHall(12, 54, 6)
	m, longest := h.with("p5", allPlaces(12)...).pairs(), 0
	if !impl.StateOk(m) {
		t.Fatal("the state is not right")
	}
	for n := range impl.MaxRounds {
		repliesAs(t, "a full state", m, audit(n), 0, h.reply(audit(n)))
		longest = max(longest, len(impl.Reply(m, audit(n), 0)))
	}
	if want := len("ok 0,1,2,3,4,5,6,7,8 ") + 2*len(mustCert(t, fullCert())); longest != want || longest > impl.MaxAnswer {
		t.Errorf("the longest answer has %d bytes, not %d", longest, want)
	}
}

// handles wants an answer letter by letter, and a store that is opened as it is told.
func handles(t *testing.T, s impl.Store, x impl.Ask, want string) impl.Store {
	t.Helper()
	next, told := impl.Handle(s, mustAsk(t, x))
	if told != want {
		t.Errorf("%+v of %q is answered with %q, not %q", x, s.Map, told, want)
	}
	opensAs(t, fmt.Sprintf("behind %+v", x), next.Device, next)
	return next
}

// A spoken ask has what is answered to it, and by how much the Serial is greater then.
type spoken struct {
	x    impl.Ask
	want string
	more int
}

func handlesAll(t *testing.T, s impl.Store, asks []spoken) impl.Store {
	t.Helper()
	for _, c := range asks {
		next := handles(t, s, c.x, c.want)
		if next.Root.Serial != s.Root.Serial+c.more {
			t.Errorf("behind %+v the Serial is %d, and was %d", c.x, next.Root.Serial, s.Root.Serial)
		}
		if c.more == 0 && !sameStore(next, s) {
			t.Errorf("behind %+v, which changes nothing, the store is %+v, not %+v", c.x, next, s)
		}
		s = next
	}
	return s
}

// TestHallByHand handles asks one behind the other: the answer to each, letter by letter, the map behind them, and the Serial.
func TestHallByHand(t *testing.T) {
	s := handlesAll(t, mustFormat(t, 120), []spoken{
		{show(), "ok", 0}, {audit(0), "fail 3", 0}, {leave(3), "fail 3", 0},
		{join(3), "ok", 1}, {join(3), "fail 2", 0}, {join(12), "fail 3", 0}, {join(1), "ok", 1}, {show(), "ok 1a 3a", 0},
		{link(3, 1, 2, 0, 0), "ok", 1}, {link(3, 1, 2, 0, 0), "ok", 0}, {link(1, 3, 2, 0, 0), "ok", 0}, {link(1, 1, 2, 0, 0), "fail 4", 0}, {link(3, 1, 2, 0, 51), "fail 5", 0},
		{clearAll(), "ok 0", 1}, {show(), "ok 1p0 3p0", 0}, {audit(0), "ok 1,3 02010001020000010001a0fe0aa0fe0a00", 0}, {audit(1), "fail 3", 0},
		{leave(1), "fail 6", 0}, {link(1, 3, 2, 0, 0), "fail 6", 0},
		{join(10), "ok", 1}, {join(9), "ok", 1}, {leave(9), "ok", 1}, {show(), "ok 1p0 3p0 9l 10a", 0},
		{clearAll(), "ok 1", 1}, {audit(1), "ok 10 0100000000", 0},
		{leave(10), "ok", 1}, {clearAll(), "ok 2", 1}, {audit(2), "ok  00000000", 0}, {clearAll(), "ok 3", 1}, {clearAll(), "ok 4", 1}, {clearAll(), "ok 5", 1},
		{clearAll(), "fail 8", 0}, {audit(5), "ok  00000000", 0}, {audit(6), "fail 3", 0}, {audit(0), "ok 1,3 02010001020000010001a0fe0aa0fe0a00", 0},
	})
	sameMap(t, "behind all asks", s.Map, []impl.Pair{
		{Key: "e0103", Value: "\x02\x00\x00"}, {Key: "q00", Value: "\x01\x03"}, {Key: "q01", Value: "\x0a"}, {Key: "q02"}, {Key: "q03"}, {Key: "q04"}, {Key: "q05"},
		{Key: "r0000", Value: "\x02\x01\x00\x01\x02\x00\x00\x01\x00\x01\xa0\xfe\x0a\xa0\xfe\x0a\x00"}, {Key: "r0100", Value: "\x01\x00\x00\x00\x00"},
		{Key: "r0200", Value: "\x00\x00\x00\x00"}, {Key: "r0300", Value: "\x00\x00\x00\x00"}, {Key: "r0400", Value: "\x00\x00\x00\x00"}, {Key: "r0500", Value: "\x00\x00\x00\x00"},
		{Key: "v01", Value: "p0"}, {Key: "v03", Value: "p0"}, {Key: "v09", Value: "l"}, {Key: "v10", Value: "l"},
	})
	if s.Root.Serial != 13 {
		t.Errorf("the Serial is %d", s.Root.Serial)
	}
}

func TestPoolsOfMaxPoolAndMoreAreHandled(t *testing.T) {
	s := mustFormat(t, impl.MaxSectors)
	for id := range 9 {
		s = handles(t, s, join(id), "ok")
	}
	s = handlesAll(t, s, []spoken{
		{clearAll(), "ok 0", 1}, {audit(0), "ok 0,1,2,3,4,5,6,7,8 09" + strings.Repeat("00", 12), 0},
		{join(11), "ok", 1}, {clearAll(), "fail 7", 0}, {leave(0), "ok", 1},
		{clearAll(), "ok 1", 1}, {audit(1), "ok 1,2,3,4,5,6,7,8,11 09" + strings.Repeat("00", 12), 0},
		{link(11, 4, 0, 0, 1), "ok", 1}, {clearAll(), "ok 2", 1},
		{audit(2), "ok 1,2,3,4,5,6,7,8,11 0901" + "0308000001" + "010308" + strings.Repeat("00", 3) + "01" + strings.Repeat("00", 4) + "01" + "00", 0},
		{show(), "ok 0l 1a 2a 3a 4p2 5a 6a 7a 8a 11p2", 0},
	})
	if m := s.Map; len(m) != 1+3+3+10 {
		t.Errorf("the map is %q", m)
	}
}

// asked has the hall behind a text that is asked of it, and what is answered, as long as the map can be kept.
func (h *plainHall) asked(t *testing.T, text string) (*plainHall, string) {
	t.Helper()
	behind := h.clone()
	x, ok := plainAsk(text)
	if !ok {
		return behind, "fail 1"
	}
	if code := behind.step(t, x); code != 0 {
		return behind, fmt.Sprintf("fail %d", code)
	}
	return behind, behind.reply(x)
}

// handlesAs does an ask of a store and of the second way, which is then the hall behind it, and answers both results of Handle.
func handlesAs(t *testing.T, s impl.Store, h *plainHall, text string) (impl.Store, string) {
	t.Helper()
	behind, wantTold := h.asked(t, text)
	want := s
	if m := behind.pairs(); !slices.Equal(m, s.Map) {
		next, _, isKept := impl.CommitStore(s, m)
		if want = next; !isKept {
			behind, want, wantTold = h, s, "fail 9"
		}
	}
	*h = *behind
	got, told := impl.Handle(s, text)
	if told != wantTold {
		t.Fatalf("%q of %q is answered with %q, not %q", text, s.Map, told, wantTold)
	}
	if !sameStore(got, want) {
		t.Fatalf("behind %q the store is %+v, not %+v", text, got, want)
	}
	sameMap(t, fmt.Sprintf("behind %q", text), got.Map, h.pairs())
	return got, told
}

// askText draws the text of an ask, or now and then one that is none.
func (d *draws) askText() string {
	for {
		x := d.ask()
		// What is not told must be 0; numbers that can't be told are drawn anew.
		for _, p := range placesOf(&x)[toldOf()[x.Op]:] {
			*p = 0
		}
		text, ok := impl.AskText(x)
		if ok && d.below(30) == 0 {
			turns := turnsOfBytes(text)
			return turns[d.below(len(turns))]
		}
		if ok {
			return text
		}
	}
}

// TestDrawnHallsAreHandled holds each ask against the second way, on stores with room and on such as get full.
func TestDrawnHallsAreHandled(t *testing.T) {
	draw, seen := draws(14), map[string]int{}
	for round := range 300 {
		sectors := []int{impl.MaxSectors, 200, 60, 30, 12, 4}[round%6]
		s, h := mustFormat(t, sectors), newHall()
		for range 30 + draw.below(60) {
			serial := s.Root.Serial
			text := draw.askText()
			next, told := handlesAs(t, s, h, text)
			opensAs(t, "handled", next.Device, next)
			if isSame := slices.Equal(next.Map, s.Map); (next.Root.Serial == serial) != isSame || next.Root.Serial > serial+1 {
				t.Fatalf("behind %q the Serial is %d, and was %d", text, next.Root.Serial, serial)
			}
			if len(told) > impl.MaxAnswer {
				t.Fatalf("the answer to %q has %d bytes", text, len(told))
			}
			seen[kindOf(text, told)]++
			s = next
		}
	}
	for _, kind := range []string{
		"1 ok", "1 fail 2", "1 fail 3", "1 fail 9", "2 ok", "2 fail 3", "2 fail 4", "2 fail 5", "2 fail 6", "2 fail 9",
		"3 ok", "3 fail 3", "3 fail 6", "3 fail 9", "4 ok", "4 fail 7", "4 fail 8", "4 fail 9", "5 ok", "5 fail 3", "6 ok", "none fail 1",
	} {
		if seen[kind] == 0 {
			t.Errorf("nothing was answered as %q: %v", kind, seen)
		}
	}
}

// kindOf has the Op and what was answered, in short.
func kindOf(text, told string) string {
	op := "none"
	if x, ok := plainAsk(text); ok {
		op = impl.Decimal(x.Op)
	}
	if strings.HasPrefix(told, "ok") {
		told = "ok"
	}
	return op + " " + told
}

// storeOf has the map on so many sectors, of the Serial 1.
func storeOf(t *testing.T, sectors int, m []impl.Pair) impl.Store {
	t.Helper()
	return mustCommit(t, mustFormat(t, sectors), m).store
}

// leavesStore wants an answer, and the store to be as it was, its Serial, too.
func leavesStore(t *testing.T, what string, s impl.Store, text, want string) {
	t.Helper()
	next, told := impl.Handle(s, text)
	if told != want {
		t.Errorf("%s: %q of %q is answered with %q, not %q", what, text, s.Map, told, want)
	}
	if !sameStore(next, s) {
		t.Errorf("%s: behind %q the store is %+v, not %+v", what, text, next, s)
	}
}

// asksOfNoChange has, of the hall of threeRounds, asks that change nothing, and what is answered.
func asksOfNoChange(t *testing.T) map[impl.Ask]string {
	t.Helper()
	h := hallOf(threeRounds(t))
	return map[impl.Ask]string{
		show():   "ok 0p0 1p0 2p0 3p0 4p0 5p0 6p1 7p1 8a 9a 10l",
		audit(0): h.reply(audit(0)), audit(1): h.reply(audit(1)), audit(2): "ok  00000000",
		link(8, 9, 0, 50, 0): "ok", link(9, 8, 0, 50, 0): "ok",
		audit(3): "fail 3", audit(impl.MaxNumber): "fail 3", join(0): "fail 2", join(8): "fail 2", join(10): "fail 2", join(12): "fail 3", join(impl.MaxNumber): "fail 3",
		link(8, 11, 0, 0, 0): "fail 3", link(8, 8, 0, 0, 0): "fail 4", link(8, 9, 0, 51, 0): "fail 5", link(8, 0, 0, 0, 0): "fail 6", link(6, 7, 50, 50, 50): "fail 6",
		leave(11): "fail 3", leave(10): "fail 6", leave(0): "fail 6",
	}
}

func TestAsksThatChangeNothing(t *testing.T) {
	m := threeRounds(t)
	s := storeOf(t, 150, m)
	for x, want := range asksOfNoChange(t) {
		leavesStore(t, "it changes nothing", s, mustAsk(t, x), want)
	}
	// One worth more or less is another link.
	for _, x := range []impl.Ask{link(8, 9, 1, 50, 0), link(9, 8, 0, 49, 0), link(8, 9, 0, 50, 1)} {
		if next := handles(t, s, x, "ok"); next.Root.Serial != s.Root.Serial+1 {
			t.Errorf("behind %+v the Serial is %d", x, next.Root.Serial)
		}
	}
	full := storeOf(t, impl.MaxSectors, bulkyHall(11, 55, 6).pairs())
	leavesStore(t, "MaxPairs", full, mustAsk(t, join(11)), "fail 9")
	leavesStore(t, "MaxPairs", full, mustAsk(t, join(10)), "fail 2")
	handles(t, full, leave(10), "ok")
}

// writesOf has how many pages a commit writes.
func writesOf(t *testing.T, s impl.Store, m []impl.Pair) int {
	t.Helper()
	return len(mustCommit(t, s, m).steps[0].Pending)
}

// TestStoresThatAreJustLargeEnough has, for asks that change the map, stores that have just room for it, and such as have one sector less.
func TestStoresThatAreJustLargeEnough(t *testing.T) {
	small := run(t, nil, joins(3, 4, 5, 6, 7)...)
	for what, c := range map[string]struct {
		m    []impl.Pair
		x    impl.Ask
		want string
	}{
		"a sixth id":       {small, join(8), "ok"},
		"a link":           {small, link(4, 5, 1, 2, 3), "ok"},
		"other worths":     {run(t, small, link(4, 5, 1, 2, 3)), link(5, 4, 1, 2, 4), "ok"},
		"one that left":    {small, leave(4), "ok"},
		"a round":          {small, clearAll(), "ok 0"},
		"a fourth round":   {threeRounds(t), clearAll(), "ok 3"},
		"another one":      {threeRounds(t), join(11), "ok"},
		"nine in the hall": {run(t, nil, append(joins(allPlaces(9)...), linksOfAll(allPlaces(9), 1, 2, 3)...)...), clearAll(), "ok 0"},
		"a map of all":     {bulkyHall(12, 53, 6).pairs(), link(10, 11, 0, 0, 0), "ok"},
	} {
		wide := storeOf(t, impl.MaxSectors, c.m)
		behind := run(t, c.m, c.x)
		sectors := 2 + len(usedBy(t, wide)) + writesOf(t, wide, behind)
		if sectors < 6 {
			t.Fatalf("%s: %d sectors are too few to tell of", what, sectors)
		}
		just := handles(t, storeOf(t, sectors, c.m), c.x, c.want)
		sameMap(t, what, just.Map, behind)
		if just.Root.Serial != 2 {
			t.Errorf("%s: the Serial is %d", what, just.Root.Serial)
		}
		less := storeOf(t, sectors-1, c.m)
		leavesStore(t, what+", one sector less", less, mustAsk(t, c.x), "fail 9")
		leavesStore(t, what+", shown behind it", less, mustAsk(t, show()), hallOf(c.m).reply(show()))
		leavesStore(t, what+", no ask", less, "\x00", "fail 1")
		refusesToCommit(t, what, less, behind)
		opensAs(t, what+", behind a refused ask", less.Device, less)
	}
}

// TestAsksOfTheLeastStores has a store with room for two pages: the Key v01 ends one, so that with a greater Key there are two and the one above them.
func TestAsksOfTheLeastStores(t *testing.T) {
	s := handlesAll(t, mustFormat(t, 4), []spoken{
		{join(1), "ok", 1}, {leave(1), "ok", 1}, {show(), "ok 1l", 0},
		{join(2), "fail 9", 0}, {show(), "ok 1l", 0}, {join(1), "fail 2", 0},
		{join(0), "ok", 1}, {join(11), "fail 9", 0}, {clearAll(), "ok 0", 1}, {show(), "ok 0a 1l", 0}, {audit(0), "ok 0 0100000000", 0},
	})
	sameMap(t, "the least store", s.Map, []impl.Pair{{Key: "q00", Value: "\x00"}, {Key: "r0000", Value: "\x01\x00\x00\x00\x00"}, {Key: "v00", Value: "a"}, {Key: "v01", Value: "l"}})
}

// TestStoresWithoutASerialBehind has stores that no map can be committed to any more: what changes nothing is still answered.
func TestStoresWithoutASerialBehind(t *testing.T) {
	m := threeRounds(t)
	for at := range 2 {
		s := withRoot(t, storeOf(t, 150, m), at, impl.MaxNumber)
		for x, want := range asksOfNoChange(t) {
			leavesStore(t, "the last Serial", s, mustAsk(t, x), want)
		}
		for _, x := range []impl.Ask{join(11), link(8, 9, 1, 50, 0), leave(8), clearAll()} {
			leavesStore(t, "the last Serial", s, mustAsk(t, x), "fail 9")
		}
		last := withRoot(t, storeOf(t, 150, m), at, impl.MaxNumber-1)
		if next := handles(t, last, clearAll(), "ok 3"); next.Root.Serial != impl.MaxNumber {
			t.Errorf("the Serial is %d", next.Root.Serial)
		}
	}
}

// storesOfAnotherMap has stores whose Device does not tell just them, each with the map of threeRounds.
func storesOfAnotherMap(t *testing.T) map[string]impl.Store {
	t.Helper()
	m := threeRounds(t)
	s := storeOf(t, 150, m)
	out := map[string]impl.Store{
		"no Device":                {Map: m},
		"a new Device":             {Device: newDevice(t, 150), Map: m, Root: s.Root},
		"a Device of no map":       {Device: mustFormat(t, 150).Device, Map: m, Root: s.Root},
		"another Serial":           {Device: s.Device, Map: m, Root: impl.Root{Serial: 2, Tree: s.Root.Tree}},
		"another Tree":             {Device: s.Device, Map: m, Root: impl.Root{Serial: 1, Tree: -1}},
		"a Root that is none":      {Device: s.Device, Map: m, Root: impl.Root{Serial: -1, Tree: impl.MaxSectors}},
		"a write that is pending":  {Device: mustWrite(t, s.Device, 149, "x"), Map: m, Root: s.Root},
		"a page gone":              {Device: turnedAt(s.Device, s.Root.Tree, ""), Map: m, Root: s.Root},
		"another map on its pages": {Device: storeOf(t, 150, mixedHall(t)).Device, Map: m, Root: s.Root},
	}
	for what, d := range wrongDevices() {
		out["a wrong Device: "+what] = impl.Store{Device: d, Map: m, Root: s.Root}
	}
	return out
}

// TestStoresThatAreNotOpenedSo has what changes nothing answered out of the map, whatever the Device; what would change it is refused.
func TestStoresThatAreNotOpenedSo(t *testing.T) {
	for what, s := range storesOfAnotherMap(t) {
		for x, want := range asksOfNoChange(t) {
			leavesStore(t, what, s, mustAsk(t, x), want)
		}
		for _, x := range []impl.Ask{join(11), link(8, 9, 1, 50, 0), leave(8), clearAll()} {
			leavesStore(t, what, s, mustAsk(t, x), "fail 9")
		}
	}
	leavesStore(t, "the zero value", impl.Store{}, "\x06", "ok")
	leavesStore(t, "the zero value", impl.Store{}, "\x01\x00", "fail 9")
	leavesStore(t, "the zero value", impl.Store{}, "\x04", "fail 9")
	leavesStore(t, "the zero value", impl.Store{}, "", "fail 1")
}

// TestStoresOfNoState has maps that are on their devices, but are no states, or no right maps: every ask is of the wrong form.
func TestStoresOfNoState(t *testing.T) {
	d := mustFormat(t, impl.MaxSectors).Device
	for what, c := range wrongStates(t) {
		s := impl.Store{Device: d, Map: c.m}
		if impl.MapOk(c.m) {
			s = storeOf(t, impl.MaxSectors, c.m)
		}
		for _, x := range []impl.Ask{show(), clearAll(), audit(0), join(11), join(12), link(8, 9, 0, 50, 0), leave(8)} {
			leavesStore(t, what, s, mustAsk(t, x), "fail 1")
		}
	}
	for what, m := range wrongMaps() {
		leavesStore(t, what, impl.Store{Device: d, Map: m}, "\x06", "fail 1")
		leavesStore(t, what, impl.Store{Device: d, Map: m}, "\x01\x00", "fail 1")
	}
}

func TestTextsThatAreNoAskAreHandled(t *testing.T) {
	stores := map[string]impl.Store{
		"the zero value": {}, "a new store": mustFormat(t, 4), "a hall": storeOf(t, 150, threeRounds(t)), "no state": storeOf(t, 9, mapOf("1", "a")),
		"a Device alone": {Device: newDevice(t, 3)}, "a Map alone": {Map: mapOf("1", "b", "a")},
	}
	for text, what := range textsOfNoAsk(t) {
		for store, s := range stores {
			leavesStore(t, what+", "+store, s, text, "fail 1")
		}
	}
}

// textsToHandle has asks of each kind, of the hall of threeRounds, and texts that are none.
func textsToHandle(t *testing.T) []string {
	t.Helper()
	out := []string{"", "\x06\x00", "\x01\x80\x00", mustAsk(t, clearAll()), mustAsk(t, join(11)), mustAsk(t, link(8, 9, 1, 1, 1)), mustAsk(t, leave(8))}
	for x := range asksOfNoChange(t) {
		out = append(out, mustAsk(t, x))
	}
	return out
}

// storesToHandle has stores with room, without, and such as are not right.
func storesToHandle(t *testing.T) map[string]impl.Store {
	t.Helper()
	m := threeRounds(t)
	pages := len(usedBy(t, storeOf(t, 150, m)))
	return map[string]impl.Store{
		"room": storeOf(t, 150, m), "no room": storeOf(t, 2+pages, m), "no Device": {Map: m}, "no state": storeOf(t, 9, mapOf("1", "a")),
		"a write that is pending": {Device: mustWrite(t, storeOf(t, 150, m).Device, 149, "x"), Map: m, Root: impl.Root{Serial: 1}},
		"a new store":             mustFormat(t, 9),
	}
}

func TestServicesWriteIntoNoArgument(t *testing.T) {
	for what, plain := range storesToHandle(t) {
		sectors := append(slices.Clone(plain.Device.Sectors), "spare", "spare")
		pending := append(slices.Clone(plain.Device.Pending), impl.Put{At: 1, Text: "spare"})
		pairs := append(slices.Clone(plain.Map), mapOf("a", "v11", "v12", "zz")...)
		heldSectors, heldPending, heldPairs := slices.Clone(sectors), slices.Clone(pending), slices.Clone(pairs)
		d := impl.Device{Sectors: sectors[:len(sectors)-2], Pending: pending[:len(pending)-1]}
		s := impl.Store{Device: d, Map: pairs[:len(plain.Map)], Root: plain.Root}
		for _, text := range textsToHandle(t) {
			got, told := impl.Handle(s, text)
			want, wantTold := impl.Handle(plain, text)
			if told != wantTold || !sameStore(got, want) {
				t.Errorf("%s: %q is told apart by what stands behind the lists", what, text)
			}
			x, _ := impl.ReadAsk(text)
			impl.Reply(s.Map, x, 0)
		}
		if !slices.Equal(sectors, heldSectors) || !slices.Equal(pending, heldPending) || !slices.Equal(pairs, heldPairs) {
			t.Errorf("%s: arguments are left as %q, %+v, %q", what, sectors, pending, pairs)
		}
	}
}

// TestServicesShareNothing turns all that was handed in, and then what was handed back.
func TestServicesShareNothing(t *testing.T) {
	for what, s := range storesToHandle(t) {
		for _, text := range textsToHandle(t) {
			given := impl.Store{Device: impl.Device{Sectors: slices.Clone(s.Device.Sectors), Pending: slices.Clone(s.Device.Pending)}, Map: slices.Clone(s.Map), Root: s.Root}
			got, told := impl.Handle(given, text)
			all := append(textsIn(got), told)
			for _, piece := range all {
				sharesNoText(t, what, piece, append(textsIn(given), text))
			}
			held, heldTold := impl.Handle(s, text)
			turnAll(given)
			if told != heldTold || !sameStore(got, held) {
				t.Errorf("%s: a change of the argument is seen behind %q", what, text)
			}
			turnAll(got)
			if again, _ := impl.Handle(s, text); !sameStore(again, held) {
				t.Errorf("%s: a change of the answer is seen when %q is asked again", what, text)
			}
		}
	}
}

func TestRepliesShareNothing(t *testing.T) {
	for what, m := range statesToAsk(t) {
		given := textsOfMap(m)
		for _, x := range asksToReply() {
			sharesNoText(t, what, impl.Reply(m, x, 0), given)
		}
	}
}

func TestSameAsksSameAnswers(t *testing.T) {
	for what, s := range storesToHandle(t) {
		for _, text := range textsToHandle(t) {
			first, told := impl.Handle(s, text)
			for range 3 {
				if again, toldAgain := impl.Handle(s, text); toldAgain != told || !sameStore(again, first) {
					t.Errorf("%s: %q is answered with %q, and then with %q", what, text, told, toldAgain)
				}
			}
		}
	}
}

// Asks are handled from many sides at once: each is answered as if it were alone.
func TestAsksAtOnce(t *testing.T) {
	s, text := storeOf(t, 150, threeRounds(t)), mustAsk(t, clearAll())
	want, wantTold := impl.Handle(s, text)
	done := make(chan bool)
	for range 8 {
		go func() {
			isWell := true
			for range 10 {
				got, told := impl.Handle(s, text)
				isWell = isWell && told == wantTold && sameStore(got, want)
			}
			done <- isWell
		}()
	}
	for range 8 {
		if !<-done {
			t.Error("an ask beside others is answered otherwise")
		}
	}
}
