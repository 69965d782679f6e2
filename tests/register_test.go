package tests

import (
	"fmt"
	"maps"
	"math"
	"slices"
	"strings"
	"testing"

	"loop.example/g00105/impl"
)

func join(a int) impl.Ask {
	return impl.Ask{Op: impl.OpJoin, A: a}
}

func link(a, b, w1, w2, w3 int) impl.Ask {
	return impl.Ask{Op: impl.OpLink, A: a, B: b, W1: w1, W2: w2, W3: w3}
}

func leave(a int) impl.Ask {
	return impl.Ask{Op: impl.OpLeave, A: a}
}

func clearAll() impl.Ask {
	return impl.Ask{Op: impl.OpClear}
}

func audit(round int) impl.Ask {
	return impl.Ask{Op: impl.OpAudit, A: round}
}

func show() impl.Ask {
	return impl.Ask{Op: impl.OpShow}
}

func joins(ids ...int) []impl.Ask {
	var out []impl.Ask
	for _, id := range ids {
		out = append(out, join(id))
	}
	return out
}

// linksOfAll links each two of the ids with these worths.
func linksOfAll(ids []int, w1, w2, w3 int) []impl.Ask {
	var out []impl.Ask
	for i, a := range ids {
		for _, b := range ids[:i] {
			out = append(out, link(a, b, w1, w2, w3))
		}
	}
	return out
}

// sameMap tells at which pair two maps differ.
func sameMap(t *testing.T, what string, got, want []impl.Pair) {
	t.Helper()
	for i := range max(len(got), len(want)) {
		if i >= len(got) || i >= len(want) || got[i] != want[i] {
			t.Fatalf("%s: from the pair %d on the map is %q, not %q", what, i, got[min(i, len(got)):], want[min(i, len(want)):])
		}
	}
}

// isRoundAs wants the pool and the certificate of a round as they were put down, the certificate certified and its pairing best.
func isRoundAs(t *testing.T, what string, m []impl.Pair, n int, want plainRound) {
	t.Helper()
	pool, x, ok := impl.RoundOf(m, n)
	if !ok || !slices.Equal(pool, want.pool) || varsOf(numbersOfCert(x)...) != want.text {
		t.Fatalf("%s: RoundOf(%q, %d) = %v, %+v, %v, not %v, %q", what, m, n, pool, x, ok, want.pool, want.text)
	}
	if !isCertified(x) || x.Graph.Size != len(pool) || mustSum(t, x.Graph, x.Pairs) != mustBest(t, x.Graph) {
		t.Fatalf("%s: the certificate of the round %d is %+v", what, n, x)
	}
}

// tellsAs wants of a map all that the second way tells of it.
func tellsAs(t *testing.T, what string, m []impl.Pair, h *plainHall) {
	t.Helper()
	sameMap(t, what, m, h.pairs())
	if !impl.StateOk(m) {
		t.Fatalf("%s: StateOk(%q) is false", what, m)
	}
	if got := impl.Ids(m); !slices.Equal(got, h.ids()) {
		t.Fatalf("%s: Ids(%q) = %v", what, m, got)
	}
	if got := impl.Active(m); !slices.Equal(got, h.here()) {
		t.Fatalf("%s: Active(%q) = %v", what, m, got)
	}
	here := h.here()
	want, isRight := h.graph(here), len(here) <= 9
	if !isRight {
		here, want = nil, impl.Graph{}
	}
	if pool, g, ok := impl.PoolOf(m); ok != isRight || !slices.Equal(pool, here) || !sameGraph(g, want) {
		t.Fatalf("%s: PoolOf(%q) = %v, %+v, %v", what, m, pool, g, ok)
	}
	for n, round := range h.rounds {
		isRoundAs(t, what, m, n, round)
	}
	for _, n := range []int{-1, len(h.rounds), len(h.rounds) + 1, impl.MaxRounds, math.MinInt, math.MaxInt} {
		hasNoRound(t, what, m, n)
	}
}

func hasNoRound(t *testing.T, what string, m []impl.Pair, n int) {
	t.Helper()
	if pool, x, ok := impl.RoundOf(m, n); ok || len(pool) != 0 || !isZeroCert(x) {
		t.Fatalf("%s: RoundOf(%q, %d) = %v, %+v, %v", what, m, n, pool, x, ok)
	}
}

// goesAs does an ask of a map and of the second way, which is then the hall behind it, and answers both results of Step.
func goesAs(t *testing.T, m []impl.Pair, h *plainHall, x impl.Ask) ([]impl.Pair, int) {
	t.Helper()
	got, code := impl.Step(m, x)
	what := fmt.Sprintf("%+v", x)
	if want := h.step(t, x); code != want {
		t.Fatalf("%s of %q is told %d, not %d", what, m, code, want)
	}
	if code != 0 {
		sameMap(t, what+" failed", got, m)
	}
	sameMap(t, what, got, h.pairs())
	return got, code
}

// run does asks that are all well, from a map on.
func run(t *testing.T, m []impl.Pair, asks ...impl.Ask) []impl.Pair {
	t.Helper()
	h := hallOf(m)
	for _, x := range asks {
		var code int
		if m, code = goesAs(t, m, h, x); code != 0 {
			t.Fatalf("%+v of %q is told %d", x, m, code)
		}
	}
	tellsAs(t, "behind all asks", m, h)
	return m
}

// tells wants of an ask a code that is not 0, and the map as it was.
func tells(t *testing.T, what string, m []impl.Pair, x impl.Ask, want int) {
	t.Helper()
	got, code := impl.Step(m, x)
	if code != want {
		t.Errorf("%s: %+v of %q is told %d, not %d", what, x, m, code, want)
	}
	sameMap(t, what, got, m)
}

func TestStatesByHand(t *testing.T) {
	y := "\xa0\xfe\x0a" // 180000
	for _, c := range []struct {
		asks []impl.Ask
		want []impl.Pair
	}{
		{nil, nil},
		{joins(0), mapOf("a", "v00")},
		{joins(11, 9, 10, 0), mapOf("a", "v00", "v09", "v10", "v11")},
		{append(joins(9, 10), leave(9)), []impl.Pair{{Key: "v09", Value: "l"}, {Key: "v10", Value: "a"}}},
		{append(joins(10, 9), link(10, 9, 0, 50, 7)), []impl.Pair{{Key: "e0910", Value: "\x00\x32\x07"}, {Key: "v09", Value: "a"}, {Key: "v10", Value: "a"}}},
		{append(joins(0, 11), link(0, 11, 50, 50, 50), link(11, 0, 0, 0, 0)), []impl.Pair{{Key: "e0011", Value: "\x00\x00\x00"}, {Key: "v00", Value: "a"}, {Key: "v11", Value: "a"}}},
		{[]impl.Ask{clearAll()}, []impl.Pair{{Key: "q00"}, {Key: "r0000", Value: "\x00\x00\x00\x00"}}},
		{append(joins(7), clearAll()), []impl.Pair{{Key: "q00", Value: "\x07"}, {Key: "r0000", Value: "\x01\x00\x00\x00\x00"}, {Key: "v07", Value: "a"}}},
		{append(joins(3, 1), link(3, 1, 2, 0, 0), clearAll()), []impl.Pair{
			{Key: "e0103", Value: "\x02\x00\x00"}, {Key: "q00", Value: "\x01\x03"},
			{Key: "r0000", Value: "\x02\x01\x00\x01\x02\x00\x00\x01\x00\x01" + y + y + "\x00"},
			{Key: "v01", Value: "p0"}, {Key: "v03", Value: "p0"},
		}},
		{append(joins(2, 4), clearAll(), link(2, 4, 0, 0, 1), clearAll(), join(6), clearAll()), []impl.Pair{
			{Key: "e0204", Value: "\x00\x00\x01"}, {Key: "q00", Value: "\x02\x04"}, {Key: "q01", Value: "\x02\x04"}, {Key: "q02", Value: "\x06"},
			{Key: "r0000", Value: "\x02\x00\x00\x00\x00\x00"}, {Key: "r0100", Value: "\x02\x01\x00\x01\x00\x00\x01\x01\x00\x01\x01\x01\x00"}, {Key: "r0200", Value: "\x01\x00\x00\x00\x00"},
			{Key: "v02", Value: "p1"}, {Key: "v04", Value: "p1"}, {Key: "v06", Value: "a"},
		}},
	} {
		sameMap(t, fmt.Sprint(c.asks), run(t, nil, c.asks...), c.want)
	}
}

func TestEmptyMap(t *testing.T) {
	for _, m := range [][]impl.Pair{nil, {}} {
		tellsAs(t, "the empty map", m, newHall())
		for what, x := range map[string]impl.Ask{"a link": link(0, 1, 0, 0, 0), "one that leaves": leave(0), "an audit": audit(0)} {
			tells(t, what, m, x, impl.FailNone)
		}
		sameMap(t, "shown", run(t, m, show()), nil)
	}
}

// TestSeveralRounds follows a hall by hand: who is paired stays so, who is not is in the next pool, whoever left is in none.
func TestSeveralRounds(t *testing.T) {
	m := run(t, nil, joins(0, 2, 5, 9, 10, 11)...)
	m = run(t, m, link(0, 2, 1, 0, 0), link(2, 5, 3, 0, 0), link(5, 9, 1, 5, 0), link(9, 10, 0, 0, 50), link(10, 11, 0, 0, 49), link(0, 11, 0, 50, 0))
	m = run(t, m, leave(0), clearAll())
	m = run(t, m, join(7), clearAll())
	m = run(t, m, join(1), join(8), link(8, 1, 0, 1, 0), link(1, 8, 2, 0, 0), leave(8), clearAll())
	m = run(t, m, link(11, 7, 0, 0, 0), clearAll())
	if pool, x, _ := impl.RoundOf(m, 0); !slices.Equal(pool, []int{2, 5, 9, 10, 11}) || !slices.Equal(x.Pairs, []impl.Couple{{A: 0, B: 1}, {A: 2, B: 3}}) || len(x.Graph.Edges) != 4 {
		t.Errorf("round 0 is %v, %+v", pool, x)
	}
	if pool, x, _ := impl.RoundOf(m, 1); !slices.Equal(pool, []int{7, 11}) || len(x.Pairs) != 0 || len(x.Graph.Edges) != 0 {
		t.Errorf("round 1 is %v, %+v", pool, x)
	}
	if pool, x, _ := impl.RoundOf(m, 2); !slices.Equal(pool, []int{1, 7, 11}) || len(x.Pairs) != 0 {
		t.Errorf("round 2 is %v, %+v", pool, x)
	}
	if pool, x, _ := impl.RoundOf(m, 3); !slices.Equal(pool, []int{1, 7, 11}) || !slices.Equal(x.Pairs, []impl.Couple{{A: 1, B: 2}}) {
		t.Errorf("round 3 is %v, %+v", pool, x)
	}
	if ids, here := impl.Ids(m), impl.Active(m); !slices.Equal(ids, []int{0, 1, 2, 5, 7, 8, 9, 10, 11}) || !slices.Equal(here, []int{1}) {
		t.Errorf("Ids are %v, Active %v", ids, here)
	}
}

// ask draws one of any kind, most of them with numbers that are right.
func (d *draws) ask() impl.Ask {
	x := impl.Ask{A: d.below(12), B: d.below(12), W1: d.below(51), W2: d.below(51), W3: d.below(51)}
	if d.below(2) == 0 {
		x.W1, x.W2, x.W3 = 0, d.below(2), d.below(4)
	}
	switch kind := d.below(100); {
	case kind < 25:
		x.Op = impl.OpJoin
	case kind < 75:
		x.Op = impl.OpLink
	case kind < 80:
		x.Op = impl.OpLeave
	case kind < 88:
		x.Op = impl.OpClear
	case kind < 95:
		x.Op, x.A = impl.OpAudit, d.below(impl.MaxRounds)
	case kind < 98:
		x.Op = impl.OpShow
	default:
		x.Op = d.below(20) - 8
	}
	numbers := []*int{&x.A, &x.B, &x.W1, &x.W2, &x.W3}
	if d.below(12) == 0 {
		*numbers[d.below(5)] = []int{-1, 12, 51, math.MinInt, math.MaxInt}[d.below(5)]
	}
	return x
}

// TestDrawnHalls holds each ask against the second way; a right state stays right, and what fails changes nothing.
func TestDrawnHalls(t *testing.T) {
	draw, told, couples := draws(13), map[[2]int]int{}, 0
	for range 150 {
		h := newHall()
		var m []impl.Pair
		for range 30 + draw.below(90) {
			x := draw.ask()
			here, g, _ := impl.PoolOf(m)
			var code int
			m, code = goesAs(t, m, h, x)
			told[[2]int{x.Op, code}]++
			tellsAs(t, fmt.Sprintf("behind %+v", x), m, h)
			if x.Op == impl.OpClear && code == 0 {
				couples += isClearedAs(t, m, len(h.rounds)-1, here, g)
			}
		}
	}
	for op, codes := range codesOfOps() {
		for _, code := range codes {
			if told[[2]int{op, code}] == 0 {
				t.Errorf("no Op %d was told %d", op, code)
			}
		}
	}
	if couples < 100 {
		t.Errorf("there were %d couples in all", couples)
	}
}

// codesOfOps has what each Op may be told, but for FailForm of a wrong map and FailFull.
func codesOfOps() map[int][]int {
	return map[int][]int{
		impl.OpJoin:  {0, impl.FailNone, impl.FailKnown},
		impl.OpLink:  {0, impl.FailNone, impl.FailSelf, impl.FailWorth, impl.FailState},
		impl.OpLeave: {0, impl.FailNone, impl.FailState},
		impl.OpClear: {0, impl.FailPool, impl.FailRounds},
		impl.OpAudit: {0, impl.FailNone},
		impl.OpShow:  {0},
		0:            {impl.FailForm},
		7:            {impl.FailForm},
		-1:           {impl.FailForm},
	}
}

// isClearedAs wants the round to be of who was in the hall ahead of it, with their links and the pairing that Solve tells; it answers how many couples there are.
func isClearedAs(t *testing.T, m []impl.Pair, n int, here []int, g impl.Graph) int {
	t.Helper()
	pool, x, ok := impl.RoundOf(m, n)
	if s := mustSolve(t, g); !ok || !slices.Equal(pool, here) || !sameGraph(x.Graph, g) || !slices.Equal(x.Pairs, s.pairs) || !sameProof(x.Proof, s.proof) {
		t.Fatalf("of the pool %v with %+v the round %d is %v, %+v, %v", here, g, n, pool, x, ok)
	}
	var paired []int
	for _, c := range x.Pairs {
		paired = append(paired, pool[c.A], pool[c.B])
	}
	value := "p" + impl.Decimal(n)
	for _, p := range m {
		var id int
		if p.Key[0] != 'v' {
			continue
		}
		fmt.Sscanf(p.Key, "v%02d", &id)
		if (p.Value == value) != slices.Contains(paired, id) {
			t.Fatalf("in the round %d %v were paired, and %q is %q", n, paired, p.Key, p.Value)
		}
	}
	return len(x.Pairs)
}

func TestEveryIdJoinsLinksAndLeaves(t *testing.T) {
	for a := range impl.MaxIds {
		for b := range impl.MaxIds {
			if a == b {
				continue
			}
			m := run(t, nil, join(a), join(b), link(a, b, 50, 0, 50))
			sameMap(t, "a link", m, []impl.Pair{
				{Key: fmt.Sprintf("e%02d%02d", min(a, b), max(a, b)), Value: "\x32\x00\x32"},
				{Key: fmt.Sprintf("v%02d", min(a, b)), Value: "a"}, {Key: fmt.Sprintf("v%02d", max(a, b)), Value: "a"},
			})
			tells(t, "joined again", m, join(a), impl.FailKnown)
			again := run(t, m, link(b, a, 0, 50, 1))
			if again[0] != (impl.Pair{Key: m[0].Key, Value: "\x00\x32\x01"}) || len(again) != 3 {
				t.Errorf("linked again as %q", again)
			}
			run(t, m, leave(b), clearAll(), clearAll(), leave(a), clearAll())
			run(t, m, clearAll(), clearAll())
		}
	}
}

// TestPoolsOfEachSize has pools of none up to all ids, linked each with each.
func TestPoolsOfEachSize(t *testing.T) {
	for size := range impl.MaxIds + 1 {
		ids := allPlaces(12)[12-size:]
		m := run(t, nil, append(joins(ids...), linksOfAll(ids, 1, 2, 3)...)...)
		if len(m) != size+size*(size-1)/2 {
			t.Errorf("the map of %d ids has %d pairs", size, len(m))
		}
		if size > impl.MaxPool {
			tells(t, "too many", m, clearAll(), impl.FailPool)
			for range size - impl.MaxPool {
				m = run(t, m, leave(impl.Active(m)[0]))
			}
		}
		m = run(t, m, clearAll())
		if _, x, _ := impl.RoundOf(m, 0); x.Graph.Size != min(size, 9) || len(x.Pairs) != min(size, 9)/2 || len(impl.Active(m)) != min(size, 9)%2 {
			t.Errorf("of %d the round is %+v", size, x)
		}
	}
}

func TestRoundsWithoutCouples(t *testing.T) {
	m := run(t, nil, joins(allPlaces(9)...)...)
	for n := range impl.MaxRounds {
		tells(t, "no such round", m, audit(n), impl.FailNone)
		m = run(t, m, clearAll())
		for k := range n + 1 {
			sameMap(t, "audited", run(t, m, audit(k)), m)
			isRoundAs(t, "without couples", m, k, plainRound{pool: allPlaces(9), text: "\x09\x00\x00" + strings.Repeat("\x00", 10)})
		}
		if here := impl.Active(m); !slices.Equal(here, allPlaces(9)) {
			t.Errorf("behind the round %d are in the hall %v", n, here)
		}
	}
	tells(t, "MaxRounds", m, clearAll(), impl.FailRounds)
	tells(t, "the round behind the last one", m, audit(impl.MaxRounds), impl.FailNone)
	run(t, m, join(9), link(0, 9, 1, 1, 1), leave(3))
}

// linkedHall has so many ids join, from 0 on, be linked by the worths 0, 0 and 1, and be cleared.
func linkedHall(size int, ends ...int) []impl.Ask {
	out := joins(allPlaces(size)...)
	for e := range slices.Chunk(ends, 2) {
		out = append(out, link(e[0], e[1], 0, 0, 1))
	}
	return append(out, clearAll())
}

// TestWholeParts has certificates that just fill their parts, or have one byte more.
func TestWholeParts(t *testing.T) {
	few := []int{0, 1, 0, 2, 0, 3, 4, 5, 4, 6}
	many := []int{0, 4, 0, 5, 0, 6, 1, 4, 1, 5, 1, 7, 2, 4, 2, 6, 2, 7, 3, 5, 3, 6, 3, 7}
	for _, c := range []struct {
		asks  []impl.Ask
		bytes int
		parts int
	}{
		{linkedHall(9), 13, 1},
		{linkedHall(7, few...), 40, 1},
		{linkedHall(8, few...), 41, 2},
		{linkedHall(8, many...), 80, 2},
		{linkedHall(9, many...), 81, 3},
	} {
		m := run(t, nil, c.asks...)
		_, x, _ := impl.RoundOf(m, 0)
		if text := mustCert(t, x); len(text) != c.bytes {
			t.Errorf("the certificate has %d bytes, not %d", len(text), c.bytes)
		}
		parts := 0
		for _, p := range m {
			if p.Key[0] == 'r' {
				parts++
			}
		}
		if parts != c.parts {
			t.Errorf("the certificate of %d bytes has %d parts", c.bytes, parts)
		}
		run(t, m, clearAll(), clearAll())
	}
}

// bulkyHall has so many ids in the hall, so many links between them, and rounds of nine pairs each, as no asks make them.
func bulkyHall(ids, links, rounds int) *plainHall {
	h := newHall()
	for b := range ids {
		h.became[b] = "a"
	}
	for a := range ids {
		for b := a + 1; b < ids; b++ {
			if len(h.links) < links {
				h.links[[2]int{a, b}] = [3]int{a, b, a + b}
			}
		}
	}
	for range rounds {
		h.rounds = append(h.rounds, plainRound{pool: allPlaces(9), text: varsOf(numbersOfCert(fullCert())...)})
	}
	return h
}

func (h *plainHall) with(became string, ids ...int) *plainHall {
	for _, id := range ids {
		h.became[id] = became
	}
	return h
}

func isOfPairs(t *testing.T, m []impl.Pair, want int) []impl.Pair {
	t.Helper()
	if len(m) != want {
		t.Fatalf("the map has %d pairs, not %d", len(m), want)
	}
	return m
}

func TestJoinsUpToMaxPairs(t *testing.T) {
	m := isOfPairs(t, bulkyHall(11, 54, 6).pairs(), impl.MaxPairs-1)
	isOfPairs(t, run(t, m, join(11)), impl.MaxPairs)
	m = isOfPairs(t, bulkyHall(11, 55, 6).pairs(), impl.MaxPairs)
	tells(t, "one too many", m, join(11), impl.FailFull)
	tells(t, "a map that is full", m, join(10), impl.FailKnown)
	tells(t, "a map that is full", m, join(12), impl.FailNone)
	tells(t, "a map that is full", m, join(-1), impl.FailNone)
	run(t, m, leave(10), leave(0), show(), audit(5))
}

func TestLinksUpToMaxPairs(t *testing.T) {
	m := isOfPairs(t, bulkyHall(12, 53, 6).pairs(), impl.MaxPairs-1)
	m = isOfPairs(t, run(t, m, link(11, 10, 1, 2, 3)), impl.MaxPairs)
	tells(t, "one too many", m, link(9, 10, 0, 0, 0), impl.FailFull)
	tells(t, "a map that is full", m, link(9, 10, 0, 0, 51), impl.FailWorth)
	tells(t, "a map that is full", m, link(9, 9, 0, 0, 0), impl.FailSelf)
	tells(t, "a map that is full", m, link(9, 12, 0, 0, 0), impl.FailNone)
	tells(t, "a map that is full", run(t, m, leave(9)), link(9, 10, 0, 0, 0), impl.FailState)
	again := isOfPairs(t, run(t, m, link(1, 0, 50, 50, 50), link(10, 11, 0, 0, 0)), impl.MaxPairs)
	if again[0] != (impl.Pair{Key: "e0001", Value: "222"}) {
		t.Errorf("linked again as %q", again[0])
	}
}

// TestRoundsUpToMaxPairs has rounds of one part, and of several ones, that come to just MaxPairs, and to one more.
func TestRoundsUpToMaxPairs(t *testing.T) {
	for what, left := range map[string][]int{"none in the hall": allPlaces(12), "nine in the hall": {0, 1, 2}, "two in the hall": allPlaces(10)} {
		sizes := map[int]int{}
		for links := 40; links <= 63; links++ {
			h := bulkyHall(12, links, 5).with("l", left...)
			m, behind := h.pairs(), h.clone()
			behind.clear(t)
			size := len(behind.pairs())
			_, sizes[size] = goesAs(t, m, h, clearAll())
			if want := map[bool]int{false: 0, true: impl.FailFull}[size > impl.MaxPairs]; sizes[size] != want {
				t.Errorf("%s: a round that comes to %d pairs is told %d", what, size, sizes[size])
			}
		}
		for size := range 2 {
			if _, ok := sizes[impl.MaxPairs+size]; !ok {
				t.Errorf("%s: no round came to %d pairs: %v", what, impl.MaxPairs+size, sizes)
			}
		}
	}
	full := isOfPairs(t, bulkyHall(12, 54, 6).pairs(), impl.MaxPairs)
	tells(t, "more than MaxPool, MaxRounds, a map that is full", full, clearAll(), impl.FailPool)
	tells(t, "MaxRounds, a map that is full", run(t, full, leave(0), leave(1), leave(2)), clearAll(), impl.FailRounds)
	few := isOfPairs(t, bulkyHall(12, 63, 5).pairs(), impl.MaxPairs)
	tells(t, "more than MaxPool, a map that is full", few, clearAll(), impl.FailPool)
	tells(t, "more than MaxPool, MaxRounds", bulkyHall(10, 0, 6).pairs(), clearAll(), impl.FailPool)
}

// mixedHall has ids of each kind: 0, 1 and 9 are in the hall, 2 and 10 left, 3 and 4 were paired in the round 0, the others never joined.
func mixedHall(t *testing.T) []impl.Pair {
	t.Helper()
	m := run(t, nil, append(joins(3, 4, 2), link(3, 4, 0, 7, 0), leave(2), clearAll())...)
	return run(t, m, join(0), join(1), join(9), join(10), link(0, 10, 1, 1, 1), leave(10))
}

func TestCodesInTheirOrder(t *testing.T) {
	m := mixedHall(t)
	for x, want := range map[impl.Ask]int{
		{Op: 0}: impl.FailForm, {Op: 7}: impl.FailForm, {Op: -1}: impl.FailForm, {Op: math.MaxInt}: impl.FailForm, {Op: math.MinInt, A: -1}: impl.FailForm,
		join(-1): impl.FailNone, join(12): impl.FailNone, join(math.MinInt): impl.FailNone, join(math.MaxInt): impl.FailNone,
		join(0): impl.FailKnown, join(2): impl.FailKnown, join(3): impl.FailKnown,
		link(0, 5, 0, 0, 0): impl.FailNone, link(5, 0, 0, 0, 0): impl.FailNone, link(5, 6, 0, 0, 0): impl.FailNone, link(5, 5, 0, 0, 0): impl.FailNone,
		link(5, 5, 51, -1, 0): impl.FailNone, link(-1, -1, 0, 0, 0): impl.FailNone, link(12, 0, 0, 0, 0): impl.FailNone, link(2, 12, 51, 0, 0): impl.FailNone,
		link(0, math.MaxInt, 0, 0, 0): impl.FailNone, link(math.MinInt, 1, 0, 0, 0): impl.FailNone,
		link(0, 0, 0, 0, 0): impl.FailSelf, link(1, 1, 51, 0, 0): impl.FailSelf, link(2, 2, 0, 0, 0): impl.FailSelf, link(3, 3, 0, 0, -1): impl.FailSelf,
		link(0, 1, -1, 0, 0): impl.FailWorth, link(0, 1, 0, -1, 0): impl.FailWorth, link(0, 1, 0, 0, -1): impl.FailWorth,
		link(0, 1, 51, 0, 0): impl.FailWorth, link(0, 1, 0, 51, 0): impl.FailWorth, link(0, 1, 0, 0, 51): impl.FailWorth,
		link(0, 2, 51, 0, 0): impl.FailWorth, link(3, 4, 0, -1, 0): impl.FailWorth, link(1, 0, 256, 0, 0): impl.FailWorth, link(1, 0, 0, 0, math.MinInt): impl.FailWorth,
		link(0, 2, 0, 0, 0): impl.FailState, link(2, 0, 0, 0, 0): impl.FailState, link(3, 1, 0, 0, 0): impl.FailState, link(1, 4, 50, 0, 0): impl.FailState,
		link(3, 4, 0, 7, 0): impl.FailState, link(10, 0, 1, 1, 1): impl.FailState, link(2, 3, 0, 0, 0): impl.FailState,
		leave(5): impl.FailNone, leave(-1): impl.FailNone, leave(12): impl.FailNone, leave(math.MaxInt): impl.FailNone,
		leave(2): impl.FailState, leave(3): impl.FailState, leave(10): impl.FailState,
		audit(-1): impl.FailNone, audit(1): impl.FailNone, audit(6): impl.FailNone, audit(math.MinInt): impl.FailNone,
	} {
		tells(t, "a mixed hall", m, x, want)
	}
}

// TestEveryAskOfAMixedHall has all Ops with all ids, and with worths at their edges, against the second way.
func TestEveryAskOfAMixedHall(t *testing.T) {
	m := mixedHall(t)
	numbers := append(allPlaces(14), -1, math.MinInt, math.MaxInt)
	for op := -1; op <= 8; op++ {
		for _, a := range numbers {
			for _, b := range numbers {
				for _, w := range [][3]int{{}, {50, 50, 50}, {51, 0, 0}, {0, 51, 0}, {0, 0, 51}, {-1, 0, 0}, {0, -1, 0}, {0, 0, -1}} {
					goesAs(t, m, hallOf(m), impl.Ask{Op: op, A: a, B: b, W1: w[0], W2: w[1], W3: w[2]})
				}
			}
		}
	}
}

// TestNumbersThatAreNotAskedFor has asks whose other numbers are anything: these count for nothing.
func TestNumbersThatAreNotAskedFor(t *testing.T) {
	m := mixedHall(t)
	for _, n := range []int{-1, 3, 51, math.MaxInt} {
		for _, x := range []impl.Ask{join(5), leave(0), audit(0), show(), clearAll()} {
			y := x
			y.B, y.W1, y.W2, y.W3 = n, n, n, n
			if y.Op == impl.OpShow || y.Op == impl.OpClear {
				y.A = n
			}
			sameMap(t, fmt.Sprintf("%+v", y), run(t, m, y), run(t, m, x))
		}
	}
}

func withPair(m []impl.Pair, key, value string) []impl.Pair {
	out := slices.DeleteFunc(slices.Clone(m), func(p impl.Pair) bool { return p.Key == key })
	return byKey(append(out, impl.Pair{Key: key, Value: value}))
}

func without(m []impl.Pair, keys ...string) []impl.Pair {
	return slices.DeleteFunc(slices.Clone(m), func(p impl.Pair) bool { return slices.Contains(keys, p.Key) })
}

func valueAt(m []impl.Pair, key string) string {
	for _, p := range m {
		if p.Key == key {
			return p.Value
		}
	}
	return ""
}

// moved has the pair of a Key at another one.
func moved(m []impl.Pair, from, to string) []impl.Pair {
	return withPair(without(m, from), to, valueAt(m, from))
}

// threeRounds has rounds of three parts, of one, and of none in the hall; 8 and 9 are in the hall, 11 never joined.
func threeRounds(t *testing.T) []impl.Pair {
	t.Helper()
	first := linksOfAll([]int{0, 1, 2, 3, 4, 5}, 0, 0, 9)
	m := run(t, nil, append(append(joins(0, 1, 2, 3, 4, 5), first...), clearAll())...)
	m = run(t, m, join(6), join(7), link(6, 7, 50, 50, 50), clearAll(), clearAll())
	m = run(t, m, join(8), join(9), join(10), link(8, 9, 0, 50, 0), leave(10))
	if len(valueAt(m, "r0002")) < 2 || valueAt(m, "r0003") != "" || valueAt(m, "v07") != "p1" {
		t.Fatalf("the map is %q", m)
	}
	return m
}

// refusesState wants a map that is not right to be told nothing of, and to be left as it was.
func refusesState(t *testing.T, what string, m []impl.Pair) {
	t.Helper()
	if impl.StateOk(m) {
		t.Fatalf("%s: StateOk(%q) is true", what, m)
	}
	if ids, here := impl.Ids(m), impl.Active(m); len(ids) != 0 || len(here) != 0 {
		t.Fatalf("%s: of %q Ids are %v, Active %v", what, m, ids, here)
	}
	if pool, g, ok := impl.PoolOf(m); ok || len(pool) != 0 || !isZeroGraph(g) {
		t.Fatalf("%s: PoolOf(%q) = %v, %+v, %v", what, m, pool, g, ok)
	}
	for n := -1; n <= 7; n++ {
		hasNoRound(t, what, m, n)
		tells(t, what, m, impl.Ask{Op: n, A: max(n, 0), B: 1}, impl.FailForm)
	}
	for _, x := range []impl.Ask{join(11), join(-1), link(8, 9, 1, 1, 1), link(8, 8, 51, 0, 0), leave(8), leave(2), audit(0)} {
		tells(t, what, m, x, impl.FailForm)
	}
}

// A wrongState breaks just these sentences of StateOk.
type wrongState struct {
	m      []impl.Pair
	faults []string
}

func wrongKeys(m []impl.Pair) map[string]wrongState {
	out := map[string]wrongState{}
	for _, key := range []string{
		"x00", "V00", "E0809", "Q00", "R0000", "a", "v", "e", "q", "r", "\x00", "w1101", "u01",
		"v1", "v001", "v0001", "v00000", "q1", "q003", "q0003", "e08", "e080", "e08090", "e080910", "r00", "r000", "r00000", "r000300",
		"v0a", "va0", "v 1", "v+1", "v-1", "v1 ", "v0x", "v0:", "v/0", "v0\xff", "v\xb00", "e08 9", "e0x09", "e08+9", "q0x", "q-1", "r00x0", "r0x00", "r000x", "r00-1",
	} {
		out[fmt.Sprintf("the Key %q", key)] = wrongState{withPair(m, key, valueAt(m, "v08")), []string{faultKey}}
	}
	for _, key := range []string{"v12", "v13", "v19", "v99"} {
		out["the id "+key] = wrongState{withPair(m, key, "a"), []string{faultId}}
	}
	out["a Key of nine bytes"] = wrongState{withPair(m, "v00000000", "a"), []string{faultKey, faultMap}}
	out["an empty Key"] = wrongState{withPair(m, "", "a"), []string{faultKey, faultMap}}
	out["an empty Key alone"] = wrongState{mapOf("", ""), []string{faultKey, faultMap}}
	for i := range m[1:] {
		turned := slices.Clone(m)
		turned[i], turned[i+1] = turned[i+1], turned[i]
		out[fmt.Sprintf("Keys that do not ascend at %d", i)] = wrongState{turned, []string{faultMap}}
		out[fmt.Sprintf("a Key twice at %d", i)] = wrongState{slices.Insert(slices.Clone(m), i, m[i]), []string{faultMap}}
	}
	out["one pair too many"] = wrongState{bulkyHall(12, 55, 6).pairs(), []string{faultMap}}
	return out
}

func wrongIdsAndLinks(m []impl.Pair) map[string]wrongState {
	out := map[string]wrongState{}
	for _, value := range []string{"", "b", "A", "L", "aa", "al", "a ", " a", "a0", "l0", "p", "P0", "p00", "p01", "p+0", "p-0", "p 0", "p0 ", "p0a", "pa", "p1.", "\x00", "0", "p00000000000000000000", "q0"} {
		out[fmt.Sprintf("an id that is %q", value)] = wrongState{withPair(m, "v08", value), []string{faultValue}}
	}
	for _, value := range []string{"p3", "p4", "p6", "p10", "p12", "p100", "p1000000000"} {
		out["paired in "+value] = wrongState{withPair(m, "v00", value), []string{faultPaired}}
	}
	out["paired without any round"] = wrongState{mapOf("p0", "v00"), []string{faultPaired}}
	for key, fault := range map[string]string{
		"e0811": faultEnds, "e0111": faultEnds, "e1112": faultEnds, "e0812": faultEnds, "e0099": faultEnds, "e1213": faultEnds,
		"e0808": faultOrder, "e0000": faultOrder, "e1010": faultOrder, "e0908": faultOrder, "e1000": faultOrder,
	} {
		out["the link "+key] = wrongState{withPair(m, key, "\x01\x02\x03"), []string{fault}}
	}
	out["a link of who is not there"] = wrongState{without(m, "v09"), []string{faultEnds}}
	for _, value := range []string{"", "\x01", "\x01\x02", "\x01\x02\x03\x04", strings.Repeat("\x00", 40)} {
		out[fmt.Sprintf("the worths %q", value)] = wrongState{withPair(m, "e0809", value), []string{faultWorths}}
	}
	for _, value := range []string{"\x33\x00\x00", "\x00\x33\x00", "\x00\x00\x33", "\x32\x32\x33", "\x80\x00\x00", "\x00\xff\x00", "\x00\x00\xff"} {
		out[fmt.Sprintf("the worths %q", value)] = wrongState{withPair(m, "e0809", value), []string{faultWorth}}
	}
	return out
}

func wrongParts(m []impl.Pair) map[string]wrongState {
	first, second, last := valueAt(m, "r0000"), valueAt(m, "r0001"), valueAt(m, "r0002")
	return map[string]wrongState{
		"a gap in the parts":               {moved(m, "r0002", "r0003"), []string{faultCert, faultPartGap}},
		"parts from 1 on":                  {moved(moved(moved(m, "r0002", "r0003"), "r0001", "r0002"), "r0000", "r0001"), []string{faultCert, faultPartGap}},
		"a part behind a gap":              {withPair(m, "r0004", "\x00"), []string{faultPartGap}},
		"an empty part behind a gap":       {withPair(m, "r0099", ""), []string{faultPartGap}},
		"an empty part at the end":         {withPair(m, "r0003", ""), []string{faultCut}},
		"an empty part ahead of the last":  {withPair(withPair(m, "r0002", ""), "r0003", last), []string{faultCut}},
		"an empty part alone":              {withPair(m, "r0200", ""), []string{faultCert, faultCut}},
		"an empty first part":              {withPair(withPair(m, "r0100", ""), "r0101", valueAt(m, "r0100")), []string{faultCut}},
		"a shorter part ahead of the last": {withPair(withPair(m, "r0001", second[:39]), "r0002", second[39:]+last), []string{faultCut}},
		"a shorter first part":             {withPair(withPair(withPair(m, "r0000", first[:39]), "r0001", first[39:]+second[:39]), "r0002", second[39:]+last), []string{faultCut}},
		"a short text in two parts":        {withPair(withPair(m, "r0200", "\x00\x00\x00"), "r0201", "\x00"), []string{faultCut}},
		"a part too long":                  {withPair(withPair(m, "r0001", second+last[:1]), "r0002", last[1:]), []string{faultCut, faultMap}},
		"a byte too many":                  {withPair(m, "r0002", last+"\x00"), []string{faultCert}},
		"a byte too few":                   {withPair(m, "r0002", last[:len(last)-1]), []string{faultCert}},
		"a worth turned":                   {withPair(m, "r0000", first[:6]+"\x0a"+first[7:]), []string{faultCert}},
		"no part":                          {without(m, "r0200"), []string{faultCert}},
		"none of three parts":              {without(m, "r0000", "r0001", "r0002"), []string{faultCert}},
		"the first part alone":             {without(m, "r0001", "r0002"), []string{faultCert}},
		"two parts turned":                 {withPair(withPair(m, "r0000", second), "r0001", first), []string{faultCert}},
		"a longer form of a number":        {withPair(m, "r0200", "\x80\x00\x00\x00\x00"), []string{faultCert}},
		"a pairing that is not best":       {withPair(m, "r0100", varsOf(2, 1, 0, 1, 50, 50, 50, 0, 0, 0, 0)), []string{faultCert}},
		"a proof of too much":              {withPair(m, "r0100", varsOf(2, 1, 0, 1, 0, 0, 1, 1, 0, 1, 2, 1, 0)), []string{faultCert}},
	}
}

func wrongRounds(m []impl.Pair) map[string]wrongState {
	gap := moved(moved(m, "q02", "q03"), "r0200", "r0300")
	fromOne := m
	for n := 2; n >= 0; n-- {
		fromOne = moved(fromOne, fmt.Sprintf("q%02d", n), fmt.Sprintf("q%02d", n+1))
		for part := range 3 - min(2*n, 2) {
			fromOne = moved(fromOne, fmt.Sprintf("r%02d%02d", n, part), fmt.Sprintf("r%02d%02d", n+1, part))
		}
	}
	for id := range 6 {
		fromOne = withPair(fromOne, fmt.Sprintf("v%02d", id), "p1")
	}
	seven := m
	for n := 3; n < 7; n++ {
		seven = withPair(withPair(seven, fmt.Sprintf("q%02d", n), ""), fmt.Sprintf("r%02d00", n), "\x00\x00\x00\x00")
	}
	far := withPair(withPair(m, "q99", ""), "r9900", "\x00\x00\x00\x00")
	return map[string]wrongState{
		"a gap in the rounds":               {gap, []string{faultGap}},
		"rounds from 1 on":                  {fromOne, []string{faultGap}},
		"a round far behind":                {far, []string{faultGap}},
		"a round alone that is not 0":       {[]impl.Pair{{Key: "q01"}, {Key: "r0100", Value: "\x00\x00\x00\x00"}}, []string{faultGap}},
		"seven rounds":                      {seven, []string{faultRounds}},
		"parts without a pool":              {withPair(m, "r0300", "\x00\x00\x00\x00"), []string{faultNoPool}},
		"a last pool too few":               {without(m, "q02"), []string{faultNoPool}},
		"a first pool too few":              {without(m, "q00"), []string{faultGap, faultNoPool, faultPaired}},
		"a pool without parts":              {withPair(m, "q03", ""), []string{faultCert}},
		"a pool with one less":              {withPair(m, "q00", "\x00\x01\x02\x03\x04"), []string{faultSize}},
		"a pool with one more":              {withPair(m, "q01", "\x06\x07\x08"), []string{faultSize}},
		"a pool of a graph of none":         {withPair(m, "q02", "\x06"), []string{faultSize}},
		"an empty pool":                     {withPair(m, "q01", ""), []string{faultSize}},
		"a pool that falls":                 {withPair(m, "q01", "\x07\x06"), []string{faultPoolUp}},
		"a pool that falls at the end":      {withPair(m, "q00", "\x00\x01\x02\x03\x05\x04"), []string{faultPoolUp}},
		"an id twice in a pool":             {withPair(m, "q01", "\x06\x06"), []string{faultPoolUp}},
		"an id in a pool that never joined": {withPair(m, "q01", "\x06\x0b"), []string{faultPoolId}},
		"an id in a pool beyond MaxIds":     {withPair(m, "q01", "\x06\x0c"), []string{faultPoolId}},
		"a figure in a pool":                {withPair(m, "q01", "\x067"), []string{faultPoolId}},
		"a pool of the byte 255":            {withPair(m, "q01", "\x07\xff"), []string{faultPoolId}},
		"a pool of ten":                     {withPair(m, "q00", "\x00\x01\x02\x03\x04\x05\x06\x07\x08\x09"), []string{faultPool, faultSize}},
	}
}

func wrongStates(t *testing.T) map[string]wrongState {
	t.Helper()
	m := threeRounds(t)
	out := wrongKeys(m)
	maps.Copy(out, wrongIdsAndLinks(m))
	maps.Copy(out, wrongParts(m))
	maps.Copy(out, wrongRounds(m))
	return out
}

// TestWrongStates has, for each sentence of StateOk, maps that break it alone (or with what can't be whole then).
func TestWrongStates(t *testing.T) {
	alone := map[string]bool{}
	for what, c := range wrongStates(t) {
		if got := stateFaults(c.m); !slices.Equal(got, slices.Sorted(slices.Values(c.faults))) {
			t.Errorf("%s: %q has the faults %q, not %q", what, c.m, got, c.faults)
		}
		refusesState(t, what, c.m)
		if len(c.faults) == 1 {
			alone[c.faults[0]] = true
		}
	}
	for _, fault := range []string{faultMap, faultKey, faultId, faultValue, faultEnds, faultOrder, faultWorths, faultWorth, faultGap, faultRounds, faultPoolUp, faultPoolId, faultNoPool, faultPartGap, faultCut, faultCert, faultSize, faultPaired} {
		if !alone[fault] {
			t.Errorf("no map has the fault %q alone", fault)
		}
	}
	for what, m := range wrongMaps() {
		refusesState(t, what, m)
	}
}

// TestStatesThatNoAskMakes has maps of just the form that StateOk wants, though no asks lead to them: these are right, too.
func TestStatesThatNoAskMakes(t *testing.T) {
	m := threeRounds(t)
	ring := varsOf(numbersOfCert(ringCert())...)
	for what, right := range map[string][]impl.Pair{
		"paired in a round of others":           withPair(m, "v08", "p0"),
		"paired alone":                          withPair(m, "v00", "a"),
		"left behind a couple":                  withPair(m, "v06", "l"),
		"a pool of others":                      withPair(m, "q01", "\x08\x0a"),
		"a certificate of other links":          withPair(m, "r0100", varsOf(2, 0, 0, 0, 0, 0)),
		"a certificate that no solver tells":    withPair(withPair(m, "q03", "\x00\x02\x04\x06\x08"), "r0300", ring),
		"links that are not in the certificate": without(m, "e0001", "e0607"),
		"a link of who left":                    withPair(m, "e0810", "\x00\x01\x32"),
		"a link of who was paired":              withPair(m, "e0008", "\x32\x00\x00"),
		"no rounds":                             {{Key: "e0111", Value: "\x00\x00\x00"}, {Key: "v01", Value: "l"}, {Key: "v11", Value: "l"}},
		"a map of MaxPairs":                     bulkyHall(12, 54, 6).pairs(),
		"all ids in the hall":                   bulkyHall(12, 0, 1).pairs(),
	} {
		if faults := stateFaults(right); len(faults) != 0 {
			t.Errorf("%s: %q has the faults %q", what, right, faults)
		}
		staysRight(t, what, right)
	}
}

// staysRight does some asks of each kind, one behind the other, of a right map.
func staysRight(t *testing.T, what string, m []impl.Pair) {
	t.Helper()
	h := hallOf(m)
	tellsAs(t, what, m, h)
	for _, x := range []impl.Ask{show(), audit(0), audit(5), join(11), link(8, 9, 1, 1, 1), link(11, 0, 50, 0, 0), clearAll(), leave(8), leave(11), clearAll(), join(3)} {
		m, _ = goesAs(t, m, h, x)
		tellsAs(t, what, m, h)
	}
}

// turnsOfBytes has the texts with one byte turned, one more, or one less.
func turnsOfBytes(text string) []string {
	out := []string{"", text + "\x00", text + "0", text + "00", text + text, "0" + text}
	for at := range len(text) {
		out = append(out, text[:at]+text[at+1:])
		for _, b := range []byte{text[at] + 1, text[at] - 1, text[at] ^ 128, 0, '0', '2', 11, 12, 255} {
			out = append(out, text[:at]+string([]byte{b})+text[at+1:])
		}
	}
	return out
}

// turnsOf has maps that differ from a map at one place.
func turnsOf(m []impl.Pair) [][]impl.Pair {
	var out [][]impl.Pair
	for i, p := range m {
		out = append(out, slices.Delete(slices.Clone(m), i, i+1), slices.Insert(slices.Clone(m), i, p))
		for _, key := range turnsOfBytes(p.Key) {
			turned := slices.Clone(m)
			turned[i].Key = key
			out = append(out, turned, byKey(turned), byKey(append(slices.Clone(m), impl.Pair{Key: key, Value: p.Value})))
		}
		for _, value := range turnsOfBytes(p.Value) {
			turned := slices.Clone(m)
			turned[i].Value = value
			out = append(out, turned)
		}
	}
	return out
}

// TestTurnedStates holds StateOk of maps that differ at one place from right ones against its sentences; those that are right stay so.
func TestTurnedStates(t *testing.T) {
	small := run(t, nil, append(joins(0, 9, 10), link(9, 10, 0, 1, 0), leave(0), clearAll(), join(11), clearAll())...)
	right, wrong := 0, 0
	for _, m := range [][]impl.Pair{small, mixedHall(t), threeRounds(t), bulkyHall(10, 1, 1).pairs()} {
		for i, turned := range turnsOf(m) {
			faults := stateFaults(turned)
			if ok := impl.StateOk(turned); ok != (len(faults) == 0) {
				t.Fatalf("StateOk(%q) = %v, and its faults are %q", turned, ok, faults)
			}
			if len(faults) != 0 {
				refusesState(t, "turned", turned)
				wrong++
				continue
			}
			if right++; i%9 == 0 {
				staysRight(t, "turned", turned)
			}
		}
	}
	if right < 100 || wrong < 1000 {
		t.Errorf("%d turned maps were right, %d not", right, wrong)
	}
}

// statesToAsk has right maps and wrong ones.
func statesToAsk(t *testing.T) map[string][]impl.Pair {
	t.Helper()
	out := map[string][]impl.Pair{
		"the empty map": nil, "mixed": mixedHall(t), "three rounds": threeRounds(t), "bulky": bulkyHall(12, 54, 6).pairs(),
		"nine in the hall": run(t, nil, append(joins(allPlaces(9)...), linksOfAll(allPlaces(9), 1, 2, 3)...)...),
	}
	for what, c := range wrongStates(t) {
		out["wrong: "+what] = c.m
	}
	return out
}

func asksOfAll() []impl.Ask {
	return []impl.Ask{
		join(11), join(0), join(12), link(8, 9, 3, 2, 1), link(1, 0, 3, 2, 1), link(0, 0, 0, 0, 0), link(0, 12, 0, 0, 0), link(0, 1, 0, 51, 0),
		leave(0), leave(2), leave(11), clearAll(), audit(0), audit(6), show(), {Op: 7},
	}
}

// askAll asks all that can be asked of a map, and answers what was told as one text.
func askAll(m []impl.Pair) string {
	var out []any
	for _, x := range asksOfAll() {
		behind, code := impl.Step(m, x)
		out = append(out, len(behind), behind, code)
	}
	pool, g, ok := impl.PoolOf(m)
	out = append(out, impl.StateOk(m), len(impl.Ids(m)), impl.Ids(m), len(impl.Active(m)), impl.Active(m), pool, g, ok)
	for n := range 7 {
		ids, x, isRound := impl.RoundOf(m, n)
		out = append(out, ids, x, isRound)
	}
	return fmt.Sprintf("%q", out)
}

func TestStatesAreNotWrittenInto(t *testing.T) {
	for what, plain := range statesToAsk(t) {
		roomy := append(slices.Clone(plain), mapOf("spare", "v11", "zz", "a")...)
		held := slices.Clone(roomy)
		if got, want := askAll(roomy[:len(plain)]), askAll(plain); got != want {
			t.Errorf("%s: told apart by what stands behind the map: %s, not %s", what, got, want)
		}
		if !slices.Equal(roomy, held) {
			t.Errorf("%s: of %q became %q", what, held, roomy)
		}
	}
}

func textsOfMap(m []impl.Pair) []string {
	var out []string
	for _, p := range m {
		out = append(out, p.Key, p.Value)
	}
	return out
}

// TestStatesShareNothing turns all that was handed in, and then what was handed back.
func TestStatesShareNothing(t *testing.T) {
	for what, m := range statesToAsk(t) {
		for _, x := range asksOfAll() {
			given := slices.Clone(m)
			got, _ := impl.Step(given, x)
			held := slices.Clone(got)
			texts := textsOfMap(got)
			for i, text := range texts {
				sharesNoText(t, what, text, textsOfMap(m))
				sharesNoText(t, what+", within the answer", text, texts[:i])
			}
			for i := range given {
				given[i] = impl.Pair{Key: "turned"}
			}
			sameMap(t, what+", the argument turned", got, held)
			spare := got[:cap(got)]
			for i := range spare {
				spare[i] = impl.Pair{Key: "turned"}
			}
			again, _ := impl.Step(m, x)
			sameMap(t, what+", the answer turned", again, held)
		}
	}
}

func TestListsOfStatesShareNothing(t *testing.T) {
	ring := varsOf(numbersOfCert(ringCert())...)
	m := withPair(withPair(threeRounds(t), "q03", "\x00\x02\x04\x06\x08"), "r0300", ring)
	tellsAs(t, "a ring", m, hallOf(m))
	held := askAll(m)
	for n := range 4 {
		pool, x, _ := impl.RoundOf(m, n)
		for i := range pool[:cap(pool)] {
			pool[:cap(pool)][i] = -77
		}
		if !spoil(x) || slices.ContainsFunc(pool, func(id int) bool { return id != -77 }) {
			t.Errorf("two lists of the round %d share memory", n)
		}
	}
	for _, list := range [][]int{impl.Ids(m), impl.Active(m)} {
		for i := range list[:cap(list)] {
			list[:cap(list)][i] = -77
		}
	}
	pool, g, _ := impl.PoolOf(m)
	for i := range pool[:cap(pool)] {
		pool[:cap(pool)][i] = -77
	}
	for i := range g.Edges[:cap(g.Edges)] {
		g.Edges[:cap(g.Edges)][i] = impl.Edge{A: -77}
	}
	if again := askAll(m); again != held {
		t.Errorf("told %s, and then %s", held, again)
	}
}

func TestStatesTheSameWhateverWasAskedAhead(t *testing.T) {
	all, first := statesToAsk(t), map[string]string{}
	for what, m := range all {
		first[what] = askAll(m)
	}
	for what, m := range all {
		if again := askAll(m); again != first[what] {
			t.Errorf("%s: told %s, and then %s", what, first[what], again)
		}
	}
}

func TestLongMapsAreLeftAsTheyWere(t *testing.T) {
	var m []impl.Pair
	for i := range 3000 {
		m = append(m, impl.Pair{Key: fmt.Sprintf("v%08d", i), Value: someBytes(i % 50)})
	}
	refusesState(t, "a long map", m)
	refusesState(t, "long texts", mapOf(someBytes(100000), someBytes(100000)))
}
