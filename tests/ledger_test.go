package tests

import (
	"fmt"
	"maps"
	"math"
	"slices"
	"strings"
	"testing"

	"loop.example/g00105/impl"
)

// numbersToTell has all ids and rounds that there can be, those around them, and the farthest numbers.
func numbersToTell() []int {
	return append(allPlaces(15), -1, -2, 99, 256, 1<<32, math.MinInt, math.MaxInt)
}

func mustTotal(t *testing.T, what string, m []impl.Pair) impl.Total {
	t.Helper()
	total, ok := impl.Totals(m)
	if !ok {
		t.Fatalf("%s: Totals(%q) is false", what, m)
	}
	return total
}

// coupleOf finds the couple of an id, and answers the other one of it.
func coupleOf(couples []impl.Couple, id int) (int, bool) {
	for _, c := range couples {
		if c.A == id || c.B == id {
			return c.A + c.B - id, true
		}
	}
	return 0, false
}

// couples has the couples of a round as ids, told a second way.
func (r plainRound) couples() []impl.Couple {
	cert, _ := plainCert(r.text)
	var out []impl.Couple
	for _, c := range cert.Pairs {
		out = append(out, couplesOf(r.pool[c.A], r.pool[c.B])...)
	}
	return out
}

func (r plainRound) sums() impl.Sums {
	cert, _ := plainCert(r.text)
	return sumsByHand(cert.Graph, cert.Pairs)
}

// shown goes through the words of a round in their order.
func (r plainRound) shown(n int) string {
	words := []string{fmt.Sprintf("round %d:", n)}
	for _, c := range r.couples() {
		words = append(words, fmt.Sprintf("%d+%d", min(c.A, c.B), max(c.A, c.B)))
	}
	told := strings.Join(words, " ") + "; alone:"
	for _, id := range r.pool {
		if _, isPaired := coupleOf(r.couples(), id); !isPaired {
			told += fmt.Sprintf(" %d", id)
		}
	}
	return told
}

func (h *plainHall) total() impl.Total {
	total := impl.Total{Rounds: len(h.rounds)}
	for _, value := range h.became {
		switch value[:1] {
		case "a":
			total.Here++
		case "l":
			total.Left++
		case "p":
			total.Paired++
		}
	}
	for _, round := range h.rounds {
		sums := round.sums()
		total.Sums.W1, total.Sums.W2, total.Sums.W3 = total.Sums.W1+sums.W1, total.Sums.W2+sums.W2, total.Sums.W3+sums.W3
	}
	return total
}

func (h *plainHall) whoWith(id int) (int, int, bool) {
	for n, round := range h.rounds {
		mate, isCouple := coupleOf(round.couples(), id)
		if isCouple && h.became[id] == fmt.Sprintf("p%d", n) {
			return mate, n, true
		}
	}
	return 0, 0, false
}

func (h *plainHall) turn(id int) int {
	if h.became[id] == "" {
		return -1
	}
	turns := 0
	for _, round := range h.rounds {
		if slices.Contains(round.pool, id) {
			turns++
		}
	}
	return turns
}

func (h *plainHall) round(n int) (plainRound, bool) {
	if n < 0 || n >= len(h.rounds) {
		return plainRound{}, false
	}
	return h.rounds[n], true
}

// ledgerAs wants all five functions to tell of a map what the second way tells of it.
func ledgerAs(t *testing.T, what string, m []impl.Pair) {
	t.Helper()
	h := hallOf(m)
	if total := mustTotal(t, what, m); total != h.total() {
		t.Fatalf("%s: Totals(%q) = %+v, not %+v", what, m, total, h.total())
	}
	for _, n := range numbersToTell() {
		mate, at, isPaired := impl.WhoWith(m, n)
		wantMate, wantAt, want := h.whoWith(n)
		if mate != wantMate || at != wantAt || isPaired != want {
			t.Fatalf("%s: WhoWith(%q, %d) = %d, %d, %v, not %d, %d, %v", what, m, n, mate, at, isPaired, wantMate, wantAt, want)
		}
		if turns := impl.Turn(m, n); turns != h.turn(n) {
			t.Fatalf("%s: Turn(%q, %d) = %d, not %d", what, m, n, turns, h.turn(n))
		}
		round, isRound := h.round(n)
		couples, shown := []impl.Couple(nil), ""
		if isRound {
			couples, shown = round.couples(), round.shown(n)
		}
		if got, ok := impl.CouplesOf(m, n); ok != isRound || !slices.Equal(got, couples) {
			t.Fatalf("%s: CouplesOf(%q, %d) = %v, %v, not %v, %v", what, m, n, got, ok, couples, isRound)
		}
		if got := impl.ShowRound(m, n); got != shown {
			t.Fatalf("%s: ShowRound(%q, %d) = %q, not %q", what, m, n, got, shown)
		}
	}
}

// refusesLedger wants nothing to be told of a map that is not right.
func refusesLedger(t *testing.T, what string, m []impl.Pair) {
	t.Helper()
	if total, ok := impl.Totals(m); ok || total != (impl.Total{}) {
		t.Fatalf("%s: Totals(%q) = %+v, %v", what, m, total, ok)
	}
	for _, n := range []int{-1, 0, 1, 2, 3, 6, 8, 11, 12} {
		if mate, at, ok := impl.WhoWith(m, n); ok || mate != 0 || at != 0 {
			t.Fatalf("%s: WhoWith(%q, %d) = %d, %d, %v", what, m, n, mate, at, ok)
		}
		if turns := impl.Turn(m, n); turns != -1 {
			t.Fatalf("%s: Turn(%q, %d) = %d", what, m, n, turns)
		}
		if couples, ok := impl.CouplesOf(m, n); ok || len(couples) != 0 {
			t.Fatalf("%s: CouplesOf(%q, %d) = %v, %v", what, m, n, couples, ok)
		}
		if shown := impl.ShowRound(m, n); shown != "" {
			t.Fatalf("%s: ShowRound(%q, %d) = %q", what, m, n, shown)
		}
	}
}

// A mated is what WhoWith tells of an id that is paired.
type mated struct {
	with  int
	round int
}

// A reckonedLedger is what is to be told of a state, of its rounds from 0 on; ids that are not named are not paired, or never joined.
type reckonedLedger struct {
	asks    []impl.Ask
	total   impl.Total
	mates   map[int]mated
	turns   map[int]int
	couples [][]impl.Couple
	shown   []string
}

func (c reckonedLedger) isTold(t *testing.T, what string, m []impl.Pair) {
	t.Helper()
	if total := mustTotal(t, what, m); total != c.total {
		t.Errorf("%s: Totals are %+v, not %+v", what, total, c.total)
	}
	for _, n := range numbersToTell() {
		want, isPaired := c.mates[n]
		if mate, at, ok := impl.WhoWith(m, n); ok != isPaired || mate != want.with || at != want.round {
			t.Errorf("%s: WhoWith %d is %d, %d, %v, not %+v, %v", what, n, mate, at, ok, want, isPaired)
		}
		turns, hasJoined := c.turns[n]
		if got := impl.Turn(m, n); hasJoined && got != turns || !hasJoined && got != -1 {
			t.Errorf("%s: Turn of %d is %d, not %d, %v", what, n, got, turns, hasJoined)
		}
		couples, shown, isRound := []impl.Couple(nil), "", n >= 0 && n < len(c.shown)
		if isRound {
			couples, shown = c.couples[n], c.shown[n]
		}
		if got, ok := impl.CouplesOf(m, n); ok != isRound || !slices.Equal(got, couples) {
			t.Errorf("%s: CouplesOf %d are %v, %v, not %v, %v", what, n, got, ok, couples, isRound)
		}
		if got := impl.ShowRound(m, n); got != shown {
			t.Errorf("%s: ShowRound of %d is %q, not %q", what, n, got, shown)
		}
	}
}

func ledgersWithoutCouples() map[string]reckonedLedger {
	return map[string]reckonedLedger{
		"no pairs": {},
		"no round": {
			asks:  append(joins(4, 0, 11), link(0, 11, 9, 9, 9), leave(4)),
			total: impl.Total{Here: 2, Left: 1},
			turns: map[int]int{0: 0, 4: 0, 11: 0},
		},
		"a round of nobody": {
			asks:    []impl.Ask{clearAll()},
			total:   impl.Total{Rounds: 1},
			couples: [][]impl.Couple{nil},
			shown:   []string{"round 0:; alone:"},
		},
		"a round of nobody any more": {
			asks:    append(joins(7), leave(7), clearAll()),
			total:   impl.Total{Rounds: 1, Left: 1},
			turns:   map[int]int{7: 0},
			couples: [][]impl.Couple{nil},
			shown:   []string{"round 0:; alone:"},
		},
		"a round of one": {
			asks:    append(joins(0), clearAll()),
			total:   impl.Total{Rounds: 1, Here: 1},
			turns:   map[int]int{0: 1},
			couples: [][]impl.Couple{nil},
			shown:   []string{"round 0:; alone: 0"},
		},
		"rounds of those that have no links": {
			asks:    append(joins(10, 9, 11, 2), clearAll(), leave(10), clearAll(), join(1)),
			total:   impl.Total{Rounds: 2, Here: 4, Left: 1},
			turns:   map[int]int{1: 0, 2: 2, 9: 2, 10: 1, 11: 2},
			couples: [][]impl.Couple{nil, nil},
			shown:   []string{"round 0:; alone: 2 9 10 11", "round 1:; alone: 2 9 11"},
		},
		"rounds up to MaxRounds": {
			asks:    append(joins(11), slices.Repeat([]impl.Ask{clearAll()}, 6)...),
			total:   impl.Total{Rounds: 6, Here: 1},
			turns:   map[int]int{11: 6},
			couples: make([][]impl.Couple, 6),
			shown:   []string{"round 0:; alone: 11", "round 1:; alone: 11", "round 2:; alone: 11", "round 3:; alone: 11", "round 4:; alone: 11", "round 5:; alone: 11"},
		},
	}
}

func ledgersOfOneRound() map[string]reckonedLedger {
	return map[string]reckonedLedger{
		"a couple and one alone": {
			asks:    append(joins(3, 1, 7), link(3, 1, 2, 0, 0), clearAll()),
			total:   impl.Total{Rounds: 1, Paired: 2, Here: 1, Sums: impl.Sums{W1: 2}},
			mates:   map[int]mated{1: {3, 0}, 3: {1, 0}},
			turns:   map[int]int{1: 1, 3: 1, 7: 1},
			couples: [][]impl.Couple{couplesOf(1, 3)},
			shown:   []string{"round 0: 1+3; alone: 7"},
		},
		"the first and the last id, worths at their edges": {
			asks:    append(joins(11, 0), link(11, 0, 0, 50, 0), clearAll()),
			total:   impl.Total{Rounds: 1, Paired: 2, Sums: impl.Sums{W2: 50}},
			mates:   map[int]mated{0: {11, 0}, 11: {0, 0}},
			turns:   map[int]int{0: 1, 11: 1},
			couples: [][]impl.Couple{couplesOf(0, 11)},
			shown:   []string{"round 0: 0+11; alone:"},
		},
		"a couple of no worth": {
			asks:    append(joins(4, 5), link(4, 5, 0, 0, 1), link(5, 4, 0, 0, 0), clearAll()),
			total:   impl.Total{Rounds: 1, Paired: 2},
			mates:   map[int]mated{4: {5, 0}, 5: {4, 0}},
			turns:   map[int]int{4: 1, 5: 1},
			couples: [][]impl.Couple{couplesOf(4, 5)},
			shown:   []string{"round 0: 4+5; alone:"},
		},
		"the weightier worth, and the others alone": {
			asks:    append(joins(1, 2, 3, 4), link(1, 2, 0, 9, 9), link(2, 3, 1, 0, 0), link(3, 4, 0, 9, 9), clearAll()),
			total:   impl.Total{Rounds: 1, Paired: 2, Here: 2, Sums: impl.Sums{W1: 1}},
			mates:   map[int]mated{2: {3, 0}, 3: {2, 0}},
			turns:   map[int]int{1: 1, 2: 1, 3: 1, 4: 1},
			couples: [][]impl.Couple{couplesOf(2, 3)},
			shown:   []string{"round 0: 2+3; alone: 1 4"},
		},
		"couples by their lesser ids, not by their figures": {
			asks:    append(joins(11, 10, 9, 2, 8), link(11, 2, 1, 2, 3), link(10, 9, 3, 2, 1), leave(8), clearAll()),
			total:   impl.Total{Rounds: 1, Paired: 4, Left: 1, Sums: impl.Sums{W1: 4, W2: 4, W3: 4}},
			mates:   map[int]mated{2: {11, 0}, 9: {10, 0}, 10: {9, 0}, 11: {2, 0}},
			turns:   map[int]int{2: 1, 8: 0, 9: 1, 10: 1, 11: 1},
			couples: [][]impl.Couple{couplesOf(2, 11, 9, 10)},
			shown:   []string{"round 0: 2+11 9+10; alone:"},
		},
		"those alone between the couples": {
			asks:    append(joins(0, 1, 3, 4, 6, 7, 9, 10, 11), link(0, 10, 0, 0, 7), link(4, 3, 0, 7, 0), link(6, 11, 7, 0, 0), clearAll(), join(2)),
			total:   impl.Total{Rounds: 1, Paired: 6, Here: 4, Sums: impl.Sums{W1: 7, W2: 7, W3: 7}},
			mates:   map[int]mated{0: {10, 0}, 3: {4, 0}, 4: {3, 0}, 6: {11, 0}, 10: {0, 0}, 11: {6, 0}},
			turns:   map[int]int{0: 1, 1: 1, 2: 0, 3: 1, 4: 1, 6: 1, 7: 1, 9: 1, 10: 1, 11: 1},
			couples: [][]impl.Couple{couplesOf(0, 10, 3, 4, 6, 11)},
			shown:   []string{"round 0: 0+10 3+4 6+11; alone: 1 7 9"},
		},
	}
}

func ledgersOfSeveralRounds() map[string]reckonedLedger {
	return map[string]reckonedLedger{
		"rounds without couples ahead, between and behind": {
			asks: append(joins(0, 5, 11), clearAll(), link(5, 11, 1, 2, 3), clearAll(), clearAll(),
				join(2), link(2, 0, 4, 0, 50), join(8), leave(8), clearAll(), join(9), clearAll(), leave(9), join(1)),
			total:   impl.Total{Rounds: 5, Paired: 4, Here: 1, Left: 2, Sums: impl.Sums{W1: 5, W2: 2, W3: 53}},
			mates:   map[int]mated{0: {2, 3}, 2: {0, 3}, 5: {11, 1}, 11: {5, 1}},
			turns:   map[int]int{0: 4, 1: 0, 2: 1, 5: 2, 8: 0, 9: 1, 11: 2},
			couples: [][]impl.Couple{nil, couplesOf(5, 11), nil, couplesOf(0, 2), nil},
			shown:   []string{"round 0:; alone: 0 5 11", "round 1: 5+11; alone: 0", "round 2:; alone: 0", "round 3: 0+2; alone:", "round 4:; alone: 9"},
		},
		"paired in the last round that can be": {
			asks:    append(append(joins(10, 6), slices.Repeat([]impl.Ask{clearAll()}, 5)...), link(6, 10, 50, 50, 50), clearAll()),
			total:   impl.Total{Rounds: 6, Paired: 2, Sums: impl.Sums{W1: 50, W2: 50, W3: 50}},
			mates:   map[int]mated{6: {10, 5}, 10: {6, 5}},
			turns:   map[int]int{6: 6, 10: 6},
			couples: [][]impl.Couple{nil, nil, nil, nil, nil, couplesOf(6, 10)},
			shown:   []string{"round 0:; alone: 6 10", "round 1:; alone: 6 10", "round 2:; alone: 6 10", "round 3:; alone: 6 10", "round 4:; alone: 6 10", "round 5: 6+10; alone:"},
		},
		"a pool of nobody between two of all": {
			asks:    append(joins(1, 0), link(0, 1, 0, 1, 0), clearAll(), clearAll(), join(2), join(3), link(3, 2, 0, 1, 1), clearAll()),
			total:   impl.Total{Rounds: 3, Paired: 4, Sums: impl.Sums{W2: 2, W3: 1}},
			mates:   map[int]mated{0: {1, 0}, 1: {0, 0}, 2: {3, 2}, 3: {2, 2}},
			turns:   map[int]int{0: 1, 1: 1, 2: 1, 3: 1},
			couples: [][]impl.Couple{couplesOf(0, 1), nil, couplesOf(2, 3)},
			shown:   []string{"round 0: 0+1; alone:", "round 1:; alone:", "round 2: 2+3; alone:"},
		},
	}
}

func TestLedgersByHand(t *testing.T) {
	for _, all := range []map[string]reckonedLedger{ledgersWithoutCouples(), ledgersOfOneRound(), ledgersOfSeveralRounds()} {
		for what, c := range all {
			m := run(t, nil, c.asks...)
			c.isTold(t, what, m)
			ledgerAs(t, what, m)
			isPromised(t, what, m)
		}
	}
	reckonedLedger{}.isTold(t, "an empty list", []impl.Pair{})
}

// matesAreMutual wants who is paired with an id to be paired with it, in the same round, and each couple to be told of both.
func matesAreMutual(t *testing.T, what string, m []impl.Pair) int {
	t.Helper()
	told, coupled := 0, 0
	for _, id := range numbersToTell() {
		mate, at, ok := impl.WhoWith(m, id)
		if !ok {
			continue
		}
		told++
		if back, backAt, isPaired := impl.WhoWith(m, mate); !isPaired || back != id || backAt != at || mate == id {
			t.Fatalf("%s: %d is paired with %d in the round %d, and that one with %d in %d, %v", what, id, mate, at, back, backAt, isPaired)
		}
	}
	for n := range mustTotal(t, what, m).Rounds {
		couples, ok := impl.CouplesOf(m, n)
		coupled += 2 * len(couples)
		for _, c := range couples {
			first, firstAt, isFirst := impl.WhoWith(m, c.A)
			other, otherAt, isOther := impl.WhoWith(m, c.B)
			if !ok || !isFirst || !isOther || first != c.B || other != c.A || firstAt != n || otherAt != n {
				t.Fatalf("%s: of the couple %+v of the round %d are told %d in %d and %d in %d", what, c, n, first, firstAt, other, otherAt)
			}
		}
	}
	if told != coupled {
		t.Fatalf("%s: %d are told to be paired, and %d are in couples", what, told, coupled)
	}
	return told
}

// shownIn reads a round back from what is shown of it: its couples, and who is alone.
func shownIn(t *testing.T, n int, shown string) ([]impl.Couple, []int) {
	t.Helper()
	ahead, lonely, isCut := strings.Cut(shown, "; alone:")
	paired, isRound := strings.CutPrefix(ahead, fmt.Sprintf("round %d:", n))
	if !isCut || !isRound {
		t.Fatalf("the round %d is shown as %q", n, shown)
	}
	var couples []impl.Couple
	var alone []int
	for _, word := range strings.Fields(paired) {
		var c impl.Couple
		if _, err := fmt.Sscanf(word, "%d+%d", &c.A, &c.B); err != nil {
			t.Fatalf("a couple is shown as %q", word)
		}
		couples = append(couples, c)
	}
	for _, word := range strings.Fields(lonely) {
		id, ok := impl.ReadDecimal(word)
		if !ok {
			t.Fatalf("who is alone is shown as %q", word)
		}
		alone = append(alone, id)
	}
	return couples, alone
}

// roundsAreWhole wants the couples of each round and its lonely ones to be its pool, each once, shown and told.
func roundsAreWhole(t *testing.T, what string, m []impl.Pair) {
	t.Helper()
	for n := range mustTotal(t, what, m).Rounds {
		pool, x, _ := impl.RoundOf(m, n)
		couples, _ := impl.CouplesOf(m, n)
		shown, alone := shownIn(t, n, impl.ShowRound(m, n))
		var lonely, all []int
		for _, v := range impl.Lonely(x.Graph, x.Pairs) {
			lonely = append(lonely, pool[v])
		}
		for i, c := range couples {
			all = append(all, c.A, c.B)
			if c.A >= c.B || i > 0 && couples[i-1].A >= c.A {
				t.Fatalf("%s: the couples of the round %d are %v", what, n, couples)
			}
		}
		all = append(all, lonely...)
		slices.Sort(all)
		if !slices.Equal(all, pool) || !slices.Equal(shown, couples) || !slices.Equal(alone, lonely) {
			t.Fatalf("%s: of the pool %v the round %d has %v, shown as %q", what, pool, n, couples, impl.ShowRound(m, n))
		}
	}
}

// totalsAreOfAll wants paired, in the hall and left to come to all ids, the sums to be those of all couples by their links, and the turns those of the pools.
func totalsAreOfAll(t *testing.T, what string, m []impl.Pair) {
	t.Helper()
	total, h := mustTotal(t, what, m), hallOf(m)
	var sums impl.Sums
	turns := map[int]int{}
	for n := range len(h.rounds) {
		pool, _, _ := impl.RoundOf(m, n)
		for _, id := range pool {
			turns[id]++
		}
		couples, _ := impl.CouplesOf(m, n)
		for _, c := range couples {
			w, isLink := h.links[[2]int{c.A, c.B}]
			if !isLink {
				t.Fatalf("%s: the couple %+v of the round %d is no link", what, c, n)
			}
			sums.W1, sums.W2, sums.W3 = sums.W1+w[0], sums.W2+w[1], sums.W3+w[2]
		}
	}
	if total.Rounds != len(h.rounds) || total.Sums != sums {
		t.Fatalf("%s: Totals are %+v, of %d rounds, whose couples come to %+v", what, total, len(h.rounds), sums)
	}
	if total.Paired+total.Here+total.Left != len(impl.Ids(m)) || total.Here != len(impl.Active(m)) {
		t.Fatalf("%s: Totals are %+v, of the ids %v, of whom are in the hall %v", what, total, impl.Ids(m), impl.Active(m))
	}
	for _, id := range impl.Ids(m) {
		if got := impl.Turn(m, id); got != turns[id] {
			t.Fatalf("%s: Turn of %d is %d, and it was in %d pools", what, id, got, turns[id])
		}
	}
}

// isPromised wants promise 20 of a state that asks have made.
func isPromised(t *testing.T, what string, m []impl.Pair) {
	t.Helper()
	totalsAreOfAll(t, what, m)
	roundsAreWhole(t, what, m)
	if paired := matesAreMutual(t, what, m); paired != mustTotal(t, what, m).Paired {
		t.Fatalf("%s: %d have a mate, and Totals are %+v", what, paired, mustTotal(t, what, m))
	}
}

// kindsOfRounds notes what the rounds of a state have, so that drawn ones are known to have it all.
func kindsOfRounds(h *plainHall, seen map[string]int) {
	for n, round := range h.rounds {
		couples := round.couples()
		isWhole, isBare := 2*len(couples) == len(round.pool), len(couples) == 0
		seen[fmt.Sprintf("first %v, all paired %v, nobody paired %v", n == 0, isWhole, isBare)]++
		if n > 0 && n < len(h.rounds)-1 && isBare && len(h.rounds[n-1].couples()) > 0 && len(h.rounds[n+1].couples()) > 0 {
			seen["without couples between two others"]++
		}
		for _, c := range couples {
			if h.turn(c.A) > 1 {
				seen["paired behind other rounds"]++
			}
		}
	}
	for id, value := range h.became {
		if h.turn(id) == 0 {
			seen["in no round, "+value]++
		} else if value == "l" {
			seen["left behind a round"]++
		}
	}
}

// Promise 20, of drawn states, each held against the second way.
func TestLedgersOfDrawnHalls(t *testing.T) {
	draw, seen := draws(20), map[string]int{}
	for range 120 {
		var m []impl.Pair
		for range 110 {
			x := draw.ask()
			behind, code := impl.Step(m, x)
			m = behind
			if code == 0 && x.Op == impl.OpClear {
				ledgerAs(t, "behind a round", m)
				isPromised(t, "behind a round", m)
			}
		}
		ledgerAs(t, "drawn", m)
		isPromised(t, "drawn", m)
		kindsOfRounds(hallOf(m), seen)
	}
	for _, kind := range []string{
		"first true, all paired false, nobody paired false", "first true, all paired false, nobody paired true", "first true, all paired true, nobody paired true",
		"first false, all paired false, nobody paired false", "first false, all paired true, nobody paired false", "first false, all paired false, nobody paired true",
		"first false, all paired true, nobody paired true", "without couples between two others", "paired behind other rounds", "in no round, a", "in no round, l", "left behind a round",
	} {
		if seen[kind] < 2 {
			t.Errorf("%q was seen %d times among %v", kind, seen[kind], seen)
		}
	}
}

// TestLedgersOfEveryCouple has each two ids paired alone, and with all others around them.
func TestLedgersOfEveryCouple(t *testing.T) {
	for b := range impl.MaxIds {
		for a := range b {
			alone := run(t, nil, join(b), join(a), link(b, a, 0, 0, 1), clearAll())
			around := run(t, alone, clearAll())
			for id := range impl.MaxIds {
				if id != a && id != b && len(impl.Active(around)) < impl.MaxPool {
					around = run(t, around, join(id))
				}
			}
			around = run(t, around, clearAll())
			for _, m := range [][]impl.Pair{alone, around} {
				couples, _ := impl.CouplesOf(m, 0)
				if shown := fmt.Sprintf("round 0: %d+%d; alone:", a, b); impl.ShowRound(m, 0) != shown || !slices.Equal(couples, couplesOf(a, b)) {
					t.Errorf("of %d and %d are told %v, %q", a, b, couples, impl.ShowRound(m, 0))
				}
				ledgerAs(t, "a couple", m)
				isPromised(t, "a couple", m)
			}
		}
	}
}

// TestLedgersOfEachKindOfState has the states of other tests that asks have made.
func TestLedgersOfEachKindOfState(t *testing.T) {
	for what, m := range map[string][]impl.Pair{
		"mixed": mixedHall(t), "three rounds": threeRounds(t), "all ids in the hall": run(t, nil, joins(allPlaces(12)...)...),
		"nine paired, and one more round": run(t, nil, append(append(joins(allPlaces(9)...), linksOfAll(allPlaces(9), 50, 50, 50)...), clearAll(), clearAll())...),
	} {
		ledgerAs(t, what, m)
		isPromised(t, what, m)
	}
	nine := run(t, nil, append(append(joins(allPlaces(9)...), linksOfAll(allPlaces(9), 50, 50, 50)...), clearAll())...)
	if total := mustTotal(t, "nine", nine); total != (impl.Total{Rounds: 1, Paired: 8, Here: 1, Sums: impl.Sums{W1: 200, W2: 200, W3: 200}}) {
		t.Errorf("of nine that are linked each with each Totals are %+v", total)
	}
}

// TestLedgersOfOtherHalls has right states that no asks lead to: each function goes by its own words there, and totals come to all ids.
func TestLedgersOfOtherHalls(t *testing.T) {
	m := threeRounds(t)
	again := withPair(withPair(m, "q03", valueAt(m, "q01")), "r0300", valueAt(m, "r0100"))
	for what, c := range map[string]struct {
		m    []impl.Pair
		id   int
		want mated
		ok   bool
	}{
		"of a couple":                               {m, 6, mated{7, 1}, true},
		"paired in a round of others":               {withPair(m, "v08", "p0"), 8, mated{}, false},
		"paired in a round of none":                 {withPair(m, "v08", "p2"), 8, mated{}, false},
		"paired in a round whose pool it is not of": {withPair(m, "v10", "p1"), 10, mated{}, false},
		"of a couple, and in the hall":              {withPair(m, "v06", "a"), 6, mated{}, false},
		"of a couple, and left":                     {withPair(m, "v06", "l"), 6, mated{}, false},
		"of a couple, the other one left":           {withPair(m, "v06", "l"), 7, mated{6, 1}, true},
		"of a couple, and of another round":         {withPair(m, "v06", "p0"), 6, mated{}, false},
		"one couple in two rounds":                  {again, 7, mated{6, 1}, true},
		"one couple in two rounds, the later told":  {withPair(again, "v07", "p3"), 7, mated{6, 3}, true},
		"another mate in another round":             {withPair(withPair(again, "q03", "\x07\x09"), "v07", "p3"), 7, mated{9, 3}, true},
		"a certificate of no couple":                {withPair(m, "r0100", varsOf(2, 0, 0, 0, 0, 0)), 6, mated{}, false},
		"a ring that no solver tells":               {ringHall("p0", "p0", "a", "p0", "p0"), 4, mated{3, 0}, true},
		"a ring, one of it alone":                   {ringHall("p0", "p0", "p0", "p0", "p0"), 2, mated{}, false},
		"other links than in the certificate":       {without(m, "e0607"), 6, mated{7, 1}, true},
		"a map of MaxPairs":                         {bulkyHall(12, 54, 6).with("p5", 0, 1, 8).pairs(), 0, mated{1, 5}, true},
	} {
		ledgerAs(t, what, c.m)
		roundsAreWhole(t, what, c.m)
		if mate, at, ok := impl.WhoWith(c.m, c.id); mate != c.want.with || at != c.want.round || ok != c.ok {
			t.Errorf("%s: WhoWith %d is %d, %d, %v, not %+v, %v", what, c.id, mate, at, ok, c.want, c.ok)
		}
		if total := mustTotal(t, what, c.m); total.Paired+total.Here+total.Left != len(impl.Ids(c.m)) {
			t.Errorf("%s: Totals are %+v, of the ids %v", what, total, impl.Ids(c.m))
		}
	}
	full := bulkyHall(12, 54, 6)
	if total := mustTotal(t, "full", full.pairs()); total != (impl.Total{Rounds: 6, Here: 12, Sums: impl.Sums{W1: 1200, W2: 1200, W3: 1200}}) {
		t.Errorf("of six rounds of the most worth Totals are %+v", total)
	}
}

func TestNothingIsToldOfWrongStates(t *testing.T) {
	for what, c := range wrongStates(t) {
		refusesLedger(t, what, c.m)
	}
	for what, m := range wrongMaps() {
		refusesLedger(t, what, m)
	}
	refusesLedger(t, "long texts", mapOf(someBytes(100000), someBytes(100000)))
}

// TestLedgersOfTurnedStates has maps that differ at one place from right ones.
func TestLedgersOfTurnedStates(t *testing.T) {
	small := run(t, nil, append(joins(0, 9, 10), link(9, 10, 0, 1, 0), leave(0), clearAll(), join(11), clearAll())...)
	right, wrong := 0, 0
	for _, m := range [][]impl.Pair{small, mixedHall(t), ringHall("p0", "p0", "l", "p0", "p0")} {
		for _, turned := range turnsOf(m) {
			if len(stateFaults(turned)) != 0 {
				refusesLedger(t, "turned", turned)
				wrong++
				continue
			}
			ledgerAs(t, "turned", turned)
			right++
		}
	}
	if right < 50 || wrong < 500 {
		t.Errorf("%d turned maps were right, %d not", right, wrong)
	}
}

// ledgerText tells all of a map as one text.
func ledgerText(m []impl.Pair) string {
	var out []any
	total, ok := impl.Totals(m)
	out = append(out, total, ok)
	for n := -1; n <= impl.MaxIds; n++ {
		mate, at, isPaired := impl.WhoWith(m, n)
		couples, isRound := impl.CouplesOf(m, n)
		out = append(out, mate, at, isPaired, len(couples), couples, isRound, impl.Turn(m, n), impl.ShowRound(m, n))
	}
	return fmt.Sprintf("%q", out)
}

func statesToTell(t *testing.T) map[string][]impl.Pair {
	t.Helper()
	out := statesToAsk(t)
	maps.Copy(out, map[string][]impl.Pair{"a round of nobody": run(t, nil, clearAll()), "a ring": ringHall("p0", "p0", "l", "p0", "p0")})
	return out
}

// TestLedgersWriteIntoNothing lays pairs that would be right, and others, behind each map, where they count for nothing.
func TestLedgersWriteIntoNothing(t *testing.T) {
	for what, plain := range statesToTell(t) {
		for _, spare := range [][]impl.Pair{mapOf("a", "v11"), mapOf("spare", "zz", "a")} {
			roomy := append(slices.Clone(plain), spare...)
			held := slices.Clone(roomy)
			if got, want := ledgerText(roomy[:len(plain)]), ledgerText(plain); got != want {
				t.Errorf("%s: told apart by what stands behind the map: %s, not %s", what, got, want)
			}
			if !slices.Equal(roomy, held) {
				t.Errorf("%s: of %q became %q", what, held, roomy)
			}
		}
	}
}

// TestLedgersShareNothing turns what was handed in, and then what was handed back.
func TestLedgersShareNothing(t *testing.T) {
	for what, m := range statesToTell(t) {
		held := ledgerText(m)
		for n := range impl.MaxRounds {
			given := slices.Clone(m)
			couples, _ := impl.CouplesOf(given, n)
			other, _ := impl.CouplesOf(given, n)
			shown, was := impl.ShowRound(given, n), slices.Clone(couples)
			sharesNoText(t, what, shown, textsOfMap(given))
			for i := range given {
				given[i] = impl.Pair{Key: "turned"}
			}
			for i := range other[:cap(other)] {
				other[:cap(other)][i] = impl.Couple{A: -77, B: -77}
			}
			if !slices.Equal(couples, was) {
				t.Errorf("%s: the couples %v of the round %d became %v", what, was, n, couples)
			}
		}
		if again := ledgerText(m); again != held {
			t.Errorf("%s: told %s, and then %s", what, held, again)
		}
	}
}

// Ledgers are told to many sides at once: each is as if it were alone.
func TestLedgersAtOnce(t *testing.T) {
	m := threeRounds(t)
	want, done := ledgerText(m), make(chan bool)
	for range 8 {
		go func() {
			isWell := true
			for range 20 {
				isWell = isWell && ledgerText(m) == want
			}
			done <- isWell
		}()
	}
	for range 8 {
		if !<-done {
			t.Error("a ledger beside others is another one")
		}
	}
}
