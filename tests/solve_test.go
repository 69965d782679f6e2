package tests

import (
	"fmt"
	"math"
	"slices"
	"strings"
	"testing"

	"loop.example/g00105/impl"
)

func sameGroup(a, b impl.Group) bool {
	return a.Z == b.Z && slices.Equal(a.Members, b.Members)
}

func sameSolution(a, b solution) bool {
	return a.rounds == b.rounds && slices.Equal(a.pairs, b.pairs) && slices.Equal(a.proof.Y, b.proof.Y) && slices.EqualFunc(a.proof.Groups, b.proof.Groups, sameGroup)
}

func mustSolve(t *testing.T, g impl.Graph) solution {
	t.Helper()
	pairs, proof, ok := impl.Solve(g)
	rounds := impl.Rounds(g)
	if !ok || rounds < 1 {
		t.Fatalf("of %+v Solve is %v, Rounds %d", g, ok, rounds)
	}
	return solution{pairs: pairs, proof: proof, rounds: rounds}
}

func refusesToSolve(t *testing.T, what string, g impl.Graph) {
	t.Helper()
	if pairs, proof, ok := impl.Solve(g); ok || len(pairs) != 0 || len(proof.Y) != 0 || len(proof.Groups) != 0 {
		t.Errorf("%s: Solve(%+v) = %v, %+v, %v", what, g, pairs, proof, ok)
	}
	if rounds := impl.Rounds(g); rounds != -1 {
		t.Errorf("%s: Rounds(%+v) = %d", what, g, rounds)
	}
}

// thirdWorths has edges of a W3 alone, so that their Scalar is it: A, B and W3 of each, one behind the other.
func thirdWorths(size int, numbers ...int) impl.Graph {
	g := impl.Graph{Size: size}
	for e := range slices.Chunk(numbers, 3) {
		g.Edges = append(g.Edges, impl.Edge{A: e[0], B: e[1], W3: e[2]})
	}
	return g
}

// nearWorths draws third worths that lie near to each other, which makes many rings.
func (d *draws) nearWorths(size, inHundred, least, many int) impl.Graph {
	g := impl.Graph{Size: size}
	for a := range size {
		for b := a + 1; b < size; b++ {
			if d.below(100) < inHundred {
				g.Edges = append(g.Edges, impl.Edge{A: a, B: b, W3: least + d.below(many)})
			}
		}
	}
	return g
}

// solveGraphs has the graphs of the pairings, and drawn ones of all sizes, sparse and full, with few and with many ties.
func solveGraphs() []impl.Graph {
	out := matchGraphs()
	draw := draws(10)
	for size := 2; size <= impl.MaxPool; size++ {
		for _, inHundred := range []int{20, 35, 50, 65, 80, 100} {
			for range 3 + size {
				for _, many := range []int{1, 2, 4, 8, 20} {
					out = append(out, draw.nearWorths(size, inHundred, draw.below(20), many))
				}
				g := draw.graph(size, inHundred)
				out = append(out, g, draw.worthsOfFew(g, 2), draw.worthsOfFew(g, 5))
			}
		}
	}
	return out
}

// everyGraph tells all graphs of so many vertices whose edges are none or have one of these third worths.
func everyGraph(size int, worths []int, tell func(impl.Graph)) {
	ends := fullGraph(size).Edges
	var from func(at int, g impl.Graph)
	from = func(at int, g impl.Graph) {
		if at == len(ends) {
			tell(g)
			return
		}
		from(at+1, g)
		for _, worth := range worths {
			edges := append(slices.Clone(g.Edges), impl.Edge{A: ends[at].A, B: ends[at].B, W3: worth})
			from(at+1, impl.Graph{Size: size, Edges: edges})
		}
	}
	from(0, impl.Graph{Size: size})
}

// proofFault says why a proof that was told with a pairing is not what the document asks of the two.
func proofFault(g impl.Graph, s solution) string {
	if fault := checkFault(g, s.proof); fault != "" {
		return fault
	}
	for i := 1; i < len(s.proof.Groups); i++ {
		if slices.Compare(s.proof.Groups[i-1].Members, s.proof.Groups[i].Members) >= 0 {
			return "Groups that are not in order"
		}
	}
	for v, y := range s.proof.Y {
		isAlone := !slices.ContainsFunc(s.pairs, func(c impl.Couple) bool { return c.A == v || c.B == v })
		if isAlone && y != 0 {
			return "a y that is not 0 of a vertex without a couple"
		}
	}
	if twiceByHand(s.proof) != 2*scalarsByHand(g, s.pairs) {
		return "the Scalars are not what y and the Groups tell"
	}
	return ""
}

func isCertifiedBest(t *testing.T, g impl.Graph) {
	t.Helper()
	s := mustSolve(t, g)
	if sums, best := mustSum(t, g, s.pairs), mustBest(t, g); sums != best {
		t.Fatalf("of %+v Solve pairs %v with %+v, not %+v", g, s.pairs, sums, best)
	}
	if fault := proofFault(g, s); fault != "" {
		t.Fatalf("of %+v Solve tells %+v: %s", g, s, fault)
	}
	if !impl.Certifies(g, s.pairs, s.proof) {
		t.Fatalf("of %+v Solve tells %+v, which Certifies refuses", g, s)
	}
}

func TestSolvedIsBestAndCertified(t *testing.T) {
	for _, g := range solveGraphs() {
		isCertifiedBest(t, g)
	}
}

func TestEverySmallGraphIsSolvedBest(t *testing.T) {
	for size := range 4 {
		everyGraph(size, []int{0, 1, 2, 3, 5}, func(g impl.Graph) { isCertifiedBest(t, g) })
	}
	everyGraph(4, []int{0, 1, 2}, func(g impl.Graph) { isCertifiedBest(t, g) })
	everyGraph(5, []int{4}, func(g impl.Graph) { isCertifiedBest(t, g) })
	everyGraph(6, []int{1}, func(g impl.Graph) { isCertifiedBest(t, g) })
}

func isSolvedByRounds(t *testing.T, g impl.Graph) {
	t.Helper()
	got := mustSolve(t, g)
	if want, told := slowSolution(g); !sameSolution(got, want) {
		t.Fatalf("of %+v is solved %+v, not %+v; the rounds: %v", g, got, want, told)
	}
}

func TestSolvedAsByPlainRounds(t *testing.T) {
	for _, g := range solveGraphs() {
		isSolvedByRounds(t, g)
	}
	for size := range 4 {
		everyGraph(size, []int{0, 1, 2, 3}, func(g impl.Graph) { isSolvedByRounds(t, g) })
	}
	everyGraph(4, []int{0, 1, 2}, func(g impl.Graph) { isSolvedByRounds(t, g) })
	everyGraph(5, []int{3}, func(g impl.Graph) { isSolvedByRounds(t, g) })
}

// A reckoned graph has what the document's rounds do with it, and what is told then: small graphs were reckoned by hand, the greater ones were looked for among drawn graphs and have what the plain rounds tell of them. pairs has A and B of each couple, one behind the other.
type reckoned struct {
	g      impl.Graph
	told   string
	pairs  []int
	y      []int
	groups []impl.Group
	rounds int
}

func (r reckoned) solution() solution {
	out := solution{proof: impl.Proof{Y: r.y, Groups: r.groups}, rounds: r.rounds}
	for c := range slices.Chunk(r.pairs, 2) {
		out.pairs = append(out.pairs, impl.Couple{A: c[0], B: c[1]})
	}
	return out
}

func isSolvedAsReckoned(t *testing.T, all map[string]reckoned) {
	t.Helper()
	for what, r := range all {
		if got := mustSolve(t, r.g); !sameSolution(got, r.solution()) {
			t.Errorf("%s: of %+v is solved %+v, not %+v", what, r.g, got, r.solution())
		}
		slow, told := slowSolution(r.g)
		if !sameSolution(slow, r.solution()) || strings.Join(told, "; ") != r.told {
			t.Errorf("%s: the plain rounds of %+v tell %+v, not %+v: %s", what, r.g, slow, r.solution(), strings.Join(told, "; "))
		}
		isCertifiedBest(t, r.g)
	}
}

func TestWaysAndPairsByHand(t *testing.T) {
	isSolvedAsReckoned(t, map[string]reckoned{
		"no vertex": {g: impl.Graph{}, told: "none even", rounds: 1},
		"a vertex":  {g: impl.Graph{Size: 1}, told: "shift 0", y: []int{0}, rounds: 1},
		"an edge": {g: thirdWorths(2, 0, 1, 3),
			told: "pair 0,1; none even", pairs: []int{0, 1}, y: []int{3, 3}, rounds: 2},
		"an edge of no worth": {g: thirdWorths(2, 0, 1, 0),
			told: "pair 0,1; none even", pairs: []int{0, 1}, y: []int{0, 0}, rounds: 2},
		"an edge of three worths": {g: impl.Graph{Size: 2, Edges: []impl.Edge{{A: 0, B: 1, W1: 2, W2: 3, W3: 4}}},
			told: "pair 0,1; none even", pairs: []int{0, 1}, y: []int{180904, 180904}, rounds: 2},
		"an edge, and one alone": {g: thirdWorths(3, 0, 2, 4),
			told: "pair 0,2; shift 4", pairs: []int{0, 2}, y: []int{4, 0, 4}, rounds: 2},
		"two edges, the greater one first": {g: thirdWorths(4, 0, 1, 2, 2, 3, 5),
			told: "pair 2,3; shift 3; pair 0,1; none even", pairs: []int{0, 1, 2, 3}, y: []int{2, 2, 5, 5}, rounds: 4},
		"a way of three, both tight: the first one": {g: thirdWorths(3, 0, 1, 3, 1, 2, 3),
			told: "pair 0,1; shift 3", pairs: []int{0, 1}, y: []int{0, 6, 0}, rounds: 2},
		"a star, all tight: the first one": {g: thirdWorths(4, 0, 3, 2, 1, 3, 2, 2, 3, 2),
			told: "pair 0,3; shift 2", pairs: []int{0, 3}, y: []int{0, 0, 0, 4}, rounds: 2},
		"a star, the last one greater": {g: thirdWorths(4, 0, 3, 2, 1, 3, 2, 2, 3, 3),
			told: "pair 2,3; shift 2; shift 1", pairs: []int{2, 3}, y: []int{0, 0, 2, 4}, rounds: 3},
		"a way of four, its midst greater": {g: thirdWorths(4, 0, 1, 2, 1, 2, 3, 2, 3, 2),
			told: "pair 1,2; shift 2; pair 2,3; none even", pairs: []int{0, 1, 2, 3}, y: []int{1, 3, 3, 1}, rounds: 4},
		"a way of four, its midst as great as both": {g: thirdWorths(4, 0, 1, 2, 1, 2, 4, 2, 3, 2),
			told: "pair 1,2; shift 4", pairs: []int{1, 2}, y: []int{0, 4, 4, 0}, rounds: 2},
		"a way of six, from its midst on": {g: thirdWorths(6, 0, 1, 4, 1, 2, 5, 2, 3, 4, 3, 4, 5, 4, 5, 4),
			told: "pair 1,2; pair 3,4; shift 2; shift 1; pair 4,5; none even", pairs: []int{0, 1, 2, 3, 4, 5}, y: []int{2, 6, 4, 4, 6, 2}, rounds: 6},
	})
}

func TestRingsAndTheirGroups(t *testing.T) {
	isSolvedAsReckoned(t, map[string]reckoned{
		"of three": {g: thirdWorths(3, 0, 1, 2, 0, 2, 2, 1, 2, 2),
			told: "pair 0,1; ring 3: 2,0,1; shift 2; open 3 by base 2, ending", pairs: []int{0, 1}, y: []int{0, 0, 0}, groups: []impl.Group{{Members: []int{0, 1, 2}, Z: 4}}, rounds: 3},
		"of three, of no worth": {g: thirdWorths(3, 0, 1, 0, 0, 2, 0, 1, 2, 0),
			told: "pair 0,1; ring 3: 2,0,1; shift 0; open 3 by base 2, ending", pairs: []int{0, 1}, y: []int{0, 0, 0}, rounds: 3},
		"of five": {g: thirdWorths(5, 0, 1, 1, 0, 4, 1, 1, 2, 1, 2, 3, 1, 3, 4, 1),
			told: "pair 0,1; pair 1,2; ring 5: 3,4,0,1,2; shift 1; open 5 by base 3, ending", pairs: []int{0, 4, 1, 2}, y: make([]int, 5), groups: []impl.Group{{Members: []int{0, 1, 2, 3, 4}, Z: 2}}, rounds: 4},
		"of seven": {g: thirdWorths(7, 0, 1, 1, 0, 6, 1, 1, 2, 1, 2, 3, 1, 3, 4, 1, 4, 5, 1, 5, 6, 1),
			told: "pair 0,1; pair 1,2; pair 3,4; ring 7: 5,6,0,1,2,3,4; shift 1; open 7 by base 5, ending", pairs: []int{0, 6, 1, 2, 3, 4}, y: make([]int, 7), groups: []impl.Group{{Members: []int{0, 1, 2, 3, 4, 5, 6}, Z: 2}}, rounds: 5},
		"of nine": {g: thirdWorths(9, 0, 1, 1, 0, 8, 1, 1, 2, 1, 2, 3, 1, 3, 4, 1, 4, 5, 1, 5, 6, 1, 6, 7, 1, 7, 8, 1),
			told: "pair 0,1; pair 1,2; pair 3,4; pair 5,6; ring 9: 7,8,0,1,2,3,4,5,6; shift 1; open 9 by base 7, ending", pairs: []int{0, 8, 1, 2, 3, 4, 5, 6}, y: make([]int, 9), groups: []impl.Group{{Members: []int{0, 1, 2, 3, 4, 5, 6, 7, 8}, Z: 2}}, rounds: 6},
		"two apart, of z that differ": {g: thirdWorths(6, 0, 2, 8, 0, 4, 8, 1, 3, 7, 1, 5, 7, 2, 4, 9, 3, 5, 8),
			told:  "pair 2,4; shift 1; pair 3,5; shift 1; ring 6: 0,4,2; shift 1; ring 7: 1,5,3; shift 6; open 6 by base 0, ending; open 7 by base 1, ending",
			pairs: []int{2, 4, 3, 5}, y: []int{0, 0, 2, 2, 2, 2}, groups: []impl.Group{{Members: []int{0, 2, 4}, Z: 14}, {Members: []int{1, 3, 5}, Z: 12}}, rounds: 8},
		"one within another, whose Members go on from its own": {g: thirdWorths(5, 0, 1, 5, 0, 2, 5, 1, 2, 4, 1, 4, 3, 2, 3, 2, 3, 4, 2),
			told:  "pair 0,1; shift 1; ring 5: 2,0,1; shift 1; pair 1,4; shift 2; ring 6: 3,4,5; shift 1; open 6 by base 3, ending; open 5 by mate 1, ending",
			pairs: []int{0, 2, 1, 4}, y: []int{4, 2, 2, 0, 2}, groups: []impl.Group{{Members: []int{0, 1, 2}, Z: 2}, {Members: []int{0, 1, 2, 3, 4}, Z: 2}}, rounds: 8},
		"one within another, which begins as it and is ahead": {g: thirdWorths(5, 0, 1, 10, 0, 2, 10, 0, 3, 10, 0, 4, 8, 1, 3, 10, 2, 4, 10),
			told:  "pair 0,1; pair 1,3; ring 5: 0,3,1; shift 2; ring 6: 4,5,2; shift 8; open 6 by base 4, ending; open 5 by mate 0, ending",
			pairs: []int{0, 2, 1, 3}, y: []int{0, 0, 4, 0, 0}, groups: []impl.Group{{Members: []int{0, 1, 2, 3, 4}, Z: 16}, {Members: []int{0, 1, 3}, Z: 4}}, rounds: 6},
		"four, each within the next one": {g: thirdWorths(9, 0, 5, 8, 0, 7, 11, 1, 4, 8, 1, 6, 6, 1, 7, 6, 2, 4, 11, 2, 6, 10, 3, 5, 11, 3, 8, 11, 4, 5, 7, 5, 7, 8, 5, 8, 8),
			told: "pair 0,7; pair 2,4; pair 3,5; shift 2; shift 1; ring 9: 8,3,5; shift 1; pair 2,6; shift 2; ring 10: 9,7,0; shift 2; shift 1; ring 11: 10,1,4; shift 1; ring 12: 11,6,2; shift 1; " +
				"open 12 by base 8, ending; open 11 by base 8, ending; open 10 by base 8, ending; open 9 by base 8, ending",
			pairs: []int{0, 7, 1, 4, 2, 6, 3, 5}, y: []int{6, 2, 10, 6, 10, 0, 8, 6, 0},
			groups: []impl.Group{{Members: []int{0, 1, 2, 3, 4, 5, 6, 7, 8}, Z: 2}, {Members: []int{0, 1, 3, 4, 5, 7, 8}, Z: 2}, {Members: []int{0, 3, 5, 7, 8}, Z: 6}, {Members: []int{3, 5, 8}, Z: 6}}, rounds: 16},
	})
}

func TestRingsOpenedInARoundThatPairs(t *testing.T) {
	isSolvedAsReckoned(t, map[string]reckoned{
		"by its base": {g: thirdWorths(5, 0, 1, 0, 0, 4, 0, 1, 4, 0, 2, 3, 0, 2, 4, 0),
			told: "pair 0,1; ring 5: 4,0,1; pair 2,3; open 5 by base 4, pairing; ring 6: 4,0,1; shift 0; open 6 by base 4, ending", pairs: []int{0, 1, 2, 3}, y: make([]int, 5), rounds: 5},
		"by its mate edge": {g: thirdWorths(5, 0, 1, 21, 1, 2, 22, 1, 3, 22, 2, 3, 22, 2, 4, 22),
			told: "pair 1,2; ring 5: 3,1,2; pair 2,4; open 5 by mate 2, pairing; shift 2; shift 20", pairs: []int{1, 3, 2, 4}, y: []int{0, 42, 42, 2, 2}, rounds: 5},
		"with one within, by their mate edge": {g: thirdWorths(6, 0, 1, 1, 0, 3, 1, 1, 2, 1, 1, 4, 1, 2, 4, 1, 3, 4, 1, 4, 5, 1),
			told: "pair 0,1; pair 1,2; ring 6: 4,1,2; ring 7: 6,0,3; pair 4,5; open 7 by mate 4, pairing; open 6 by mate 4, pairing; none even", pairs: []int{0, 3, 1, 2, 4, 5}, y: []int{1, 1, 1, 1, 1, 1}, rounds: 6},
		"with one within, by their base": {g: thirdWorths(7, 0, 1, 5, 0, 2, 5, 0, 4, 5, 0, 6, 5, 1, 4, 5, 2, 4, 5, 2, 6, 5, 3, 5, 5, 4, 6, 5),
			told:  "pair 0,1; pair 1,4; ring 7: 6,0,2; ring 8: 7,4,1; pair 3,5; open 8 by base 6, pairing; open 7 by base 6, pairing; ring 9: 6,0,2; ring 10: 9,4,1; shift 5; open 10 by base 6, ending; open 9 by base 6, ending",
			pairs: []int{0, 2, 1, 4, 3, 5}, y: []int{0, 0, 0, 5, 0, 5, 0}, groups: []impl.Group{{Members: []int{0, 1, 2, 4, 6}, Z: 10}}, rounds: 8},
		"without a label": {g: thirdWorths(9, 0, 2, 20, 0, 8, 20, 1, 2, 22, 1, 3, 22, 1, 5, 22, 1, 7, 21, 1, 8, 21, 2, 4, 22, 3, 4, 22, 3, 5, 22, 4, 6, 20, 4, 8, 20, 6, 8, 20, 7, 8, 20),
			told: "pair 1,2; pair 2,4; ring 9: 5,1,3; ring 10: 9,4,2; shift 1; pair 1,7; shift 1; open 10 by mate 1, shifting; pair 0,8; open 9 by mate 1, pairing; shift 2; ring 11: 6,8,0,2,4; shift 1; " +
				"ring 12: 11,1,7; ring 13: 12,5,3; shift 17; open 13 by base 6, ending; open 12 by base 6, ending; open 11 by base 6, ending",
			pairs: []int{0, 8, 1, 7, 2, 4, 3, 5}, y: []int{0, 6, 4, 6, 4, 4, 0, 2, 4}, groups: []impl.Group{{Members: []int{0, 1, 2, 3, 4, 5, 6, 7, 8}, Z: 34}, {Members: []int{0, 2, 4, 6, 8}, Z: 2}}, rounds: 14},
	})
}

func TestRingsOpenedInARoundWithoutAnEdge(t *testing.T) {
	isSolvedAsReckoned(t, map[string]reckoned{
		"of three": {g: thirdWorths(5, 0, 1, 8, 0, 3, 5, 0, 4, 8, 1, 2, 7, 1, 4, 8),
			told: "pair 0,1; ring 5: 4,0,1; shift 1; pair 1,2; shift 4; shift 1; open 5 by mate 1, shifting; shift 2", pairs: []int{0, 4, 1, 2}, y: []int{10, 10, 4, 0, 6}, rounds: 7},
		"of three, and then all are paired": {g: thirdWorths(6, 0, 2, 5, 0, 3, 4, 0, 5, 5, 1, 5, 4, 2, 4, 4, 2, 5, 5),
			told: "pair 0,2; ring 6: 5,0,2; shift 1; pair 0,3; shift 1; open 6 by mate 0, shifting; pair 2,4; none even", pairs: []int{0, 3, 1, 5, 2, 4}, y: []int{5, 3, 5, 3, 3, 5}, rounds: 7},
		"of five": {g: thirdWorths(7, 0, 1, 6, 0, 6, 4, 1, 5, 6, 2, 4, 5, 2, 5, 6, 2, 6, 6, 3, 6, 3),
			told: "pair 0,1; pair 2,5; shift 2; ring 7: 6,0,1,5,2; shift 1; pair 2,4; shift 1; open 7 by mate 2, shifting; shift 2", pairs: []int{0, 6, 1, 5, 2, 4}, y: []int{2, 10, 10, 0, 0, 2, 6}, rounds: 8},
		"of seven": {g: thirdWorths(9, 0, 6, 10, 1, 4, 9, 1, 6, 11, 1, 7, 12, 2, 3, 7, 2, 5, 9, 2, 6, 9, 2, 7, 12, 3, 4, 11, 3, 5, 11, 4, 6, 11, 4, 7, 9, 6, 8, 7),
			told:  "pair 1,7; shift 1; pair 2,7; pair 3,4; shift 2; ring 9: 5,3,4,6,1,7,2; shift 1; pair 0,6; shift 6; shift 1; open 9 by mate 6, shifting; shift 1",
			pairs: []int{0, 6, 1, 7, 2, 5, 3, 4}, y: []int{6, 9, 9, 13, 9, 9, 14, 15, 0}, rounds: 11},
		"with one within that is opened in the next one": {g: thirdWorths(7, 0, 3, 7, 1, 2, 8, 1, 6, 8, 2, 3, 8, 2, 4, 8, 2, 6, 8, 3, 4, 8, 3, 6, 8, 5, 6, 7),
			told:  "pair 1,2; pair 2,3; ring 7: 4,2,3; ring 8: 7,6,1; shift 1; pair 0,3; shift 1; open 8 by mate 3, shifting; shift 0; open 7 by mate 3, shifting; shift 6",
			pairs: []int{0, 3, 1, 6, 2, 4}, y: []int{0, 2, 14, 14, 2, 0, 14}, rounds: 9},
		"with one within that stays": {g: thirdWorths(9, 0, 2, 21, 0, 4, 20, 0, 7, 20, 1, 3, 20, 1, 4, 21, 1, 5, 23, 1, 7, 25, 1, 8, 24, 2, 3, 23, 2, 4, 26, 2, 5, 24, 2, 7, 23, 2, 8, 25, 3, 4, 27, 3, 6, 24, 3, 7, 22, 4, 5, 23, 4, 6, 24, 4, 7, 23, 4, 8, 20, 5, 6, 21, 5, 7, 23, 5, 8, 24, 7, 8, 26),
			told: "pair 3,4; shift 1; pair 7,8; shift 1; shift 1; pair 2,5; shift 1; ring 9: 1,8,7; ring 10: 9,5,2; shift 1; pair 3,6; shift 4; shift 1; open 10 by mate 2, shifting; ring 11: 4,6,3; shift 2; ring 12: 0,11,2; shift 1; " +
				"ring 13: 12,9,5; shift 14; open 13 by base 0, ending; open 9 by mate 1, ending; open 12 by base 0, ending; open 11 by mate 4, ending",
			pairs: []int{1, 5, 2, 4, 3, 6, 7, 8}, y: []int{0, 8, 12, 10, 10, 10, 4, 12, 10},
			groups: []impl.Group{{Members: []int{0, 1, 2, 3, 4, 5, 6, 7, 8}, Z: 28}, {Members: []int{0, 2, 3, 4, 6}, Z: 2}, {Members: []int{1, 7, 8}, Z: 2}, {Members: []int{3, 4, 6}, Z: 4}}, rounds: 19},
	})
}

// TestOfTwoSpentRingsTheFirstMadeIsOpened has two rings of three whose z is 0 at once. In the first two graphs a greater ring takes in the other one then, so that it is never opened, and there would be another number of rounds if it were opened ahead.
func TestOfTwoSpentRingsTheFirstMadeIsOpened(t *testing.T) {
	isSolvedAsReckoned(t, map[string]reckoned{
		"the first one has the lesser vertices": {g: thirdWorths(9, 0, 1, 12, 0, 2, 12, 0, 8, 9, 1, 2, 12, 1, 6, 10, 2, 7, 10, 3, 4, 12, 3, 5, 12, 3, 8, 9, 4, 5, 12, 5, 7, 10),
			told: "pair 0,1; ring 9: 2,0,1; pair 3,4; open 9 by base 2, pairing; ring 10: 2,0,1; ring 11: 5,3,4; shift 2; pair 1,6; pair 5,7; shift 2; shift 2; open 10 by mate 1, shifting; ring 12: 8,0,2,7,11; shift 6; " +
				"open 12 by base 8, ending; open 11 by mate 5, ending",
			pairs: []int{0, 2, 1, 6, 3, 4, 5, 7}, y: []int{6, 18, 6, 6, 6, 6, 2, 2, 0}, groups: []impl.Group{{Members: []int{0, 2, 3, 4, 5, 7, 8}, Z: 12}}, rounds: 12},
		"the first one has the greater vertices": {g: thirdWorths(9, 0, 1, 12, 0, 2, 12, 0, 8, 9, 1, 2, 12, 1, 6, 10, 3, 4, 14, 3, 5, 14, 3, 8, 10, 4, 5, 14, 4, 7, 12, 5, 6, 11),
			told: "pair 3,4; ring 9: 5,3,4; shift 2; pair 0,1; ring 10: 2,0,1; pair 4,7; open 10 by base 2, pairing; ring 11: 2,0,1; shift 2; pair 1,6; shift 2; shift 2; open 9 by mate 4, shifting; ring 12: 8,3,5,6,11; shift 6; " +
				"open 12 by base 8, ending; open 11 by mate 1, ending",
			pairs: []int{0, 2, 1, 6, 3, 5, 4, 7}, y: []int{6, 6, 6, 8, 20, 8, 2, 4, 0}, groups: []impl.Group{{Members: []int{0, 1, 2, 3, 5, 6, 8}, Z: 12}}, rounds: 13},
		"both are opened, in two rounds": {g: thirdWorths(9, 0, 1, 5, 0, 3, 7, 0, 5, 6, 0, 8, 6, 1, 2, 7, 1, 3, 4, 1, 5, 6, 1, 6, 4, 1, 7, 6, 1, 8, 2, 2, 3, 1, 2, 4, 2, 2, 5, 5, 2, 7, 7, 2, 8, 1, 3, 5, 1, 3, 7, 2, 3, 8, 7, 4, 6, 0, 4, 7, 5, 4, 8, 0, 5, 8, 6, 6, 7, 1, 6, 8, 4),
			told:  "pair 0,3; pair 1,2; shift 1; pair 2,7; ring 9: 8,0,3; ring 10: 1,7,2; shift 1; ring 11: 9,5,10; pair 4,7; open 11 by mate 7, pairing; shift 2; shift 1; open 9 by mate 0, shifting; shift 0; open 10 by mate 7, shifting; shift 2",
			pairs: []int{0, 5, 1, 2, 3, 8, 4, 7}, y: []int{8, 8, 6, 6, 2, 4, 0, 8, 8}, rounds: 13},
	})
}

// TestTightEdgesByTheirOrder has several tight edges at once, so that it is the order of edges alone that tells which of them is taken.
func TestTightEdgesByTheirOrder(t *testing.T) {
	isSolvedAsReckoned(t, map[string]reckoned{
		"a label ahead of a pair": {g: thirdWorths(5, 0, 1, 1, 1, 2, 1, 3, 4, 1),
			told: "pair 0,1; pair 3,4; shift 1", pairs: []int{0, 1, 3, 4}, y: []int{0, 2, 0, 1, 1}, rounds: 3},
		"a ring ahead of a pair": {g: thirdWorths(4, 0, 1, 0, 0, 3, 0, 1, 3, 0, 2, 3, 0),
			told: "pair 0,1; ring 4: 3,0,1; pair 2,3; open 4 by mate 3, pairing; none even", pairs: []int{0, 1, 2, 3}, y: make([]int, 4), rounds: 4},
		"a pair ahead of a label": {g: thirdWorths(6, 0, 1, 0, 0, 2, 0, 1, 2, 0, 1, 5, 0, 3, 4, 0, 3, 5, 0),
			told: "pair 0,1; ring 6: 2,0,1; pair 1,5; open 6 by mate 1, pairing; pair 3,4; none even", pairs: []int{0, 2, 1, 5, 3, 4}, y: make([]int, 6), rounds: 5},
		"both tops even: the one of A is the first": {g: thirdWorths(5, 0, 1, 4, 0, 2, 4, 1, 3, 5, 2, 4, 5, 3, 4, 4),
			told: "pair 1,3; pair 2,4; shift 2; shift 1; ring 5: 0,1,3,4,2; shift 2; open 5 by base 0, ending", pairs: []int{1, 3, 2, 4}, y: []int{0, 4, 4, 2, 2}, groups: []impl.Group{{Members: []int{0, 1, 2, 3, 4}, Z: 4}}, rounds: 6},
		"from the first edge on behind each label": {g: thirdWorths(5, 0, 2, 20, 0, 3, 20, 1, 3, 20, 1, 4, 20, 2, 4, 20, 3, 4, 20),
			told: "pair 0,2; pair 1,3; ring 5: 4,1,3,0,2; shift 20; open 5 by base 4, ending", pairs: []int{0, 2, 1, 3}, y: make([]int, 5), groups: []impl.Group{{Members: []int{0, 1, 2, 3, 4}, Z: 40}}, rounds: 4},
	})
}

func TestGraphsWithoutEdgesAreSolvedAtOnce(t *testing.T) {
	for size := range impl.MaxPool + 1 {
		want := solution{proof: impl.Proof{Y: make([]int, size)}, rounds: 1}
		for _, g := range []impl.Graph{{Size: size}, {Size: size, Edges: []impl.Edge{}}} {
			if got := mustSolve(t, g); !sameSolution(got, want) {
				t.Errorf("of %+v is solved %+v", g, got)
			}
		}
	}
}

// TestAllEdgesAlike has, for an even Size, all paired at the first y; for an odd one a last ring of all vertices, whose z is twice the Scalar.
func TestAllEdgesAlike(t *testing.T) {
	for size := 2; size <= impl.MaxPool; size++ {
		for _, worth := range []int{0, 1, impl.MaxWorth} {
			g := alike(fullGraph(size), worth)
			got, scalar := mustSolve(t, g), 90301*worth
			want := impl.Proof{Y: slices.Repeat([]int{scalar}, size)}
			if size%2 == 1 {
				want.Y = make([]int, size)
			}
			if size%2 == 1 && worth > 0 {
				want.Groups = []impl.Group{{Members: allPlaces(size), Z: 2 * scalar}}
			}
			if len(got.pairs) != size/2 || !slices.Equal(got.proof.Y, want.Y) || !slices.EqualFunc(got.proof.Groups, want.Groups, sameGroup) {
				t.Errorf("all edges of %d vertices, worths of %d, are solved %+v, not %+v", size, worth, got, want)
			}
			isCertifiedBest(t, g)
			isSolvedByRounds(t, g)
		}
	}
}

// TestEdgesOfNoWorthArePaired as y is 0 from the first round on: edges are tight, and are taken ahead of the end.
func TestEdgesOfNoWorthArePaired(t *testing.T) {
	for _, g := range matchGraphs() {
		none := alike(g, 0)
		got, most := mustSolve(t, none), 0
		for _, m := range pairingsOf(none) {
			most = max(most, len(m))
		}
		if len(got.pairs) != most || len(got.proof.Groups) != 0 || slices.ContainsFunc(got.proof.Y, func(y int) bool { return y != 0 }) {
			t.Errorf("of %+v is solved %+v, the most couples are %d", none, got, most)
		}
	}
}

func TestRingsOfAllTurns(t *testing.T) {
	draw := draws(11)
	for size := 3; size <= impl.MaxPool; size += 2 {
		for range 30 {
			turn := allPlaces(size)
			for i := range turn {
				j := draw.below(i + 1)
				turn[i], turn[j] = turn[j], turn[i]
			}
			g := graphThat(size, func(a, b int) bool {
				apart := slices.Index(turn, a) - slices.Index(turn, b)
				return apart == 1 || apart == -1 || apart == size-1 || apart == 1-size
			})
			for _, worth := range []int{1, 7, impl.MaxWorth} {
				got := mustSolve(t, alike(g, worth))
				want := []impl.Group{{Members: allPlaces(size), Z: 2 * 90301 * worth}}
				if len(got.pairs) != size/2 || !slices.EqualFunc(got.proof.Groups, want, sameGroup) || slices.Max(got.proof.Y) != 0 {
					t.Fatalf("the ring %v is solved %+v", turn, got)
				}
				isSolvedByRounds(t, alike(g, worth))
			}
		}
	}
}

func TestWrongGraphsAreNotSolved(t *testing.T) {
	for what, g := range wrongGraphs() {
		refusesToSolve(t, what, g)
	}
	for i := range fullGraph(5).Edges {
		g := fullGraph(5)
		g.Edges[i].A, g.Edges[i].B = g.Edges[i].B, g.Edges[i].A
		refusesToSolve(t, "an edge whose A is above its B", g)
		g = fullGraph(5)
		g.Edges[i].W1 = math.MaxInt
		refusesToSolve(t, "a worth as great as there is", g)
	}
}

func TestLimitsAreSolved(t *testing.T) {
	for _, g := range []impl.Graph{
		{Size: impl.MaxPool}, fullGraph(impl.MaxPool), alike(fullGraph(impl.MaxPool), impl.MaxWorth), thirdWorths(impl.MaxPool, 7, 8, impl.MaxWorth), thirdWorths(impl.MaxPool, 0, 8, 0),
	} {
		isCertifiedBest(t, g)
		isSolvedByRounds(t, g)
	}
}

func TestSolvedGraphsAreNotWrittenInto(t *testing.T) {
	graphs := solveGraphs()
	for _, g := range wrongGraphs() {
		graphs = append(graphs, g)
	}
	for _, plain := range graphs {
		g, room := roomyGraph(plain)
		held := slices.Clone(room)
		pairs, proof, _ := impl.Solve(g)
		rounds := impl.Rounds(g)
		if !slices.Equal(room, held) {
			t.Fatalf("of %v became %v", held, room)
		}
		plainPairs, plainProof, _ := impl.Solve(plain)
		got, want := solution{pairs: pairs, proof: proof, rounds: rounds}, solution{pairs: plainPairs, proof: plainProof, rounds: impl.Rounds(plain)}
		if !sameSolution(got, want) {
			t.Fatalf("%+v is told apart by what stands behind its edges: %+v, not %+v", plain, got, want)
		}
	}
}

// listsOf has all lists of numbers of a proof, with the spare room behind them.
func listsOf(p impl.Proof) [][]int {
	out := [][]int{p.Y[:cap(p.Y)]}
	for _, x := range p.Groups {
		out = append(out, x.Members[:cap(x.Members)])
	}
	return out
}

func TestSolutionsShareNothing(t *testing.T) {
	for _, g := range solveGraphs() {
		held := mustSolve(t, g)
		spoilt := mustSolve(t, g)
		lists := listsOf(spoilt.proof)
		for i, list := range lists {
			for at := range list {
				list[at] = -7 - i
			}
		}
		for i, list := range lists {
			if slices.ContainsFunc(list, func(n int) bool { return n != -7-i }) {
				t.Fatalf("of %+v two lists of one proof share memory", g)
			}
		}
		for at := range spoilt.pairs {
			spoilt.pairs[at] = impl.Couple{A: -1, B: -1}
		}
		for at := range spoilt.proof.Groups {
			spoilt.proof.Groups[at] = impl.Group{}
		}
		if again := mustSolve(t, g); !sameSolution(again, held) {
			t.Fatalf("of %+v is solved %+v, and then %+v", g, held, again)
		}
	}
}

func TestSolvedTheSameWhateverWasSolvedAhead(t *testing.T) {
	graphs := solveGraphs()
	first := make([]string, len(graphs))
	for i, g := range graphs {
		first[i] = fmt.Sprint(mustSolve(t, g))
	}
	for i := len(graphs) - 1; i >= 0; i-- {
		if got := fmt.Sprint(mustSolve(t, graphs[i])); got != first[i] {
			t.Fatalf("of %+v is solved %s, and ahead of that %s", graphs[i], got, first[i])
		}
	}
}
