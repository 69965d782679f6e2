package tests

import (
	"math"
	"slices"
	"testing"

	"loop.example/g00105/impl"
)

// pairingsOf goes from vertex to vertex: each is left alone, or paired with a later one that is not in a couple yet.
func pairingsOf(g impl.Graph) [][]impl.Couple {
	var out [][]impl.Couple
	places := placeByEnds(g)
	in := make([]bool, g.Size)
	var from func(v int, m []impl.Couple)
	from = func(v int, m []impl.Couple) {
		if v == g.Size {
			out = append(out, slices.Clone(m))
			return
		}
		from(v+1, m)
		for w := v + 1; w < g.Size && !in[v]; w++ {
			if _, ok := places[[2]int{v, w}]; ok && !in[w] {
				in[w] = true
				from(v+1, append(slices.Clone(m), impl.Couple{A: v, B: w}))
				in[w] = false
			}
		}
	}
	from(0, nil)
	return out
}

func sumsByHand(g impl.Graph, m []impl.Couple) impl.Sums {
	var out impl.Sums
	places := placeByEnds(g)
	for _, c := range m {
		e := g.Edges[places[[2]int{c.A, c.B}]]
		out.W1, out.W2, out.W3 = out.W1+e.W1, out.W2+e.W2, out.W3+e.W3
	}
	return out
}

func scalarsByHand(g impl.Graph, m []impl.Couple) int {
	out, places := 0, placeByEnds(g)
	for _, c := range m {
		out += impl.Scalar(g.Edges[places[[2]int{c.A, c.B}]])
	}
	return out
}

// isBetter holds the three numbers against each other one by one, from the weightiest on.
func isBetter(a, b impl.Sums) bool {
	left, right := []int{a.W1, a.W2, a.W3}, []int{b.W1, b.W2, b.W3}
	return slices.Compare(left, right) > 0
}

func mustSum(t *testing.T, g impl.Graph, m []impl.Couple) impl.Sums {
	t.Helper()
	sums, ok := impl.SumsOf(g, m)
	if !ok || !impl.MatchOk(g, m) {
		t.Fatalf("of %+v and %v: MatchOk %v, SumsOf %+v, %v", g, m, impl.MatchOk(g, m), sums, ok)
	}
	return sums
}

func refusesToMatch(t *testing.T, what string, g impl.Graph, m []impl.Couple) {
	t.Helper()
	if impl.MatchOk(g, m) {
		t.Errorf("%s: MatchOk(%+v, %v)", what, g, m)
	}
	if sums, ok := impl.SumsOf(g, m); ok || sums != (impl.Sums{}) {
		t.Errorf("%s: SumsOf(%+v, %v) = %+v, %v", what, g, m, sums, ok)
	}
}

func mustBest(t *testing.T, g impl.Graph) impl.Sums {
	t.Helper()
	best, ok := impl.BestSums(g)
	if !ok {
		t.Fatalf("BestSums(%+v) is false", g)
	}
	return best
}

// worthsOfFew draws worths from a few numbers, so that many pairings have the same sums.
func (d *draws) worthsOfFew(g impl.Graph, few int) impl.Graph {
	out := impl.Graph{Size: g.Size, Edges: slices.Clone(g.Edges)}
	for i := range out.Edges {
		e := &out.Edges[i]
		e.W1, e.W2, e.W3 = d.below(few), d.below(few), d.below(few)
	}
	return out
}

// matchGraphs has the right graphs as they are, with all worths alike, and with many ties.
func matchGraphs() []impl.Graph {
	var out []impl.Graph
	draw := draws(9)
	for _, g := range rightGraphs() {
		out = append(out, g, alike(g, 0), alike(g, impl.MaxWorth), draw.worthsOfFew(g, 2), draw.worthsOfFew(g, 3))
	}
	return out
}

func TestNoPairingIsBetterThanBestSums(t *testing.T) {
	for _, g := range matchGraphs() {
		best, isThere := mustBest(t, g), false
		for _, m := range pairingsOf(g) {
			sums := mustSum(t, g, m)
			if impl.Better(sums, best) || isBetter(sums, best) {
				t.Fatalf("of %+v, %v has %+v, better than %+v", g, m, sums, best)
			}
			isThere = isThere || sums == best
		}
		if !isThere {
			t.Fatalf("no pairing of %+v has the sums %+v", g, best)
		}
	}
}

func TestSumsOfPairingAreThoseOfItsScalars(t *testing.T) {
	for _, g := range matchGraphs() {
		for _, m := range pairingsOf(g) {
			sums := mustSum(t, g, m)
			if sums != sumsByHand(g, m) {
				t.Fatalf("SumsOf(%+v, %v) = %+v, not %+v", g, m, sums, sumsByHand(g, m))
			}
			if scalar := impl.Scalar(impl.Edge{W1: sums.W1, W2: sums.W2, W3: sums.W3}); scalar != scalarsByHand(g, m) {
				t.Fatalf("of %+v, %v has the Scalars %d, its sums tell %d", g, m, scalarsByHand(g, m), scalar)
			}
		}
	}
}

func TestBestSumsHaveTheMostScalars(t *testing.T) {
	for _, g := range matchGraphs() {
		most := 0
		for _, m := range pairingsOf(g) {
			most = max(most, scalarsByHand(g, m))
		}
		best := mustBest(t, g)
		if scalar := impl.Scalar(impl.Edge{W1: best.W1, W2: best.W2, W3: best.W3}); scalar != most {
			t.Fatalf("of %+v the most Scalars are %d, BestSums tells %d", g, most, scalar)
		}
	}
}

func TestCountMatchesIsHowManyPairingsThereAre(t *testing.T) {
	for _, g := range matchGraphs() {
		if got, want := impl.CountMatches(g), len(pairingsOf(g)); got != want {
			t.Fatalf("CountMatches(%+v) = %d, not %d", g, got, want)
		}
	}
}

func TestCountMatchesByHand(t *testing.T) {
	// All edges: each further vertex is alone, or paired with one of the others. Ways: each count is the two ahead of it together.
	full := []int{1, 1, 2, 4, 10, 26, 76, 232, 764, 2620}
	way := []int{1, 1, 2, 3, 5, 8, 13, 21, 34, 55}
	for size := range impl.MaxPool + 1 {
		for _, c := range []struct {
			what string
			g    impl.Graph
			want int
		}{
			{"no edge", impl.Graph{Size: size}, 1},
			{"all edges", fullGraph(size), full[size]},
			{"a way", graphThat(size, func(a, b int) bool { return b == a+1 }), way[size]},
			{"a star", graphThat(size, func(a, b int) bool { return a == 0 }), max(size, 1)},
			{"a star at the last one", graphThat(size, func(a, b int) bool { return b == size-1 }), max(size, 1)},
			{"couples", graphThat(size, func(a, b int) bool { return a%2 == 0 && b == a+1 }), 1 << (size / 2)},
		} {
			for _, g := range []impl.Graph{c.g, alike(c.g, 0), alike(c.g, impl.MaxWorth)} {
				if got := impl.CountMatches(g); got != c.want {
					t.Errorf("%s of %d vertices: CountMatches is %d, not %d", c.what, size, got, c.want)
				}
			}
		}
	}
}

// TestEverySetOfEdgesIsPairingOrNot takes the edges in their order, so that only vertices in two couples can be wrong; where two couples have one A, they don't ascend either.
func TestEverySetOfEdgesIsPairingOrNot(t *testing.T) {
	for size := range 6 {
		g := fullGraph(size)
		rights := 0
		for set := range 1 << len(g.Edges) {
			var m []impl.Couple
			times := make([]int, size)
			for i, e := range g.Edges {
				if set>>i&1 == 1 {
					m = append(m, impl.Couple{A: e.A, B: e.B})
					times[e.A]++
					times[e.B]++
				}
			}
			if size > 0 && slices.Max(times) > 1 {
				refusesToMatch(t, "a vertex in two couples", g, m)
				continue
			}
			mustSum(t, g, m)
			rights++
		}
		if got := impl.CountMatches(g); got != rights {
			t.Errorf("CountMatches of all edges of %d vertices is %d, not %d", size, got, rights)
		}
	}
}

// TestOnlyPairingsAreRight goes through all lists of two couples of any ends, and of one.
func TestOnlyPairingsAreRight(t *testing.T) {
	for _, g := range []impl.Graph{{Size: 4}, fullGraph(4), graphThat(4, func(a, b int) bool { return b == a+1 }), graphThat(3, func(a, b int) bool { return true })} {
		all := pairingsOf(g)
		right := func(m []impl.Couple) bool {
			return slices.ContainsFunc(all, func(other []impl.Couple) bool { return slices.Equal(m, other) })
		}
		var couples []impl.Couple
		for a := -1; a <= 4; a++ {
			for b := -1; b <= 4; b++ {
				couples = append(couples, impl.Couple{A: a, B: b})
			}
		}
		for _, c := range couples {
			lists := [][]impl.Couple{{c}}
			for _, d := range couples {
				lists = append(lists, []impl.Couple{c, d})
			}
			for _, m := range lists {
				if right(m) {
					mustSum(t, g, m)
				} else {
					refusesToMatch(t, "no pairing", g, m)
				}
			}
		}
	}
}

func TestBestSumsByHand(t *testing.T) {
	for what, c := range map[string]struct {
		edges []impl.Edge
		want  impl.Sums
	}{
		"none":                                  {nil, impl.Sums{}},
		"one edge":                              {[]impl.Edge{{A: 0, B: 1, W1: 1, W2: 2, W3: 3}}, impl.Sums{W1: 1, W2: 2, W3: 3}},
		"one edge of no worth":                  {[]impl.Edge{{A: 0, B: 1}}, impl.Sums{}},
		"one edge of the last worth alone":      {[]impl.Edge{{A: 2, B: 3, W3: 1}}, impl.Sums{W3: 1}},
		"two couples that are one's worth":      {[]impl.Edge{{A: 0, B: 1, W1: 1}, {A: 1, B: 2, W1: 2}, {A: 2, B: 3, W1: 1}}, impl.Sums{W1: 2}},
		"the tie is for W2 of the one":          {[]impl.Edge{{A: 0, B: 1, W1: 1}, {A: 1, B: 2, W1: 2, W2: 1}, {A: 2, B: 3, W1: 1}}, impl.Sums{W1: 2, W2: 1}},
		"the tie is for W2 of the two":          {[]impl.Edge{{A: 0, B: 1, W1: 1, W2: 1}, {A: 1, B: 2, W1: 2, W3: 50}, {A: 2, B: 3, W1: 1}}, impl.Sums{W1: 2, W2: 1}},
		"the tie of both is for W3 of the one":  {[]impl.Edge{{A: 0, B: 1, W1: 1, W2: 1}, {A: 1, B: 2, W1: 2, W2: 2, W3: 7}, {A: 2, B: 3, W1: 1, W2: 1, W3: 6}}, impl.Sums{W1: 2, W2: 2, W3: 7}},
		"the tie of both is for W3 of the two":  {[]impl.Edge{{A: 0, B: 1, W1: 1, W2: 1, W3: 4}, {A: 1, B: 2, W1: 2, W2: 2, W3: 7}, {A: 2, B: 3, W1: 1, W2: 1, W3: 4}}, impl.Sums{W1: 2, W2: 2, W3: 8}},
		"all three the same":                    {[]impl.Edge{{A: 0, B: 1, W1: 1, W2: 2, W3: 3}, {A: 1, B: 2, W1: 2, W2: 4, W3: 6}, {A: 2, B: 3, W1: 1, W2: 2, W3: 3}}, impl.Sums{W1: 2, W2: 4, W3: 6}},
		"more couples of less W1":               {[]impl.Edge{{A: 0, B: 1, W2: 50, W3: 50}, {A: 1, B: 2, W1: 1}, {A: 2, B: 3, W2: 50, W3: 50}}, impl.Sums{W1: 1}},
		"more couples of the same W1, less W2":  {[]impl.Edge{{A: 0, B: 1, W1: 1, W3: 50}, {A: 1, B: 2, W1: 2, W2: 1}, {A: 2, B: 3, W1: 1, W3: 50}}, impl.Sums{W1: 2, W2: 1}},
		"more couples, no W1, less W2":          {[]impl.Edge{{A: 0, B: 1, W3: 50}, {A: 1, B: 2, W2: 1}, {A: 2, B: 3, W3: 50}}, impl.Sums{W2: 1}},
		"two perfect pairings, W3 tells":        {[]impl.Edge{{A: 0, B: 1, W1: 3, W2: 3, W3: 3}, {A: 0, B: 3, W1: 5, W2: 1, W3: 2}, {A: 1, B: 2, W1: 1, W2: 5, W3: 5}, {A: 2, B: 3, W1: 3, W2: 3, W3: 3}}, impl.Sums{W1: 6, W2: 6, W3: 7}},
		"the first of a star":                   {[]impl.Edge{{A: 0, B: 1, W1: 2, W2: 1, W3: 1}, {A: 0, B: 2, W1: 2, W2: 1}, {A: 0, B: 3, W1: 2, W3: 50}}, impl.Sums{W1: 2, W2: 1, W3: 1}},
		"the last of a star":                    {[]impl.Edge{{A: 0, B: 1, W1: 2, W3: 50}, {A: 0, B: 2, W1: 2, W2: 1}, {A: 0, B: 3, W1: 2, W2: 1, W3: 1}}, impl.Sums{W1: 2, W2: 1, W3: 1}},
		"the best edge is of no best pairing":   {[]impl.Edge{{A: 0, B: 1, W1: 30}, {A: 1, B: 2, W1: 50, W2: 50, W3: 50}, {A: 2, B: 3, W1: 30}}, impl.Sums{W1: 60}},
		"the best edge is of the best pairing":  {[]impl.Edge{{A: 0, B: 1, W1: 25}, {A: 1, B: 2, W1: 50, W3: 1}, {A: 2, B: 3, W1: 25}}, impl.Sums{W1: 50, W3: 1}},
		"a ring of three has one couple of two": {[]impl.Edge{{A: 0, B: 1, W1: 1}, {A: 0, B: 2, W1: 1, W2: 1}, {A: 1, B: 2, W1: 1, W3: 50}}, impl.Sums{W1: 1, W2: 1}},
	} {
		g := impl.Graph{Size: 4, Edges: c.edges}
		if got := mustBest(t, g); got != c.want {
			t.Errorf("%s: BestSums(%+v) = %+v, not %+v", what, g, got, c.want)
		}
	}
}

func TestBestSumsOfAllEdgesAlike(t *testing.T) {
	for size := range impl.MaxPool + 1 {
		for _, worth := range []int{0, 1, impl.MaxWorth} {
			most := size / 2 * worth
			if got := mustBest(t, alike(fullGraph(size), worth)); got != (impl.Sums{W1: most, W2: most, W3: most}) {
				t.Errorf("all edges of %d vertices, worths of %d: BestSums is %+v", size, worth, got)
			}
		}
	}
}

func TestGraphWithoutEdgesHasTheEmptyPairing(t *testing.T) {
	for size := range impl.MaxPool + 1 {
		for _, g := range []impl.Graph{{Size: size}, {Size: size, Edges: []impl.Edge{}}} {
			if best := mustBest(t, g); best != (impl.Sums{}) || impl.CountMatches(g) != 1 {
				t.Errorf("%d vertices without edges: BestSums %+v, CountMatches %d", size, best, impl.CountMatches(g))
			}
			for _, m := range [][]impl.Couple{nil, {}} {
				if sums := mustSum(t, g, m); sums != (impl.Sums{}) {
					t.Errorf("SumsOf(%+v, %v) = %+v", g, m, sums)
				}
			}
			refusesToMatch(t, "a couple where no edge is", g, []impl.Couple{{A: 0, B: 1}})
		}
	}
}

func TestBetter(t *testing.T) {
	numbers := []int{math.MinInt, math.MinInt + 1, -1, 0, 1, 2, 200, math.MaxInt - 1, math.MaxInt}
	var all []impl.Sums
	for _, w1 := range numbers {
		for _, w2 := range numbers {
			for _, w3 := range numbers {
				all = append(all, impl.Sums{W1: w1, W2: w2, W3: w3})
			}
		}
	}
	for _, a := range all {
		for _, b := range all {
			if got := impl.Better(a, b); got != isBetter(a, b) {
				t.Fatalf("Better(%+v, %+v) = %v", a, b, got)
			}
		}
	}
}

func TestBetterByHand(t *testing.T) {
	// Each is better than all that stand ahead of it, and none than itself.
	rising := []impl.Sums{
		{W1: math.MinInt, W2: math.MaxInt, W3: math.MaxInt}, {W1: -1, W2: 9, W3: 9}, {}, {W3: 1}, {W3: math.MaxInt}, {W2: 1}, {W2: 1, W3: 1}, {W2: 2},
		{W1: 1, W2: -5, W3: 300}, {W1: 1}, {W1: 1, W3: 1}, {W1: 1, W2: 1}, {W1: 1, W2: 1, W3: 1}, {W1: 1, W2: 2}, {W1: 2, W2: 1, W3: 1}, {W1: 2, W2: 2, W3: -1},
		{W1: 2, W2: 2, W3: 2}, {W1: 200, W2: 199, W3: 200}, {W1: 200, W2: 200, W3: 199}, {W1: 200, W2: 200, W3: 200}, {W1: math.MaxInt, W2: math.MinInt, W3: math.MinInt},
	}
	for i, a := range rising {
		for j, b := range rising {
			if got := impl.Better(a, b); got != (i > j) {
				t.Errorf("Better(%+v, %+v) = %v", a, b, got)
			}
		}
	}
}

func TestWrongGraphsHaveNoPairings(t *testing.T) {
	for what, g := range wrongGraphs() {
		lists := [][]impl.Couple{nil, {}, {{A: 0, B: 1}}, {{A: 0, B: 1}, {A: 2, B: 3}}, {{A: 1, B: 0}}, {{A: -1, B: 9}}}
		for _, e := range g.Edges {
			lists = append(lists, []impl.Couple{{A: e.A, B: e.B}})
		}
		for _, m := range lists {
			refusesToMatch(t, what, g, m)
		}
		if best, ok := impl.BestSums(g); ok || best != (impl.Sums{}) {
			t.Errorf("%s: BestSums(%+v) = %+v, %v", what, g, best, ok)
		}
		if count := impl.CountMatches(g); count != -1 {
			t.Errorf("%s: CountMatches(%+v) = %d", what, g, count)
		}
	}
}

func TestWrongCouplesAreNoPairing(t *testing.T) {
	full := fullGraph(6)
	way := graphThat(6, func(a, b int) bool { return b == a+1 })
	var every []impl.Couple
	for _, e := range full.Edges {
		every = append(every, impl.Couple{A: e.A, B: e.B})
	}
	for what, m := range map[string][]impl.Couple{
		"two turned":                     {{A: 2, B: 3}, {A: 0, B: 1}},
		"two turned at the end":          {{A: 0, B: 1}, {A: 4, B: 5}, {A: 2, B: 3}},
		"two turned at the beginning":    {{A: 2, B: 3}, {A: 0, B: 1}, {A: 4, B: 5}},
		"one twice":                      {{A: 0, B: 1}, {A: 0, B: 1}},
		"the last one twice":             {{A: 0, B: 1}, {A: 2, B: 3}, {A: 2, B: 3}},
		"twice, others between":          {{A: 0, B: 1}, {A: 2, B: 3}, {A: 0, B: 1}},
		"equal A":                        {{A: 0, B: 1}, {A: 0, B: 2}},
		"equal A, B that falls":          {{A: 0, B: 2}, {A: 0, B: 1}},
		"A equal to B":                   {{A: 1, B: 1}},
		"A equal to B, last":             {{A: 0, B: 1}, {A: 2, B: 2}},
		"A above B":                      {{A: 1, B: 0}},
		"A above B, first":               {{A: 1, B: 0}, {A: 2, B: 3}},
		"A above B, last":                {{A: 0, B: 1}, {A: 3, B: 2}},
		"A below 0":                      {{A: -1, B: 1}},
		"both below 0":                   {{A: -2, B: -1}},
		"B of Size":                      {{A: 5, B: 6}},
		"B of Size, last":                {{A: 0, B: 1}, {A: 4, B: 6}},
		"both above Size":                {{A: 6, B: 7}},
		"B of MaxPool":                   {{A: 0, B: impl.MaxPool}},
		"A far below 0":                  {{A: math.MinInt, B: 1}},
		"B far above Size":               {{A: 0, B: math.MaxInt}},
		"as far as there is":             {{A: math.MinInt, B: math.MaxInt}},
		"as A of one and B of another":   {{A: 0, B: 1}, {A: 1, B: 2}},
		"as B of one, A of the last":     {{A: 0, B: 3}, {A: 1, B: 2}, {A: 3, B: 4}},
		"as B of both":                   {{A: 0, B: 2}, {A: 1, B: 2}},
		"as B of both, others between":   {{A: 0, B: 5}, {A: 1, B: 2}, {A: 3, B: 5}},
		"a wrong one comes last":         {{A: 0, B: 1}, {A: 2, B: 3}, {A: 4, B: 4}},
		"more couples than vertices":     every,
		"one of them seven times":        slices.Repeat([]impl.Couple{{A: 0, B: 1}}, 7),
		"right ones and then all others": slices.Concat([]impl.Couple{{A: 0, B: 1}, {A: 2, B: 3}, {A: 4, B: 5}}, every),
		"more couples than any has":      slices.Repeat(every, 1000),
	} {
		refusesToMatch(t, what, full, m)
		refusesToMatch(t, what+", on a way", way, m)
	}
	for what, m := range map[string][]impl.Couple{
		"no edge":                 {{A: 0, B: 2}},
		"no edge, first":          {{A: 0, B: 2}, {A: 3, B: 4}},
		"no edge, last":           {{A: 0, B: 1}, {A: 2, B: 4}},
		"no edge, in the midst":   {{A: 0, B: 1}, {A: 2, B: 5}, {A: 3, B: 4}},
		"the two ends of the way": {{A: 0, B: 5}},
	} {
		refusesToMatch(t, what, way, m)
		mustSum(t, full, m)
	}
}

// TestWrongCoupleBehindRightOnes lays each wrong couple behind every pairing that it could go on with.
func TestWrongCoupleBehindRightOnes(t *testing.T) {
	g := fullGraph(5)
	for _, m := range pairingsOf(g) {
		for _, last := range []impl.Couple{{A: 4, B: 4}, {A: 4, B: 5}, {A: 5, B: 6}, {A: 4, B: 3}, {A: -1, B: 0}, {A: 4, B: math.MaxInt}, {}} {
			refusesToMatch(t, "a wrong one last", g, append(slices.Clone(m), last))
		}
		for _, c := range m {
			refusesToMatch(t, "one of them again", g, append(slices.Clone(m), c))
		}
	}
}

func TestPairingsAreNotWrittenInto(t *testing.T) {
	graphs := rightGraphs()
	for _, g := range wrongGraphs() {
		graphs = append(graphs, g)
	}
	lists := [][]impl.Couple{{}, {{A: 0, B: 1}}, {{A: 0, B: 1}, {A: 2, B: 3}}, {{A: 2, B: 3}, {A: 0, B: 1}}, {{A: 1, B: 0}}, {{A: 0, B: 1}, {A: 1, B: 2}}, {{A: -1, B: 9}}}
	for _, plain := range graphs {
		g, room := roomyGraph(plain)
		held := slices.Clone(room)
		for _, m := range lists {
			listRoom := append(slices.Clone(m), impl.Couple{A: 81, B: 82}, impl.Couple{A: 83, B: 84})
			heldList := slices.Clone(listRoom)
			impl.MatchOk(g, listRoom[:len(m)])
			impl.SumsOf(g, listRoom[:len(m)])
			if !slices.Equal(listRoom, heldList) {
				t.Fatalf("of the couples %v became %v", heldList, listRoom)
			}
		}
		impl.BestSums(g)
		impl.CountMatches(g)
		if !slices.Equal(room, held) {
			t.Fatalf("of %v became %v", held, room)
		}
	}
}

// TestPairingsLookAtNoSpareRoom lays edges and couples that would be right behind the lists, where they count for nothing.
func TestPairingsLookAtNoSpareRoom(t *testing.T) {
	full := fullGraph(6)
	for n := range len(full.Edges) + 1 {
		short := impl.Graph{Size: 6, Edges: full.Edges[:n]}
		plain := impl.Graph{Size: 6, Edges: slices.Clone(full.Edges[:n])}
		if mustBest(t, short) != mustBest(t, plain) || impl.CountMatches(short) != len(pairingsOf(plain)) {
			t.Errorf("%d edges are told apart by what stands behind them", n)
		}
	}
	couples := []impl.Couple{{A: 0, B: 1}, {A: 2, B: 3}, {A: 2, B: 4}}
	for n := range len(couples) {
		if got := mustSum(t, full, couples[:n]); got != sumsByHand(full, couples[:n]) {
			t.Errorf("SumsOf %v = %+v", couples[:n], got)
		}
	}
}
