package tests

import (
	"cmp"
	"math"
	"slices"
	"testing"

	"loop.example/g00105/impl"
)

func sameLists(a, b [][]int) bool {
	return slices.EqualFunc(a, b, slices.Equal)
}

// edgesBetween is a graph whose edges have no worth: A and B of each, one behind the other.
func edgesBetween(size int, ends ...int) impl.Graph {
	g := impl.Graph{Size: size}
	for e := range slices.Chunk(ends, 2) {
		g.Edges = append(g.Edges, impl.Edge{A: e[0], B: e[1]})
	}
	return g
}

// couplesOf has A and B of each couple, one behind the other.
func couplesOf(ends ...int) []impl.Couple {
	var m []impl.Couple
	for c := range slices.Chunk(ends, 2) {
		m = append(m, impl.Couple{A: c[0], B: c[1]})
	}
	return m
}

func ringGraph(size int) impl.Graph {
	return graphThat(size, func(a, b int) bool { return b == a+1 || a == 0 && b == size-1 })
}

func wayGraph(size int) impl.Graph {
	return graphThat(size, func(a, b int) bool { return b == a+1 })
}

func starGraph(size int) impl.Graph {
	return graphThat(size, func(a, b int) bool { return a == 0 })
}

// lookGraphs has the graphs of the pairings as they are, drawn ones of all sizes from sparse to full, and every one of few vertices.
func lookGraphs() []impl.Graph {
	out := rightGraphs()
	draw := draws(17)
	for size := 2; size <= impl.MaxPool; size++ {
		out = append(out, ringGraph(size))
		for _, inHundred := range []int{10, 20, 30, 45, 65} {
			for range 4 {
				out = append(out, draw.graph(size, inHundred))
			}
		}
	}
	for size := range 5 {
		everyGraph(size, []int{0}, func(g impl.Graph) { out = append(out, g) })
	}
	return out
}

// piecesByHand lets the lesser of two names stand at both ends of each edge until nothing changes, and puts together what has one name.
func piecesByHand(g impl.Graph, out []int) [][]int {
	name := make([]int, g.Size)
	for v := range name {
		name[v] = v
	}
	for isChanged := true; isChanged; {
		isChanged = false
		for _, e := range g.Edges {
			if least := min(name[e.A], name[e.B]); name[e.A] != name[e.B] && !slices.Contains(out, e.A) && !slices.Contains(out, e.B) {
				name[e.A], name[e.B], isChanged = least, least, true
			}
		}
	}
	var parts [][]int
	for least := range g.Size {
		var part []int
		for v := range g.Size {
			if name[v] == least && !slices.Contains(out, v) {
				part = append(part, v)
			}
		}
		if len(part) > 0 {
			parts = append(parts, part)
		}
	}
	return parts
}

func oddByHand(g impl.Graph, out []int) int {
	odd := 0
	for _, part := range piecesByHand(g, out) {
		if len(part)%2 == 1 {
			odd++
		}
	}
	return odd
}

func mostByHand(g impl.Graph) int {
	most := 0
	for _, m := range pairingsOf(g) {
		most = max(most, len(m))
	}
	return most
}

// blocksByHand puts all sets into the order in which they are taken.
func blocksByHand(g impl.Graph) []int {
	return slices.MinFunc(ascendingLists(g.Size), func(a, b []int) int {
		left, right := len(a)-oddByHand(g, a), len(b)-oddByHand(g, b)
		return cmp.Or(cmp.Compare(left, right), cmp.Compare(len(a), len(b)), slices.Compare(a, b))
	})
}

// inOneOnly has the couples that are in just one of the two pairings.
func inOneOnly(m, n []impl.Couple) []impl.Couple {
	var out []impl.Couple
	for _, c := range slices.Concat(m, n) {
		if slices.Contains(m, c) != slices.Contains(n, c) {
			out = append(out, c)
		}
	}
	return out
}

// couplesAt is how many of the couples have this vertex.
func couplesAt(m []impl.Couple, v int) int {
	many := 0
	for _, c := range m {
		if c.A == v || c.B == v {
			many++
		}
	}
	return many
}

// swappedByHand has one part for each way or ring: it goes on as long as a couple leads out of the part.
func swappedByHand(g impl.Graph, m, n []impl.Couple) [][]int {
	couples := inOneOnly(m, n)
	var parts [][]int
	for v := range g.Size {
		if couplesAt(couples, v) == 0 || slices.ContainsFunc(parts, func(part []int) bool { return slices.Contains(part, v) }) {
			continue
		}
		part := []int{v}
		for range g.Size {
			for _, c := range couples {
				if slices.Contains(part, c.A) != slices.Contains(part, c.B) {
					part = append(part, c.A, c.B)
				}
			}
			slices.Sort(part)
			part = slices.Compact(part)
		}
		parts = append(parts, part)
	}
	return parts
}

// seen is what is told of one graph: by Neighbours of each vertex, by PiecesOf and OddParts without the vertices of out, by Lonely of m, and by Swapped of m and n.
type seen struct {
	g       impl.Graph
	next    [][]int
	out     []int
	pieces  [][]int
	odd     int
	most    int
	blocks  []int
	m, n    []impl.Couple
	lonely  []int
	swapped [][]int
}

func isSeenAsReckoned(t *testing.T, what string, s seen) {
	t.Helper()
	if !impl.MatchOk(s.g, s.m) || !impl.MatchOk(s.g, s.n) || len(s.next) != s.g.Size {
		t.Fatalf("%s: nothing to ask for", what)
	}
	for v, want := range s.next {
		if got := impl.Neighbours(s.g, v); !slices.Equal(got, want) {
			t.Errorf("%s: Neighbours of %d are %v, not %v", what, v, got, want)
		}
	}
	if got := impl.PiecesOf(s.g, s.out); !sameLists(got, s.pieces) {
		t.Errorf("%s: PiecesOf without %v is %v, not %v", what, s.out, got, s.pieces)
	}
	if got := impl.OddParts(s.g, s.out); got != s.odd {
		t.Errorf("%s: OddParts without %v is %d, not %d", what, s.out, got, s.odd)
	}
	if got := impl.MostCouples(s.g); got != s.most {
		t.Errorf("%s: MostCouples is %d, not %d", what, got, s.most)
	}
	if got := impl.Blocks(s.g); !slices.Equal(got, s.blocks) {
		t.Errorf("%s: Blocks is %v, not %v", what, got, s.blocks)
	}
	if got := impl.Lonely(s.g, s.m); !slices.Equal(got, s.lonely) {
		t.Errorf("%s: Lonely of %v is %v, not %v", what, s.m, got, s.lonely)
	}
	if got := impl.Swapped(s.g, s.m, s.n); !sameLists(got, s.swapped) {
		t.Errorf("%s: Swapped of %v and %v is %v, not %v", what, s.m, s.n, got, s.swapped)
	}
}

func TestWaysAndRingsAreSeen(t *testing.T) {
	for what, s := range map[string]seen{
		"a way of 5, its midst out": {
			g: wayGraph(5), next: [][]int{{1}, {0, 2}, {1, 3}, {2, 4}, {3}},
			out: []int{2}, pieces: [][]int{{0, 1}, {3, 4}}, odd: 0, most: 2, blocks: nil,
			m: couplesOf(0, 1, 2, 3), n: couplesOf(1, 2, 3, 4), lonely: []int{4}, swapped: [][]int{{0, 1, 2, 3, 4}},
		},
		"a way of 4, an end out": {
			g: wayGraph(4), next: [][]int{{1}, {0, 2}, {1, 3}, {2}},
			out: []int{3}, pieces: [][]int{{0, 1, 2}}, odd: 1, most: 2, blocks: nil,
			m: couplesOf(1, 2), n: couplesOf(0, 1, 2, 3), lonely: []int{0, 3}, swapped: [][]int{{0, 1, 2, 3}},
		},
		"a ring of 6, every other one out": {
			g: ringGraph(6), next: [][]int{{1, 5}, {0, 2}, {1, 3}, {2, 4}, {3, 5}, {0, 4}},
			out: []int{0, 2, 4}, pieces: [][]int{{1}, {3}, {5}}, odd: 3, most: 3, blocks: nil,
			m: couplesOf(0, 1, 2, 3, 4, 5), n: couplesOf(0, 5, 1, 2, 3, 4), lonely: nil, swapped: [][]int{{0, 1, 2, 3, 4, 5}},
		},
		"a ring of 5, one of them out": {
			g: ringGraph(5), next: [][]int{{1, 4}, {0, 2}, {1, 3}, {2, 4}, {0, 3}},
			out: []int{0}, pieces: [][]int{{1, 2, 3, 4}}, odd: 0, most: 2, blocks: nil,
			m: couplesOf(0, 1, 2, 3), n: couplesOf(0, 4, 2, 3), lonely: []int{4}, swapped: [][]int{{0, 1, 4}},
		},
		"a ring of 9, two of them out": {
			g: ringGraph(9), next: [][]int{{1, 8}, {0, 2}, {1, 3}, {2, 4}, {3, 5}, {4, 6}, {5, 7}, {6, 8}, {0, 7}},
			out: []int{2, 7}, pieces: [][]int{{0, 1, 8}, {3, 4, 5, 6}}, odd: 1, most: 4, blocks: nil,
			m: couplesOf(0, 8, 1, 2, 4, 5), n: couplesOf(0, 1, 4, 5, 7, 8), lonely: []int{3, 6, 7}, swapped: [][]int{{0, 1, 2, 7, 8}},
		},
		"two triangles joined by one edge": {
			g: edgesBetween(6, 0, 1, 0, 2, 1, 2, 2, 3, 3, 4, 3, 5, 4, 5), next: [][]int{{1, 2}, {0, 2}, {0, 1, 3}, {2, 4, 5}, {3, 5}, {3, 4}},
			out: []int{3}, pieces: [][]int{{0, 1, 2}, {4, 5}}, odd: 1, most: 3, blocks: nil,
			m: couplesOf(0, 1, 2, 3, 4, 5), n: couplesOf(0, 2, 3, 4), lonely: nil, swapped: [][]int{{0, 1, 2, 3, 4, 5}},
		},
		"two triangles joined by one vertex more": {
			g: edgesBetween(7, 0, 1, 0, 2, 1, 2, 2, 3, 3, 4, 4, 5, 4, 6, 5, 6), next: [][]int{{1, 2}, {0, 2}, {0, 1, 3}, {2, 4}, {3, 5, 6}, {4, 6}, {4, 5}},
			out: []int{3}, pieces: [][]int{{0, 1, 2}, {4, 5, 6}}, odd: 2, most: 3, blocks: nil,
			m: couplesOf(0, 1, 5, 6), n: couplesOf(0, 2, 5, 6), lonely: []int{2, 3, 4}, swapped: [][]int{{0, 1, 2}},
		},
	} {
		isSeenAsReckoned(t, what, s)
	}
}

func TestStarsAndFullGraphsAreSeen(t *testing.T) {
	for what, s := range map[string]seen{
		"a star of 5, its midst out": {
			g: starGraph(5), next: [][]int{{1, 2, 3, 4}, {0}, {0}, {0}, {0}},
			out: []int{0}, pieces: [][]int{{1}, {2}, {3}, {4}}, odd: 4, most: 1, blocks: []int{0},
			m: couplesOf(0, 3), n: couplesOf(0, 1), lonely: []int{1, 2, 4}, swapped: [][]int{{0, 1, 3}},
		},
		"a star of 4 at its last vertex": {
			g: edgesBetween(4, 0, 3, 1, 3, 2, 3), next: [][]int{{3}, {3}, {3}, {0, 1, 2}},
			out: []int{1}, pieces: [][]int{{0, 2, 3}}, odd: 1, most: 1, blocks: []int{3},
			m: couplesOf(1, 3), n: nil, lonely: []int{0, 2}, swapped: [][]int{{1, 3}},
		},
		"all edges of 4": {
			g: fullGraph(4), next: [][]int{{1, 2, 3}, {0, 2, 3}, {0, 1, 3}, {0, 1, 2}},
			out: []int{1}, pieces: [][]int{{0, 2, 3}}, odd: 1, most: 2, blocks: nil,
			m: couplesOf(0, 3, 1, 2), n: couplesOf(0, 1, 2, 3), lonely: nil, swapped: [][]int{{0, 1, 2, 3}},
		},
		"all edges of 5": {
			g: fullGraph(5), next: [][]int{{1, 2, 3, 4}, {0, 2, 3, 4}, {0, 1, 3, 4}, {0, 1, 2, 4}, {0, 1, 2, 3}},
			out: []int{4, 1}, pieces: [][]int{{0, 2, 3}}, odd: 1, most: 2, blocks: nil,
			m: couplesOf(0, 4, 1, 2), n: couplesOf(0, 4, 2, 3), lonely: []int{3}, swapped: [][]int{{1, 2, 3}},
		},
		"each of two with each of five": {
			g: graphThat(7, func(a, b int) bool { return a < 2 && b >= 2 }), next: [][]int{{2, 3, 4, 5, 6}, {2, 3, 4, 5, 6}, {0, 1}, {0, 1}, {0, 1}, {0, 1}, {0, 1}},
			out: []int{0}, pieces: [][]int{{1, 2, 3, 4, 5, 6}}, odd: 0, most: 2, blocks: []int{0, 1},
			m: couplesOf(0, 2, 1, 3), n: couplesOf(0, 3, 1, 2), lonely: []int{4, 5, 6}, swapped: [][]int{{0, 1, 2, 3}},
		},
	} {
		isSeenAsReckoned(t, what, s)
	}
}

func TestGraphsOfSeveralPartsAreSeen(t *testing.T) {
	for what, s := range map[string]seen{
		"a star, a triangle and one alone": {
			g: edgesBetween(8, 0, 4, 1, 3, 1, 6, 2, 4, 3, 6, 4, 7), next: [][]int{{4}, {3, 6}, {4}, {1, 6}, {0, 2, 7}, nil, {1, 3}, {4}},
			out: nil, pieces: [][]int{{0, 2, 4, 7}, {1, 3, 6}, {5}}, odd: 2, most: 2, blocks: []int{4},
			m: couplesOf(1, 3, 2, 4), n: couplesOf(0, 4, 1, 6), lonely: []int{0, 5, 6, 7}, swapped: [][]int{{0, 2, 4}, {1, 3, 6}},
		},
		"two stars, of which each has a midst": {
			g: edgesBetween(8, 0, 6, 1, 3, 2, 6, 3, 4, 3, 7, 5, 6), next: [][]int{{6}, {3}, {6}, {1, 4, 7}, {3}, {6}, {0, 2, 5}, {3}},
			out: []int{6}, pieces: [][]int{{0}, {1, 3, 4, 7}, {2}, {5}}, odd: 3, most: 2, blocks: []int{3, 6},
			m: couplesOf(0, 6, 3, 7), n: couplesOf(1, 3, 2, 6), lonely: []int{1, 2, 4, 5}, swapped: [][]int{{0, 2, 6}, {1, 3, 7}},
		},
		"two rings of 4, both swapped": {
			g: edgesBetween(9, 0, 2, 0, 6, 1, 3, 1, 7, 2, 4, 3, 5, 4, 6, 5, 7), next: [][]int{{2, 6}, {3, 7}, {0, 4}, {1, 5}, {2, 6}, {3, 7}, {0, 4}, {1, 5}, nil},
			out: []int{0, 4}, pieces: [][]int{{1, 3, 5, 7}, {2}, {6}, {8}}, odd: 3, most: 4, blocks: nil,
			m: couplesOf(0, 2, 1, 3, 4, 6, 5, 7), n: couplesOf(0, 6, 1, 7, 2, 4, 3, 5), lonely: []int{8}, swapped: [][]int{{0, 2, 4, 6}, {1, 3, 5, 7}},
		},
		"two alone": {
			g: edgesBetween(2), next: [][]int{nil, nil},
			out: []int{0}, pieces: [][]int{{1}}, odd: 1, most: 0, blocks: nil,
			lonely: []int{0, 1},
		},
	} {
		isSeenAsReckoned(t, what, s)
	}
}

func TestLeastGraphsAreSeen(t *testing.T) {
	isSeenAsReckoned(t, "no vertex", seen{})
	isSeenAsReckoned(t, "no vertex, others out", seen{out: []int{0, 1, -1}})
	isSeenAsReckoned(t, "one vertex", seen{g: edgesBetween(1), next: [][]int{nil}, pieces: [][]int{{0}}, odd: 1, lonely: []int{0}})
	isSeenAsReckoned(t, "one vertex, which is out", seen{g: edgesBetween(1), next: [][]int{nil}, out: []int{0}, lonely: []int{0}})
	isSeenAsReckoned(t, "one edge", seen{
		g: edgesBetween(2, 0, 1), next: [][]int{{1}, {0}}, pieces: [][]int{{0, 1}}, most: 1,
		m: couplesOf(0, 1), swapped: [][]int{{0, 1}},
	})
}

// TestNoEdgesAndAllEdges has graphs of every Size up to MaxPool.
func TestNoEdgesAndAllEdges(t *testing.T) {
	for size := range impl.MaxPool + 1 {
		all := allPlaces(size)
		bare := seen{g: impl.Graph{Size: size}, next: make([][]int, size), odd: size, lonely: all}
		full := seen{g: fullGraph(size), odd: size % 2, most: size / 2}
		if size > 0 {
			full.pieces = [][]int{all}
		}
		for v := range size {
			bare.pieces = append(bare.pieces, []int{v})
			full.next = append(full.next, slices.DeleteFunc(allPlaces(size), func(w int) bool { return w == v }))
		}
		for v := 0; v+1 < size; v += 2 {
			full.m = append(full.m, impl.Couple{A: v, B: v + 1})
			full.swapped = append(full.swapped, []int{v, v + 1})
		}
		if size%2 == 1 {
			full.lonely = []int{size - 1}
		}
		isSeenAsReckoned(t, "no edges", bare)
		isSeenAsReckoned(t, "all edges", full)
	}
}

func TestMostCouplesAsOfAllPairings(t *testing.T) {
	for _, g := range lookGraphs() {
		if got, want := impl.MostCouples(g), mostByHand(g); got != want {
			t.Fatalf("MostCouples(%+v) is %d, not %d", g, got, want)
		}
	}
}

// TestMostCouplesLookAtNoWorth has graphs whose best pairings have fewer couples.
func TestMostCouplesLookAtNoWorth(t *testing.T) {
	for _, g := range []impl.Graph{
		thirdWorths(4, 0, 1, 1, 1, 2, 5, 2, 3, 1),
		{Size: 4, Edges: []impl.Edge{{A: 0, B: 1, W2: 50, W3: 50}, {A: 1, B: 2, W1: 1}, {A: 2, B: 3, W2: 50, W3: 50}}},
		thirdWorths(4, 0, 1, 0, 1, 2, 50, 2, 3, 0),
	} {
		if s := mustSolve(t, g); len(s.pairs) != 1 || impl.MostCouples(g) != 2 {
			t.Errorf("of %+v %v is best, the most couples are %d", g, s.pairs, impl.MostCouples(g))
		}
	}
	for _, g := range lookGraphs() {
		for _, worth := range []int{0, 1, impl.MaxWorth} {
			h := alike(g, worth)
			if impl.MostCouples(h) != impl.MostCouples(g) || !slices.Equal(impl.Blocks(h), impl.Blocks(g)) || !sameLists(impl.PiecesOf(h, nil), impl.PiecesOf(g, nil)) {
				t.Fatalf("with all worths %d another thing is told of %+v", worth, g)
			}
		}
	}
}

func TestEverySetTellsTheMostCouplesOrMore(t *testing.T) {
	for _, g := range lookGraphs() {
		twice := 2 * impl.MostCouples(g)
		blocks := impl.Blocks(g)
		if told := g.Size + len(blocks) - impl.OddParts(g, blocks); told != twice {
			t.Fatalf("of %+v Blocks %v tell twice %d, not %d", g, blocks, told, twice)
		}
		for _, set := range ascendingLists(g.Size) {
			if told := g.Size + len(set) - impl.OddParts(g, set); told < twice {
				t.Fatalf("of %+v the set %v tells twice %d, less than %d", g, set, told, twice)
			}
		}
	}
}

func TestBlocksAreTheFirstOfAllSets(t *testing.T) {
	for _, g := range lookGraphs() {
		if got, want := impl.Blocks(g), blocksByHand(g); !slices.Equal(got, want) {
			t.Fatalf("Blocks(%+v) are %v, not %v", g, got, want)
		}
	}
}

// TestOfBlocksOfOneSizeTheFirst has graphs of which several sets of the fewest vertices tell the same.
func TestOfBlocksOfOneSizeTheFirst(t *testing.T) {
	for _, c := range []struct {
		g     impl.Graph
		alike [][]int
	}{
		{edgesBetween(6, 0, 1, 0, 2, 0, 3, 3, 4, 3, 5), [][]int{{0}, {3}}},
		{edgesBetween(6, 0, 4, 1, 4, 2, 5, 3, 5, 4, 5), [][]int{{4}, {5}}},
		{edgesBetween(6, 0, 2, 1, 2, 2, 3, 3, 4, 3, 5), [][]int{{2}, {3}}},
		{edgesBetween(8, 0, 1, 0, 2, 0, 3, 0, 6, 2, 3, 2, 5, 2, 7, 4, 6, 5, 6), [][]int{{0, 2}, {2, 6}}},
		{edgesBetween(8, 0, 7, 1, 4, 2, 4, 2, 5, 3, 4, 3, 5, 4, 6, 5, 7, 6, 7), [][]int{{4, 5}, {4, 7}}},
		{edgesBetween(9, 0, 1, 0, 3, 0, 5, 1, 4, 3, 6, 3, 7, 4, 6, 4, 8), [][]int{{0, 4}, {3, 4}}},
	} {
		for _, set := range c.alike {
			if told := c.g.Size + len(set) - impl.OddParts(c.g, set); told != 2*impl.MostCouples(c.g) {
				t.Errorf("of %+v the set %v tells twice %d", c.g, set, told)
			}
		}
		if got := impl.Blocks(c.g); !slices.Equal(got, c.alike[0]) {
			t.Errorf("Blocks(%+v) are %v, not %v", c.g, got, c.alike[0])
		}
	}
}

// namedAnew is the graph with other numbers for its vertices.
func namedAnew(g impl.Graph, names []int) impl.Graph {
	places := placeByEnds(g)
	return graphThat(g.Size, func(a, b int) bool {
		_, ok := places[[2]int{slices.Index(names, a), slices.Index(names, b)}]
		return ok
	})
}

// TestBlocksByAnyNames gives two stars whose midsts are joined other names: the lesser midst is told.
func TestBlocksByAnyNames(t *testing.T) {
	draw := draws(18)
	for range 300 {
		names := draw.shuffled(allPlaces(8))
		g := namedAnew(edgesBetween(8, 0, 1, 0, 2, 0, 3, 3, 4, 3, 5, 6, 7), names)
		if got, want := impl.Blocks(g), min(names[0], names[3]); !slices.Equal(got, []int{want}) {
			t.Fatalf("Blocks(%+v) are %v, not %d", g, got, want)
		}
	}
}

// TestOfBlocksOneOfTheFewest has graphs of which greater sets tell the same.
func TestOfBlocksOneOfTheFewest(t *testing.T) {
	for size := 1; size <= impl.MaxPool; size++ {
		way := wayGraph(size)
		var greater []int
		for v := 1; v < size; v += 2 {
			greater = append(greater, v)
		}
		if told := size + len(greater) - impl.OddParts(way, greater); told != 2*impl.MostCouples(way) || len(impl.Blocks(way)) != 0 {
			t.Errorf("of a way of %d %v tell twice %d, and Blocks are %v", size, greater, told, impl.Blocks(way))
		}
	}
	both := edgesBetween(6, 0, 1, 0, 2, 0, 3, 3, 4, 3, 5)
	if told := 6 + 2 - impl.OddParts(both, []int{0, 3}); told != 4 || len(impl.Blocks(both)) != 1 {
		t.Errorf("both midsts tell twice %d, and Blocks are %v", told, impl.Blocks(both))
	}
}

func TestNeighboursAreThoseWithAnEdge(t *testing.T) {
	for _, g := range lookGraphs() {
		places := placeByEnds(g)
		for v := range g.Size {
			var want []int
			for w := range g.Size {
				if _, ok := places[[2]int{v, w}]; ok {
					want = append(want, w)
				}
			}
			if got := impl.Neighbours(g, v); !slices.Equal(got, want) {
				t.Fatalf("Neighbours(%+v, %d) are %v, not %v", g, v, got, want)
			}
		}
		for _, v := range []int{-1, g.Size, g.Size + 1, impl.MaxPool, impl.MaxPool + 1, 64, math.MinInt, math.MaxInt} {
			if got := impl.Neighbours(g, v); len(got) != 0 {
				t.Fatalf("Neighbours(%+v, %d) are %v", g, v, got)
			}
		}
	}
}

// pieceFault says what is wrong with the parts of a graph without the vertices of a list.
func pieceFault(g impl.Graph, out []int, parts [][]int) string {
	partAt := make([]int, g.Size)
	for v := range partAt {
		partAt[v] = -1
	}
	for i, part := range parts {
		if len(part) == 0 || !slices.IsSorted(part) || i > 0 && parts[i-1][0] >= part[0] {
			return "order"
		}
		for _, v := range part {
			if v < 0 || v >= g.Size || partAt[v] != -1 || slices.Contains(out, v) {
				return "a vertex that is none, twice or out"
			}
			partAt[v] = i
		}
	}
	for v, at := range partAt {
		if at == -1 && !slices.Contains(out, v) {
			return "a vertex is missing"
		}
	}
	for _, e := range g.Edges {
		if partAt[e.A] != -1 && partAt[e.B] != -1 && partAt[e.A] != partAt[e.B] {
			return "an edge from one part to another"
		}
	}
	return ""
}

func TestPiecesOfEverySet(t *testing.T) {
	for _, g := range lookGraphs() {
		for _, out := range ascendingLists(g.Size) {
			got := impl.PiecesOf(g, out)
			if fault := pieceFault(g, out, got); fault != "" || !sameLists(got, piecesByHand(g, out)) {
				t.Fatalf("PiecesOf(%+v, %v) = %v: %s", g, out, got, fault)
			}
			if odd := impl.OddParts(g, out); odd != oddByHand(g, out) {
				t.Fatalf("OddParts(%+v, %v) = %d, not %d", g, out, odd, oddByHand(g, out))
			}
		}
	}
}

// anyList draws a list that names vertices in any order, some twice, and numbers that are none.
func (d *draws) anyList(size int) []int {
	list := make([]int, d.below(2*impl.MaxPool))
	for i := range list {
		list[i] = d.below(impl.MaxPool+4) - 2
		if d.below(4) == 0 {
			list[i] = d.among(math.MinInt, -1, size, impl.MaxPool, impl.MaxPool+1, 64, math.MaxInt)
		}
	}
	return list
}

func TestPiecesWithoutDrawnLists(t *testing.T) {
	draw := draws(19)
	for _, g := range lookGraphs() {
		for range 20 {
			out := draw.anyList(g.Size)
			got := impl.PiecesOf(g, out)
			if fault := pieceFault(g, out, got); fault != "" || !sameLists(got, piecesByHand(g, out)) || impl.OddParts(g, out) != oddByHand(g, out) {
				t.Fatalf("PiecesOf(%+v, %v) = %v: %s, OddParts %d", g, out, got, fault, impl.OddParts(g, out))
			}
		}
	}
}

func TestListsOfVerticesByHand(t *testing.T) {
	way := wayGraph(5)
	for what, c := range map[string]struct {
		out    []int
		pieces [][]int
		odd    int
	}{
		"none":                      {nil, [][]int{{0, 1, 2, 3, 4}}, 1},
		"all":                       {[]int{0, 1, 2, 3, 4}, nil, 0},
		"all, from the last one":    {[]int{4, 3, 2, 1, 0}, nil, 0},
		"one twice":                 {[]int{1, 1}, [][]int{{0}, {2, 3, 4}}, 2},
		"two that do not ascend":    {[]int{3, 1}, [][]int{{0}, {2}, {4}}, 3},
		"twice, others between":     {[]int{3, 1, 3, 1}, [][]int{{0}, {2}, {4}}, 3},
		"below 0":                   {[]int{-1, -5, math.MinInt}, [][]int{{0, 1, 2, 3, 4}}, 1},
		"Size":                      {[]int{5}, [][]int{{0, 1, 2, 3, 4}}, 1},
		"between Size and MaxPool":  {[]int{6, 7, 8}, [][]int{{0, 1, 2, 3, 4}}, 1},
		"MaxPool and above":         {[]int{9, 10, 64, math.MaxInt}, [][]int{{0, 1, 2, 3, 4}}, 1},
		"the last one among others": {[]int{5, 4, -1, 9}, [][]int{{0, 1, 2, 3}}, 0},
		"one and what is none":      {[]int{-2, 2, 7, 258}, [][]int{{0, 1}, {3, 4}}, 0},
		"one ten thousand times":    {slices.Repeat([]int{2}, 10000), [][]int{{0, 1}, {3, 4}}, 0},
	} {
		if got := impl.PiecesOf(way, c.out); !sameLists(got, c.pieces) {
			t.Errorf("%s: %v, not %v", what, got, c.pieces)
		}
		if got := impl.OddParts(way, c.out); got != c.odd {
			t.Errorf("%s: %d odd parts, not %d", what, got, c.odd)
		}
	}
}

func TestLonelyAndCouplesAreAllVertices(t *testing.T) {
	for _, g := range lookGraphs() {
		for _, m := range pairingsOf(g) {
			lonely := impl.Lonely(g, m)
			all := slices.Clone(lonely)
			for _, c := range m {
				all = append(all, c.A, c.B)
			}
			slices.Sort(all)
			if !slices.Equal(all, allPlaces(g.Size)) || !slices.IsSorted(lonely) {
				t.Fatalf("Lonely(%+v, %v) = %v", g, m, lonely)
			}
		}
	}
}

// swapFault says why a part is neither a way nor a ring of couples that are in turns of the one and of the other pairing.
func swapFault(part []int, m, n []impl.Couple) string {
	couples, ends := inOneOnly(m, n), 0
	for _, v := range part {
		many := couplesAt(couples, v)
		if many < 1 || many > 2 {
			return "a vertex without one or two couples"
		}
		if many == 2 && couplesAt(m, v)*couplesAt(n, v) != 1 {
			return "two couples of one pairing"
		}
		ends += 2 - many
	}
	if ends != 0 && ends != 2 {
		return "neither a way nor a ring"
	}
	if ends == 0 && len(part)%2 == 1 {
		return "a ring of an odd number"
	}
	return ""
}

func isSwapped(t *testing.T, g impl.Graph, m, n []impl.Couple) {
	t.Helper()
	parts := impl.Swapped(g, m, n)
	told, couples := 0, inOneOnly(m, n)
	for _, part := range parts {
		told += len(part)
		if fault := swapFault(part, m, n); fault != "" {
			t.Fatalf("Swapped(%+v, %v, %v) = %v: %s", g, m, n, parts, fault)
		}
	}
	for v := range g.Size {
		if couplesAt(couples, v) == 0 {
			told++
		}
	}
	if told != g.Size || !sameLists(parts, swappedByHand(g, m, n)) || !sameLists(parts, impl.Swapped(g, n, m)) {
		t.Fatalf("Swapped(%+v, %v, %v) = %v, not %v", g, m, n, parts, swappedByHand(g, m, n))
	}
}

func TestSwappedAreWaysAndRings(t *testing.T) {
	draw := draws(20)
	for _, g := range lookGraphs() {
		all := pairingsOf(g)
		for range min(60, len(all)*len(all)) {
			isSwapped(t, g, all[draw.below(len(all))], all[draw.below(len(all))])
		}
	}
}

func TestSwappedOfEveryTwoPairings(t *testing.T) {
	for _, g := range []impl.Graph{fullGraph(4), fullGraph(5), ringGraph(6), ringGraph(7), ringGraph(8), wayGraph(8), graphThat(6, func(a, b int) bool { return a < 3 && b >= 3 })} {
		for _, m := range pairingsOf(g) {
			for _, n := range pairingsOf(g) {
				isSwapped(t, g, m, n)
			}
			if got := impl.Swapped(g, m, slices.Clone(m)); len(got) != 0 {
				t.Fatalf("of %+v the pairing %v and itself swap %v", g, m, got)
			}
		}
	}
}

func TestSwappedByHand(t *testing.T) {
	full := fullGraph(9)
	for what, c := range map[string]struct {
		m, n []impl.Couple
		want [][]int
	}{
		"none and none":               {nil, nil, nil},
		"none and some":               {nil, couplesOf(0, 8, 2, 5), [][]int{{0, 8}, {2, 5}}},
		"some and none":               {couplesOf(1, 7, 3, 4), nil, [][]int{{1, 7}, {3, 4}}},
		"the same":                    {couplesOf(0, 8, 1, 7, 2, 6), couplesOf(0, 8, 1, 7, 2, 6), nil},
		"one more":                    {couplesOf(0, 8, 2, 6), couplesOf(0, 8, 1, 7, 2, 6), [][]int{{1, 7}}},
		"a ring":                      {couplesOf(0, 1, 2, 3), couplesOf(0, 3, 1, 2), [][]int{{0, 1, 2, 3}}},
		"a ring beside a couple":      {couplesOf(0, 1, 2, 3, 5, 8), couplesOf(0, 3, 1, 2, 5, 8), [][]int{{0, 1, 2, 3}}},
		"a ring of eight":             {couplesOf(1, 2, 3, 4, 5, 6, 7, 8), couplesOf(1, 8, 2, 3, 4, 5, 6, 7), [][]int{{1, 2, 3, 4, 5, 6, 7, 8}}},
		"two rings":                   {couplesOf(0, 2, 1, 3, 4, 6, 5, 7), couplesOf(0, 6, 1, 7, 2, 4, 3, 5), [][]int{{0, 2, 4, 6}, {1, 3, 5, 7}}},
		"a way of nine":               {couplesOf(0, 1, 2, 3, 4, 5, 6, 7), couplesOf(1, 2, 3, 4, 5, 6, 7, 8), [][]int{{0, 1, 2, 3, 4, 5, 6, 7, 8}}},
		"a way, a ring, both turned":  {couplesOf(0, 8, 1, 4, 2, 3), couplesOf(0, 7, 1, 3, 2, 4), [][]int{{0, 7, 8}, {1, 2, 3, 4}}},
		"three ways by their least":   {couplesOf(0, 6, 1, 5, 2, 4), couplesOf(2, 8, 3, 6, 5, 7), [][]int{{0, 3, 6}, {1, 5, 7}, {2, 4, 8}}},
		"other mates of each of them": {couplesOf(0, 5, 3, 8), couplesOf(0, 8, 3, 5), [][]int{{0, 3, 5, 8}}},
	} {
		if got := impl.Swapped(full, c.m, c.n); !sameLists(got, c.want) {
			t.Errorf("%s: %v, not %v", what, got, c.want)
		}
	}
}

// TestSwappedLooksAtCouplesAlone has an edge between two parts that is of neither pairing: they stay two.
func TestSwappedLooksAtCouplesAlone(t *testing.T) {
	way := wayGraph(6)
	if got := impl.Swapped(way, couplesOf(0, 1), couplesOf(2, 3)); !sameLists(got, [][]int{{0, 1}, {2, 3}}) {
		t.Errorf("Swapped tells %v", got)
	}
	if got := impl.Swapped(way, couplesOf(0, 1, 2, 3, 4, 5), couplesOf(2, 3)); !sameLists(got, [][]int{{0, 1}, {4, 5}}) {
		t.Errorf("Swapped tells %v", got)
	}
}

func TestNothingIsSeenInWrongGraphs(t *testing.T) {
	for what, g := range wrongGraphs() {
		for _, out := range [][]int{nil, {0}, {0, 1, 2, 3}, {-1, impl.MaxPool}} {
			if pieces, odd := impl.PiecesOf(g, out), impl.OddParts(g, out); len(pieces) != 0 || odd != -1 {
				t.Errorf("%s: PiecesOf without %v is %v, OddParts %d", what, out, pieces, odd)
			}
		}
		for _, v := range []int{-1, 0, 1, 2, 3, g.Size - 1, g.Size} {
			if got := impl.Neighbours(g, v); len(got) != 0 {
				t.Errorf("%s: Neighbours of %d are %v", what, v, got)
			}
		}
		if most, blocks := impl.MostCouples(g), impl.Blocks(g); most != -1 || len(blocks) != 0 {
			t.Errorf("%s: MostCouples is %d, Blocks %v", what, most, blocks)
		}
		for _, m := range [][]impl.Couple{nil, couplesOf(0, 1), couplesOf(0, 1, 2, 3)} {
			if lonely := impl.Lonely(g, m); len(lonely) != 0 {
				t.Errorf("%s: Lonely of %v is %v", what, m, lonely)
			}
			if swapped := impl.Swapped(g, m, nil); len(swapped) != 0 || len(impl.Swapped(g, nil, m)) != 0 {
				t.Errorf("%s: Swapped of %v and none is %v", what, m, swapped)
			}
		}
	}
}

func TestNothingIsSeenInWrongPairings(t *testing.T) {
	g := wayGraph(6)
	rights := pairingsOf(g)
	for what, m := range map[string][]impl.Couple{
		"no edge":                couplesOf(0, 2),
		"no edge, last":          couplesOf(0, 1, 3, 5),
		"A above B":              couplesOf(1, 0),
		"A equal to B":           couplesOf(2, 2),
		"two turned":             couplesOf(2, 3, 0, 1),
		"one twice":              couplesOf(0, 1, 0, 1),
		"twice, another between": couplesOf(0, 1, 2, 3, 0, 1),
		"a vertex in two":        couplesOf(0, 1, 1, 2),
		"below 0":                couplesOf(-1, 0),
		"Size":                   couplesOf(5, 6),
		"above MaxPool":          couplesOf(0, 1, 2, 12),
		"far below 0":            couplesOf(math.MinInt, 0),
		"far above":              couplesOf(0, math.MaxInt),
	} {
		if got := impl.Lonely(g, m); len(got) != 0 {
			t.Errorf("%s: Lonely is %v", what, got)
		}
		for _, right := range append(slices.Clone(rights), m) {
			if got := impl.Swapped(g, m, right); len(got) != 0 {
				t.Errorf("%s: Swapped of it and %v is %v", what, right, got)
			}
			if got := impl.Swapped(g, right, m); len(got) != 0 {
				t.Errorf("%s: Swapped of %v and it is %v", what, right, got)
			}
		}
	}
}

// TestLooksWriteIntoNothing lays other numbers into the spare room behind each argument.
func TestLooksWriteIntoNothing(t *testing.T) {
	graphs := lookGraphs()
	for _, g := range wrongGraphs() {
		graphs = append(graphs, g)
	}
	for _, plain := range graphs {
		g, room := roomyGraph(plain)
		held := slices.Clone(room)
		for _, out := range [][]int{{}, {0}, {3, 1, 1}, {-1, 0, 9}} {
			listRoom := append(slices.Clone(out), 81, 82, 83)
			heldList := slices.Clone(listRoom)
			impl.PiecesOf(g, listRoom[:len(out)])
			impl.OddParts(g, listRoom[:len(out)])
			if !slices.Equal(listRoom, heldList) {
				t.Fatalf("of the list %v became %v", heldList, listRoom)
			}
		}
		for _, m := range [][]impl.Couple{{}, couplesOf(0, 1), couplesOf(0, 1, 2, 3), couplesOf(2, 3, 0, 1), couplesOf(-1, 9)} {
			first := append(slices.Clone(m), couplesOf(81, 82, 83, 84)...)
			second := append(couplesOf(0, 1), couplesOf(85, 86)...)
			impl.Lonely(g, first[:len(m)])
			impl.Swapped(g, first[:len(m)], second[:1])
			impl.Swapped(g, second[:1], first[:len(m)])
			if !slices.Equal(first, append(slices.Clone(m), couplesOf(81, 82, 83, 84)...)) || !slices.Equal(second, couplesOf(0, 1, 85, 86)) {
				t.Fatalf("of the couples %v became %v, and %v", m, first, second)
			}
		}
		impl.Neighbours(g, 0)
		impl.MostCouples(g)
		impl.Blocks(g)
		if !slices.Equal(room, held) {
			t.Fatalf("of %v became %v", held, room)
		}
	}
}

// TestWhatIsSeenIsNewMemory spoils every list of an answer, and the room behind it: no other list of it changes, nor a list that was handed in.
func TestWhatIsSeenIsNewMemory(t *testing.T) {
	spoil := func(list []int) {
		for i := range list[:cap(list)] {
			list[:cap(list)][i] = 99
		}
	}
	areApart := func(what string, lists [][]int) {
		for i := range lists {
			held := make([][]int, len(lists))
			for j := range lists {
				held[j] = slices.Clone(lists[j])
			}
			spoil(lists[i])
			for j := range lists {
				if j != i && !slices.Equal(lists[j], held[j]) {
					t.Fatalf("%s: two lists of %v share memory", what, held)
				}
			}
		}
	}
	for _, g := range lookGraphs() {
		out := []int{1, 3}
		m := slices.MaxFunc(pairingsOf(g), func(a, b []impl.Couple) int { return cmp.Compare(len(a), len(b)) })
		heldEdges, heldOut, heldPairs := slices.Clone(g.Edges), slices.Clone(out), slices.Clone(m)
		areApart("PiecesOf", impl.PiecesOf(g, out))
		areApart("PiecesOf without none", impl.PiecesOf(g, nil))
		areApart("Swapped", impl.Swapped(g, m, nil))
		spoil(impl.Neighbours(g, 0))
		spoil(impl.Blocks(g))
		spoil(impl.Lonely(g, m))
		if !slices.Equal(g.Edges, heldEdges) || !slices.Equal(out, heldOut) || !slices.Equal(m, heldPairs) {
			t.Fatalf("an answer of %+v shares memory", g)
		}
	}
}

// TestLooksLookAtNoSpareRoom lays edges that would be right behind those of the graph, where they count for nothing.
func TestLooksLookAtNoSpareRoom(t *testing.T) {
	full := fullGraph(6)
	for n := range len(full.Edges) + 1 {
		short := impl.Graph{Size: 6, Edges: full.Edges[:n]}
		if !sameLists(impl.PiecesOf(short, nil), piecesByHand(short, nil)) || impl.MostCouples(short) != mostByHand(short) || !slices.Equal(impl.Blocks(short), blocksByHand(short)) {
			t.Errorf("of %d edges another thing is told for what stands behind them", n)
		}
	}
}
