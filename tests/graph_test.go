package tests

import (
	"math"
	"slices"
	"testing"

	"loop.example/g00105/impl"
)

func sameGraph(a, b impl.Graph) bool {
	return a.Size == b.Size && slices.Equal(a.Edges, b.Edges)
}

func isZeroGraph(g impl.Graph) bool {
	return g.Size == 0 && len(g.Edges) == 0
}

// graphThat has, of all edges between so many vertices, those that are wanted, with worths that tell them apart.
func graphThat(size int, wanted func(a, b int) bool) impl.Graph {
	g := impl.Graph{Size: size}
	for a := range size {
		for b := a + 1; b < size; b++ {
			if wanted(a, b) {
				g.Edges = append(g.Edges, impl.Edge{A: a, B: b, W1: 5 * a, W2: impl.MaxWorth - 5*b, W3: a + 3*b})
			}
		}
	}
	return g
}

func fullGraph(size int) impl.Graph {
	return graphThat(size, func(a, b int) bool { return true })
}

// graph draws a right graph that has so many of a hundred of all edges.
func (d *draws) graph(size, inHundred int) impl.Graph {
	g := graphThat(size, func(a, b int) bool { return d.below(100) < inHundred })
	for i := range g.Edges {
		e := &g.Edges[i]
		e.W1, e.W2, e.W3 = d.below(impl.MaxWorth+1), d.below(impl.MaxWorth+1), d.below(impl.MaxWorth+1)
	}
	return g
}

// rightGraphs has graphs of all sizes, with no edge, some edges and all of them.
func rightGraphs() []impl.Graph {
	var out []impl.Graph
	draw := draws(8)
	for size := range impl.MaxPool + 1 {
		out = append(out, impl.Graph{Size: size}, impl.Graph{Size: size, Edges: []impl.Edge{}}, fullGraph(size))
		out = append(out, graphThat(size, func(a, b int) bool { return b == a+1 }))
		out = append(out, graphThat(size, func(a, b int) bool { return a == 0 }))
		for _, inHundred := range []int{10, 30, 50, 70, 90, 100} {
			out = append(out, draw.graph(size, inHundred))
		}
	}
	return out
}

// alike has every worth of every edge the same.
func alike(g impl.Graph, worth int) impl.Graph {
	out := impl.Graph{Size: g.Size}
	for _, e := range g.Edges {
		out.Edges = append(out.Edges, impl.Edge{A: e.A, B: e.B, W1: worth, W2: worth, W3: worth})
	}
	return out
}

// withEdge has a full graph of four vertices, one of whose edges is another one.
func withEdge(at int, e impl.Edge) impl.Graph {
	g := fullGraph(4)
	g.Edges[at] = e
	return g
}

func wrongEdges() map[string]impl.Graph {
	return map[string]impl.Graph{
		"A equal to B":               {Size: 3, Edges: []impl.Edge{{A: 1, B: 1}}},
		"A above B":                  {Size: 3, Edges: []impl.Edge{{A: 1, B: 0}}},
		"A above B, ahead of others": {Size: 3, Edges: []impl.Edge{{A: 1, B: 0}, {A: 1, B: 2}}},
		"A below 0":                  {Size: 3, Edges: []impl.Edge{{A: -1, B: 1}}},
		"A and B below 0":            {Size: 3, Edges: []impl.Edge{{A: -2, B: -1}}},
		"A far below 0":              {Size: 3, Edges: []impl.Edge{{A: math.MinInt, B: 1}}},
		"B of Size":                  {Size: 3, Edges: []impl.Edge{{A: 1, B: 3}}},
		"B of MaxPool":               {Size: impl.MaxPool, Edges: []impl.Edge{{A: 1, B: impl.MaxPool}}},
		"B far above Size":           {Size: 3, Edges: []impl.Edge{{A: 1, B: math.MaxInt}}},
		"A and B above Size":         {Size: 3, Edges: []impl.Edge{{A: 3, B: 4}}},
		"an edge of one vertex":      {Size: 1, Edges: []impl.Edge{{A: 0, B: 0}}},
		"an edge out of one vertex":  {Size: 1, Edges: []impl.Edge{{A: 0, B: 1}}},
		"an edge of no vertex":       {Size: 0, Edges: []impl.Edge{{}}},
		"a wrong one last":           withEdge(5, impl.Edge{A: 2, B: 4}),
		"a wrong one in the midst":   withEdge(3, impl.Edge{A: 1, B: 1}),
		"a wrong one first":          withEdge(0, impl.Edge{A: -1, B: 1}),
		"two of them turned":         {Size: 3, Edges: []impl.Edge{{A: 1, B: 2}, {A: 0, B: 1}}},
		"two turned at the end":      {Size: 4, Edges: []impl.Edge{{A: 0, B: 1}, {A: 2, B: 3}, {A: 1, B: 2}}},
		"lesser A with greater B":    {Size: 4, Edges: []impl.Edge{{A: 1, B: 2}, {A: 0, B: 3}}},
		"one of them twice":          {Size: 3, Edges: []impl.Edge{{A: 0, B: 1}, {A: 0, B: 1}}},
		"twice with other worths":    {Size: 3, Edges: []impl.Edge{{A: 0, B: 1, W1: 1}, {A: 0, B: 1, W1: 2}}},
		"the last one twice":         {Size: 3, Edges: []impl.Edge{{A: 0, B: 1}, {A: 1, B: 2}, {A: 1, B: 2}}},
		"twice, others between":      {Size: 3, Edges: []impl.Edge{{A: 0, B: 1}, {A: 0, B: 2}, {A: 0, B: 1}}},
		"equal A with B that falls":  {Size: 3, Edges: []impl.Edge{{A: 0, B: 2}, {A: 0, B: 1}}},
	}
}

func wrongGraphs() map[string]impl.Graph {
	out := wrongEdges()
	out["Size -1"] = impl.Graph{Size: -1}
	out["the least Size"] = impl.Graph{Size: math.MinInt}
	out["Size MaxPool + 1"] = impl.Graph{Size: impl.MaxPool + 1}
	out["Size MaxPool + 1 with edges"] = impl.Graph{Size: impl.MaxPool + 1, Edges: fullGraph(impl.MaxPool).Edges}
	out["the greatest Size"] = impl.Graph{Size: math.MaxInt}
	for _, worth := range []int{-1, impl.MaxWorth + 1, math.MinInt, math.MaxInt} {
		name := impl.Decimal(worth)
		out["W1 "+name] = withEdge(0, impl.Edge{A: 0, B: 1, W1: worth})
		out["W2 "+name] = withEdge(5, impl.Edge{A: 2, B: 3, W2: worth})
		out["W3 "+name] = withEdge(3, impl.Edge{A: 1, B: 2, W3: worth})
		out["all worths "+name] = alike(fullGraph(2), worth)
	}
	return out
}

// placeByEnds has the places of a graph's edges, by their ends in either order.
func placeByEnds(g impl.Graph) map[[2]int]int {
	out := map[[2]int]int{}
	for i, e := range g.Edges {
		out[[2]int{e.A, e.B}], out[[2]int{e.B, e.A}] = i, i
	}
	return out
}

// ascendingLists has every ascending list of so many vertices.
func ascendingLists(size int) [][]int {
	var out [][]int
	for set := range 1 << size {
		var list []int
		for v := range size {
			if set>>v&1 == 1 {
				list = append(list, v)
			}
		}
		out = append(out, list)
	}
	return out
}

func mustInduce(t *testing.T, g impl.Graph, list []int) impl.Graph {
	t.Helper()
	part, ok := impl.Induced(g, list)
	if !ok {
		t.Fatalf("Induced(%+v, %v) is false", g, list)
	}
	return part
}

func refusesToInduce(t *testing.T, what string, g impl.Graph, list []int) {
	t.Helper()
	if part, ok := impl.Induced(g, list); ok || !isZeroGraph(part) {
		t.Errorf("%s: Induced(%+v, %v) = %+v, %v", what, g, list, part, ok)
	}
}

// isInduced asks of all pairs of the list whether there is an edge just where the graph has one, with its worths.
func isInduced(g impl.Graph, list []int, part impl.Graph) bool {
	has, had, edges := placeByEnds(part), placeByEnds(g), 0
	for a := range list {
		for b := a + 1; b < len(list); b++ {
			at, ok := has[[2]int{a, b}]
			from, wanted := had[[2]int{list[a], list[b]}]
			if ok != wanted {
				return false
			}
			if !ok {
				continue
			}
			e, f := part.Edges[at], g.Edges[from]
			if e.A != a || e.B != b || e.W1 != f.W1 || e.W2 != f.W2 || e.W3 != f.W3 {
				return false
			}
			edges++
		}
	}
	return part.Size == len(list) && edges == len(part.Edges)
}

func TestRightGraphsAreRight(t *testing.T) {
	for _, g := range rightGraphs() {
		for _, h := range []impl.Graph{g, alike(g, 0), alike(g, 1), alike(g, impl.MaxWorth)} {
			if !impl.GraphOk(h) {
				t.Errorf("GraphOk(%+v) is false", h)
			}
		}
	}
}

func TestWrongGraphsAreNotRight(t *testing.T) {
	for what, g := range wrongGraphs() {
		if impl.GraphOk(g) {
			t.Errorf("%s: GraphOk(%+v)", what, g)
		}
	}
}

func TestEveryTurnOfTwoEdgesIsWrong(t *testing.T) {
	for size := 3; size <= impl.MaxPool; size++ {
		edges := len(fullGraph(size).Edges)
		for i := range edges {
			for j := range i {
				g := fullGraph(size)
				g.Edges[i], g.Edges[j] = g.Edges[j], g.Edges[i]
				if impl.GraphOk(g) {
					t.Fatalf("%d and %d turned: GraphOk(%+v)", j, i, g)
				}
			}
		}
	}
}

func TestEdgeTakenTwiceIsWrong(t *testing.T) {
	full := fullGraph(impl.MaxPool)
	for i, e := range full.Edges {
		g := impl.Graph{Size: full.Size, Edges: slices.Insert(slices.Clone(full.Edges), i, e)}
		if impl.GraphOk(g) {
			t.Errorf("%+v twice: GraphOk", e)
		}
	}
}

func TestGraphOfLesserSizeIsWrong(t *testing.T) {
	for size := 2; size <= impl.MaxPool; size++ {
		g := fullGraph(size)
		for g.Size = size - 1; g.Size >= 0; g.Size-- {
			if impl.GraphOk(g) {
				t.Errorf("all edges of %d vertices on %d: GraphOk", size, g.Size)
			}
		}
	}
}

func TestScalar(t *testing.T) {
	for want, e := range map[int]impl.Edge{
		0:       {},
		1:       {W3: 1},
		300:     {W2: 1},
		90000:   {W1: 1},
		90301:   {W1: 1, W2: 1, W3: 1},
		180904:  {W1: 2, W2: 3, W3: 4},
		603:     {A: 1, B: 2, W2: 2, W3: 3},
		4515050: {A: 3, B: 8, W1: impl.MaxWorth, W2: impl.MaxWorth, W3: impl.MaxWorth},
		50:      {A: 5, B: 5, W3: impl.MaxWorth},
		-1:      {W3: -1},
		-300:    {W2: -1},
		-90000:  {W1: -1},
		-89701:  {A: -7, B: -9, W1: -1, W2: 1, W3: -1},
		89000:   {W1: 1, W2: -5, W3: 500},
		4590000: {W1: impl.MaxWorth + 1},
		15300:   {W2: impl.MaxWorth + 1},
		51:      {W3: impl.MaxWorth + 1},
	} {
		if got := impl.Scalar(e); got != want {
			t.Errorf("Scalar(%+v) = %d, not %d", e, got, want)
		}
	}
}

func TestScalarOfAnyNumbers(t *testing.T) {
	numbers := []int{math.MinInt, math.MinInt + 1, -1 << 40, -51, -1, 0, 1, 50, 51, 1 << 40, math.MaxInt - 1, math.MaxInt}
	for _, w1 := range numbers {
		for _, w2 := range numbers {
			for _, w3 := range numbers {
				want := int(uint64(90000)*uint64(w1) + uint64(300)*uint64(w2) + uint64(w3))
				if got := impl.Scalar(impl.Edge{A: w3, B: w1, W1: w1, W2: w2, W3: w3}); got != want {
					t.Errorf("Scalar of %d, %d, %d = %d, not %d", w1, w2, w3, got, want)
				}
			}
		}
	}
}

func TestEdgesAreFoundInEitherOrder(t *testing.T) {
	for _, g := range rightGraphs() {
		places := placeByEnds(g)
		for a := -2; a <= impl.MaxPool+2; a++ {
			for b := -2; b <= impl.MaxPool+2; b++ {
				want, ok := places[[2]int{a, b}]
				if !ok {
					want = -1
				}
				if got := impl.EdgeAt(g, a, b); got != want {
					t.Fatalf("EdgeAt(%+v, %d, %d) = %d, not %d", g, a, b, got, want)
				}
			}
		}
	}
}

func TestNoEdgeBetweenWhatIsNoVertex(t *testing.T) {
	far := []int{math.MinInt, -1 << 32, -impl.MaxPool, -1, 0, 1, impl.MaxPool - 1, impl.MaxPool, 1 << 32, 1<<32 + 1, math.MaxInt}
	g := fullGraph(impl.MaxPool)
	for _, a := range far {
		for _, b := range far {
			isEdge := a != b && min(a, b) >= 0 && max(a, b) < impl.MaxPool
			if got := impl.EdgeAt(g, a, b); (got == -1) == isEdge || got < -1 {
				t.Errorf("EdgeAt(full, %d, %d) = %d", a, b, got)
			}
		}
	}
}

func TestNoEdgeInWrongGraph(t *testing.T) {
	for what, g := range wrongGraphs() {
		for a := -2; a <= 5; a++ {
			for b := -2; b <= 5; b++ {
				if got := impl.EdgeAt(g, a, b); got != -1 {
					t.Errorf("%s: EdgeAt(%+v, %d, %d) = %d", what, g, a, b, got)
				}
			}
		}
	}
}

func TestInducedHasJustTheEdgesBetween(t *testing.T) {
	for _, g := range rightGraphs() {
		for _, list := range ascendingLists(g.Size) {
			part := mustInduce(t, g, list)
			if !impl.GraphOk(part) || !isInduced(g, list, part) {
				t.Fatalf("Induced(%+v, %v) = %+v", g, list, part)
			}
		}
	}
}

func TestInducedByHand(t *testing.T) {
	g := impl.Graph{Size: 5, Edges: []impl.Edge{
		{A: 0, B: 2, W1: 1, W2: 2, W3: 3}, {A: 0, B: 4, W1: 4}, {A: 1, B: 3, W2: 5}, {A: 2, B: 4, W3: 6}, {A: 3, B: 4, W1: 50, W2: 49, W3: 48},
	}}
	for _, c := range []struct {
		list []int
		want impl.Graph
	}{
		{nil, impl.Graph{}},
		{[]int{}, impl.Graph{}},
		{[]int{4}, impl.Graph{Size: 1}},
		{[]int{0, 1}, impl.Graph{Size: 2}},
		{[]int{0, 2}, impl.Graph{Size: 2, Edges: []impl.Edge{{A: 0, B: 1, W1: 1, W2: 2, W3: 3}}}},
		{[]int{3, 4}, impl.Graph{Size: 2, Edges: []impl.Edge{{A: 0, B: 1, W1: 50, W2: 49, W3: 48}}}},
		{[]int{1, 2, 3}, impl.Graph{Size: 3, Edges: []impl.Edge{{A: 0, B: 2, W2: 5}}}},
		{[]int{0, 2, 4}, impl.Graph{Size: 3, Edges: []impl.Edge{{A: 0, B: 1, W1: 1, W2: 2, W3: 3}, {A: 0, B: 2, W1: 4}, {A: 1, B: 2, W3: 6}}}},
		{[]int{0, 1, 2, 3, 4}, g},
	} {
		if part := mustInduce(t, g, c.list); !sameGraph(part, c.want) {
			t.Errorf("Induced by %v is %+v, not %+v", c.list, part, c.want)
		}
	}
}

func TestInducedByAllVerticesIsTheGraph(t *testing.T) {
	for _, g := range rightGraphs() {
		for _, h := range []impl.Graph{g, alike(g, 0), alike(g, impl.MaxWorth)} {
			lists := ascendingLists(h.Size)
			if part := mustInduce(t, h, lists[len(lists)-1]); !sameGraph(part, h) {
				t.Errorf("Induced(%+v) by all vertices is %+v", h, part)
			}
		}
	}
}

func TestInducedOfInduced(t *testing.T) {
	g := fullGraph(7)
	for _, list := range ascendingLists(g.Size) {
		part := mustInduce(t, g, list)
		for _, inner := range ascendingLists(len(list)) {
			var outer []int
			for _, v := range inner {
				outer = append(outer, list[v])
			}
			if a, b := mustInduce(t, part, inner), mustInduce(t, g, outer); !sameGraph(a, b) {
				t.Fatalf("by %v and then %v: %+v, by %v: %+v", list, inner, a, outer, b)
			}
		}
	}
}

func TestInducedOfWrongGraphIsNone(t *testing.T) {
	for what, g := range wrongGraphs() {
		for _, list := range [][]int{nil, {}, {0}, {0, 1}, {0, 1, 2}, {-1}, {1, 0}} {
			refusesToInduce(t, what, g, list)
		}
	}
}

func TestWrongListsInduceNothing(t *testing.T) {
	for _, g := range []impl.Graph{{Size: 5}, fullGraph(5), graphThat(5, func(a, b int) bool { return a == 1 })} {
		for what, list := range map[string][]int{
			"falls":                      {1, 0},
			"falls at the end":           {0, 1, 3, 2},
			"falls at the beginning":     {2, 1, 3, 4},
			"falls all along":            {4, 3, 2, 1, 0},
			"falls in the midst":         {0, 3, 2, 4},
			"a vertex twice":             {1, 1},
			"the last one twice":         {0, 2, 4, 4},
			"the first one twice":        {0, 0, 2, 4},
			"twice, others between":      {0, 1, 0},
			"all the same":               {3, 3, 3, 3, 3, 3, 3},
			"-1 alone":                   {-1},
			"-1 first":                   {-1, 0, 1},
			"-1 last":                    {0, 1, -1},
			"Size alone":                 {5},
			"Size last":                  {0, 1, 5},
			"Size first":                 {5, 0, 1},
			"Size last of all":           {0, 1, 2, 3, 4, 5},
			"the least number first":     {math.MinInt, 0},
			"the greatest number last":   {0, 1, math.MaxInt},
			"a place of MaxPool":         {0, impl.MaxPool},
			"all places up to MaxPool":   {0, 1, 2, 3, 4, 5, 6, 7, 8},
			"an ascent that wraps round": {1, math.MaxInt, math.MinInt},
		} {
			refusesToInduce(t, what, g, list)
		}
	}
	for _, list := range [][]int{{0}, {-1}, {1}} {
		refusesToInduce(t, "no vertex", impl.Graph{}, list)
	}
}

// TestOnlyAscendingListsInduce goes through all short lists, of which only those that ascend are ascendingLists.
func TestOnlyAscendingListsInduce(t *testing.T) {
	g := fullGraph(4)
	lists := [][]int{{}}
	for len(lists) > 0 && len(lists[0]) < 5 {
		list := lists[0]
		lists = lists[1:]
		right := slices.ContainsFunc(ascendingLists(g.Size), func(other []int) bool { return slices.Equal(list, other) })
		if part, ok := impl.Induced(g, list); ok != right || !ok && !isZeroGraph(part) {
			t.Fatalf("Induced by %v = %+v, %v", list, part, ok)
		}
		for v := -1; v <= g.Size; v++ {
			lists = append(lists, append(slices.Clone(list), v))
		}
	}
}

// roomyGraph is the same graph with spare room behind its edges, in which others stand.
func roomyGraph(g impl.Graph) (impl.Graph, []impl.Edge) {
	room := append(slices.Clone(g.Edges), impl.Edge{A: 71, B: 72, W1: 73, W2: 74, W3: 75}, impl.Edge{A: 76, B: 77})
	return impl.Graph{Size: g.Size, Edges: room[:len(g.Edges)]}, room
}

func TestGraphsAreNotWrittenInto(t *testing.T) {
	graphs := rightGraphs()
	for _, g := range wrongGraphs() {
		graphs = append(graphs, g)
	}
	for _, plain := range graphs {
		g, room := roomyGraph(plain)
		held := slices.Clone(room)
		for _, list := range [][]int{{}, {0}, {0, 1}, {0, 1, 2, 3}, {1, 0}, {0, 0}, {0, 9}} {
			listRoom := append(slices.Clone(list), 81, 82, 83)
			heldList := slices.Clone(listRoom)
			impl.Induced(g, listRoom[:len(list)])
			if !slices.Equal(listRoom, heldList) {
				t.Fatalf("Induced made of the list %v this: %v", heldList, listRoom)
			}
		}
		impl.GraphOk(g)
		impl.EdgeAt(g, 1, 0)
		if !slices.Equal(room, held) {
			t.Fatalf("of %v became %v", held, room)
		}
	}
}

func TestInducedIsNewMemory(t *testing.T) {
	for _, plain := range rightGraphs() {
		g, room := roomyGraph(plain)
		lists := ascendingLists(g.Size)
		list := lists[len(lists)-1]
		first, second := mustInduce(t, g, list), mustInduce(t, g, list)
		held := slices.Clone(room)
		for i := range first.Edges {
			first.Edges[i] = impl.Edge{A: 90, B: 91}
		}
		_ = append(first.Edges, impl.Edge{A: 92, B: 93})
		if !slices.Equal(room, held) || !sameGraph(second, plain) {
			t.Fatalf("an answer of %+v shares memory", plain)
		}
	}
}
