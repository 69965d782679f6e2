package tests

import (
	"math"
	"reflect"
	"slices"
	"testing"

	"loop.example/g00105/impl"
)

const mostOfProof = 1000000000

func isVertexList(list []int, size int) bool {
	least := 0
	for _, v := range list {
		if v < least || v >= size {
			return false
		}
		least = v + 1
	}
	return true
}

// groupFault says what is wrong with a Group by itself.
func groupFault(size int, x impl.Group) string {
	if len(x.Members) < 3 || len(x.Members)%2 == 0 {
		return "a Group of too few, or of an even number"
	}
	if x.Z < 1 || x.Z > mostOfProof {
		return "a Group of no z"
	}
	if !isVertexList(x.Members, size) {
		return "Members that don't ascend, or are no vertices"
	}
	return ""
}

// areNested counts what two lists without repeats have in common: nothing, or all of the shorter one.
func areNested(a, b []int) bool {
	common := 0
	for _, v := range a {
		if slices.Contains(b, v) {
			common++
		}
	}
	return common == 0 || common == min(len(a), len(b))
}

func hasBoth(x impl.Group, e impl.Edge) bool {
	return slices.Contains(x.Members, e.A) && slices.Contains(x.Members, e.B)
}

func slackByHand(p impl.Proof, e impl.Edge) int {
	sum := p.Y[e.A] + p.Y[e.B] - 2*scalarOf(e)
	for _, x := range p.Groups {
		if hasBoth(x, e) {
			sum += x.Z
		}
	}
	return sum
}

// checkFault says why a proof is none of a right graph, by the words of the checker's chapter; nothing where it is one.
func checkFault(g impl.Graph, p impl.Proof) string {
	if len(p.Y) != g.Size || len(p.Groups) > 8 {
		return "not as many y as vertices, or too many Groups"
	}
	if len(p.Y) > 0 && (slices.Min(p.Y) < 0 || slices.Max(p.Y) > mostOfProof) {
		return "a y below 0, or too great"
	}
	for i, x := range p.Groups {
		if fault := groupFault(g.Size, x); fault != "" {
			return fault
		}
		for _, other := range p.Groups[:i] {
			if !areNested(x.Members, other.Members) {
				return "Groups that overlap"
			}
		}
	}
	for _, e := range g.Edges {
		if slackByHand(p, e) < 0 {
			return "an edge with a slack below 0"
		}
	}
	return ""
}

// twiceByHand is what Y and the Groups tell together.
func twiceByHand(p impl.Proof) int {
	sum := 0
	for _, y := range p.Y {
		sum += y
	}
	for _, x := range p.Groups {
		for range (len(x.Members) - 1) / 2 {
			sum += x.Z
		}
	}
	return sum
}

// A worthPool is a right graph with all its pairings, their Scalars and the best sums, drawn up once for many proofs.
type worthPool struct {
	g        impl.Graph
	pairings [][]impl.Couple
	scalars  []int
	best     impl.Sums
}

func poolOf(t *testing.T, g impl.Graph) worthPool {
	t.Helper()
	out := worthPool{g: g, pairings: pairingsOf(g), best: mustBest(t, g)}
	for _, m := range out.pairings {
		out.scalars = append(out.scalars, scalarsByHand(g, m))
	}
	return out
}

// isAccepted holds the answers to a proof against the document's words, whatever proof it is: it answers whether ProofOk is true.
func isAccepted(t *testing.T, what string, g impl.Graph, p impl.Proof) bool {
	t.Helper()
	fault, bound := checkFault(g, p), 0
	if fault == "" {
		bound = int(math.Floor(float64(twiceByHand(p)) / 2))
	}
	if got := impl.ProofOk(g, p); got != (fault == "") {
		t.Fatalf("%s: ProofOk(%+v, %+v) = %v, it has %q", what, g, p, got, fault)
	}
	if got := impl.Bound(g, p); got != bound {
		t.Fatalf("%s: Bound(%+v, %+v) = %d, not %d", what, g, p, got, bound)
	}
	return fault == ""
}

// accepts asks, beyond isAccepted, each pairing of the graph: none has more than the bound, and those that are certified are best.
func (w worthPool) accepts(t *testing.T, what string, p impl.Proof) bool {
	t.Helper()
	ok, bound := isAccepted(t, what, w.g, p), impl.Bound(w.g, p)
	for i, m := range w.pairings {
		if ok && w.scalars[i] > bound {
			t.Fatalf("%s: of %+v, %v has %d, more than the bound %d of %+v", what, w.g, m, w.scalars[i], bound, p)
		}
		want := ok && 2*w.scalars[i] == twiceByHand(p)
		if got := impl.Certifies(w.g, m, p); got != want {
			t.Fatalf("%s: Certifies(%+v, %v, %+v) = %v", what, w.g, m, p, got)
		}
		if want && sumsByHand(w.g, m) != w.best {
			t.Fatalf("%s: of %+v, %v is certified by %+v, but is not best", what, w.g, m, p)
		}
	}
	return ok
}

// refusesProof wants a proof that is refused, with which not even the best pairing is certified.
func refusesProof(t *testing.T, what string, g impl.Graph, p impl.Proof) {
	t.Helper()
	if impl.ProofOk(g, p) {
		t.Errorf("%s: ProofOk(%+v, %+v)", what, g, p)
	}
	if bound := impl.Bound(g, p); bound != 0 {
		t.Errorf("%s: Bound(%+v, %+v) = %d", what, g, p, bound)
	}
	best, _, _ := impl.Solve(g)
	for _, m := range [][]impl.Couple{nil, {}, best, {{A: 0, B: 1}}, {{A: 0, B: 1}, {A: 2, B: 3}}} {
		if impl.Certifies(g, m, p) {
			t.Errorf("%s: Certifies(%+v, %v, %+v)", what, g, m, p)
		}
	}
}

func cloneOfProof(p impl.Proof) impl.Proof {
	out := impl.Proof{Y: slices.Clone(p.Y)}
	for _, x := range p.Groups {
		out.Groups = append(out.Groups, impl.Group{Members: slices.Clone(x.Members), Z: x.Z})
	}
	return out
}

// changed is a proof of its own memory that differs by what is done to it.
func changed(p impl.Proof, change func(*impl.Proof)) impl.Proof {
	out := cloneOfProof(p)
	change(&out)
	return out
}

func withMoreGroups(p impl.Proof, groups ...impl.Group) impl.Proof {
	return changed(p, func(q *impl.Proof) { q.Groups = append(q.Groups, cloneOfProof(impl.Proof{Groups: groups}).Groups...) })
}

// shifts has the proof with each Y, and each Z, more by so much.
func shifts(p impl.Proof, by int) []impl.Proof {
	var out []impl.Proof
	for v := range p.Y {
		out = append(out, changed(p, func(q *impl.Proof) { q.Y[v] += by }))
	}
	for i := range p.Groups {
		out = append(out, changed(p, func(q *impl.Proof) { q.Groups[i].Z += by }))
	}
	return out
}

// oddLists has all Members that a right Group of so many vertices may have.
func oddLists(size int) [][]int {
	return slices.DeleteFunc(ascendingLists(size), func(list []int) bool { return len(list) < 3 || len(list)%2 == 0 })
}

func TestSolvedProofsAreAcceptedAndCertify(t *testing.T) {
	for _, g := range solveGraphs() {
		s := mustSolve(t, g)
		if !isAccepted(t, "solved", g, s.proof) || !impl.Certifies(g, s.pairs, s.proof) || impl.Bound(g, s.proof) != scalarsByHand(g, s.pairs) {
			t.Fatalf("of %+v is solved %+v: ProofOk %v, Bound %d, Certifies %v", g, s, impl.ProofOk(g, s.proof), impl.Bound(g, s.proof), impl.Certifies(g, s.pairs, s.proof))
		}
	}
}

// checkGraphs has graphs of all sizes, but of those with the most pairings only some: every pairing is asked with many proofs.
func checkGraphs() []impl.Graph {
	out := slices.DeleteFunc(rightGraphs(), func(g impl.Graph) bool { return impl.CountMatches(g) > 1000 })
	draw := draws(12)
	for size := 2; size <= impl.MaxPool; size++ {
		for _, inHundred := range []int{30, 60, 100} {
			for _, many := range []int{1, 3, 9} {
				out = append(out, draw.nearWorths(size, inHundred, draw.below(20), many))
			}
		}
	}
	return out
}

func TestGreaterProofsAreAccepted(t *testing.T) {
	for _, g := range checkGraphs() {
		w, s := poolOf(t, g), mustSolve(t, g)
		if !w.accepts(t, "solved", s.proof) {
			t.Fatalf("of %+v is solved %+v, which is refused", g, s)
		}
		for _, p := range append(shifts(s.proof, 1), shifts(s.proof, 2)...) {
			if !w.accepts(t, "a greater number", p) || impl.Certifies(g, s.pairs, p) {
				t.Fatalf("of %+v with %+v: ProofOk %v, Certifies %v", g, p, impl.ProofOk(g, p), impl.Certifies(g, s.pairs, p))
			}
		}
		for _, list := range oddLists(min(g.Size, 5)) {
			isRight := !slices.ContainsFunc(s.proof.Groups, func(x impl.Group) bool { return !areNested(list, x.Members) })
			if p := withMoreGroups(s.proof, impl.Group{Members: list, Z: 1}); w.accepts(t, "one more Group", p) != isRight {
				t.Fatalf("of %+v with %+v: ProofOk is %v", g, p, !isRight)
			}
		}
	}
}

func TestLesserProofsAreCheckedByTheirSlack(t *testing.T) {
	accepted, refused := 0, 0
	for _, g := range checkGraphs() {
		w, s := poolOf(t, g), mustSolve(t, g)
		lesser := append(shifts(s.proof, -1), shifts(s.proof, -2)...)
		for i := range s.proof.Groups {
			lesser = append(lesser, changed(s.proof, func(p *impl.Proof) { p.Groups = slices.Delete(p.Groups, i, i+1) }))
		}
		for _, p := range lesser {
			if w.accepts(t, "a lesser number", p) {
				t.Fatalf("of %+v with %+v no pairing can have as much as is best", g, p)
			}
			refused++
		}
		if len(w.pairings) > 300 {
			continue
		}
		for _, p := range lesser {
			for _, q := range shifts(p, 2) {
				if w.accepts(t, "a lesser number and a greater one", q) {
					accepted++
				} else {
					refused++
				}
			}
		}
	}
	if accepted < 300 || refused < 300 {
		t.Errorf("%d proofs were accepted, %d refused", accepted, refused)
	}
}

// proof draws numbers near to what the edges ask for, and Groups that may overlap; now and then a number among them is wrong.
func (d *draws) proof(g impl.Graph) impl.Proof {
	p := impl.Proof{Y: make([]int, g.Size)}
	for v := range p.Y {
		p.Y[v] = d.below(12)
	}
	lists := oddLists(g.Size)
	for range d.below(4) {
		if len(lists) > 0 {
			p.Groups = append(p.Groups, impl.Group{Members: lists[d.below(len(lists))], Z: 1 + d.below(9)})
		}
	}
	if g.Size > 0 && d.below(10) == 0 {
		p.Y[d.below(g.Size)] -= 12
	}
	if len(p.Groups) > 0 && d.below(10) == 0 {
		p.Groups[d.below(len(p.Groups))].Z = 0
	}
	return p
}

func TestDrawnProofs(t *testing.T) {
	draw, accepted, refused := draws(13), 0, 0
	for range 400 {
		w := poolOf(t, draw.nearWorths(draw.below(8), 20+draw.below(60), 0, 6))
		for range 20 {
			if w.accepts(t, "drawn", draw.proof(w.g)) {
				accepted++
			} else {
				refused++
			}
		}
	}
	if accepted < 500 || refused < 500 {
		t.Errorf("%d proofs were accepted, %d refused", accepted, refused)
	}
}

// TestEveryProofOfThreeVertices goes through all small numbers, one too little and one too great for a slack among them.
func TestEveryProofOfThreeVertices(t *testing.T) {
	all := []impl.Group{{Members: []int{0, 1, 2}}}
	everyGraph(3, []int{0, 1, 2}, func(g impl.Graph) {
		w := poolOf(t, g)
		for number := range 5 * 5 * 5 * 5 {
			p := impl.Proof{Y: []int{number%5 - 1, number/5%5 - 1, number/25%5 - 1}}
			w.accepts(t, "without Groups", p)
			p.Groups = all
			p.Groups[0].Z = number / 125
			w.accepts(t, "with one Group", p)
		}
	})
}

// A checked proof is one whose answers were reckoned by hand; pairs has A and B of each couple of the pairing that is held against it.
type checked struct {
	g           impl.Graph
	y           []int
	groups      []impl.Group
	bound       int
	pairs       []int
	isCertified bool
}

func (c checked) proof() impl.Proof {
	return impl.Proof{Y: c.y, Groups: c.groups}
}

func isCheckedAsReckoned(t *testing.T, all map[string]checked) {
	t.Helper()
	for what, c := range all {
		var m []impl.Couple
		for ends := range slices.Chunk(c.pairs, 2) {
			m = append(m, impl.Couple{A: ends[0], B: ends[1]})
		}
		p := c.proof()
		ok, bound, isCertified := impl.ProofOk(c.g, p), impl.Bound(c.g, p), impl.Certifies(c.g, m, p)
		if !ok || bound != c.bound || isCertified != c.isCertified {
			t.Errorf("%s: of %+v with %+v ProofOk is %v, Bound %d, Certifies of %v %v", what, c.g, p, ok, bound, m, isCertified)
		}
		poolOf(t, c.g).accepts(t, what, p)
	}
}

func oneGroup(z int, members ...int) []impl.Group {
	return []impl.Group{{Members: members, Z: z}}
}

func TestNumbersByHand(t *testing.T) {
	isCheckedAsReckoned(t, map[string]checked{
		"no vertex":                      {isCertified: true},
		"no vertex, lists of nothing":    {g: impl.Graph{Edges: []impl.Edge{}}, y: []int{}, groups: []impl.Group{}, isCertified: true},
		"a vertex":                       {g: impl.Graph{Size: 1}, y: []int{0}, isCertified: true},
		"a vertex of 1: the half, down":  {g: impl.Graph{Size: 1}, y: []int{1}},
		"a vertex of 2":                  {g: impl.Graph{Size: 1}, y: []int{2}, bound: 1},
		"a vertex of 3: the half, down":  {g: impl.Graph{Size: 1}, y: []int{3}, bound: 1},
		"a vertex of the most":           {g: impl.Graph{Size: 1}, y: []int{mostOfProof}, bound: 500000000},
		"no edge":                        {g: impl.Graph{Size: 9}, y: make([]int, 9), isCertified: true},
		"no edge, a Y last":              {g: impl.Graph{Size: 3}, y: []int{0, 0, 7}, bound: 3},
		"no edge, a Group":               {g: impl.Graph{Size: 3}, y: make([]int, 3), groups: oneGroup(5, 0, 1, 2), bound: 2},
		"an edge, Y of A":                {g: thirdWorths(2, 0, 1, 3), y: []int{6, 0}, bound: 3, pairs: []int{0, 1}, isCertified: true},
		"an edge, Y of B":                {g: thirdWorths(2, 0, 1, 3), y: []int{0, 6}, bound: 3, pairs: []int{0, 1}, isCertified: true},
		"an edge, Y of both":             {g: thirdWorths(2, 0, 1, 3), y: []int{1, 5}, bound: 3, pairs: []int{0, 1}, isCertified: true},
		"an edge, one more: odd":         {g: thirdWorths(2, 0, 1, 3), y: []int{4, 3}, bound: 3, pairs: []int{0, 1}},
		"an edge, two more":              {g: thirdWorths(2, 0, 1, 3), y: []int{4, 4}, bound: 4, pairs: []int{0, 1}},
		"an edge, not paired":            {g: thirdWorths(2, 0, 1, 3), y: []int{3, 3}, bound: 3},
		"an edge, Y of the most":         {g: thirdWorths(2, 0, 1, 3), y: []int{mostOfProof, mostOfProof}, bound: 1000000000, pairs: []int{0, 1}},
		"an edge of no worth, paired":    {g: thirdWorths(2, 0, 1, 0), y: []int{0, 0}, pairs: []int{0, 1}, isCertified: true},
		"an edge of no worth, unpaired":  {g: thirdWorths(2, 0, 1, 0), y: []int{0, 0}, isCertified: true},
		"an edge of three worths":        {g: impl.Graph{Size: 2, Edges: []impl.Edge{{A: 0, B: 1, W1: 2, W2: 3, W3: 4}}}, y: []int{361808, 0}, bound: 180904, pairs: []int{0, 1}, isCertified: true},
		"an edge of the most worths":     {g: alike(fullGraph(2), impl.MaxWorth), y: []int{4515050, 4515050}, bound: 4515050, pairs: []int{0, 1}, isCertified: true},
		"a way of three":                 {g: thirdWorths(3, 0, 1, 3, 1, 2, 2), y: []int{2, 4, 0}, bound: 3, pairs: []int{0, 1}, isCertified: true},
		"a way of three, the lesser one": {g: thirdWorths(3, 0, 1, 3, 1, 2, 2), y: []int{2, 4, 0}, bound: 3, pairs: []int{1, 2}},
		"two edges":                      {g: thirdWorths(4, 0, 1, 2, 2, 3, 5), y: []int{4, 0, 3, 7}, bound: 7, pairs: []int{0, 1, 2, 3}, isCertified: true},
		"two edges, one of them":         {g: thirdWorths(4, 0, 1, 2, 2, 3, 5), y: []int{4, 0, 3, 7}, bound: 7, pairs: []int{2, 3}},
		"two edges, an odd sum":          {g: thirdWorths(4, 0, 1, 2, 2, 3, 5), y: []int{4, 1, 3, 7}, bound: 7, pairs: []int{0, 1, 2, 3}},
	})
}

func TestGroupsByHand(t *testing.T) {
	three := thirdWorths(3, 0, 1, 2, 0, 2, 2, 1, 2, 2)
	nine := impl.Graph{Size: 9}
	most := slices.Repeat([]int{mostOfProof}, 9)
	isCheckedAsReckoned(t, map[string]checked{
		"a ring":                        {g: three, y: make([]int, 3), groups: oneGroup(4, 0, 1, 2), bound: 2, pairs: []int{0, 1}, isCertified: true},
		"a ring, another couple":        {g: three, y: make([]int, 3), groups: oneGroup(4, 0, 1, 2), bound: 2, pairs: []int{1, 2}, isCertified: true},
		"a ring, none paired":           {g: three, y: make([]int, 3), groups: oneGroup(4, 0, 1, 2), bound: 2},
		"a ring, one more: odd":         {g: three, y: make([]int, 3), groups: oneGroup(5, 0, 1, 2), bound: 2, pairs: []int{0, 1}},
		"a ring, by Y alone":            {g: three, y: []int{2, 2, 2}, bound: 3, pairs: []int{0, 1}},
		"a ring, by both":               {g: three, y: []int{1, 1, 1}, groups: oneGroup(2, 0, 1, 2), bound: 2, pairs: []int{0, 1}},
		"a ring, two Groups alike":      {g: three, y: make([]int, 3), groups: append(oneGroup(1, 0, 1, 2), oneGroup(3, 0, 1, 2)...), bound: 2, pairs: []int{0, 2}, isCertified: true},
		"a ring, four Groups alike":     {g: three, y: make([]int, 3), groups: slices.Repeat(oneGroup(1, 0, 1, 2), 4), bound: 2, pairs: []int{0, 2}, isCertified: true},
		"three of nine":                 {g: nine, y: make([]int, 9), groups: oneGroup(10, 6, 7, 8), bound: 5},
		"five of nine":                  {g: nine, y: make([]int, 9), groups: oneGroup(10, 0, 2, 4, 6, 8), bound: 10},
		"seven of nine":                 {g: nine, y: make([]int, 9), groups: oneGroup(10, 0, 1, 2, 4, 5, 6, 8), bound: 15},
		"all of nine":                   {g: nine, y: make([]int, 9), groups: oneGroup(10, 0, 1, 2, 3, 4, 5, 6, 7, 8), bound: 20},
		"five, an odd Z twice":          {g: nine, y: make([]int, 9), groups: oneGroup(7, 0, 1, 2, 3, 4), bound: 7},
		"five, and an odd Y":            {g: nine, y: []int{0, 0, 0, 0, 1, 0, 0, 0, 0}, groups: oneGroup(7, 0, 1, 2, 3, 4), bound: 7},
		"Z of the most":                 {g: nine, y: make([]int, 9), groups: oneGroup(mostOfProof, 0, 1, 2), bound: 500000000},
		"as much as there can be":       {g: nine, y: most, groups: slices.Repeat(oneGroup(mostOfProof, 0, 1, 2, 3, 4, 5, 6, 7, 8), 8), bound: 20500000000},
		"one within another":            {g: nine, y: make([]int, 9), groups: append(oneGroup(2, 0, 1, 2), oneGroup(6, 0, 1, 2, 3, 4)...), bound: 7},
		"one within another, it last":   {g: nine, y: make([]int, 9), groups: append(oneGroup(6, 4, 5, 6, 7, 8), oneGroup(2, 4, 6, 8)...), bound: 7},
		"three apart":                   {g: nine, y: make([]int, 9), groups: slices.Concat(oneGroup(2, 0, 3, 6), oneGroup(4, 1, 4, 7), oneGroup(6, 2, 5, 8)), bound: 6},
		"two apart within a third":      {g: nine, y: make([]int, 9), groups: slices.Concat(oneGroup(2, 0, 3, 6), oneGroup(4, 0, 1, 2, 3, 5, 6, 8), oneGroup(6, 2, 5, 8)), bound: 10},
		"four, each within the next":    {g: nine, y: make([]int, 9), groups: slices.Concat(oneGroup(2, 0, 1, 2), oneGroup(2, 0, 1, 2, 3, 4), oneGroup(2, 0, 1, 2, 3, 4, 5, 6), oneGroup(2, 0, 1, 2, 3, 4, 5, 6, 7, 8)), bound: 10},
		"a ring by its Group, one by Y": {g: thirdWorths(7, 0, 1, 3, 0, 2, 3, 1, 2, 3, 2, 3, 1, 3, 4, 5, 4, 5, 5, 4, 6, 5, 5, 6, 5), y: []int{0, 0, 0, 5, 5, 5, 5}, groups: oneGroup(6, 0, 1, 2), bound: 13, pairs: []int{0, 1, 3, 4, 5, 6}, isCertified: true},
	})
}

// TestEveryGroup has each set of vertices as the one Group: those of an odd number, three at least, are right.
func TestEveryGroup(t *testing.T) {
	for size := range impl.MaxPool + 1 {
		g := impl.Graph{Size: size}
		for _, list := range ascendingLists(size) {
			p := impl.Proof{Y: make([]int, size), Groups: []impl.Group{{Members: list, Z: 1}}}
			isRight := len(list) == 3 || len(list) == 5 || len(list) == 7 || len(list) == 9
			if isAccepted(t, "one Group", g, p) != isRight {
				t.Fatalf("of %d vertices ProofOk with the Group %v is %v", size, list, !isRight)
			}
		}
	}
}

// TestEveryListOfMembers goes through all short lists of numbers, those just outside the vertices among them.
func TestEveryListOfMembers(t *testing.T) {
	g := impl.Graph{Size: 5}
	var rights [][]int
	lists := [][]int{{}}
	for len(lists) > 0 {
		list := lists[0]
		lists = lists[1:]
		if isAccepted(t, "one Group", g, impl.Proof{Y: make([]int, 5), Groups: []impl.Group{{Members: list, Z: 1}}}) {
			rights = append(rights, list)
		}
		for v := -1; v <= g.Size && len(list) < 5; v++ {
			lists = append(lists, append(slices.Clone(list), v))
		}
	}
	if len(rights) != 11 || !slices.Equal(rights[10], []int{0, 1, 2, 3, 4}) {
		t.Errorf("the right Members are %v", rights)
	}
}

func TestEveryTwoGroups(t *testing.T) {
	g, nested := impl.Graph{Size: impl.MaxPool}, 0
	lists := oddLists(impl.MaxPool)
	for _, a := range lists {
		for _, b := range lists {
			p := impl.Proof{Y: make([]int, g.Size), Groups: []impl.Group{{Members: a, Z: 1}, {Members: b, Z: 2}}}
			if isAccepted(t, "two Groups", g, p) {
				nested++
			}
		}
	}
	// The same: 84 + 126 + 36 + 1. Within: of three in five 126 * 10, in seven 36 * 35, in nine 84; of five in seven 36 * 21, in nine 126; of seven in nine 36. Apart: of three and three 84 * 20 / 2, of three and five 84 * 6.
	if want := 247 + 2*(1260+1260+84+756+126+36) + 2*(840+504); nested != want {
		t.Errorf("%d of all two Groups are accepted, not %d", nested, want)
	}
}

func TestEveryThreeGroups(t *testing.T) {
	g := impl.Graph{Size: 6}
	lists := oddLists(6)
	for _, a := range lists {
		for _, b := range lists {
			for _, c := range lists {
				groups := []impl.Group{{Members: a, Z: 1}, {Members: b, Z: 2}, {Members: c, Z: 3}}
				isAccepted(t, "three Groups", g, impl.Proof{Y: make([]int, 6), Groups: groups})
			}
		}
	}
}

// TestOverlapAtEachPlace has eight Groups, two of which overlap, at each two places.
func TestOverlapAtEachPlace(t *testing.T) {
	g := impl.Graph{Size: 9}
	around := impl.Group{Members: allPlaces(9), Z: 1}
	for _, c := range []struct {
		a, b   []int
		nested bool
	}{
		{[]int{0, 1, 2}, []int{2, 3, 4}, false},
		{[]int{0, 1, 2}, []int{0, 7, 8}, false},
		{[]int{0, 1, 8}, []int{1, 2, 8}, false},
		{[]int{0, 1, 2, 3, 4}, []int{4, 5, 6}, false},
		{[]int{0, 1, 2, 3, 4}, []int{3, 4, 5}, false},
		{[]int{0, 1, 2, 3, 4}, []int{1, 2, 3, 4, 5}, false},
		{[]int{0, 1, 2, 3, 4, 5, 6}, []int{6, 7, 8}, false},
		{[]int{0, 1, 2, 3, 4, 5, 6}, []int{2, 3, 4, 5, 6, 7, 8}, false},
		{[]int{0, 1, 2}, []int{6, 7, 8}, true},
		{[]int{0, 1, 2}, []int{0, 1, 2}, true},
		{[]int{0, 4, 8}, []int{0, 2, 4, 6, 8}, true},
		{[]int{0, 4, 8}, []int{1, 2, 3, 5, 6}, true},
	} {
		for i := range 8 {
			for j := range 8 {
				groups := slices.Repeat([]impl.Group{around}, 8)
				groups[i].Members = c.a
				if i != j {
					groups[j].Members = c.b
				}
				p := impl.Proof{Y: make([]int, 9), Groups: groups}
				if got := isAccepted(t, "eight Groups", g, p); got != (c.nested || i == j) {
					t.Errorf("%v at %d and %v at %d: ProofOk is %v", c.a, i, c.b, j, got)
				}
			}
		}
	}
}

// TestWhatIsRefusedForItsFormAlone has proofs whose slacks and sums would certify a pairing that is best.
func TestWhatIsRefusedForItsFormAlone(t *testing.T) {
	one := thirdWorths(5, 0, 1, 1)
	two := thirdWorths(5, 0, 1, 1, 3, 4, 1)
	for what, c := range map[string]checked{
		"Groups that overlap":                 {g: two, y: make([]int, 5), groups: append(oneGroup(2, 0, 1, 2), oneGroup(2, 2, 3, 4)...)},
		"Groups that overlap, turned":         {g: two, y: make([]int, 5), groups: append(oneGroup(2, 2, 3, 4), oneGroup(2, 0, 1, 2)...)},
		"a Group of two":                      {g: thirdWorths(5, 0, 1, 0), y: make([]int, 5), groups: oneGroup(1, 0, 1)},
		"a Group of four":                     {g: one, y: make([]int, 5), groups: oneGroup(2, 0, 1, 2, 3)},
		"a Group of one":                      {g: thirdWorths(5, 0, 1, 0), y: make([]int, 5), groups: oneGroup(1, 3)},
		"a Group of none":                     {g: thirdWorths(5, 0, 1, 0), y: make([]int, 5), groups: oneGroup(1)},
		"Z of 0":                              {g: one, y: []int{1, 1, 0, 0, 0}, groups: oneGroup(0, 0, 1, 2)},
		"Z below 0":                           {g: one, y: []int{2, 2, 0, 0, 0}, groups: oneGroup(-2, 0, 1, 2)},
		"Y below 0":                           {g: one, y: []int{3, -1, 0, 0, 0}},
		"Y below 0, of no edge":               {g: one, y: []int{2, 1, 0, 0, -1}},
		"one Y too few":                       {g: one, y: []int{1, 1, 0, 0}},
		"one Y too many":                      {g: one, y: []int{1, 1, 0, 0, 0, 0}},
		"no Y":                                {g: thirdWorths(5, 0, 1, 0)},
		"Members that fall":                   {g: one, y: make([]int, 5), groups: oneGroup(2, 1, 0, 2)},
		"Members of which the last one falls": {g: one, y: make([]int, 5), groups: oneGroup(2, 0, 2, 1)},
		"a Member twice":                      {g: one, y: make([]int, 5), groups: oneGroup(2, 0, 1, 1)},
		"a Member twice, first":               {g: one, y: make([]int, 5), groups: oneGroup(2, 0, 0, 1)},
		"a Member below 0":                    {g: one, y: make([]int, 5), groups: oneGroup(2, -1, 0, 1)},
		"a Member of Size":                    {g: one, y: make([]int, 5), groups: oneGroup(2, 0, 1, 5)},
		"a Member of MaxPool":                 {g: one, y: make([]int, 5), groups: oneGroup(2, 0, 1, impl.MaxPool)},
		"nine Groups":                         {g: thirdWorths(5, 0, 1, 9), y: make([]int, 5), groups: slices.Repeat(oneGroup(2, 0, 1, 2), 9)},
		"a Y for no vertex":                   {y: []int{0}},
		"a Group of no vertex":                {groups: oneGroup(1)},
		"a slack below 0 by one, sum right":   {g: thirdWorths(4, 0, 1, 2, 2, 3, 2), y: []int{2, 1, 3, 2}},
	} {
		refusesProof(t, what, c.g, c.proof())
	}
}

// TestGroupsOfEvenNumbersWouldBindTooLittle shows why they are refused: a pairing has more than what their half of one less tells.
func TestGroupsOfEvenNumbersWouldBindTooLittle(t *testing.T) {
	for size := 2; size <= impl.MaxPool; size += 2 {
		g := alike(graphThat(size, func(a, b int) bool { return a%2 == 0 && b == a+1 }), 1)
		p := impl.Proof{Y: make([]int, size), Groups: oneGroup(2*90301, allPlaces(size)...)}
		refusesProof(t, "all of an even number", g, p)
	}
}

func TestLimitsOfNumbers(t *testing.T) {
	for size := 1; size <= impl.MaxPool; size++ {
		g := impl.Graph{Size: size}
		for v := range size {
			for _, y := range []int{math.MinInt, -mostOfProof, -1, 0, 1, mostOfProof - 1, mostOfProof, mostOfProof + 1, 1 << 32, 1 << 62, math.MaxInt} {
				p := impl.Proof{Y: make([]int, size)}
				p.Y[v] = y
				if got := isAccepted(t, "one Y", g, p); got != (y >= 0 && y <= 1000000000) {
					t.Errorf("of %d vertices with Y %v ProofOk is %v", size, p.Y, got)
				}
			}
		}
	}
	g := impl.Graph{Size: 4}
	for place := range 8 {
		for _, z := range []int{math.MinInt, -mostOfProof, -1, 0, 1, 2, mostOfProof - 1, mostOfProof, mostOfProof + 1, 1 << 32, 1 << 62, math.MaxInt} {
			p := impl.Proof{Y: make([]int, 4), Groups: slices.Repeat(oneGroup(1, 1, 2, 3), 8)}
			p.Groups[place].Z = z
			if got := isAccepted(t, "one Z", g, p); got != (z >= 1 && z <= 1000000000) {
				t.Errorf("with Z %d of the Group %d ProofOk is %v", z, place, got)
			}
		}
	}
}

func TestNumbersAsFarAsThereAre(t *testing.T) {
	far := []int{math.MinInt, math.MinInt + 1, -1 << 62, -1 << 32, 1 << 32, 1 << 62, math.MaxInt - 1, math.MaxInt}
	g := thirdWorths(5, 0, 1, 1, 1, 2, 1, 3, 4, 1)
	right := impl.Proof{Y: []int{2, 2, 2, 2, 2}, Groups: append(oneGroup(2, 0, 1, 2), oneGroup(2, 0, 1, 2, 3, 4)...)}
	if !isAccepted(t, "ahead of the change", g, right) {
		t.Fatal("refused")
	}
	for _, n := range far {
		for v := range right.Y {
			refusesProof(t, "one Y", g, changed(right, func(p *impl.Proof) { p.Y[v] = n }))
			refusesProof(t, "two Y", g, changed(right, func(p *impl.Proof) { p.Y[v], p.Y[(v+1)%5] = n, n }))
			refusesProof(t, "two Y that make nothing together", g, changed(right, func(p *impl.Proof) { p.Y[v], p.Y[(v+1)%5] = n, -n }))
		}
		for i, x := range right.Groups {
			refusesProof(t, "Z", g, changed(right, func(p *impl.Proof) { p.Groups[i].Z = n }))
			for at := range x.Members {
				refusesProof(t, "a Member", g, changed(right, func(p *impl.Proof) { p.Groups[i].Members[at] = n }))
			}
		}
		refusesProof(t, "all Y", g, changed(right, func(p *impl.Proof) { p.Y = slices.Repeat([]int{n}, 5) }))
		refusesProof(t, "three Members", g, changed(right, func(p *impl.Proof) { p.Groups[1].Members = []int{n, n, n} }))
		refusesProof(t, "an ascent that wraps round", g, changed(right, func(p *impl.Proof) { p.Groups[1].Members = []int{0, n, n + 1} }))
	}
}

func TestHowManyYAndGroups(t *testing.T) {
	for size := range impl.MaxPool + 1 {
		for many := range impl.MaxPool + 3 {
			p := impl.Proof{Y: make([]int, many)}
			if got := isAccepted(t, "so many Y", impl.Graph{Size: size}, p); got != (many == size) {
				t.Errorf("of %d vertices with %d Y ProofOk is %v", size, many, got)
			}
		}
	}
	apart := [][]int{{0, 1, 2}, {3, 4, 5}, {6, 7, 8}, {0, 1, 2, 3, 4, 5, 6, 7, 8}}
	for many := range 20 {
		same, others := impl.Proof{Y: make([]int, 9)}, impl.Proof{Y: make([]int, 9)}
		for i := range many {
			same.Groups = append(same.Groups, impl.Group{Members: []int{0, 4, 8}, Z: 1})
			others.Groups = append(others.Groups, impl.Group{Members: apart[i%4], Z: 1 + i})
		}
		for _, p := range []impl.Proof{same, others} {
			if got := isAccepted(t, "so many Groups", impl.Graph{Size: 9}, p); got != (many <= 8) {
				t.Errorf("with %d Groups ProofOk is %v", many, got)
			}
		}
	}
}

// TestWrongGroupAtEachPlace has eight Groups, of which one alone is wrong.
func TestWrongGroupAtEachPlace(t *testing.T) {
	g := impl.Graph{Size: 7}
	right := impl.Proof{Y: make([]int, 7), Groups: slices.Repeat(oneGroup(1, 0, 1, 2, 3, 4, 5, 6), 8)}
	for what, x := range map[string]impl.Group{
		"two":                        {Members: []int{0, 1}, Z: 1},
		"four":                       {Members: []int{0, 1, 2, 3}, Z: 1},
		"none":                       {Z: 1},
		"falls at the end":           {Members: []int{0, 1, 2, 3, 5, 4, 6}, Z: 1},
		"falls at the beginning":     {Members: []int{1, 0, 2, 3, 4, 5, 6}, Z: 1},
		"the last one twice":         {Members: []int{0, 1, 2, 6, 6}, Z: 1},
		"the first one twice":        {Members: []int{0, 0, 1, 2, 3}, Z: 1},
		"one twice, others between":  {Members: []int{0, 1, 0}, Z: 1},
		"Size last":                  {Members: []int{0, 1, 2, 3, 7}, Z: 1},
		"below 0 first":              {Members: []int{-1, 1, 2}, Z: 1},
		"below 0 last":               {Members: []int{1, 2, -1}, Z: 1},
		"more Members than vertices": {Members: []int{0, 1, 2, 3, 4, 5, 6, 7, 8}, Z: 1},
		"more Members than any has":  {Members: allPlaces(100001), Z: 1},
		"Z of 0":                     {Members: []int{0, 1, 2}},
		"Z above the most":           {Members: []int{0, 1, 2}, Z: mostOfProof + 1},
		"the zero value":             {},
	} {
		for place := range right.Groups {
			refusesProof(t, what, g, changed(right, func(p *impl.Proof) { p.Groups[place] = x }))
		}
	}
}

// TestSlackAtItsEdge has one edge whose slack is 0, and below 0 by one, with Groups of which some have both its ends.
func TestSlackAtItsEdge(t *testing.T) {
	g := impl.Graph{Size: 7, Edges: []impl.Edge{{A: 1, B: 3, W1: 1, W2: 1, W3: 1}}}
	for what, c := range map[string]struct {
		groups []impl.Group
		z      int
	}{
		"no Group":                            {nil, 0},
		"a Group of both ends":                {oneGroup(1000, 1, 2, 3), 1000},
		"a Group of both ends and others":     {oneGroup(1000, 0, 1, 3, 5, 6), 1000},
		"a Group of all":                      {oneGroup(1001, 0, 1, 2, 3, 4, 5, 6), 1001},
		"a Group of A":                        {oneGroup(1000, 0, 1, 2), 0},
		"a Group of B":                        {oneGroup(1000, 3, 4, 5), 0},
		"a Group of A and one of B":           {append(oneGroup(1000, 0, 1, 2), oneGroup(500, 3, 4, 5)...), 0},
		"a Group of none":                     {oneGroup(1000, 0, 2, 4), 0},
		"two Groups of both ends":             {append(oneGroup(300, 1, 2, 3), oneGroup(40, 0, 1, 2, 3, 4)...), 340},
		"two Groups of both ends, the same":   {append(oneGroup(300, 1, 2, 3), oneGroup(40, 1, 2, 3)...), 340},
		"one of A within one of both ends":    {append(oneGroup(300, 0, 1, 2), oneGroup(40, 0, 1, 2, 3, 4)...), 40},
		"one of none within one of both ends": {append(oneGroup(300, 0, 1, 2, 3, 4, 5, 6), oneGroup(40, 0, 4, 5)...), 300},
		"one of both ends, one of none apart": {append(oneGroup(300, 4, 5, 6), oneGroup(40, 1, 2, 3)...), 40},
		"eight Groups of both ends":           {slices.Repeat(oneGroup(9, 1, 2, 3), 8), 72},
		"Z of all but one":                    {oneGroup(2*90301-1, 1, 2, 3), 2*90301 - 1},
	} {
		need := 2*90301 - c.z
		for _, a := range []int{0, need / 2, need} {
			p := impl.Proof{Y: []int{9, a, 9, need - a, 9, 9, 9}, Groups: c.groups}
			if !isAccepted(t, what, g, p) {
				t.Errorf("%s: with %+v ProofOk is false", what, p)
			}
			lesser := 1
			if p.Y[lesser] == 0 {
				lesser = 3
			}
			refusesProof(t, what, g, changed(p, func(q *impl.Proof) { q.Y[lesser]-- }))
			if !isAccepted(t, what, g, changed(p, func(q *impl.Proof) { q.Y[lesser]--; q.Y[4-lesser]++ })) {
				t.Errorf("%s: one more of the other end than in %+v does not help", what, p)
			}
		}
	}
}

// TestEachEdgeMayBeTheShortOne has all slacks above 0 but that of one edge, which is 0, and then below 0 by one.
func TestEachEdgeMayBeTheShortOne(t *testing.T) {
	for size := 2; size <= impl.MaxPool; size++ {
		for i := range fullGraph(size).Edges {
			g := alike(fullGraph(size), 7)
			g.Edges[i].W3++
			e := g.Edges[i]
			p := impl.Proof{Y: slices.Repeat([]int{7*90301 + 1}, size)}
			if !isAccepted(t, "a slack of 0", g, p) {
				t.Errorf("of %d vertices, with a slack of 0 at %+v, ProofOk is false", size, e)
			}
			for _, v := range []int{e.A, e.B} {
				refusesProof(t, "a slack below 0 by one", g, changed(p, func(q *impl.Proof) { q.Y[v]-- }))
			}
		}
	}
}

// TestEachWorthCountsForTheSlack has an edge of one worth alone.
func TestEachWorthCountsForTheSlack(t *testing.T) {
	for scalar, e := range map[int]impl.Edge{90000: {A: 0, B: 1, W1: 1}, 300: {A: 0, B: 1, W2: 1}, 1: {A: 0, B: 1, W3: 1}, 4500000: {A: 0, B: 1, W1: 50}, 15000: {A: 0, B: 1, W2: 50}} {
		g := impl.Graph{Size: 2, Edges: []impl.Edge{e}}
		p := impl.Proof{Y: []int{scalar, scalar}}
		if bound := impl.Bound(g, p); bound != scalar || !impl.Certifies(g, []impl.Couple{{A: 0, B: 1}}, p) {
			t.Errorf("of %+v with %+v Bound is %d", g, p, bound)
		}
		refusesProof(t, "one less", g, impl.Proof{Y: []int{scalar, scalar - 1}})
	}
}

func TestGroupsInAnyOrder(t *testing.T) {
	draw := draws(14)
	for _, g := range checkGraphs() {
		w, s := poolOf(t, g), mustSolve(t, g)
		for range 3 {
			p := changed(s.proof, func(q *impl.Proof) {
				for i := range q.Groups {
					j := draw.below(i + 1)
					q.Groups[i], q.Groups[j] = q.Groups[j], q.Groups[i]
				}
			})
			if !w.accepts(t, "Groups turned", p) || !impl.Certifies(g, s.pairs, p) {
				t.Fatalf("of %+v, %+v is refused, its Groups in another order are not", g, p)
			}
		}
	}
}

func TestWrongGraphsHaveNoProof(t *testing.T) {
	for what, g := range wrongGraphs() {
		for many := range impl.MaxPool + 4 {
			for _, y := range []int{0, 5 * 90301, mostOfProof} {
				p := impl.Proof{Y: slices.Repeat([]int{y}, many)}
				refusesProof(t, what, g, p)
				refusesProof(t, what+", with a Group", g, withMoreGroups(p, impl.Group{Members: []int{0, 1, 2}, Z: mostOfProof}))
			}
		}
		refusesProof(t, what+", with all that is wrong", g, impl.Proof{Y: []int{-1}, Groups: []impl.Group{{}, {Members: []int{math.MinInt, math.MaxInt, 0}, Z: -1}}})
	}
}

// TestOnlyPairingsAreCertified has a graph in which every three edges, and one in which any edges, have the sum that is asked for.
func TestOnlyPairingsAreCertified(t *testing.T) {
	three, none := alike(fullGraph(6), 1), alike(fullGraph(6), 0)
	threeProof, noneProof := impl.Proof{Y: slices.Repeat([]int{90301}, 6)}, impl.Proof{Y: make([]int, 6)}
	right := []impl.Couple{{A: 0, B: 1}, {A: 2, B: 3}, {A: 4, B: 5}}
	if !impl.Certifies(three, right, threeProof) || !impl.Certifies(none, right, noneProof) || !impl.Certifies(none, nil, noneProof) || impl.Certifies(three, right[:2], threeProof) {
		t.Error("right pairings are not told apart")
	}
	for what, m := range map[string][]impl.Couple{
		"two turned":                  {{A: 2, B: 3}, {A: 0, B: 1}, {A: 4, B: 5}},
		"two turned at the end":       {{A: 0, B: 1}, {A: 4, B: 5}, {A: 2, B: 3}},
		"A above B, first":            {{A: 1, B: 0}, {A: 2, B: 3}, {A: 4, B: 5}},
		"A above B, last":             {{A: 0, B: 1}, {A: 2, B: 3}, {A: 5, B: 4}},
		"one thrice":                  {{A: 0, B: 1}, {A: 0, B: 1}, {A: 0, B: 1}},
		"one twice, last":             {{A: 0, B: 1}, {A: 2, B: 3}, {A: 2, B: 3}},
		"a vertex in two":             {{A: 0, B: 1}, {A: 1, B: 2}, {A: 3, B: 4}},
		"a vertex as B of two":        {{A: 0, B: 5}, {A: 1, B: 2}, {A: 3, B: 5}},
		"A equal to B":                {{A: 0, B: 1}, {A: 2, B: 3}, {A: 4, B: 4}},
		"no vertex":                   {{A: 0, B: 1}, {A: 2, B: 3}, {A: 4, B: 6}},
		"below 0":                     {{A: -1, B: 1}, {A: 2, B: 3}, {A: 4, B: 5}},
		"as far as there is":          {{A: math.MinInt, B: math.MaxInt}, {A: 2, B: 3}, {A: 4, B: 5}},
		"a fourth one behind":         {{A: 0, B: 1}, {A: 2, B: 3}, {A: 4, B: 5}, {A: 5, B: 6}},
		"more couples than there are": slices.Repeat([]impl.Couple{{A: 0, B: 1}}, 10000),
	} {
		if impl.Certifies(three, m, threeProof) || impl.Certifies(none, m, noneProof) {
			t.Errorf("%s: Certifies of %v", what, m)
		}
	}
	way := alike(graphThat(6, func(a, b int) bool { return b == a+1 }), 0)
	if impl.Certifies(way, []impl.Couple{{A: 0, B: 2}}, noneProof) || !impl.Certifies(way, right, noneProof) {
		t.Error("couples are not asked for their edges")
	}
}

// A proofRoom has what a proof's lists have, and what stands in the spare room behind each.
type proofRoom struct {
	y       []int
	groups  []impl.Group
	members [][]int
}

// roomyProof is the same proof with numbers and Groups in the spare room that would be right ones.
func roomyProof(p impl.Proof) (impl.Proof, proofRoom) {
	room := proofRoom{y: append(slices.Clone(p.Y), 4, 5, 6)}
	for _, x := range p.Groups {
		members := append(slices.Clone(x.Members), 7, 8)
		room.members = append(room.members, members)
		room.groups = append(room.groups, impl.Group{Members: members[:len(x.Members)], Z: x.Z})
	}
	room.groups = append(room.groups, impl.Group{Members: []int{0, 1, 2}, Z: 1}, impl.Group{})
	return impl.Proof{Y: room.y[:len(p.Y)], Groups: room.groups[:len(p.Groups)]}, room
}

func (r proofRoom) clone() proofRoom {
	out := proofRoom{y: slices.Clone(r.y), groups: cloneOfProof(impl.Proof{Groups: r.groups}).Groups}
	for _, members := range r.members {
		out.members = append(out.members, slices.Clone(members))
	}
	return out
}

// proofsToSpoil has, for a graph, right proofs and wrong ones.
func proofsToSpoil(g impl.Graph) []impl.Proof {
	_, p, _ := impl.Solve(g)
	return append(shifts(p, -1), p,
		withMoreGroups(p, impl.Group{Members: []int{0, 1, 2}, Z: 3}),
		withMoreGroups(p, impl.Group{Members: []int{0, 1, 2, 3, 4}, Z: 3}, impl.Group{Members: []int{4, 5, 6}, Z: 3}),
		withMoreGroups(p, impl.Group{Members: []int{2, 1, 0}, Z: 3}),
		withMoreGroups(p, impl.Group{Members: []int{0, 1, 20}, Z: 3}),
		impl.Proof{}, impl.Proof{Y: []int{-1, -2}, Groups: []impl.Group{{Members: []int{3, -3}, Z: -3}}})
}

func TestProofsAreNotWrittenInto(t *testing.T) {
	graphs := checkGraphs()
	for _, g := range wrongGraphs() {
		graphs = append(graphs, g)
	}
	for _, plain := range graphs {
		g, edges := roomyGraph(plain)
		heldEdges := slices.Clone(edges)
		best, _, _ := impl.Solve(plain)
		couples := append(slices.Clone(best), impl.Couple{A: 0, B: 1}, impl.Couple{A: 81, B: 82})
		heldCouples := slices.Clone(couples)
		for _, q := range proofsToSpoil(plain) {
			p, room := roomyProof(q)
			held := room.clone()
			if impl.ProofOk(g, p) != impl.ProofOk(plain, q) || impl.Bound(g, p) != impl.Bound(plain, q) || impl.Certifies(g, couples[:len(best)], p) != impl.Certifies(plain, best, q) {
				t.Fatalf("of %+v, %+v is told apart by what stands behind the lists", plain, q)
			}
			if !reflect.DeepEqual(room, held) || !slices.Equal(edges, heldEdges) || !slices.Equal(couples, heldCouples) {
				t.Fatalf("of %+v with %+v became %v, %v and %+v", plain, q, edges, couples, room)
			}
		}
	}
}

func TestCheckedTheSameWhateverWasCheckedAhead(t *testing.T) {
	g := thirdWorths(5, 0, 1, 2, 0, 2, 2, 1, 2, 2, 3, 4, 1)
	right := impl.Proof{Y: []int{0, 0, 0, 1, 1}, Groups: oneGroup(4, 0, 1, 2)}
	for _, ahead := range append(proofsToSpoil(g), right) {
		impl.Certifies(g, nil, ahead)
		if !impl.ProofOk(g, right) || impl.Bound(g, right) != 3 || !impl.Certifies(g, []impl.Couple{{A: 0, B: 1}, {A: 3, B: 4}}, right) {
			t.Errorf("behind %+v the right proof is refused", ahead)
		}
	}
}
