package tests

import (
	"cmp"
	"slices"
	"strconv"
	"strings"

	"loop.example/g00105/impl"
)

// A ringOfNodes has its nodes, and for each of them the edge that links it to the next one.
type ringOfNodes struct {
	nodes, links []int
	z, base      int
}

// slowSolver goes through the document's rounds once more, with nothing kept that can be looked for: a node is a number (a vertex is its own, the first ring is Size, and so on by when they were made), the mate edges are a set of edges' places.
type slowSolver struct {
	g      impl.Graph
	y      []int
	rings  map[int]*ringOfNodes
	made   int
	mates  map[int]bool
	labels map[int]string
	ahead  map[int]int
	rounds int
	told   []string
}

func slowSolverOf(g impl.Graph) *slowSolver {
	s := &slowSolver{g: g, rings: map[int]*ringOfNodes{}, made: g.Size, mates: map[int]bool{}}
	most := 0
	for _, e := range g.Edges {
		most = max(most, scalarOf(e))
	}
	s.y = slices.Repeat([]int{most}, g.Size)
	return s
}

func scalarOf(e impl.Edge) int {
	return 90000*e.W1 + 300*e.W2 + e.W3
}

func (s *slowSolver) tell(words ...string) {
	s.told = append(s.told, strings.Join(words, " "))
}

// within has the vertices of a node, ascending.
func (s *slowSolver) within(node int) []int {
	if node < s.g.Size {
		return []int{node}
	}
	var out []int
	for _, part := range s.rings[node].nodes {
		out = append(out, s.within(part)...)
	}
	slices.Sort(out)
	return out
}

func (s *slowSolver) has(node, v int) bool {
	return slices.Contains(s.within(node), v)
}

// ringNumbers has the rings that there are, those that were made first ahead.
func (s *slowSolver) ringNumbers() []int {
	var out []int
	for n := s.g.Size; n < s.made; n++ {
		if s.rings[n] != nil {
			out = append(out, n)
		}
	}
	return out
}

func (s *slowSolver) tops() []int {
	var out []int
	for n := range s.g.Size {
		out = append(out, n)
	}
	out = append(out, s.ringNumbers()...)
	for _, r := range s.ringNumbers() {
		out = slices.DeleteFunc(out, func(n int) bool { return slices.Contains(s.rings[r].nodes, n) })
	}
	return out
}

func (s *slowSolver) topRings() []int {
	return slices.DeleteFunc(s.tops(), func(n int) bool { return n < s.g.Size })
}

func (s *slowSolver) topOf(v int) int {
	for _, n := range s.tops() {
		if s.has(n, v) {
			return n
		}
	}
	panic("a vertex without a top")
}

// leaves tells whether an edge has just one end in a node.
func (s *slowSolver) leaves(node, edge int) bool {
	e := s.g.Edges[edge]
	return s.has(node, e.A) != s.has(node, e.B)
}

func (s *slowSolver) mateEdge(top int) int {
	for i := range s.g.Edges {
		if s.mates[i] && s.leaves(top, i) {
			return i
		}
	}
	return -1
}

// otherTop is the top at the other end of an edge that leaves a top.
func (s *slowSolver) otherTop(top, edge int) int {
	e := s.g.Edges[edge]
	if s.has(top, e.A) {
		return s.topOf(e.B)
	}
	return s.topOf(e.A)
}

func (s *slowSolver) slack(edge int) int {
	e := s.g.Edges[edge]
	sum := s.y[e.A] + s.y[e.B] - 2*scalarOf(e)
	for n, ring := range s.rings {
		if s.has(n, e.A) && s.has(n, e.B) {
			sum += ring.z
		}
	}
	return sum
}

// isMeeting tells whether an edge is between two tops, one of which is even and the other one not odd.
func (s *slowSolver) isMeeting(e impl.Edge) bool {
	a, b := s.topOf(e.A), s.topOf(e.B)
	labels := s.labels[a] + s.labels[b]
	return a != b && (labels == "even" || labels == "eveneven")
}

func (s *slowSolver) firstTight() int {
	for i, e := range s.g.Edges {
		if s.slack(i) == 0 && s.isMeeting(e) {
			return i
		}
	}
	return -1
}

// label is step 1; it answers the edge with which the labels are done, or -1.
func (s *slowSolver) label() int {
	s.labels, s.ahead = map[int]string{}, map[int]int{}
	for _, n := range s.tops() {
		if s.mateEdge(n) == -1 {
			s.labels[n] = "even"
		}
	}
	for {
		edge := s.firstTight()
		if edge == -1 {
			return -1
		}
		a, b := s.topOf(s.g.Edges[edge].A), s.topOf(s.g.Edges[edge].B)
		if s.labels[a] == s.labels[b] {
			return edge
		}
		odd := a
		if s.labels[a] == "even" {
			odd = b
		}
		even := s.otherTop(odd, s.mateEdge(odd))
		s.labels[odd], s.ahead[odd] = "odd", edge
		s.labels[even], s.ahead[even] = "even", s.mateEdge(odd)
	}
}

// way has the nodes from a top to its root, and the edges between them.
func (s *slowSolver) way(top int) ([]int, []int) {
	nodes, edges := []int{top}, []int{}
	for {
		edge, ok := s.ahead[top]
		if !ok {
			return nodes, edges
		}
		top = s.otherTop(top, edge)
		nodes, edges = append(nodes, top), append(edges, edge)
	}
}

func numbersOf(list []int) string {
	var words []string
	for _, n := range list {
		words = append(words, strconv.Itoa(n))
	}
	return strings.Join(words, ",")
}

func (s *slowSolver) pair(edge int, ways ...int) {
	s.tell("pair", numbersOf([]int{s.g.Edges[edge].A, s.g.Edges[edge].B}))
	for _, i := range append(ways, edge) {
		s.mates[i] = !s.mates[i]
	}
	for {
		at := slices.IndexFunc(s.topRings(), func(n int) bool { return s.rings[n].z == 0 })
		if at == -1 {
			return
		}
		s.open(s.topRings()[at], "pairing")
	}
}

func (s *slowSolver) shrink(edge int) {
	left, leftEdges := s.way(s.topOf(s.g.Edges[edge].A))
	right, rightEdges := s.way(s.topOf(s.g.Edges[edge].B))
	at := slices.IndexFunc(left, func(n int) bool { return slices.Contains(right, n) })
	behind := slices.Index(right, left[at])
	joint := left[at]
	left, leftEdges = left[:at], leftEdges[:at]
	slices.Reverse(left)
	slices.Reverse(leftEdges)
	ring := &ringOfNodes{base: joint}
	if joint >= s.g.Size {
		ring.base = s.rings[joint].base
	}
	ring.nodes = slices.Concat([]int{joint}, left, right[:behind])
	ring.links = slices.Concat(leftEdges, []int{edge}, rightEdges[:behind])
	s.rings[s.made] = ring
	s.tell("ring", numbersOf([]int{s.made})+":", numbersOf(ring.nodes))
	for i, e := range s.g.Edges {
		if s.has(s.made, e.A) && s.has(s.made, e.B) {
			s.mates[i] = false
		}
	}
	s.made++
}

func (s *slowSolver) open(number int, when string) {
	ring, mate := s.rings[number], s.mateEdge(number)
	by, entry := "base", ring.base
	if mate != -1 {
		by, entry = "mate", s.g.Edges[mate].A
		if !s.has(number, entry) {
			entry = s.g.Edges[mate].B
		}
	}
	s.tell("open", strconv.Itoa(number), "by", by, strconv.Itoa(entry)+",", when)
	at := slices.IndexFunc(ring.nodes, func(n int) bool { return s.has(n, entry) })
	size := len(ring.nodes)
	for i := 1; i < size; i += 2 {
		s.mates[ring.links[(at+i)%size]] = true
	}
	delete(s.rings, number)
}

// evenYs has y of all vertices whose top is even.
func (s *slowSolver) evenYs() []int {
	var out []int
	for v, y := range s.y {
		if s.labels[s.topOf(v)] == "even" {
			out = append(out, y)
		}
	}
	return out
}

func (s *slowSolver) leastShift() int {
	all := s.evenYs()
	for i, e := range s.g.Edges {
		switch {
		case !s.isMeeting(e):
		case s.labels[s.topOf(e.A)] == s.labels[s.topOf(e.B)]:
			all = append(all, half(s.slack(i)))
		default:
			all = append(all, s.slack(i))
		}
	}
	for _, n := range s.topRings() {
		if s.labels[n] == "odd" {
			all = append(all, half(s.rings[n].z))
		}
	}
	return slices.Min(all)
}

func half(n int) int {
	if n%2 != 0 {
		panic("there is no half of an odd number")
	}
	return n / 2
}

// shift is step 4; it answers whether all is done.
func (s *slowSolver) shift() bool {
	if len(s.evenYs()) == 0 {
		s.tell("none even")
		return true
	}
	d := s.leastShift()
	s.tell("shift", strconv.Itoa(d))
	sign := map[string]int{"even": 1, "odd": -1}
	for v := range s.y {
		s.y[v] -= d * sign[s.labels[s.topOf(v)]]
	}
	for _, n := range s.topRings() {
		s.rings[n].z += 2 * d * sign[s.labels[n]]
	}
	if slices.Min(s.evenYs()) == 0 {
		return true
	}
	for _, n := range s.topRings() {
		if s.labels[n] == "odd" && s.rings[n].z == 0 {
			s.open(n, "shifting")
			break
		}
	}
	return false
}

// round answers whether all is done.
func (s *slowSolver) round() bool {
	s.rounds++
	edge := s.label()
	if edge == -1 {
		return s.shift()
	}
	left, leftEdges := s.way(s.topOf(s.g.Edges[edge].A))
	right, rightEdges := s.way(s.topOf(s.g.Edges[edge].B))
	if left[len(left)-1] != right[len(right)-1] {
		s.pair(edge, slices.Concat(leftEdges, rightEdges)...)
	} else {
		s.shrink(edge)
	}
	return false
}

// A solution is all that the document tells of a graph in its chapter 10.
type solution struct {
	pairs  []impl.Couple
	proof  impl.Proof
	rounds int
}

// slowSolution wants a right graph; beside the solution it tells what was done in the rounds, in order.
func slowSolution(g impl.Graph) (solution, []string) {
	s := slowSolverOf(g)
	for !s.round() {
		if s.rounds > 10000 {
			panic("rounds without an end")
		}
	}
	out := solution{rounds: s.rounds, proof: impl.Proof{Y: slices.Clone(s.y)}}
	for _, n := range s.ringNumbers() {
		if s.rings[n].z > 0 {
			out.proof.Groups = append(out.proof.Groups, impl.Group{Members: s.within(n), Z: s.rings[n].z})
		}
	}
	slices.SortFunc(out.proof.Groups, func(a, b impl.Group) int { return slices.Compare(a.Members, b.Members) })
	for len(s.topRings()) > 0 {
		s.open(s.topRings()[0], "ending")
	}
	for i, e := range g.Edges {
		if s.mates[i] {
			out.pairs = append(out.pairs, impl.Couple{A: e.A, B: e.B})
		}
	}
	slices.SortFunc(out.pairs, func(a, b impl.Couple) int { return cmp.Compare(a.A, b.A) })
	return out, s.told
}
