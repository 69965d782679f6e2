package tests

import (
	"cmp"
	"fmt"
	"maps"
	"regexp"
	"slices"
	"strconv"
	"strings"
	"testing"

	"loop.example/g00105/impl"
)

// A plainHall is a hall kept a second way: what became of each id, each link by its ids, and the rounds.
type plainHall struct {
	became map[int]string
	links  map[[2]int][3]int
	rounds []plainRound
}

type plainRound struct {
	pool []int
	text string
}

func newHall() *plainHall {
	return &plainHall{became: map[int]string{}, links: map[[2]int][3]int{}}
}

func (h *plainHall) clone() *plainHall {
	return &plainHall{became: maps.Clone(h.became), links: maps.Clone(h.links), rounds: slices.Clone(h.rounds)}
}

func textOfBytes(numbers ...int) string {
	out := make([]byte, len(numbers))
	for i, n := range numbers {
		out[i] = byte(n)
	}
	return string(out)
}

func partsByHand(text string) []string {
	var parts []string
	for part := range slices.Chunk([]byte(text), 40) {
		parts = append(parts, string(part))
	}
	return parts
}

func sortedPairs(all map[string]string) []impl.Pair {
	var m []impl.Pair
	for key, value := range all {
		m = append(m, impl.Pair{Key: key, Value: value})
	}
	return byKey(m)
}

func byKey(m []impl.Pair) []impl.Pair {
	out := slices.Clone(m)
	slices.SortStableFunc(out, func(a, b impl.Pair) int { return cmp.Compare(a.Key, b.Key) })
	return out
}

// pairs is the hall as the document's map.
func (h *plainHall) pairs() []impl.Pair {
	all := map[string]string{}
	for id, value := range h.became {
		all[fmt.Sprintf("v%02d", id)] = value
	}
	for ends, w := range h.links {
		all[fmt.Sprintf("e%02d%02d", ends[0], ends[1])] = textOfBytes(w[:]...)
	}
	for n, round := range h.rounds {
		all[fmt.Sprintf("q%02d", n)] = textOfBytes(round.pool...)
		for i, part := range partsByHand(round.text) {
			all[fmt.Sprintf("r%02d%02d", n, i)] = part
		}
	}
	return sortedPairs(all)
}

// hallOf wants a right map.
func hallOf(m []impl.Pair) *plainHall {
	h := newHall()
	number := func(text string) int {
		n, _ := strconv.Atoi(text)
		return n
	}
	for _, p := range m {
		switch p.Key[0] {
		case 'v':
			h.became[number(p.Key[1:])] = p.Value
		case 'e':
			h.links[[2]int{number(p.Key[1:3]), number(p.Key[3:])}] = [3]int{int(p.Value[0]), int(p.Value[1]), int(p.Value[2])}
		case 'q':
			round := plainRound{}
			for _, id := range []byte(p.Value) {
				round.pool = append(round.pool, int(id))
			}
			h.rounds = append(h.rounds, round)
		case 'r':
			h.rounds[number(p.Key[1:3])].text += p.Value
		}
	}
	return h
}

func (h *plainHall) ids() []int {
	return slices.Sorted(maps.Keys(h.became))
}

func (h *plainHall) here() []int {
	return slices.DeleteFunc(h.ids(), func(id int) bool { return h.became[id] != "a" })
}

// graph is the graph of these ids, with all links between them.
func (h *plainHall) graph(pool []int) impl.Graph {
	g := impl.Graph{Size: len(pool)}
	for a := range pool {
		for b := range pool {
			if w, ok := h.links[[2]int{pool[a], pool[b]}]; ok {
				g.Edges = append(g.Edges, impl.Edge{A: a, B: b, W1: w[0], W2: w[1], W3: w[2]})
			}
		}
	}
	return g
}

func (h *plainHall) clear(t *testing.T) {
	t.Helper()
	pool := h.here()
	x := solvedCert(t, h.graph(pool))
	for _, c := range x.Pairs {
		h.became[pool[c.A]] = fmt.Sprintf("p%d", len(h.rounds))
		h.became[pool[c.B]] = fmt.Sprintf("p%d", len(h.rounds))
	}
	h.rounds = append(h.rounds, plainRound{pool: pool, text: varsOf(numbersOfCert(x)...)})
}

func isWorth(n int) bool {
	return n >= 0 && n <= 50
}

// code is what an ask of a right hall is told, but for a map that is full.
func (h *plainHall) code(x impl.Ask) int {
	a, hasA := h.became[x.A]
	b, hasB := h.became[x.B]
	switch {
	case x.Op < 1 || x.Op > 6:
		return impl.FailForm
	case x.Op == impl.OpJoin && (x.A < 0 || x.A > 11), x.Op == impl.OpLink && !(hasA && hasB), x.Op == impl.OpLeave && !hasA:
		return impl.FailNone
	case x.Op == impl.OpAudit && (x.A < 0 || x.A >= len(h.rounds)):
		return impl.FailNone
	case x.Op == impl.OpJoin && hasA:
		return impl.FailKnown
	case x.Op == impl.OpLink && x.A == x.B:
		return impl.FailSelf
	case x.Op == impl.OpLink && !(isWorth(x.W1) && isWorth(x.W2) && isWorth(x.W3)):
		return impl.FailWorth
	case x.Op == impl.OpLink && (a != "a" || b != "a"), x.Op == impl.OpLeave && a != "a":
		return impl.FailState
	case x.Op == impl.OpClear && len(h.here()) > 9:
		return impl.FailPool
	case x.Op == impl.OpClear && len(h.rounds) > 5:
		return impl.FailRounds
	}
	return 0
}

// step does the ask, and answers the code; what fails changes nothing.
func (h *plainHall) step(t *testing.T, x impl.Ask) int {
	t.Helper()
	if code := h.code(x); code != 0 {
		return code
	}
	behind := h.clone()
	switch x.Op {
	case impl.OpJoin:
		behind.became[x.A] = "a"
	case impl.OpLink:
		behind.links[[2]int{min(x.A, x.B), max(x.A, x.B)}] = [3]int{x.W1, x.W2, x.W3}
	case impl.OpLeave:
		behind.became[x.A] = "l"
	case impl.OpClear:
		behind.clear(t)
	}
	if len(behind.pairs()) > 120 {
		return impl.FailFull
	}
	*h = *behind
	return 0
}

// The sentences of StateOk, each by what breaks it.
const (
	faultMap     = "no right map"
	faultKey     = "a Key of another form"
	faultId      = "an id beyond MaxIds"
	faultValue   = "a Value of an id of another form"
	faultEnds    = "a link of an id that is not there"
	faultOrder   = "a link that is not of a lesser id and a greater"
	faultWorths  = "a link without just three bytes"
	faultWorth   = "a worth above MaxWorth"
	faultGap     = "a gap in the rounds"
	faultRounds  = "more than MaxRounds"
	faultPoolUp  = "a pool that does not ascend"
	faultPoolId  = "a pool with an id that is not there"
	faultPool    = "a pool beyond MaxPool"
	faultNoPool  = "parts without a pool"
	faultPartGap = "a gap in the parts"
	faultCut     = "parts that are cut otherwise"
	faultCert    = "parts that are no certificate"
	faultSize    = "a graph of another size than the pool"
	faultPaired  = "a round of an id that is not there"
)

func mapFault(m []impl.Pair) bool {
	isWrong := len(m) > 120
	for i, p := range m {
		isWrong = isWrong || len(p.Key) < 1 || len(p.Key) > 8 || len(p.Value) > 40 || i > 0 && m[i-1].Key >= p.Key
	}
	return isWrong
}

// A stateCheck goes through the sentences of StateOk one by one, each by itself, in whatever order the pairs are.
type stateCheck struct {
	all    map[string]string
	faults map[string]bool
}

func (c stateCheck) wants(holds bool, fault string) {
	if !holds {
		c.faults[fault] = true
	}
}

func (c stateCheck) has(key string) bool {
	_, ok := c.all[key]
	return ok
}

var (
	idKey   = regexp.MustCompile(`^v([0-9][0-9])$`)
	linkKey = regexp.MustCompile(`^e([0-9][0-9])([0-9][0-9])$`)
	poolKey = regexp.MustCompile(`^q([0-9][0-9])$`)
	partKey = regexp.MustCompile(`^r([0-9][0-9])([0-9][0-9])$`)
	idValue = regexp.MustCompile(`^(a|l|p(0|[1-9][0-9]{0,9}))$`)
)

func (c stateCheck) id(figures, value string) {
	c.wants(figures <= "11", faultId)
	found := idValue.FindStringSubmatch(value)
	c.wants(found != nil, faultValue)
	if found != nil && found[2] != "" {
		c.wants(c.has("q"+found[2]) || c.has("q0"+found[2]), faultPaired)
	}
}

func (c stateCheck) link(lesser, greater, value string) {
	c.wants(c.has("v"+lesser) && c.has("v"+greater), faultEnds)
	c.wants(lesser < greater, faultOrder)
	c.wants(len(value) == 3, faultWorths)
	c.wants(strings.Trim(value, textOfBytes(allPlaces(51)...)) == "", faultWorth)
}

// round looks at a pool and its parts; parts that no Key leads to by 0, 1 and so on are a gap.
func (c stateCheck) round(figures, pool string) {
	ids := []byte(pool)
	c.wants(slices.IsSorted(ids) && len(slices.Compact(slices.Clone(ids))) == len(ids), faultPoolUp)
	for _, id := range ids {
		c.wants(c.has(fmt.Sprintf("v%02d", id)), faultPoolId)
	}
	c.wants(len(ids) <= 9, faultPool)
	var parts []string
	for c.has(fmt.Sprintf("r%s%02d", figures, len(parts))) {
		parts = append(parts, c.all[fmt.Sprintf("r%s%02d", figures, len(parts))])
	}
	many := 0
	for key := range c.all {
		if found := partKey.FindStringSubmatch(key); found != nil && found[1] == figures {
			many++
		}
	}
	text := strings.Join(parts, "")
	c.wants(many == len(parts), faultPartGap)
	c.wants(slices.Equal(partsByHand(text), parts), faultCut)
	cert, ok := plainCert(text)
	c.wants(ok, faultCert)
	c.wants(!ok || cert.Graph.Size == len(ids), faultSize)
}

// stateFaults has what a map breaks of the sentences of StateOk.
func stateFaults(m []impl.Pair) []string {
	c := stateCheck{all: map[string]string{}, faults: map[string]bool{}}
	for _, p := range m {
		c.all[p.Key] = p.Value
	}
	c.wants(!mapFault(m), faultMap)
	rounds := 0
	for key, value := range c.all {
		if found := idKey.FindStringSubmatch(key); found != nil {
			c.id(found[1], value)
		} else if found = linkKey.FindStringSubmatch(key); found != nil {
			c.link(found[1], found[2], value)
		} else if found = poolKey.FindStringSubmatch(key); found != nil {
			c.round(found[1], value)
			rounds++
		} else if found = partKey.FindStringSubmatch(key); found != nil {
			c.wants(c.has("q"+found[1]), faultNoPool)
		} else {
			c.wants(false, faultKey)
		}
	}
	c.wants(rounds <= 6, faultRounds)
	for n := range rounds {
		c.wants(c.has(fmt.Sprintf("q%02d", n)), faultGap)
	}
	return slices.Sorted(maps.Keys(c.faults))
}
