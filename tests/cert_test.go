package tests

import (
	"encoding/binary"
	"math"
	"reflect"
	"slices"
	"strings"
	"testing"

	"loop.example/g00105/impl"
)

func sameProof(a, b impl.Proof) bool {
	return slices.Equal(a.Y, b.Y) && slices.EqualFunc(a.Groups, b.Groups, sameGroup)
}

func sameCert(a, b impl.Cert) bool {
	return sameGraph(a.Graph, b.Graph) && slices.Equal(a.Pairs, b.Pairs) && sameProof(a.Proof, b.Proof)
}

func isZeroCert(x impl.Cert) bool {
	return sameCert(x, impl.Cert{})
}

func isCertified(x impl.Cert) bool {
	return impl.Certifies(x.Graph, x.Pairs, x.Proof)
}

func mustCert(t *testing.T, x impl.Cert) string {
	t.Helper()
	text, ok := impl.CertText(x)
	if !ok {
		t.Fatalf("CertText(%+v) is false", x)
	}
	return text
}

func refusesCert(t *testing.T, what string, x impl.Cert) {
	t.Helper()
	if text, ok := impl.CertText(x); ok || text != "" {
		t.Errorf("%s: CertText(%+v) = %q, %v", what, x, text, ok)
	}
}

func refusesToReadCert(t *testing.T, what, text string) {
	t.Helper()
	if x, ok := impl.ReadCert(text); ok || !isZeroCert(x) {
		t.Errorf("%s: ReadCert(%q) = %+v, %v", what, text, x, ok)
	}
}

// numbersOfCert has the numbers of a certificate in the document's order, be it a right one or not.
func numbersOfCert(x impl.Cert) []int {
	out := []int{x.Graph.Size, len(x.Graph.Edges)}
	for _, e := range x.Graph.Edges {
		out = append(out, e.A, e.B, e.W1, e.W2, e.W3)
	}
	out = append(out, len(x.Pairs))
	for _, c := range x.Pairs {
		out = append(out, c.A, c.B)
	}
	out = append(append(out, x.Proof.Y...), len(x.Proof.Groups))
	for _, group := range x.Proof.Groups {
		out = append(out, len(group.Members))
		out = append(append(out, group.Members...), group.Z)
	}
	return out
}

// varsOf writes numbers as the library does, whose form is that of the document.
func varsOf(numbers ...int) string {
	var out []byte
	for _, n := range numbers {
		out = binary.AppendUvarint(out, uint64(n))
	}
	return string(out)
}

// numbersIn has all numbers of a text, when it is right numbers from its beginning to its end.
func numbersIn(text string) ([]int, bool) {
	var out []int
	for rest := []byte(text); len(rest) > 0; {
		n, size := binary.Uvarint(rest)
		if size <= 0 || n > impl.MaxNumber || varsOf(int(n)) != string(rest[:size]) {
			return nil, false
		}
		out, rest = append(out, int(n)), rest[size:]
	}
	return out, true
}

// plainReader hands out numbers one by one; isShort says that more were asked for than there were.
type plainReader struct {
	list    []int
	isShort bool
}

func (r *plainReader) next() int {
	if len(r.list) == 0 {
		r.isShort = true
		return 0
	}
	n := r.list[0]
	r.list = r.list[1:]
	return n
}

func (r *plainReader) each(count int, tell func()) {
	for ; count > 0 && !r.isShort; count-- {
		tell()
	}
}

// plainCert reads a certificate a second way: from the numbers of the whole text, without any limit of its own.
func plainCert(text string) (impl.Cert, bool) {
	list, ok := numbersIn(text)
	r := plainReader{list: list}
	x := impl.Cert{Graph: impl.Graph{Size: r.next()}}
	r.each(r.next(), func() {
		n := []int{r.next(), r.next(), r.next(), r.next(), r.next()}
		x.Graph.Edges = append(x.Graph.Edges, impl.Edge{A: n[0], B: n[1], W1: n[2], W2: n[3], W3: n[4]})
	})
	r.each(r.next(), func() {
		n := []int{r.next(), r.next()}
		x.Pairs = append(x.Pairs, impl.Couple{A: n[0], B: n[1]})
	})
	r.each(x.Graph.Size, func() { x.Proof.Y = append(x.Proof.Y, r.next()) })
	r.each(r.next(), func() {
		var group impl.Group
		r.each(r.next(), func() { group.Members = append(group.Members, r.next()) })
		group.Z = r.next()
		x.Proof.Groups = append(x.Proof.Groups, group)
	})
	if !ok || r.isShort || len(r.list) > 0 || !isCertified(x) {
		return impl.Cert{}, false
	}
	return x, true
}

// readsAsPlain holds what is read of any text against the second way, and answers whether it is a certificate.
func readsAsPlain(t *testing.T, what, text string) bool {
	t.Helper()
	want, isRight := plainCert(text)
	got, ok := impl.ReadCert(text)
	if ok != isRight || !sameCert(got, want) {
		t.Fatalf("%s: ReadCert(%q) = %+v, %v, not %+v, %v", what, text, got, ok, want, isRight)
	}
	if !ok {
		return false
	}
	if again, right := impl.CertText(got); !right || again != text || !isCertified(got) {
		t.Fatalf("%s: of %q is read %+v, whose CertText is %q, %v", what, text, got, again, right)
	}
	return true
}

// isInParts wants the text put together again, each part of MaxValue bytes but the last one, which is not empty.
func isInParts(t *testing.T, text string) {
	t.Helper()
	parts := impl.CertParts(text)
	if strings.Join(parts, "") != text {
		t.Fatalf("CertParts(%q) put together are %q", text, strings.Join(parts, ""))
	}
	for i, part := range parts {
		isLast := i == len(parts)-1
		if len(part) < 1 || len(part) > 40 || !isLast && len(part) != 40 {
			t.Fatalf("CertParts of %d bytes has at %d of %d a part of %d bytes", len(text), i, len(parts), len(part))
		}
	}
}

// comesBack wants the bytes of a certificate as the document tells them, and all that promise 12 says of it.
func comesBack(t *testing.T, what string, x impl.Cert) {
	t.Helper()
	text, want := mustCert(t, x), varsOf(numbersOfCert(x)...)
	for at := range max(len(text), len(want)) {
		if at >= len(text) || at >= len(want) || text[at] != want[at] {
			t.Fatalf("%s: CertText(%+v) = %q, not %q, from the byte %d on", what, x, text, want, at)
		}
	}
	back, ok := impl.ReadCert(text)
	if !ok || !sameCert(back, x) {
		t.Fatalf("%s: of %+v is read back %+v, %v", what, x, back, ok)
	}
	if !isCertified(back) {
		t.Fatalf("%s: what is read back of %+v is not certified", what, x)
	}
	isInParts(t, text)
}

func solvedCert(t *testing.T, g impl.Graph) impl.Cert {
	t.Helper()
	s := mustSolve(t, g)
	return impl.Cert{Graph: g, Pairs: s.pairs, Proof: s.proof}
}

func certOf(g impl.Graph, pairs []impl.Couple, y []int, groups ...impl.Group) impl.Cert {
	return impl.Cert{Graph: g, Pairs: pairs, Proof: impl.Proof{Y: y, Groups: groups}}
}

func cloneOfCert(x impl.Cert) impl.Cert {
	return impl.Cert{Graph: impl.Graph{Size: x.Graph.Size, Edges: slices.Clone(x.Graph.Edges)}, Pairs: slices.Clone(x.Pairs), Proof: cloneOfProof(x.Proof)}
}

// turnedCert is a certificate of its own memory that differs by what is done to it.
func turnedCert(x impl.Cert, turn func(*impl.Cert)) impl.Cert {
	out := cloneOfCert(x)
	turn(&out)
	return out
}

// ringCert has a ring of three and a couple, so that it has all that a certificate may have.
func ringCert() impl.Cert {
	g := thirdWorths(5, 0, 1, 2, 0, 2, 2, 1, 2, 2, 3, 4, 1)
	return certOf(g, []impl.Couple{{A: 0, B: 1}, {A: 3, B: 4}}, []int{0, 0, 0, 1, 1}, impl.Group{Members: []int{0, 1, 2}, Z: 4})
}

// fullCert has as many edges, couples and Groups, and Members in each Group, as there can be.
func fullCert() impl.Cert {
	pairs := []impl.Couple{{A: 0, B: 1}, {A: 2, B: 3}, {A: 4, B: 5}, {A: 6, B: 7}}
	groups := slices.Repeat(oneGroup(1000000, 0, 1, 2, 3, 4, 5, 6, 7, 8), impl.MaxGroups)
	groups[7].Z = 9030100 - 7000000
	return certOf(alike(fullGraph(impl.MaxPool), impl.MaxWorth), pairs, make([]int, 9), groups...)
}

// rightCerts has the edges that the document names, among certificates that no solver has told.
func rightCerts() map[string]impl.Cert {
	pair := []impl.Couple{{A: 0, B: 1}}
	three := thirdWorths(3, 0, 1, 2, 0, 2, 2, 1, 2, 2)
	return map[string]impl.Cert{
		"no vertex":                     {},
		"no vertex, lists of nothing":   certOf(impl.Graph{Edges: []impl.Edge{}}, []impl.Couple{}, []int{}, []impl.Group{}...),
		"a vertex":                      certOf(impl.Graph{Size: 1}, nil, []int{0}),
		"nine vertices without edges":   certOf(impl.Graph{Size: 9}, nil, make([]int, 9)),
		"an edge":                       certOf(thirdWorths(2, 0, 1, 3), pair, []int{6, 0}),
		"an edge, Y of both":            certOf(thirdWorths(2, 0, 1, 3), pair, []int{1, 5}),
		"an edge of no worth, paired":   certOf(thirdWorths(2, 0, 1, 0), pair, []int{0, 0}),
		"an edge of no worth, unpaired": certOf(thirdWorths(2, 0, 1, 0), nil, []int{0, 0}),
		"an edge of three worths":       certOf(impl.Graph{Size: 2, Edges: []impl.Edge{{A: 0, B: 1, W1: 2, W2: 3, W3: 4}}}, pair, []int{361808, 0}),
		"an edge of the most worths":    certOf(alike(fullGraph(2), impl.MaxWorth), pair, []int{0, 9030100}),
		"all edges of no worth":         certOf(alike(fullGraph(9), 0), nil, make([]int, 9)),
		"no Groups":                     certOf(thirdWorths(4, 0, 1, 2, 2, 3, 5), []impl.Couple{{A: 0, B: 1}, {A: 2, B: 3}}, []int{4, 0, 3, 7}),
		"a ring, another couple":        certOf(three, []impl.Couple{{A: 1, B: 2}}, make([]int, 3), oneGroup(4, 0, 1, 2)...),
		"a ring, two Groups alike":      certOf(three, pair, make([]int, 3), append(oneGroup(3, 0, 1, 2), oneGroup(1, 0, 1, 2)...)...),
		"a ring and a couple":           ringCert(),
		"Groups that fall":              certOf(thirdWorths(9, 0, 1, 1, 6, 7, 2), []impl.Couple{{A: 0, B: 1}, {A: 6, B: 7}}, make([]int, 9), append(oneGroup(4, 6, 7, 8), oneGroup(2, 0, 1, 2)...)...),
		"MaxGroups Groups":              certOf(thirdWorths(3, 0, 1, 18), pair, make([]int, 3), manyGroups(impl.MaxGroups)...),
		"as much as there can be":       fullCert(),
	}
}

// manyGroups has so many Groups of the same three Members, whose Z are 1, 2 and so on.
func manyGroups(count int) []impl.Group {
	var out []impl.Group
	for i := range count {
		out = append(out, impl.Group{Members: []int{0, 1, 2}, Z: i + 1})
	}
	return out
}

func TestCertTextBytesByHand(t *testing.T) {
	all := rightCerts()
	for text, what := range map[string]string{
		"\x00\x00\x00\x00":     "no vertex",
		"\x01\x00\x00\x00\x00": "a vertex",
		"\x09\x00\x00" + strings.Repeat("\x00", 9) + "\x00":                                        "nine vertices without edges",
		"\x02\x01\x00\x01\x00\x00\x03\x01\x00\x01\x06\x00\x00":                                     "an edge",
		"\x02\x01\x00\x01\x00\x00\x00\x00\x00\x00\x00":                                             "an edge of no worth, unpaired",
		"\x02\x01\x00\x01\x02\x03\x04\x01\x00\x01\xd0\x8a\x16\x00\x00":                             "an edge of three worths",
		"\x02\x01\x00\x01\x32\x32\x32\x01\x00\x01\x00\xd4\x93\xa7\x04\x00":                         "an edge of the most worths",
		"\x04\x02\x00\x01\x00\x00\x02\x02\x03\x00\x00\x05\x02\x00\x01\x02\x03\x04\x00\x03\x07\x00": "no Groups",
		"\x05\x04\x00\x01\x00\x00\x02\x00\x02\x00\x00\x02\x01\x02\x00\x00\x02\x03\x04\x00\x00\x01" + "\x02\x00\x01\x03\x04" + "\x00\x00\x00\x01\x01" + "\x01\x03\x00\x01\x02\x04": "a ring and a couple",
		"\x09\x02\x00\x01\x00\x00\x01\x06\x07\x00\x00\x02" + "\x02\x00\x01\x06\x07" + strings.Repeat("\x00", 9) + "\x02\x03\x06\x07\x08\x04\x03\x00\x01\x02\x02":                  "Groups that fall",
		"\x03\x01\x00\x01\x00\x00\x12" + "\x01\x00\x01" + "\x00\x00\x00" + "\x08" +
			"\x03\x00\x01\x02\x01\x03\x00\x01\x02\x02\x03\x00\x01\x02\x03\x03\x00\x01\x02\x04\x03\x00\x01\x02\x05\x03\x00\x01\x02\x06\x03\x00\x01\x02\x07\x03\x00\x01\x02\x08": "MaxGroups Groups",
	} {
		if got := mustCert(t, all[what]); got != text {
			t.Errorf("%s: CertText is %q, not %q", what, got, text)
		}
		if back, ok := impl.ReadCert(text); !ok || !sameCert(back, all[what]) {
			t.Errorf("%s: ReadCert(%q) = %+v, %v", what, text, back, ok)
		}
	}
}

func TestSolvedCertificatesComeBack(t *testing.T) {
	sizes := make([]int, impl.MaxPool+1)
	for _, g := range solveGraphs() {
		comesBack(t, "solved", solvedCert(t, g))
		sizes[g.Size]++
	}
	if slices.Contains(sizes, 0) {
		t.Errorf("of the sizes there are %v", sizes)
	}
}

func TestRightCertificatesComeBack(t *testing.T) {
	for what, x := range rightCerts() {
		comesBack(t, what, x)
	}
	if size := len(mustCert(t, fullCert())); size != 2+36*5+1+4*2+9+1+8*(1+9+3) {
		t.Errorf("the certificate of all edges of MaxPool vertices with MaxGroups Groups has %d bytes", size)
	}
}

// edgeNumbers are those at which a VarText has one byte more, or ends.
func edgeNumbers() []int {
	return []int{0, 1, 126, 127, 128, 129, 16383, 16384, 16385, 2097151, 2097152, 9030099, 9030100}
}

// TestNumbersOfMoreBytes has each Y, and each Z, of numbers that just have a byte more.
func TestNumbersOfMoreBytes(t *testing.T) {
	g := alike(thirdWorths(9, 2, 5, 0), impl.MaxWorth)
	pair := []impl.Couple{{A: 2, B: 5}}
	for _, n := range edgeNumbers() {
		y := make([]int, 9)
		y[2], y[5] = n, 9030100-n
		comesBack(t, "Y", certOf(g, pair, y))
		y[2], y[5] = y[5], y[2]
		comesBack(t, "Y of B", certOf(g, pair, y))
		if n == 0 {
			continue
		}
		y[2], y[5] = 0, 9030100-n
		comesBack(t, "Z", certOf(g, pair, y, oneGroup(n, 2, 3, 5)...))
		if n < 9030100 {
			y[2], y[5] = 0, 0
			comesBack(t, "two Z", certOf(g, pair, y, append(oneGroup(n, 2, 5, 8), oneGroup(9030100-n, 2, 5, 8)...)...))
		}
	}
}

// TestGreatestNumbersAreNotCertified has Y and Z of 10^9: a proof may have these, but no pairing has so much.
func TestGreatestNumbersAreNotCertified(t *testing.T) {
	g := alike(fullGraph(3), impl.MaxWorth)
	pair := []impl.Couple{{A: 0, B: 1}}
	for _, n := range []int{9030101, 268435455, 268435456, impl.MaxNumber - 1, impl.MaxNumber} {
		for what, x := range map[string]impl.Cert{
			"Y":          certOf(g, pair, []int{n, n, n}),
			"Y of one":   certOf(impl.Graph{Size: 1}, nil, []int{n}),
			"Z":          certOf(g, pair, make([]int, 3), oneGroup(n, 0, 1, 2)...),
			"Y and Z":    certOf(g, pair, []int{0, n, n}, oneGroup(n, 0, 1, 2)...),
			"Z, no edge": certOf(impl.Graph{Size: 3}, nil, make([]int, 3), oneGroup(n, 0, 1, 2)...),
		} {
			if !impl.ProofOk(x.Graph, x.Proof) {
				t.Errorf("%s of %d: ProofOk(%+v) is false", what, n, x)
			}
			refusesCert(t, what, x)
			refusesToReadCert(t, what, varsOf(numbersOfCert(x)...))
		}
	}
}

// TestEverySmallCertificate asks all pairings of small graphs with all small proofs: those that are certified have a text, each its own.
func TestEverySmallCertificate(t *testing.T) {
	seen, right := map[string]bool{}, 0
	everyGraph(3, []int{0, 1, 2}, func(g impl.Graph) {
		for number := range 5 * 5 * 5 * 3 {
			x := certOf(g, nil, []int{number % 5, number / 5 % 5, number / 25 % 5})
			if z := number / 125; z > 0 {
				x.Proof.Groups = oneGroup(z, 0, 1, 2)
			}
			for _, m := range pairingsOf(g) {
				x.Pairs = m
				if !isCertified(x) {
					refusesCert(t, "not certified", x)
					refusesToReadCert(t, "not certified", varsOf(numbersOfCert(x)...))
					continue
				}
				comesBack(t, "certified", x)
				seen[mustCert(t, x)] = true
				right++
			}
		}
	})
	if len(seen) != right || right < 100 {
		t.Errorf("%d certificates have %d texts", right, len(seen))
	}
}

func TestWrongGraphsHaveNoCertificate(t *testing.T) {
	for what, g := range wrongGraphs() {
		size := min(max(g.Size, 0), 12)
		for _, pairs := range [][]impl.Couple{nil, {{A: 0, B: 1}}, {{A: 0, B: 1}, {A: 2, B: 3}}} {
			for _, y := range []int{0, 1, 90301, 4515050} {
				x := certOf(g, pairs, slices.Repeat([]int{y}, size))
				refusesCert(t, what, x)
				if !slices.ContainsFunc(numbersOfCert(x), func(n int) bool { return n < 0 }) {
					refusesToReadCert(t, what, varsOf(numbersOfCert(x)...))
				}
			}
		}
	}
}

// wrongCerts differ from certified ones by what is named alone.
func wrongCerts() map[string]impl.Cert {
	x := ringCert()
	none := certOf(alike(fullGraph(6), 0), nil, make([]int, 6))
	return map[string]impl.Cert{
		"Size one less":              turnedCert(x, func(x *impl.Cert) { x.Graph.Size-- }),
		"Size one more":              turnedCert(x, func(x *impl.Cert) { x.Graph.Size++ }),
		"Size one more, with its Y":  turnedCert(fullCert(), func(x *impl.Cert) { x.Graph.Size, x.Proof.Y = 10, make([]int, 10) }),
		"edges turned":               turnedCert(x, func(x *impl.Cert) { slices.Reverse(x.Graph.Edges) }),
		"an edge twice":              turnedCert(none, func(x *impl.Cert) { x.Graph.Edges[1] = x.Graph.Edges[0] }),
		"an edge turned":             turnedCert(none, func(x *impl.Cert) { x.Graph.Edges[0] = impl.Edge{A: 1, B: 0} }),
		"a worth above MaxWorth":     certOf(thirdWorths(2, 0, 1, 51), []impl.Couple{{A: 0, B: 1}}, []int{51, 51}),
		"a greater worth":            turnedCert(x, func(x *impl.Cert) { x.Graph.Edges[3].W3++ }),
		"a lesser worth":             turnedCert(x, func(x *impl.Cert) { x.Graph.Edges[3].W3-- }),
		"no edges":                   turnedCert(x, func(x *impl.Cert) { x.Graph.Edges = nil }),
		"no pairs":                   turnedCert(x, func(x *impl.Cert) { x.Pairs = nil }),
		"one couple too few":         turnedCert(x, func(x *impl.Cert) { x.Pairs = x.Pairs[:1] }),
		"a couple twice":             turnedCert(x, func(x *impl.Cert) { x.Pairs[1] = x.Pairs[0] }),
		"couples turned":             turnedCert(x, func(x *impl.Cert) { slices.Reverse(x.Pairs) }),
		"a couple turned":            turnedCert(x, func(x *impl.Cert) { x.Pairs[1] = impl.Couple{A: 4, B: 3} }),
		"a couple without an edge":   turnedCert(x, func(x *impl.Cert) { x.Pairs[1] = impl.Couple{A: 2, B: 3} }),
		"a couple of one vertex":     turnedCert(none, func(x *impl.Cert) { x.Pairs = []impl.Couple{{A: 1, B: 1}} }),
		"a vertex in two couples":    turnedCert(none, func(x *impl.Cert) { x.Pairs = []impl.Couple{{A: 0, B: 1}, {A: 1, B: 2}} }),
		"a couple of no vertex":      turnedCert(none, func(x *impl.Cert) { x.Pairs = []impl.Couple{{A: 5, B: 6}} }),
		"more couples than there be": turnedCert(none, func(x *impl.Cert) { x.Pairs = slices.Repeat([]impl.Couple{{A: 0, B: 1}}, 5) }),
		"a Y more":                   turnedCert(x, func(x *impl.Cert) { x.Proof.Y = append(x.Proof.Y, 0) }),
		"a Y less":                   turnedCert(none, func(x *impl.Cert) { x.Proof.Y = x.Proof.Y[1:] }),
		"no Y":                       turnedCert(none, func(x *impl.Cert) { x.Proof.Y = nil }),
		"a Y that is greater":        turnedCert(x, func(x *impl.Cert) { x.Proof.Y[2] = 2 }),
		"a Y that is lesser":         turnedCert(x, func(x *impl.Cert) { x.Proof.Y[3] = 0 }),
		"a Z that is greater":        turnedCert(x, func(x *impl.Cert) { x.Proof.Groups[0].Z = 6 }),
		"a Z that is lesser":         turnedCert(x, func(x *impl.Cert) { x.Proof.Groups[0].Z = 2 }),
		"a Z of 0":                   turnedCert(none, func(x *impl.Cert) { x.Proof.Groups = oneGroup(0, 0, 1, 2) }),
		"no Groups":                  turnedCert(x, func(x *impl.Cert) { x.Proof.Groups = nil }),
		"a Group twice":              turnedCert(x, func(x *impl.Cert) { x.Proof.Groups = slices.Repeat(x.Proof.Groups, 2) }),
		"a Group of no Members":      turnedCert(none, func(x *impl.Cert) { x.Proof.Groups = oneGroup(1) }),
		"a Group of one":             turnedCert(none, func(x *impl.Cert) { x.Proof.Groups = oneGroup(1, 4) }),
		"a Group of four":            turnedCert(x, func(x *impl.Cert) { x.Proof.Groups[0].Members = []int{0, 1, 2, 3} }),
		"Members that fall":          turnedCert(x, func(x *impl.Cert) { x.Proof.Groups[0].Members = []int{0, 2, 1} }),
		"a Member twice":             certOf(thirdWorths(5, 0, 1, 1), []impl.Couple{{A: 0, B: 1}}, make([]int, 5), oneGroup(2, 0, 1, 1)...),
		"a Member of Size":           certOf(thirdWorths(5, 0, 1, 1), []impl.Couple{{A: 0, B: 1}}, make([]int, 5), oneGroup(2, 0, 1, 5)...),
		"eleven Members":             certOf(thirdWorths(9, 0, 1, 5), []impl.Couple{{A: 0, B: 1}}, make([]int, 9), oneGroup(2, allPlaces(11)...)...),
		"Groups that overlap":        certOf(thirdWorths(5, 0, 1, 1, 3, 4, 1), []impl.Couple{{A: 0, B: 1}, {A: 3, B: 4}}, make([]int, 5), append(oneGroup(2, 0, 1, 2), oneGroup(2, 2, 3, 4)...)...),
		"more Groups than MaxGroups": certOf(impl.Graph{Size: 3, Edges: []impl.Edge{{A: 0, B: 1, W2: 1}}}, []impl.Couple{{A: 0, B: 1}}, []int{600 - 45, 0, 0}, manyGroups(9)...),
	}
}

func TestWrongCertificatesAreRefused(t *testing.T) {
	for what, x := range wrongCerts() {
		refusesCert(t, what, x)
		refusesToReadCert(t, what, varsOf(numbersOfCert(x)...))
	}
}

// TestNumbersWithoutVarTextAreRefused has numbers below 0, or beyond MaxNumber, at each place of a certificate.
func TestNumbersWithoutVarTextAreRefused(t *testing.T) {
	for _, n := range []int{math.MinInt, -impl.MaxNumber, -128, -1, impl.MaxNumber + 1, 1 << 32, 1 << 62, math.MaxInt} {
		for what, turn := range map[string]func(*impl.Cert){
			"Size":          func(x *impl.Cert) { x.Graph.Size = n },
			"A":             func(x *impl.Cert) { x.Graph.Edges[1].A = n },
			"B":             func(x *impl.Cert) { x.Graph.Edges[1].B = n },
			"W1":            func(x *impl.Cert) { x.Graph.Edges[0].W1 = n },
			"W2":            func(x *impl.Cert) { x.Graph.Edges[2].W2 = n },
			"W3":            func(x *impl.Cert) { x.Graph.Edges[3].W3 = n },
			"A of a couple": func(x *impl.Cert) { x.Pairs[0].A = n },
			"B of a couple": func(x *impl.Cert) { x.Pairs[1].B = n },
			"Y":             func(x *impl.Cert) { x.Proof.Y[4] = n },
			"two Y":         func(x *impl.Cert) { x.Proof.Y[3], x.Proof.Y[4] = n, 2-n },
			"a Member":      func(x *impl.Cert) { x.Proof.Groups[0].Members[1] = n },
			"Z":             func(x *impl.Cert) { x.Proof.Groups[0].Z = n },
			"Y and Z":       func(x *impl.Cert) { x.Proof.Y[2], x.Proof.Groups[0].Z = n, 4-n },
		} {
			refusesCert(t, what, turnedCert(ringCert(), turn))
		}
	}
}

// textsOfCerts has the texts of the right certificates and of some solved ones.
func textsOfCerts(t *testing.T) []string {
	var out []string
	for _, x := range rightCerts() {
		out = append(out, mustCert(t, x))
	}
	for _, g := range rightGraphs() {
		out = append(out, mustCert(t, solvedCert(t, g)))
	}
	return out
}

func TestCutOffCertificatesAreNone(t *testing.T) {
	refusesToReadCert(t, "the empty text", "")
	for _, text := range textsOfCerts(t) {
		for size := range len(text) {
			refusesToReadCert(t, "cut off at the end", text[:size])
			readsAsPlain(t, "cut off ahead", text[len(text)-size:])
		}
		if len(text) < 1 {
			t.Error("a certificate of no bytes")
		}
	}
}

func TestCertificatesWithMoreAreNone(t *testing.T) {
	for _, text := range textsOfCerts(t) {
		for b := range 256 {
			more := string([]byte{byte(b)})
			refusesToReadCert(t, "a byte more behind", text+more)
			readsAsPlain(t, "a byte more ahead", more+text)
		}
		refusesToReadCert(t, "twice", text+text)
		refusesToReadCert(t, "with noughts behind", text+strings.Repeat("\x00", 100))
		refusesToReadCert(t, "with very much behind", text+strings.Repeat("\x01", 1000000))
	}
}

// withForm has the numbers of a text, with other bytes in the place of one of them.
func withForm(numbers []int, at int, form string) string {
	return varsOf(numbers[:at]...) + form + varsOf(numbers[at+1:]...)
}

// longerForms has forms of a number that VarText doesn't write.
func longerForms(n int) []string {
	form := []byte(varsOf(n))
	form[len(form)-1] += 128
	open := string(form)
	return []string{open + "\x00", open + "\x80\x00", open + "\x80\x80\x00", open + "\x80\x80\x80\x80\x80\x80\x80\x80\x80\x00"}
}

func TestLongerFormsAreNoCertificate(t *testing.T) {
	for _, text := range textsOfCerts(t) {
		numbers, _ := numbersIn(text)
		for at, n := range numbers {
			for _, form := range longerForms(n) {
				refusesToReadCert(t, "a longer form", withForm(numbers, at, form))
			}
			readsAsPlain(t, "a number left out", withForm(numbers, at, ""))
			readsAsPlain(t, "a byte that goes on into the next number", withForm(numbers, at, "\x80"))
		}
	}
}

func TestNumbersThatAreTooGreatAreNoCertificate(t *testing.T) {
	for _, text := range textsOfCerts(t) {
		numbers, _ := numbersIn(text)
		for at := range numbers {
			for _, n := range []int{impl.MaxNumber - 1, impl.MaxNumber, impl.MaxNumber + 1, 1<<31 - 1, 1 << 31, 1<<32 - 1, 1 << 32, 1<<32 + numbers[at], 1<<35 + numbers[at], 1 << 62, math.MaxInt} {
				refusesToReadCert(t, "a number that is too great", withForm(numbers, at, varsOf(n)))
			}
			refusesToReadCert(t, "a number of all bits", withForm(numbers, at, "\xff\xff\xff\xff\xff\xff\xff\xff\xff\x01"))
			refusesToReadCert(t, "a number that wraps round", withForm(numbers, at, "\x80\x80\x80\x80\x80\x80\x80\x80\x80\x02"))
		}
	}
}

// TestOtherNumbersAtEachPlace turns one number of a text: what is read then is what a second way reads.
func TestOtherNumbersAtEachPlace(t *testing.T) {
	accepted, refused := 0, 0
	for _, text := range textsOfCerts(t) {
		numbers, _ := numbersIn(text)
		for at, n := range numbers {
			for _, other := range []int{0, 1, 2, 3, 4, 5, 7, 8, 9, 10, 36, 37, 50, 51, 127, 128, 16384, n + 1, max(n-1, 0), n + 2, max(n-2, 0)} {
				if readsAsPlain(t, "one number turned", withForm(numbers, at, varsOf(other))) {
					accepted++
				} else {
					refused++
				}
			}
		}
	}
	if accepted < 1000 || refused < 1000 {
		t.Errorf("%d texts were read, %d refused", accepted, refused)
	}
}

func TestTurnedBytes(t *testing.T) {
	for _, x := range rightCerts() {
		text := mustCert(t, x)
		for at := range len(text) {
			turned := []byte(text)
			for b := range 256 {
				turned[at] = byte(b)
				readsAsPlain(t, "one byte turned", string(turned))
			}
		}
	}
}

// TestEveryShortText goes through all texts of a few bytes: those that are certificates are of vertices without edges.
func TestEveryShortText(t *testing.T) {
	texts, read := []string{""}, []string{}
	for len(texts) > 0 {
		text := texts[0]
		texts = texts[1:]
		if readsAsPlain(t, "a short text", text) {
			read = append(read, text)
		}
		for _, b := range []byte{0, 1, 2, 3, 0x80, 0x81} {
			if len(text) < 6 {
				texts = append(texts, text+string([]byte{b}))
			}
		}
	}
	if !slices.Equal(read, []string{"\x00\x00\x00\x00", "\x01\x00\x00\x00\x00", "\x02\x00\x00\x00\x00\x00"}) {
		t.Errorf("of all short texts these are read: %q", read)
	}
}

func TestDrawnTexts(t *testing.T) {
	draw := draws(15)
	for range 30000 {
		readsAsPlain(t, "drawn", draw.text(0, 40, 256))
		readsAsPlain(t, "drawn of small numbers", draw.text(0, 40, 4))
	}
}

// TestCountsBeyondWhatThereCanBe has lists that are as long as they say, but longer than a certificate has them.
func TestCountsBeyondWhatThereCanBe(t *testing.T) {
	for _, count := range []int{5, 9, 10, 37, 38, 100, 127, 128, 1000, 20000} {
		for what, numbers := range map[string][]int{
			"Size":    append([]int{max(count, 10), 0, 0}, make([]int, max(count, 10)+1)...),
			"Edges":   append(append([]int{9, max(count, 37)}, make([]int, 5*max(count, 37))...), make([]int, 11)...),
			"Pairs":   append(append([]int{9, 0, count}, make([]int, 2*count)...), make([]int, 10)...),
			"Groups":  append([]int{3, 0, 0, 0, 0, 0, max(count, 9)}, slices.Repeat([]int{3, 0, 1, 2, 1}, max(count, 9))...),
			"Members": append(append([]int{9, 0, 0, 0, 0, 0, 0, 0, 0, 0, 0, 0, 1, max(count, 10)}, allPlaces(max(count, 10))...), 1),
		} {
			refusesToReadCert(t, what, varsOf(numbers...))
		}
	}
}

// TestMoreEdgesThanThereCanBe has, behind all edges of MaxPool vertices, one more that is none.
func TestMoreEdgesThanThereCanBe(t *testing.T) {
	for _, more := range []impl.Edge{{A: 7, B: 8}, {A: 8, B: 9}, {A: 8, B: 8}, {A: 0, B: 1}} {
		x := turnedCert(fullCert(), func(x *impl.Cert) { x.Graph.Edges = append(x.Graph.Edges, more) })
		refusesCert(t, "one edge more", x)
		refusesToReadCert(t, "one edge more", varsOf(numbersOfCert(x)...))
	}
}

// TestCountsThatAreNotFilled has counts whose lists end with the text, or ahead of what they say.
func TestCountsThatAreNotFilled(t *testing.T) {
	for _, count := range []int{1, 2, 3, 4, 8, 9, 36, 127, 128, 16384, impl.MaxNumber, impl.MaxNumber + 1, 1 << 62} {
		form := varsOf(count)
		for what, ahead := range map[string]string{
			"Size":    "",
			"Edges":   "\x02",
			"Pairs":   "\x02\x00",
			"Groups":  "\x03\x00\x00\x00\x00\x00",
			"Members": "\x03\x00\x00\x00\x00\x00\x01",
		} {
			refusesToReadCert(t, what, ahead+form)
			readsAsPlain(t, what+", a nought behind", ahead+form+"\x00")
			readsAsPlain(t, what+", some noughts behind", ahead+form+"\x00\x00\x00\x00")
		}
	}
	for what, text := range map[string]string{
		"an edge of four numbers":    "\x02\x01\x00\x01\x00\x00",
		"a couple of one number":     "\x02\x01\x00\x01\x00\x00\x00\x01\x00",
		"a Y too few":                "\x02\x00\x00\x00",
		"a Group without Z":          "\x03\x01\x00\x01\x00\x00\x01\x01\x00\x01\x00\x00\x00\x01\x03\x00\x01\x02",
		"a Group with a Member less": "\x03\x01\x00\x01\x00\x00\x01\x01\x00\x01\x00\x00\x00\x01\x03\x00\x01\x02\x80",
		"a second Group that is not": "\x03\x01\x00\x01\x00\x00\x01\x01\x00\x01\x00\x00\x00\x02\x03\x00\x01\x02\x02",
	} {
		refusesToReadCert(t, what, text)
	}
	if whole := "\x03\x01\x00\x01\x00\x00\x01\x01\x00\x01\x00\x00\x00\x01\x03\x00\x01\x02\x02"; !readsAsPlain(t, "with its Z", whole) {
		t.Errorf("ReadCert(%q) is false", whole)
	}
}

func TestHowManyParts(t *testing.T) {
	for size, count := range map[int]int{
		0: 0, 1: 1, 2: 1, impl.MaxValue - 1: 1, impl.MaxValue: 1, impl.MaxValue + 1: 2, 2*impl.MaxValue - 1: 2, 2 * impl.MaxValue: 2, 2*impl.MaxValue + 1: 3,
		305: 8, 320: 8, 321: 9, impl.MaxText: 200, impl.MaxText + 1: 201, 10 * impl.MaxText: 2000, 1000001: 25001,
	} {
		text := someBytes(size)
		if parts := impl.CertParts(text); len(parts) != count {
			t.Errorf("CertParts of %d bytes are %d, not %d", size, len(parts), count)
		}
		isInParts(t, text)
	}
	for size := range 500 {
		isInParts(t, someBytes(size))
		isInParts(t, strings.Repeat("\x00", size))
		isInParts(t, strings.Repeat("\xe2\x82\xac", size))
	}
}

func TestPartsByHand(t *testing.T) {
	forty := "0123456789abcdefghijABCDEFGHIJ!?.,:;-+*/"
	for text, want := range map[string][]string{
		"":                                  nil,
		"a":                                 {"a"},
		"\x00":                              {"\x00"},
		forty[:39]:                          {forty[:39]},
		forty:                               {forty},
		forty + "a":                         {forty, "a"},
		forty + forty:                       {forty, forty},
		forty + forty + "\xff":              {forty, forty, "\xff"},
		"x" + forty + forty:                 {"x" + forty[:39], "/" + forty[:39], "/"},
		forty[20:] + forty[:20] + "\n \x00": {forty[20:] + forty[:20], "\n \x00"},
	} {
		if got := impl.CertParts(text); !slices.Equal(got, want) {
			t.Errorf("CertParts(%q) = %q, not %q", text, got, want)
		}
	}
}

func TestPartsAreNewMemory(t *testing.T) {
	for _, size := range []int{1, 39, 40, 41, 80, 81, 305} {
		text := someBytes(size)
		parts := impl.CertParts(text)
		for i, part := range parts {
			sharesNoText(t, "a part", part, append(slices.Clone(parts[:i]), text))
		}
		held := slices.Clone(parts)
		for i := range parts {
			parts[i] = "spoilt"
		}
		if again := impl.CertParts(text); !slices.Equal(again, held) {
			t.Errorf("CertParts of %d bytes are %q, and then %q", size, held, again)
		}
	}
}

// roomyCert is the same certificate with spare room behind each list; its whole lists are answered beside it.
func roomyCert(plain impl.Cert) (impl.Cert, []any) {
	g, edges := roomyGraph(plain.Graph)
	p, room := roomyProof(plain.Proof)
	couples := append(slices.Clone(plain.Pairs), impl.Couple{A: 0, B: 1}, impl.Couple{A: 81, B: 82})
	lists := []any{edges, couples, room.y, room.groups}
	for _, members := range room.members {
		lists = append(lists, members)
	}
	return impl.Cert{Graph: g, Pairs: couples[:len(plain.Pairs)], Proof: p}, lists
}

func TestCertificatesAreNotWrittenInto(t *testing.T) {
	all := rightCerts()
	for what, x := range wrongCerts() {
		all[what+", wrong"] = x
	}
	for what, g := range wrongGraphs() {
		all[what+", a wrong graph"] = impl.Cert{Graph: g}
	}
	for what, plain := range all {
		x, lists := roomyCert(plain)
		_, held := roomyCert(plain)
		text, ok := impl.CertText(x)
		if wantText, want := impl.CertText(plain); text != wantText || ok != want {
			t.Errorf("%s: CertText(%+v) = %q, %v, told apart by what stands behind its lists", what, plain, text, ok)
		}
		if !reflect.DeepEqual(lists, held) {
			t.Errorf("%s: of %v became %v", what, held, lists)
		}
	}
}

// spoil writes into all that was read, with the spare room behind it, and answers whether the lists of numbers have just what was written into each.
func spoil(x impl.Cert) bool {
	lists := listsOf(x.Proof)
	for i, list := range lists {
		for at := range list {
			list[at] = -7 - i
		}
	}
	edges, pairs, groups := x.Graph.Edges[:cap(x.Graph.Edges)], x.Pairs[:cap(x.Pairs)], x.Proof.Groups[:cap(x.Proof.Groups)]
	for at := range edges {
		edges[at] = impl.Edge{A: -1, B: -1, W1: -1, W2: -1, W3: -1}
	}
	for at := range pairs {
		pairs[at] = impl.Couple{A: -1, B: -1}
	}
	for at := range groups {
		groups[at] = impl.Group{Z: -1}
	}
	for i, list := range lists {
		if slices.ContainsFunc(list, func(n int) bool { return n != -7-i }) {
			return false
		}
	}
	return true
}

func TestReadCertificatesShareNothing(t *testing.T) {
	for _, text := range textsOfCerts(t) {
		held, _ := impl.ReadCert(text)
		spoilt, _ := impl.ReadCert(text)
		if !spoil(spoilt) {
			t.Errorf("two lists of what is read of %q share memory", text)
		}
		if again, ok := impl.ReadCert(text); !ok || !sameCert(again, held) || mustCert(t, held) != text {
			t.Errorf("of %q is read %+v, and then %+v, %v", text, held, again, ok)
		}
	}
}

func TestCertificatesTheSameWhateverWasReadAhead(t *testing.T) {
	x := ringCert()
	text := mustCert(t, x)
	for _, ahead := range append(textsOfCerts(t), "", text[:7], text+"\x00", "\x80\x00", strings.Repeat("\xff", 50)) {
		impl.ReadCert(ahead)
		impl.CertParts(ahead)
		if back, ok := impl.ReadCert(text); !ok || !sameCert(back, x) || mustCert(t, x) != text {
			t.Errorf("behind %q is read %+v, %v", ahead, back, ok)
		}
	}
	for what, ahead := range wrongCerts() {
		impl.CertText(ahead)
		if again := mustCert(t, x); again != text {
			t.Errorf("behind %s CertText is %q, not %q", what, again, text)
		}
	}
}
