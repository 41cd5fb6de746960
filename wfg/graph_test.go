package wfg_test

import (
	"fmt"
	"math"
	"slices"
	"strings"
	"testing"

	"futtock/api"
	"futtock/wfg"
)

// edge leads from a node to one.
type edge [2]int

// edges are out of a text: "0>1 1>0".
func edges(t testing.TB, text string) []edge {
	t.Helper()
	var l []edge
	for word := range strings.FieldsSeq(text) {
		var e edge
		if _, err := fmt.Sscanf(word, "%d>%d", &e[0], &e[1]); err != nil {
			t.Fatalf("%q is no edge", word)
		}
		l = append(l, e)
	}
	return l
}

// graph is the one of edges, added in order.
func graph(t testing.TB, l []edge) wfg.Graph {
	t.Helper()
	return with(t, wfg.Graph{}, l...)
}

// with is a graph with more edges, added in order.
func with(t testing.TB, g wfg.Graph, l ...edge) wfg.Graph {
	t.Helper()
	for _, e := range l {
		was, err := g, api.OK
		if g, err = g.Add(e[0], e[1]); err != api.OK {
			t.Fatalf("Add%v is %d", e, err)
		}
		if !g.Has(e[0], e[1]) || was.Has(e[0], e[1]) != (was == g) {
			t.Fatalf("Add%v: Has is %v, and was %v", e, g.Has(e[0], e[1]), was.Has(e[0], e[1]))
		}
	}
	return g
}

// text is a graph's edges as a text, asked for by Has.
func text(g wfg.Graph) string {
	var l []string
	for from := range 64 {
		for to := range 64 {
			if g.Has(from, to) {
				l = append(l, fmt.Sprintf("%d>%d", from, to))
			}
		}
	}
	return strings.Join(l, " ")
}

// plain is a second reckoning of a graph: has tells of each edge whether it is there,
// far how many edges the shortest way from a node to one has, one at least (never: there
// is none).
type plain struct {
	has [64][64]bool
	far [64][64]int
}

// never is a way that there is not.
const never = 1000

// plainOf is a plain graph of edges.
func plainOf(l []edge) *plain {
	p := &plain{}
	for i := range 64 {
		for k := range 64 {
			p.far[i][k] = never
		}
	}
	for _, e := range l {
		p.has[e[0]][e[1]], p.far[e[0]][e[1]] = true, 1
	}
	for mid := range 64 {
		for i := range 64 {
			for k := range 64 {
				p.far[i][k] = min(p.far[i][k], p.far[i][mid]+p.far[mid][k])
			}
		}
	}
	return p
}

// those are the nodes that are so.
func those(isSo func(n int) bool) []int {
	var l []int
	for n := range 64 {
		if isSo(n) {
			l = append(l, n)
		}
	}
	return l
}

// touched are the nodes that have an edge, or to which one leads.
func (p *plain) touched() []int {
	return those(func(n int) bool {
		return slices.Contains(p.has[n][:], true) || slices.ContainsFunc(p.has[:], func(row [64]bool) bool { return row[n] })
	})
}

// holds tells if a graph's Has, Next, Len or Reach is not that of its edges.
func (p *plain) holds(t testing.TB, g wfg.Graph) {
	t.Helper()
	many := 0
	for n := range 64 {
		for to, want := range p.has[n] {
			if g.Has(n, to) != want {
				t.Fatalf("%s: Has(%d, %d) is not %v", text(g), n, to, want)
			}
		}
		next := those(func(to int) bool { return p.has[n][to] })
		many += len(next)
		if got := g.Next(n); !slices.Equal(got, next) {
			t.Fatalf("%s: Next(%d) is %v, not %v", text(g), n, got, next)
		}
		reach := those(func(to int) bool { return p.far[n][to] < never })
		if got := g.Reach(n); !slices.Equal(got, reach) {
			t.Fatalf("%s: Reach(%d) is %v, not %v", text(g), n, got, reach)
		}
	}
	if got := g.Len(); got != many {
		t.Fatalf("%s: Len is %d, not %d", text(g), got, many)
	}
}

// P26.1: the zero graph has no edges, no ring, and an order of no nodes.
func TestZeroGraph(t *testing.T) {
	var g wfg.Graph
	plainOf(nil).holds(t, g)
	if l := g.Ring(); len(l) != 0 {
		t.Errorf("its ring is %v", l)
	}
	if l, ok := g.Order(); len(l) != 0 || !ok {
		t.Errorf("its order is %v, %v", l, ok)
	}
	if g != (wfg.Graph{}) {
		t.Error("it is not itself")
	}
}

// P26.1: what is to be known of graphs of a few edges, written out.
func TestGraphs(t *testing.T) {
	for _, x := range []struct {
		edges string
		node  int
		next  []int
		reach []int
		ring  []int
		order []int
		is    bool
	}{
		{"0>1", 0, []int{1}, []int{1}, nil, []int{1, 0}, true},
		{"0>1", 1, nil, nil, nil, []int{1, 0}, true},
		{"1>0", 1, []int{0}, []int{0}, nil, []int{0, 1}, true},
		{"0>0", 0, []int{0}, []int{0}, []int{0}, nil, false},
		{"63>63", 63, []int{63}, []int{63}, []int{63}, nil, false},
		{"0>63", 0, []int{63}, []int{63}, nil, []int{63, 0}, true},
		{"63>0", 63, []int{0}, []int{0}, nil, []int{0, 63}, true},
		{"0>1 1>0", 0, []int{1}, []int{0, 1}, []int{0, 1}, nil, false},
		{"63>0 0>63", 63, []int{0}, []int{0, 63}, []int{0, 63}, nil, false},
		{"2>0 0>1 1>2", 1, []int{2}, []int{0, 1, 2}, []int{0, 1, 2}, nil, false},
		{"2>1 1>0 0>2", 1, []int{0}, []int{0, 1, 2}, []int{0, 2, 1}, nil, false},
		{"5>9 9>7 7>5", 9, []int{7}, []int{5, 7, 9}, []int{5, 9, 7}, nil, false},
		{"5>9 9>7 7>9", 5, []int{9}, []int{7, 9}, []int{7, 9}, nil, false},
		{"5>9 9>7 7>9", 7, []int{9}, []int{7, 9}, []int{7, 9}, nil, false},
		{"4>2 4>1 4>40 1>40 3>63", 4, []int{1, 2, 40}, []int{1, 2, 40}, nil, []int{2, 40, 1, 4, 63, 3}, true},
		{"0>1 1>2 2>3", 0, []int{1}, []int{1, 2, 3}, nil, []int{3, 2, 1, 0}, true},
		{"3>2 2>1 1>0", 3, []int{2}, []int{0, 1, 2}, nil, []int{0, 1, 2, 3}, true},
		{"0>1 0>2 1>3 2>3", 0, []int{1, 2}, []int{1, 2, 3}, nil, []int{3, 1, 2, 0}, true},
		{"0>9 1>8 2>7", 0, []int{9}, []int{9}, nil, []int{7, 2, 8, 1, 9, 0}, true},
		{"0>1 2>3 3>2", 0, []int{1}, []int{1}, []int{2, 3}, nil, false},
	} {
		l := edges(t, x.edges)
		g := graph(t, l)
		plainOf(l).holds(t, g)
		if got := g.Next(x.node); !slices.Equal(got, x.next) {
			t.Errorf("%s: Next(%d) is %v", x.edges, x.node, got)
		}
		if got := g.Reach(x.node); !slices.Equal(got, x.reach) {
			t.Errorf("%s: Reach(%d) is %v", x.edges, x.node, got)
		}
		if got := g.Ring(); !slices.Equal(got, x.ring) {
			t.Errorf("%s: Ring is %v", x.edges, got)
		}
		if got, ok := g.Order(); !slices.Equal(got, x.order) || ok != x.is {
			t.Errorf("%s: Order is %v, %v", x.edges, got, ok)
		}
		if g.Len() != len(l) {
			t.Errorf("%s: Len is %d", x.edges, g.Len())
		}
	}
}

// P26.1: an edge that is there already is there once, also one to oneself.
func TestEdgesTwice(t *testing.T) {
	for _, x := range []string{"0>1", "1>0", "7>7", "0>63", "63>0", "63>63"} {
		l := edges(t, x)
		once := graph(t, l)
		twice := with(t, with(t, once, l...), l...)
		if once != twice || twice.Len() != 1 {
			t.Errorf("%s: %v, and %d edges", x, once == twice, twice.Len())
		}
	}
}

// P26.1: each of the edges that there may be, alone, and all without it.
func TestEachEdge(t *testing.T) {
	var all wfg.Graph
	for from := range 64 {
		for to := range 64 {
			e := edge{from, to}
			g := graph(t, []edge{e})
			if g.Len() != 1 || !slices.Equal(g.Next(from), []int{to}) || !slices.Equal(g.Reach(from), []int{to}) {
				t.Fatalf("%v: %d edges, Next is %v, Reach %v", e, g.Len(), g.Next(from), g.Reach(from))
			}
			if other := (to + 1) % 64; other != from && (len(g.Next(other)) > 0 || len(g.Reach(other)) > 0) {
				t.Fatalf("%v: Next(%d) is %v, Reach %v", e, other, g.Next(other), g.Reach(other))
			}
			if g == (wfg.Graph{}) || g.Has(to, from) != (from == to) || all.Has(from, to) {
				t.Fatalf("%v is there the wrong way, or already", e)
			}
			all = with(t, all, e)
		}
	}
	if all.Len() != 64*64 {
		t.Errorf("%d edges", all.Len())
	}
}

// P26.1: graphs of the same edges are the same, in whatever order these were added, and
// of others are not.
func TestSameEdges(t *testing.T) {
	n := numbers(1)
	for range 300 {
		l := n.edges(n.nodes(n.one(2, 3, 8, 64)), n.one(1, 2, 9, 60))
		other := slices.Clone(l)
		for i := range other {
			k := n.below(i + 1)
			other[i], other[k] = other[k], other[i]
		}
		other = append(other, l[n.below(len(l))])
		g := graph(t, l)
		if g != graph(t, other) {
			t.Fatalf("%v and %v are not the same", l, other)
		}
		less := slices.DeleteFunc(other, func(e edge) bool { return e == l[0] })
		if g == graph(t, less) {
			t.Fatalf("%v and %v are the same", l, less)
		}
	}
}

// P26.1: a graph of which others are made stays as it was, and these, too.
func TestGraphsAreValues(t *testing.T) {
	n := numbers(2)
	for range 200 {
		nodes := n.nodes(n.one(2, 5, 64))
		l, left, right := n.edges(nodes, n.one(0, 1, 20)), n.edges(nodes, 5), n.edges(nodes, 5)
		g := graph(t, l)
		was := g
		a := with(t, g, left...)
		b := with(t, g, right...)
		of := a
		c := with(t, a, right...)
		if g != was || a != of {
			t.Fatalf("a graph is turned by another one that is made of it")
		}
		plainOf(l).holds(t, g)
		plainOf(slices.Concat(l, left)).holds(t, a)
		plainOf(slices.Concat(l, right)).holds(t, b)
		plainOf(slices.Concat(l, left, right)).holds(t, c)
	}
}

// P26.1: a graph can be asked for in a map, as it can be compared.
func TestGraphsAsKeys(t *testing.T) {
	seen := map[wfg.Graph]string{}
	for _, x := range []string{"", "0>1", "1>0", "0>1 1>0", "63>63"} {
		seen[graph(t, edges(t, x))] = x
	}
	if len(seen) != 5 || seen[graph(t, edges(t, "1>0 0>1"))] != "0>1 1>0" || seen[wfg.Graph{}] != "" {
		t.Errorf("%d graphs", len(seen))
	}
}

// wrongNodes are numbers that are none.
func wrongNodes() []int {
	return []int{-1, 64, -2, -64, 65, 127, 128, 255, 1 << 31, -1 << 31, 1 << 32, math.MinInt, math.MaxInt, math.MinInt + 63, math.MaxInt - 63}
}

// P26.1: Add of what is no node is ErrArg, and the graph is as it was.
func TestAddRefuses(t *testing.T) {
	for _, x := range []string{"", "0>1", "0>0 63>63", "5>9 9>7 7>5", "0>63 63>0"} {
		g := graph(t, edges(t, x))
		was := text(g)
		for _, wrong := range wrongNodes() {
			for _, other := range slices.Concat([]int{0, 1, 31, 32, 63}, wrongNodes()) {
				for _, e := range []edge{{wrong, other}, {other, wrong}} {
					got, err := g.Add(e[0], e[1])
					if got != g || err != api.ErrArg || text(got) != was {
						t.Fatalf("%q: Add%v is %s, %d", x, e, text(got), err)
					}
				}
			}
		}
	}
}

// P26.1: nodes that there are not have no edges, and none leads to them.
func TestNoSuchNodes(t *testing.T) {
	for _, g := range []wfg.Graph{{}, graph(t, edges(t, "0>1 1>0 63>63 0>63")), allEdges(t)} {
		for _, wrong := range wrongNodes() {
			for n := range 64 {
				if g.Has(wrong, n) || g.Has(n, wrong) || g.Has(wrong, wrong) {
					t.Fatalf("there is an edge of %d and %d", wrong, n)
				}
			}
			if next, reach := g.Next(wrong), g.Reach(wrong); len(next) > 0 || len(reach) > 0 {
				t.Errorf("Next(%d) is %v, Reach %v", wrong, next, reach)
			}
		}
	}
}

// allEdges is the graph that has all.
func allEdges(t testing.TB) wfg.Graph {
	t.Helper()
	var l []edge
	for from := range 64 {
		for to := range 64 {
			l = append(l, edge{from, to})
		}
	}
	return graph(t, l)
}

// R4: what was answered is the caller's: what is written into it, or behind it, no later
// answer has.
func TestAnswersAreTheCallers(t *testing.T) {
	g := graph(t, edges(t, "0>1 0>2 2>0 63>0"))
	ways := graph(t, edges(t, "0>1 0>2 2>1 63>0"))
	for name, ask := range map[string]func() []int{
		"Next":  func() []int { return g.Next(0) },
		"Reach": func() []int { return g.Reach(0) },
		"Ring":  g.Ring,
		"Order": func() []int { l, _ := ways.Order(); return l },
	} {
		want := slices.Clone(ask())
		first, second := ask(), ask()
		for i := range first {
			first[i] = 99
		}
		_ = append(first, 98)
		_ = append(first[:1], 97)
		if len(want) < 2 || !slices.Equal(second, want) || !slices.Equal(ask(), want) {
			t.Errorf("answers of %s are shared: %v, %v, not %v", name, second, ask(), want)
		}
	}
}
