package wfg_test

import (
	"slices"
	"testing"

	"futtock/wfg"
)

// numbers are of no pattern, and the same ones each time.
type numbers uint64

func (n *numbers) below(end int) int {
	*n = *n*6364136223846793005 + 1442695040888963407
	return int(uint64(*n) >> 33 % uint64(end))
}

// one is one of some numbers.
func (n *numbers) one(l ...int) int { return l[n.below(len(l))] }

// nodes are so many drawn ones, in a drawn order, each once.
func (n *numbers) nodes(many int) []int {
	var all []int
	for i := range 64 {
		k := n.below(i + 1)
		all = slices.Insert(all, k, i)
	}
	return all[:many]
}

// edges are so many drawn ones of nodes; some of them are there twice perhaps, few lead
// to oneself.
func (n *numbers) edges(nodes []int, many int) []edge {
	var l []edge
	for len(l) < many {
		e := edge{n.one(nodes...), n.one(nodes...)}
		if e[0] != e[1] || len(nodes) == 1 || n.below(20) == 0 {
			l = append(l, e)
		}
	}
	return l
}

// loops are some rings, mostly of as many nodes each, which they may have in common, and
// edges that lead to them.
func (n *numbers) loops(nodes []int) []edge {
	var l []edge
	each := 1 + n.below(min(12, len(nodes)))
	for range n.one(1, 2, 3) {
		at := n.below(len(nodes) - each + 1)
		ring := nodes[at : at+each]
		for i, from := range ring {
			l = append(l, edge{from, ring[(i+1)%each]})
		}
		if each < len(nodes) {
			each += n.one(0, 0, 1)
		}
	}
	for range n.one(0, 3, 20) {
		l = append(l, edge{n.one(nodes...), l[0][0]})
	}
	return l
}

// downhill are drawn edges that all lead from one of the nodes to one that stands ahead
// of it: so there is no ring.
func (n *numbers) downhill(nodes []int, many int) []edge {
	var l []edge
	for range many {
		i := 1 + n.below(len(nodes)-1)
		l = append(l, edge{nodes[i], nodes[n.below(i)]})
	}
	return l
}

// P26.1: drawn graphs of few nodes: the least of all rings, and of all orders.
func TestDrawnSmallGraphs(t *testing.T) {
	n := numbers(5)
	seen := map[string]int{}
	for range 6000 {
		nodes := n.nodes(n.one(3, 4, 5, 6))
		many := n.one(1, 2, 3, 5, 8, 13)
		l := n.edges(nodes, many)
		switch n.below(3) {
		case 0:
			l = n.downhill(nodes, many)
		case 1:
			l = n.loops(nodes)
		}
		g, p := graph(t, l), quick(l)
		rings, orders := p.least(t, g)
		switch {
		case rings > 1:
			seen["many rings"]++
		case rings == 1:
			seen["a ring"]++
		case orders > 1:
			seen["many orders"]++
		default:
			seen["an order"]++
		}
		if rings > 0 {
			seen[string(rune('0'+len(g.Ring())))]++
		}
	}
	for _, what := range []string{"many rings", "a ring", "many orders", "an order", "1", "2", "3", "4", "5"} {
		if seen[what] < 50 {
			t.Errorf("it is not much: %v", seen)
		}
	}
}

// P26.3: a graph's ring is one, of nodes that reach themselves; there is one just if some
// node does, and it is the least one, by the lengths of the shortest ways.
func (p *plain) ringHolds(t testing.TB, g wfg.Graph) {
	t.Helper()
	ring := g.Ring()
	shortest := never
	for n := range 64 {
		shortest = min(shortest, p.far[n][n])
		if reaches := slices.Contains(g.Reach(n), n); reaches && len(ring) == 0 {
			t.Fatalf("%s: %d reaches itself, and there is no ring", text(g), n)
		}
	}
	if len(ring) == 0 {
		if shortest < never {
			t.Fatalf("%s: there is no ring, and a node has a way of %d to itself", text(g), shortest)
		}
		return
	}
	if len(ring) != shortest {
		t.Fatalf("%s: Ring is %v, and a node has a way of %d to itself", text(g), ring, shortest)
	}
	begin := ring[0]
	for i, n := range ring {
		if next := ring[(i+1)%len(ring)]; !g.Has(n, next) || slices.Contains(ring[:i], n) || !slices.Contains(g.Reach(n), n) {
			t.Fatalf("%s: Ring is %v, which is none at %d", text(g), ring, n)
		}
		for lesser := range n {
			first := i == 0 && p.far[lesser][lesser] == shortest
			later := i > 0 && p.has[ring[i-1]][lesser] && p.far[lesser][begin] <= len(ring)-i
			if first || later {
				t.Fatalf("%s: Ring is %v, and %d could be ahead of %d", text(g), ring, lesser, n)
			}
		}
	}
}

// P26.4: there is an order just if there is no ring; in it each node stands behind all
// those to which it has edges, each that is touched is there once, and none that is less
// could stand where one does.
func (p *plain) orderHolds(t testing.TB, g wfg.Graph) {
	t.Helper()
	order, ok := g.Order()
	if ok != (len(g.Ring()) == 0) {
		t.Fatalf("%s: Order is %v, %v, Ring %v", text(g), order, ok, g.Ring())
	}
	if !ok {
		if len(order) > 0 {
			t.Fatalf("%s: Order is %v and false", text(g), order)
		}
		return
	}
	touched := p.touched()
	sorted := slices.Sorted(slices.Values(order))
	if !slices.Equal(sorted, touched) || !p.isOrder(order) {
		t.Fatalf("%s: Order is %v", text(g), order)
	}
	for i, n := range order {
		for _, other := range order[i:] {
			if other < n && p.isOrder(append(slices.Clone(order[:i]), other)) {
				t.Fatalf("%s: Order is %v, and %d could stand where %d does", text(g), order, other, n)
			}
		}
	}
}

// P26.1, P26.3, P26.4: drawn graphs of up to all nodes.
func TestDrawnGraphs(t *testing.T) {
	n := numbers(6)
	rings, ways, long := 0, 0, 0
	for range 1200 {
		nodes := n.nodes(n.one(1, 2, 5, 10, 20, 40, 64))
		many := n.one(0, 1, len(nodes)/2, len(nodes), len(nodes)*3/2, len(nodes)*4)
		l := n.edges(nodes, many)
		switch kind := n.below(4); {
		case kind == 0:
			l = n.loops(nodes)
		case kind == 1 && len(nodes) > 1:
			l = n.downhill(nodes, many)
		case kind == 2 && len(nodes) > 1:
			l = append(n.downhill(nodes, many), n.edges(nodes, 1)...)
		}
		g, p := graph(t, l), plainOf(l)
		p.holds(t, g)
		p.ringHolds(t, g)
		p.orderHolds(t, g)
		switch many := len(g.Ring()); {
		case many == 0:
			ways++
		case many > 3:
			long++
		default:
			rings++
		}
	}
	if min(rings, ways, long) < 40 {
		t.Errorf("it is not much: %d rings, %d longer ones, %d without", rings, long, ways)
	}
}

// P26.3, P26.4: as a graph has more and more edges, there comes to be a ring, and from
// then on there is one; there is an order up to there.
func TestGraphsThatGrow(t *testing.T) {
	n := numbers(7)
	for range 60 {
		nodes := n.nodes(n.one(3, 10, 64))
		var g wfg.Graph
		var l []edge
		was := 0
		for _, e := range n.edges(nodes, 2*len(nodes)) {
			l = append(l, e)
			g = with(t, g, e)
			p := quick(l)
			p.orderHolds(t, g)
			many := len(g.Ring())
			if was > 0 && (many == 0 || many > was) {
				t.Fatalf("%s: a ring of %d, and it was one of %d", text(g), many, was)
			}
			was = many
		}
	}
}
