package wfg_test

import (
	"slices"
	"testing"

	"futtock/wfg"
)

// rings are all rings of nodes, each once, its least node first.
func (p *plain) rings(nodes []int) [][]int {
	var all [][]int
	var goOn func(way []int)
	goOn = func(way []int) {
		for _, n := range nodes {
			switch {
			case !p.has[way[len(way)-1]][n]:
			case n == way[0]:
				all = append(all, slices.Clone(way))
			case n > way[0] && !slices.Contains(way, n):
				goOn(append(slices.Clone(way), n))
			}
		}
	}
	for _, n := range nodes {
		goOn([]int{n})
	}
	return all
}

// less holds two rings against each other, as the document does.
func less(a, b []int) int {
	if len(a) != len(b) {
		return len(a) - len(b)
	}
	return slices.Compare(a, b)
}

// orders goes through all orders of nodes, the lesser ones first, until one is taken.
func orders(nodes []int, take func(order []int) bool) bool {
	var goOn func(order []int) bool
	goOn = func(order []int) bool {
		if len(order) == len(nodes) {
			return take(order)
		}
		for _, n := range nodes {
			if !slices.Contains(order, n) && goOn(append(slices.Clone(order), n)) {
				return true
			}
		}
		return false
	}
	return goOn(nil)
}

// isOrder tells whether each node stands behind all those to which it has edges.
func (p *plain) isOrder(order []int) bool {
	for i, n := range order {
		for to, has := range p.has[n] {
			if has && !slices.Contains(order[:i], to) {
				return false
			}
		}
	}
	return true
}

// least tells if a small graph's Ring, or Order, is not the least one of all that there
// are. It tells of how many rings it was, and how many orders there may be.
func (p *plain) least(t testing.TB, g wfg.Graph) (int, int) {
	t.Helper()
	nodes := p.touched()
	rings := p.rings(nodes)
	var want []int
	if len(rings) > 0 {
		want = slices.MinFunc(rings, less)
	}
	if got := g.Ring(); !slices.Equal(got, want) {
		t.Fatalf("%s: Ring is %v, not %v of %v", text(g), got, want, rings)
	}
	many := 0
	want = nil
	orders(nodes, func(order []int) bool {
		if p.isOrder(order) {
			if many++; many == 1 {
				want = order
			}
		}
		return many > 1
	})
	got, ok := g.Order()
	if !slices.Equal(got, want) || ok != (many > 0) || ok != (len(rings) == 0) {
		t.Fatalf("%s: Order is %v, %v, not %v", text(g), got, ok, want)
	}
	return len(rings), many
}

// P26.1, P26.3, P26.4: all graphs of four nodes, wherever these are: the least of all
// rings, the least of all orders.
func TestAllSmallGraphs(t *testing.T) {
	for _, x := range []struct {
		nodes []int
		step  int
	}{{[]int{0}, 1}, {[]int{63}, 1}, {[]int{0, 63}, 1}, {[]int{31, 32}, 1}, {[]int{0, 31, 63}, 1}, {[]int{7, 8, 9}, 1}, {[]int{0, 1, 62, 63}, 5}, {[]int{2, 3, 5, 8}, 7}} {
		many := len(x.nodes)
		for bits := 0; bits < 1<<(many*many); bits += x.step {
			var l []edge
			for i := range many * many {
				if bits>>i&1 == 1 {
					l = append(l, edge{x.nodes[i/many], x.nodes[i%many]})
				}
			}
			p, g := quick(l), graph(t, l)
			p.least(t, g)
		}
	}
}

// quick is a plain graph that knows its edges alone.
func quick(l []edge) *plain {
	p := &plain{}
	for _, e := range l {
		p.has[e[0]][e[1]] = true
	}
	return p
}

// P26.1: of several rings the shortest one, of these the one whose nodes come first.
func TestLeastRing(t *testing.T) {
	for _, x := range []struct {
		edges string
		want  []int
	}{
		{"0>1 1>2 2>0 3>4 4>3", []int{3, 4}},
		{"0>1 1>0 3>3", []int{3}},
		{"62>62 63>63", []int{62}},
		{"3>4 4>3 1>2 2>1", []int{1, 2}},
		{"0>5 5>0 0>4 4>0", []int{0, 4}},
		{"0>5 5>1 1>0 0>4 4>9 9>0", []int{0, 4, 9}},
		{"0>5 5>1 1>0 0>6 6>0", []int{0, 6}},
		{"0>2 2>9 9>0 2>3 3>0", []int{0, 2, 3}},
		{"0>2 2>3 3>4 4>0 0>9 9>8 8>0", []int{0, 9, 8}},
		{"0>1 1>2 2>3 3>4 4>0 4>2", []int{2, 3, 4}},
		{"0>1 1>2 2>3 3>0 7>6 6>5 5>4 4>7", []int{0, 1, 2, 3}},
		{"1>2 2>3 3>1 3>0 0>2", []int{0, 2, 3}},
		{"9>1 1>9 0>9 0>1", []int{1, 9}},
		{"0>1 1>5 5>0 0>2 2>4 4>0 1>4 2>5", []int{0, 1, 4}},
		{"0>63 63>62 62>0 0>62 62>61 61>0", []int{0, 62}},
		{"10>11 11>10 10>12 12>11 9>10 11>9", []int{10, 11}},
	} {
		l := edges(t, x.edges)
		g, p := graph(t, l), quick(l)
		if got := g.Ring(); !slices.Equal(got, x.want) {
			t.Errorf("%s: Ring is %v, not %v", x.edges, got, x.want)
		}
		p.least(t, g)
	}
}

// P26.1: of several orders the one in which the lesser nodes come first.
func TestLeastOrder(t *testing.T) {
	for _, x := range []struct {
		edges string
		want  []int
	}{
		{"0>1 2>3", []int{1, 0, 3, 2}},
		{"3>0 2>1", []int{0, 1, 2, 3}},
		{"0>3 1>2", []int{2, 1, 3, 0}},
		{"0>3 1>3 2>3", []int{3, 0, 1, 2}},
		{"3>0 3>1 3>2", []int{0, 1, 2, 3}},
		{"0>63 1>63 62>0", []int{63, 0, 1, 62}},
		{"0>63 1>62", []int{62, 1, 63, 0}},
		{"5>1 4>2 3>0", []int{0, 1, 2, 3, 4, 5}},
		{"0>5 5>4 1>4 2>1", []int{4, 1, 2, 5, 0}},
		{"9>1 9>2 1>7 2>7 7>8", []int{8, 7, 1, 2, 9}},
	} {
		l := edges(t, x.edges)
		g, p := graph(t, l), quick(l)
		if got, ok := g.Order(); !slices.Equal(got, x.want) || !ok {
			t.Errorf("%s: Order is %v, %v, not %v", x.edges, got, ok, x.want)
		}
		p.least(t, g)
	}
}

// P26.1, P26.3: a ring of so many nodes, one to all 64, its nodes in an order that is
// drawn.
func TestRingsOfEachLength(t *testing.T) {
	n := numbers(3)
	for many := 1; many <= 64; many++ {
		nodes := n.nodes(many)
		var l []edge
		for i, from := range nodes {
			l = append(l, edge{from, nodes[(i+1)%many]})
		}
		g := graph(t, l)
		at := slices.Index(nodes, slices.Min(nodes))
		want := slices.Concat(nodes[at:], nodes[:at])
		if got := g.Ring(); !slices.Equal(got, want) {
			t.Errorf("Ring is %v, not %v", got, want)
		}
		if got, ok := g.Order(); len(got) != 0 || ok {
			t.Errorf("Order is %v, %v of a ring of %d", got, ok, many)
		}
		plainOf(l).holds(t, g)
	}
}

// P26.1, P26.4: a way of so many nodes without a ring, two to all 64; with an edge from
// its end to its beginning it is a ring.
func TestWaysOfEachLength(t *testing.T) {
	n := numbers(4)
	for many := 2; many <= 64; many++ {
		nodes := n.nodes(many)
		var l []edge
		for i, from := range nodes[1:] {
			l = append(l, edge{nodes[i], from})
		}
		g := graph(t, l)
		back := slices.Clone(nodes)
		slices.Reverse(back)
		if got, ok := g.Order(); !slices.Equal(got, back) || !ok {
			t.Errorf("Order is %v, %v, not %v", got, ok, back)
		}
		if got := g.Ring(); len(got) != 0 {
			t.Errorf("Ring is %v of a way", got)
		}
		plainOf(l).holds(t, g)
		g = with(t, g, edge{nodes[many-1], nodes[0]})
		if _, ok := g.Order(); ok || len(g.Ring()) != many {
			t.Errorf("Ring is %v of a ring of %d", g.Ring(), many)
		}
	}
}

// P26.1: the graph of all edges, and those of all edges to the lesser, and to the greater
// nodes.
func TestAllEdges(t *testing.T) {
	var all, lesser, greater []edge
	var rising, falling []int
	for from := range 64 {
		rising, falling = append(rising, from), append(falling, 63-from)
		for to := range 64 {
			all = append(all, edge{from, to})
			if to < from {
				lesser = append(lesser, edge{from, to})
			}
			if to > from {
				greater = append(greater, edge{from, to})
			}
		}
	}
	for _, x := range []struct {
		edges []edge
		many  int
		ring  []int
		order []int
		ok    bool
	}{
		{all, 4096, []int{0}, nil, false},
		{lesser, 2016, nil, rising, true},
		{greater, 2016, nil, falling, true},
		{slices.Concat(lesser, greater), 4032, []int{0, 1}, nil, false},
		{slices.Concat(lesser, []edge{{62, 63}}), 2017, []int{62, 63}, nil, false},
		{slices.Concat(lesser, []edge{{0, 63}}), 2017, []int{0, 63}, nil, false},
		{slices.Concat(greater, []edge{{63, 63}}), 2017, []int{63}, nil, false},
	} {
		g := graph(t, x.edges)
		plainOf(x.edges).holds(t, g)
		if g.Len() != x.many {
			t.Errorf("%d edges, not %d", g.Len(), x.many)
		}
		if got := g.Ring(); !slices.Equal(got, x.ring) {
			t.Errorf("Ring is %v, not %v", got, x.ring)
		}
		if got, ok := g.Order(); !slices.Equal(got, x.order) || ok != x.ok {
			t.Errorf("Order is %v, %v, not %v", got, ok, x.order)
		}
	}
}
