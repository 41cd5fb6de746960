package wfg

// Ring is the least ring.
func (g Graph) Ring() []int {
	least, edges := 0, 0
	for n := range nodes {
		// Of rings that are as short the one that begins with the lesser node is less: so
		// the first node that is found in one is its least one.
		if many := g.away(n)[n]; many > 0 && (edges == 0 || many < edges) {
			least, edges = n, many
		}
	}
	if edges == 0 {
		return nil
	}
	return g.around(least)
}

// Order is an order of its nodes.
func (g Graph) Order() ([]int, bool) {
	var order []int
	left := g.touched()
next:
	for left != 0 {
		for _, n := range list(left) {
			if g.edges[n]&left == 0 {
				order = append(order, n)
				left &^= bit(n)
				continue next
			}
		}
		return nil, false
	}
	return order, true
}

// around is the shortest ring in which a node is, from that one on: of several ones that
// whose nodes come first. The node has to be in one.
func (g Graph) around(begin int) []int {
	away := g.away(begin)
	ring := []int{begin}
next:
	for left := away[begin] - 1; left > 0; left-- {
		for _, n := range g.Next(ring[len(ring)-1]) {
			if away[n] == left {
				ring = append(ring, n)
				continue next
			}
		}
	}
	return ring
}

// away tells how many edges the shortest way to a node has, one at least, from each node:
// 0, if there is none.
func (g Graph) away(end int) [nodes]int {
	var away [nodes]int
	near := bit(end)
	for edges := 1; near != 0; edges++ {
		var found uint64
		for n, to := range g.edges {
			if away[n] == 0 && to&near != 0 {
				away[n] = edges
				found |= bit(n)
			}
		}
		near = found
	}
	return away
}

// touched has the bits of the nodes that have an edge, or to which one leads.
func (g Graph) touched() uint64 {
	var those uint64
	for n, to := range g.edges {
		those |= to
		if to != 0 {
			those |= bit(n)
		}
	}
	return those
}
