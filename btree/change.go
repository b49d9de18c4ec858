package btree

import "quittance/api"

// insertAt and removeAt change a list in place.
func insertAt[T any](l []T, at int, x T) []T {
	l = append(l, x)
	copy(l[at+1:], l[at:])
	l[at] = x
	return l
}

func removeAt[T any](l []T, at int) []T {
	copy(l[at:], l[at+1:])
	var none T
	l[len(l)-1] = none // nothing is kept behind the end
	return l[:len(l)-1]
}

// most is how many pairs a node may have.
func (t *Tree) most() int { return 2*t.degree - 1 }

func (t *Tree) full(i int) bool { return len(t.nodes.at(i).pairs) == t.most() }

// spare reports whether a node has more pairs than it must have.
func (t *Tree) spare(i int) bool { return len(t.nodes.at(i).pairs) >= t.degree }

// insert adds a pair whose key is new. Full nodes are split on the way down, so
// that each one has room for what comes up from below.
func (t *Tree) insert(x api.Pair) {
	if t.full(t.root) {
		t.root = t.nodes.put(node{kids: []int{t.root}})
		t.split(t.root, 0)
	}
	i := t.root
	for {
		n := t.nodes.at(i)
		p, _ := n.find(x.Key)
		if len(n.kids) == 0 {
			n.pairs = insertAt(n.pairs, p, x)
			return
		}
		if t.full(n.kids[p]) {
			t.split(i, p)
			n = t.nodes.at(i)
			p, _ = n.find(x.Key)
		}
		i = n.kids[p]
	}
}

// split halves the full kid at a place of a node; its middle pair goes up.
func (t *Tree) split(i, p int) {
	k := t.nodes.at(i).kids[p]
	kid := t.nodes.at(k)
	middle := kid.pairs[t.degree-1]
	right := node{pairs: append([]api.Pair(nil), kid.pairs[t.degree:]...)}
	kid.pairs = append([]api.Pair(nil), kid.pairs[:t.degree-1]...)
	if len(kid.kids) > 0 {
		right.kids = append([]int(nil), kid.kids[t.degree:]...)
		kid.kids = append([]int(nil), kid.kids[:t.degree]...)
	}
	r := t.nodes.put(right)
	n := t.nodes.at(i)
	n.pairs = insertAt(n.pairs, p, middle)
	n.kids = insertAt(n.kids, p+1, r)
}

// remove takes the pair with a key, which is there, off what is below a node. The
// node has a pair to spare, or is the root.
func (t *Tree) remove(i int, key string) {
	n := t.nodes.at(i)
	p, is := n.find(key)
	switch {
	case len(n.kids) == 0:
		n.pairs = removeAt(n.pairs, p)
	case !is:
		t.remove(t.fill(i, p), key)
	case t.spare(n.kids[p]):
		n.pairs[p] = t.edge(n.kids[p], 1)
		t.remove(n.kids[p], n.pairs[p].Key)
	case t.spare(n.kids[p+1]):
		n.pairs[p] = t.edge(n.kids[p+1], 0)
		t.remove(n.kids[p+1], n.pairs[p].Key)
	default:
		t.remove(t.merge(i, p), key)
	}
}

// fill gives the kid at a place a pair to spare, from one of its neighbours or by
// merging it with one, and returns the kid that has its keys then.
func (t *Tree) fill(i, p int) int {
	n := t.nodes.at(i)
	switch {
	case t.spare(n.kids[p]):
	case p > 0 && t.spare(n.kids[p-1]):
		t.fromLeft(n, p)
	case p < len(n.pairs) && t.spare(n.kids[p+1]):
		t.fromRight(n, p)
	default:
		return t.merge(i, min(p, len(n.pairs)-1))
	}
	return n.kids[p]
}

// fromLeft moves the last pair of the kid before a place up, and the pair that
// was there down into the kid at the place.
func (t *Tree) fromLeft(n *node, p int) {
	from, to := t.nodes.at(n.kids[p-1]), t.nodes.at(n.kids[p])
	last := len(from.pairs) - 1
	to.pairs = insertAt(to.pairs, 0, n.pairs[p-1])
	n.pairs[p-1] = from.pairs[last]
	from.pairs = removeAt(from.pairs, last)
	if len(from.kids) > 0 {
		to.kids = insertAt(to.kids, 0, from.kids[last+1])
		from.kids = removeAt(from.kids, last+1)
	}
}

// fromRight does the same from the other side.
func (t *Tree) fromRight(n *node, p int) {
	to, from := t.nodes.at(n.kids[p]), t.nodes.at(n.kids[p+1])
	to.pairs = append(to.pairs, n.pairs[p])
	n.pairs[p] = from.pairs[0]
	from.pairs = removeAt(from.pairs, 0)
	if len(from.kids) > 0 {
		to.kids = append(to.kids, from.kids[0])
		from.kids = removeAt(from.kids, 0)
	}
}

// merge makes the pair at a place, and the kids at both sides of it, one kid.
func (t *Tree) merge(i, p int) int {
	n := t.nodes.at(i)
	l, r := n.kids[p], n.kids[p+1]
	left, right := t.nodes.at(l), t.nodes.at(r)
	left.pairs = append(append(left.pairs, n.pairs[p]), right.pairs...)
	left.kids = append(left.kids, right.kids...)
	n.pairs = removeAt(n.pairs, p)
	n.kids = removeAt(n.kids, p+1)
	t.nodes.drop(r)
	return l
}

// lower takes away a root that has nothing but one kid.
func (t *Tree) lower() {
	if n := t.nodes.at(t.root); len(n.pairs) == 0 && len(n.kids) > 0 {
		old := t.root
		t.root = n.kids[0]
		t.nodes.drop(old)
	}
}
