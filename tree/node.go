package tree

import (
	"cloister/api"
	"iter"
	"slices"
	"strings"
)

// node is a part of a tree: keys, rising, and below them, unless it is a leaf,
// one node more than it has keys: those of kids[i] stand ahead of items[i],
// those of the last one behind all.
//
// A node that was put into or taken out of may have a key too many or too few:
// the one above it mends that on the way back up, and only if a key came or
// went, so that a call that changes no key changes no node.
type node[V any] struct {
	items []api.Item[V]
	kids  []*node[V]
}

func (n *node[V]) leaf() bool {
	return len(n.kids) == 0
}

func (n *node[V]) overfull(order int) bool {
	return len(n.items) > 2*order-1
}

// spares tells whether the node may lose a key.
func (n *node[V]) spares(order int) bool {
	return len(n.items) > order-1
}

// find is where a key stands among the node's, or would stand.
func (n *node[V]) find(key string) (at int, there bool) {
	return slices.BinarySearchFunc(n.items, key, func(it api.Item[V], key string) int {
		return strings.Compare(it.Key, key)
	})
}

// get is what a key holds, in the node or below it.
func (n *node[V]) get(key string) (v V, ok bool) {
	at, there := n.find(key)
	if there {
		return n.items[at].Value, true
	}
	if n.leaf() {
		return v, false
	}
	return n.kids[at].get(key)
}

// rising hands out the keys that are not below one, in the node and below it.
func (n *node[V]) rising(from string) iter.Seq2[string, V] {
	return func(yield func(string, V) bool) {
		n.walk(from, yield)
	}
}

// walk does the work of rising; false: no more is wanted. One function goes
// down all the way, since an iterator of iterators would hand each key up
// through as many loops as there are nodes above it.
func (n *node[V]) walk(from string, yield func(string, V) bool) bool {
	at, _ := n.find(from)
	for i := at; ; i++ {
		if !n.leaf() && !n.kids[i].walk(from, yield) {
			return false
		}
		if i == len(n.items) {
			return true
		}
		if !yield(n.items[i].Key, n.items[i].Value) {
			return false
		}
	}
}

// copy is the node and all below it in new memory.
func (n *node[V]) copy() *node[V] {
	c := &node[V]{items: append([]api.Item[V](nil), n.items...)}
	for _, kid := range n.kids {
		c.kids = append(c.kids, kid.copy())
	}
	return c
}

// put lets a key hold something, in the node or below it; true: the key is new.
func (n *node[V]) put(key string, v V, order int) bool {
	at, there := n.find(key)
	if there {
		n.items[at].Value = v
		return false
	}
	if n.leaf() {
		n.items = slices.Insert(n.items, at, api.Item[V]{Key: key, Value: v})
		return true
	}
	if !n.kids[at].put(key, v, order) {
		return false
	}
	if n.kids[at].overfull(order) {
		n.part(at, order)
	}
	return true
}

// part makes two of a node below that has a key too many; its middle key goes
// up between them.
func (n *node[V]) part(at, order int) {
	left := n.kids[at]
	middle := left.items[order]
	right := &node[V]{items: slices.Clone(left.items[order+1:])}
	left.items = slices.Delete(left.items, order, len(left.items))
	if !left.leaf() {
		right.kids = slices.Clone(left.kids[order+1:])
		left.kids = slices.Delete(left.kids, order+1, len(left.kids))
	}
	n.items = slices.Insert(n.items, at, middle)
	n.kids = slices.Insert(n.kids, at+1, right)
}

// del takes a key out of the node or out of what is below it; false: it is not
// there.
func (n *node[V]) del(key string, order int) bool {
	at, there := n.find(key)
	if n.leaf() {
		if there {
			n.items = slices.Delete(n.items, at, at+1)
		}
		return there
	}
	if there {
		// What stands between two nodes can't just go: the key ahead of it,
		// which is a leaf's, takes its place.
		n.items[at] = n.kids[at].takeLast(order)
	} else if !n.kids[at].del(key, order) {
		return false
	}
	n.mend(at, order)
	return true
}

// takeLast takes out the last key of the node and of what is below it.
func (n *node[V]) takeLast(order int) api.Item[V] {
	if n.leaf() {
		last := len(n.items) - 1
		it := n.items[last]
		n.items = slices.Delete(n.items, last, last+1)
		return it
	}
	last := len(n.kids) - 1
	it := n.kids[last].takeLast(order)
	n.mend(last, order)
	return it
}

// mend gives a node below that has a key too few one of its neighbours' keys,
// or, if they can't spare one, makes one node of it and a neighbour.
func (n *node[V]) mend(at, order int) {
	if len(n.kids[at].items) >= order-1 {
		return
	}
	switch {
	case at > 0 && n.kids[at-1].spares(order):
		n.moveRight(at - 1)
	case at < len(n.items) && n.kids[at+1].spares(order):
		n.moveLeft(at)
	case at > 0:
		n.join(at - 1)
	default:
		n.join(at)
	}
}

// moveRight moves the last key below on the left of items[at] up to there, and
// what stood there down to the right.
func (n *node[V]) moveRight(at int) {
	left, right := n.kids[at], n.kids[at+1]
	last := len(left.items) - 1
	right.items = slices.Insert(right.items, 0, n.items[at])
	n.items[at] = left.items[last]
	left.items = slices.Delete(left.items, last, last+1)
	if !left.leaf() {
		right.kids = slices.Insert(right.kids, 0, left.kids[last+1])
		left.kids = slices.Delete(left.kids, last+1, last+2)
	}
}

// moveLeft moves the first key below on the right of items[at] up to there, and
// what stood there down to the left.
func (n *node[V]) moveLeft(at int) {
	left, right := n.kids[at], n.kids[at+1]
	left.items = append(left.items, n.items[at])
	n.items[at] = right.items[0]
	right.items = slices.Delete(right.items, 0, 1)
	if !right.leaf() {
		left.kids = append(left.kids, right.kids[0])
		right.kids = slices.Delete(right.kids, 0, 1)
	}
}

// join makes one node of items[at] and of the nodes on both sides of it.
func (n *node[V]) join(at int) {
	left, right := n.kids[at], n.kids[at+1]
	left.items = append(left.items, n.items[at])
	left.items = append(left.items, right.items...)
	left.kids = append(left.kids, right.kids...)
	n.items = slices.Delete(n.items, at, at+1)
	n.kids = slices.Delete(n.kids, at+1, at+2)
}
