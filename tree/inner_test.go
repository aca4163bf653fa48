package tree

import (
	"strconv"
	"testing"
)

// sound holds the nodes of a tree against the chapter's words.
func sound(t *testing.T, x *Tree[string]) {
	t.Helper()
	var keys []string
	var look func(n *node[string], below int)
	look = func(n *node[string], below int) {
		least := x.order - 1
		if n == x.root {
			least = min(1, x.count)
		}
		if len(n.items) < least || len(n.items) > 2*x.order-1 {
			t.Fatalf("order %d: a node has %d keys", x.order, len(n.items))
		}
		if below <= 1 != n.leaf() || !n.leaf() && len(n.kids) != len(n.items)+1 {
			t.Fatalf("order %d: %d keys, %d nodes below, %d more are to be told of", x.order, len(n.items), len(n.kids), below-1)
		}
		// What has gone out is not kept in the spare room.
		for _, it := range n.items[len(n.items):cap(n.items)] {
			if it.Key != "" || it.Value != "" {
				t.Fatalf("order %d: %v is kept", x.order, it)
			}
		}
		for _, kid := range n.kids[len(n.kids):cap(n.kids)] {
			if kid != nil {
				t.Fatalf("order %d: a node is kept", x.order)
			}
		}
		for i, it := range n.items {
			if !n.leaf() {
				look(n.kids[i], below-1)
			}
			keys = append(keys, it.Key)
		}
		if !n.leaf() {
			look(n.kids[len(n.items)], below-1)
		}
	}
	look(x.root, x.Depth())
	for i := range keys {
		if i > 0 && keys[i] <= keys[i-1] {
			t.Fatalf("order %d: %q behind %q", x.order, keys[i], keys[i-1])
		}
	}
	if len(keys) != x.count {
		t.Fatalf("order %d: %d keys, %d are counted", x.order, len(keys), x.count)
	}
}

func TestNodes(t *testing.T) {
	for _, order := range []int{2, 3, 4, 7, 64} {
		x, _ := New[string](order)
		seed := uint64(order)
		draw := func(below int) int {
			seed = seed*6364136223846793005 + 1442695040888963407
			return int(seed >> 33 % uint64(below))
		}
		for i := range 4000 {
			k := strconv.Itoa(draw(50*order) + 1)
			if draw(10) < 3+4*(i/1000%2) {
				x.Del(k)
			} else {
				x.Put(k, k)
			}
			sound(t, x)
			if i%100 == 0 {
				sound(t, x.Copy())
			}
		}
		for x.Len() > 0 {
			l := x.Range("", "", x.Len())
			x.Del(l[draw(len(l))].Key)
			sound(t, x)
		}
	}
}

// nodes are all nodes of a tree.
func nodes(n *node[string]) []*node[string] {
	all := []*node[string]{n}
	for _, kid := range n.kids {
		all = append(all, nodes(kid)...)
	}
	return all
}

// A copy shares no memory with its tree, nor do two nodes of one tree: what
// grows into the spare room of one does not reach another one.
func TestNodesApart(t *testing.T) {
	x, _ := New[string](2)
	for i := range 300 {
		x.Put(strconv.Itoa(i*7919%300+1), "x")
		if i%3 == 0 {
			x.Del(strconv.Itoa(i*31%300 + 1))
		}
	}
	all := append(nodes(x.root), nodes(x.Copy().root)...)
	for i, n := range all {
		for j := range n.items[:cap(n.items)] {
			n.items[:cap(n.items)][j].Key = strconv.Itoa(i)
		}
	}
	for i, n := range all {
		for _, it := range n.items[:cap(n.items)] {
			if it.Key != strconv.Itoa(i) {
				t.Fatalf("the nodes %d and %s share memory", i, it.Key)
			}
		}
	}
}
