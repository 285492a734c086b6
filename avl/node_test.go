package avl

import (
	"math/rand"
	"testing"
)

// sound answers a tree's height and how many keys it has, and fails if a key in it does not stand as it must.
func sound(t *testing.T, n *node[int], above, below int) (height, size int) {
	t.Helper()
	if n == nil {
		return 0, 0
	}
	if n.key <= above || n.key >= below {
		t.Fatalf("%d stands between %d and %d", n.key, above, below)
	}
	left, lesser := sound(t, n.left, above, n.key)
	right, greater := sound(t, n.right, n.key, below)
	height, size = 1+max(left, right), lesser+1+greater
	if left-right > 1 || right-left > 1 {
		t.Fatalf("at %d the heights are %d and %d", n.key, left, right)
	}
	if n.height != height || n.size != size {
		t.Fatalf("%d knows height %d and %d keys, not %d and %d", n.key, n.height, n.size, height, size)
	}
	return height, size
}

// P8.4: so it is at each key, whatever came and went.
func TestEachKeyIsBalanced(t *testing.T) {
	rnd := rand.New(rand.NewSource(1))
	for _, most := range []int{4, 30, 300} {
		tree := New[int]()
		for i := range 4000 {
			// Now more come, and now more go.
			if key := rnd.Intn(most); rnd.Intn(10) < 3+i/500%2*4 {
				tree.Put(key, i)
			} else {
				tree.Delete(key)
			}
			height, size := sound(t, tree.root, -1, most)
			if tree.Height() != height || tree.Len() != size {
				t.Fatal(tree.Height(), height, tree.Len(), size)
			}
		}
	}
}

// One side alone grows or shrinks, so that each turn is made on the way.
func TestOneSideIsBalanced(t *testing.T) {
	const n = 300
	for _, order := range []func(i int) int{
		func(i int) int { return i },
		func(i int) int { return n - 1 - i },
		func(i int) int { return i * 7 % n },
		func(i int) int { return i/2 + i%2*(n/2) },
		func(i int) int { return (i ^ 1) % n },
	} {
		tree := New[int]()
		for i := range n {
			tree.Put(order(i), i)
			sound(t, tree.root, -1, n)
		}
		if tree.Len() != n {
			t.Fatal(tree.Len())
		}
		for i := range n {
			tree.Delete(order(i))
			sound(t, tree.root, -1, n)
		}
		if tree.Len() != 0 {
			t.Fatal(tree.Len())
		}
	}
}
