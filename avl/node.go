package avl

// node is a key with its value, above those of lesser keys at its left and of greater ones at its right. It is never changed once it stands, so trees may have nodes in common. None at all is a nil one.
type node[V any] struct {
	key          int
	value        V
	left, right  *node[V]
	size, height int
}

// join is a key with its value above two trees, whose heights differ by 1 at most.
func join[V any](left *node[V], key int, v V, right *node[V]) *node[V] {
	return &node[V]{
		key: key, value: v, left: left, right: right,
		size:   left.count() + 1 + right.count(),
		height: 1 + max(left.tall(), right.tall()),
	}
}

// count is how many keys there are.
func (n *node[V]) count() int {
	if n == nil {
		return 0
	}
	return n.size
}

// tall is how many nodes stand one above the other.
func (n *node[V]) tall() int {
	if n == nil {
		return 0
	}
	return n.height
}

// above is a node's key above other trees, whose heights differ by 1 at most.
func (n *node[V]) above(left, right *node[V]) *node[V] {
	return join(left, n.key, n.value, right)
}

// balance is a node's key with other trees, whose heights differ by 2 at most.
func (n *node[V]) balance(left, right *node[V]) *node[V] {
	switch lean := left.tall() - right.tall(); {
	case lean > 1:
		return n.raiseLeft(left, right)
	case lean < -1:
		return n.raiseRight(left, right)
	}
	return n.above(left, right)
}

// raiseLeft sets a node at the left of the key topmost, as the tree there is too tall.
func (n *node[V]) raiseLeft(left, right *node[V]) *node[V] {
	// What lies between the two keys goes over to the other side, so where that is what is too tall, it must be split.
	if between := left.right; between.tall() > left.left.tall() {
		return between.above(left.above(left.left, between.left), n.above(between.right, right))
	}
	return left.above(left.left, n.above(left.right, right))
}

// raiseRight is raiseLeft, the sides changed.
func (n *node[V]) raiseRight(left, right *node[V]) *node[V] {
	if between := right.left; between.tall() > right.right.tall() {
		return between.above(n.above(left, between.left), right.above(between.right, right.right))
	}
	return right.above(n.above(left, right.left), right.right)
}

// with is the tree in which a key has a value.
func (n *node[V]) with(key int, v V) *node[V] {
	switch {
	case n == nil:
		return join(nil, key, v, nil)
	case key < n.key:
		return n.balance(n.left.with(key, v), n.right)
	case key > n.key:
		return n.balance(n.left, n.right.with(key, v))
	}
	return join(n.left, key, v, n.right)
}

// without is the tree in which a key has none.
func (n *node[V]) without(key int) *node[V] {
	switch {
	case n == nil:
		return nil
	case key < n.key:
		return n.balance(n.left.without(key), n.right)
	case key > n.key:
		return n.balance(n.left, n.right.without(key))
	case n.right == nil:
		return n.left
	}
	next := n.right.at(0)
	return next.balance(n.left, n.right.without(next.key))
}

// floor is the node of the greatest key that is not above key.
func (n *node[V]) floor(key int) *node[V] {
	var best *node[V]
	for n != nil {
		if n.key > key {
			n = n.left
		} else {
			best, n = n, n.right
		}
	}
	return best
}

// ceil is the node of the least key that is not below key.
func (n *node[V]) ceil(key int) *node[V] {
	var best *node[V]
	for n != nil {
		if n.key < key {
			n = n.right
		} else {
			best, n = n, n.left
		}
	}
	return best
}

// at is the node of the i-th key.
func (n *node[V]) at(i int) *node[V] {
	for n != nil {
		below := n.left.count()
		switch {
		case i < below:
			n = n.left
		case i == below:
			return n
		default:
			i -= below + 1
			n = n.right
		}
	}
	return nil
}

// rank is how many keys are below key.
func (n *node[V]) rank(key int) int {
	below := 0
	for n != nil {
		if n.key < key {
			below += n.left.count() + 1
			n = n.right
		} else {
			n = n.left
		}
	}
	return below
}

// rise tells the nodes whose keys are not below key, rising, and answers whether more are wanted.
func (n *node[V]) rise(key int, tell func(*node[V]) bool) bool {
	if n == nil {
		return true
	}
	if n.key < key {
		return n.right.rise(key, tell)
	}
	return n.left.rise(key, tell) && tell(n) && n.right.rise(key, tell)
}

// fall tells all nodes, falling, and answers whether more are wanted.
func (n *node[V]) fall(tell func(*node[V]) bool) bool {
	return n == nil || n.right.fall(tell) && tell(n) && n.left.fall(tell)
}

// told is a node's key and value, and true, or zeros and false, if there is no node.
func (n *node[V]) told() (key int, v V, ok bool) {
	if n != nil {
		key, v, ok = n.key, n.value, true
	}
	return key, v, ok
}
