package avl

import "cmp"

// node is a key with its value, the half of the lesser keys and that of the greater ones; nil has no key. It is not changed once it is made, so that keys which are being given stay as they were when that began, whatever becomes of their map.
type node[K cmp.Ordered, V any] struct {
	key   K
	value V
	less  *node[K, V]
	more  *node[K, V]
	deep  int
}

// depth is how deep the tree is.
func (n *node[K, V]) depth() int {
	if n == nil {
		return 0
	}
	return n.deep
}

// find is the node of a key.
func (n *node[K, V]) find(key K) *node[K, V] {
	for n != nil {
		c := cmp.Compare(key, n.key)
		if c == 0 {
			break
		}
		if c < 0 {
			n = n.less
		} else {
			n = n.more
		}
	}
	return n
}

// put is the tree in which the key has the value.
func (n *node[K, V]) put(key K, value V) *node[K, V] {
	if n == nil {
		return &node[K, V]{key: key, value: value, deep: 1}
	}
	switch c := cmp.Compare(key, n.key); {
	case c < 0:
		return n.level(n.less.put(key, value), n.more)
	case c > 0:
		return n.level(n.less, n.more.put(key, value))
	}
	return &node[K, V]{key: key, value: value, less: n.less, more: n.more, deep: n.deep}
}

// drop is the tree without a key that is there.
func (n *node[K, V]) drop(key K) *node[K, V] {
	switch c := cmp.Compare(key, n.key); {
	case c < 0:
		return n.level(n.less.drop(key), n.more)
	case c > 0:
		return n.level(n.less, n.more.drop(key))
	}
	if n.more == nil {
		return n.less
	}
	next := n.more.least()
	return next.level(n.less, n.more.drop(next.key))
}

// least is the node of the least key.
func (n *node[K, V]) least() *node[K, V] {
	for n.less != nil {
		n = n.less
	}
	return n
}

// each gives all keys with their values; whether more are wanted.
func (n *node[K, V]) each(yield func(K, V) bool) bool {
	return n == nil || n.less.each(yield) && yield(n.key, n.value) && n.more.each(yield)
}

// from gives those that are not below a key; whether more are wanted.
func (n *node[K, V]) from(key K, yield func(K, V) bool) bool {
	if n == nil {
		return true
	}
	if cmp.Less(n.key, key) {
		return n.more.from(key, yield)
	}
	return n.less.from(key, yield) && yield(n.key, n.value) && n.more.each(yield)
}

// with is the node's key and value with other halves, whose depths are at most one apart.
func (n *node[K, V]) with(less, more *node[K, V]) *node[K, V] {
	deep := max(less.depth(), more.depth()) + 1
	return &node[K, V]{key: n.key, value: n.value, less: less, more: more, deep: deep}
}

// level is the node's key and value with other halves, whose depths may be two apart: one change makes no more of it.
func (n *node[K, V]) level(less, more *node[K, V]) *node[K, V] {
	switch less.depth() - more.depth() {
	case 2:
		return n.lowerLess(less, more)
	case -2:
		return n.lowerMore(less, more)
	}
	return n.with(less, more)
}

// lowerLess lifts a key of the lesser half, which is two deeper, to the top.
func (n *node[K, V]) lowerLess(less, more *node[K, V]) *node[K, V] {
	if less.less.depth() >= less.more.depth() {
		return less.with(less.less, n.with(less.more, more))
	}
	// What lies between the two keys is too deep to stay as one part.
	mid := less.more
	return mid.with(less.with(less.less, mid.less), n.with(mid.more, more))
}

// lowerMore lifts a key of the greater half, which is two deeper, to the top.
func (n *node[K, V]) lowerMore(less, more *node[K, V]) *node[K, V] {
	if more.more.depth() >= more.less.depth() {
		return more.with(n.with(less, more.less), more.more)
	}
	mid := more.less
	return mid.with(n.with(less, mid.less), more.with(mid.more, more.more))
}
