package hold

const (
	// A side may weigh so many times what the other one weighs. The two numbers belong together: with
	// most others one turn is not always enough to set right what one key more or less has done.
	tooHeavy = 3
	// The inner half of a side that is too heavy is taken apart if it weighs so many times what the outer one weighs.
	tooDeep = 2
)

// entry is a key and its value.
type entry[V any] struct {
	key   int
	value V
}

// node is a tree: an entry between those of lower and of higher keys. A tree is never changed: what is set and
// deleted makes a new one out of parts of it, so that whoever goes through a tree finds all that was there.
type node[V any] struct {
	entry[V]
	size      int
	low, high *node[V]
}

func (n *node[V]) count() int {
	if n == nil {
		return 0
	}
	return n.size
}

// weight is never 0, so that it can be multiplied.
func (n *node[V]) weight() int { return n.count() + 1 }

func (n *node[V]) find(k int) *node[V] {
	for n != nil && n.key != k {
		if k < n.key {
			n = n.low
		} else {
			n = n.high
		}
	}
	return n
}

// tell yields the entries from a key on, and whether more is wanted.
func (n *node[V]) tell(from int, yield func(int, V) bool) bool {
	if n == nil {
		return true
	}
	if n.key < from {
		return n.high.tell(from, yield)
	}
	return n.low.tell(from, yield) && yield(n.key, n.value) && n.high.tell(from, yield)
}

func (n *node[V]) with(e entry[V]) *node[V] {
	switch {
	case n == nil:
		return join(nil, e, nil)
	case e.key < n.key:
		return balance(n.low.with(e), n.entry, n.high)
	case e.key > n.key:
		return balance(n.low, n.entry, n.high.with(e))
	}
	return join(n.low, e, n.high)
}

func (n *node[V]) without(k int) *node[V] {
	switch {
	case n == nil:
		return nil
	case k < n.key:
		return balance(n.low.without(k), n.entry, n.high)
	case k > n.key:
		return balance(n.low, n.entry, n.high.without(k))
	}
	return merge(n.low, n.high)
}

// least is the entry of the lowest key; there must be one.
func (n *node[V]) least() entry[V] {
	for n.low != nil {
		n = n.low
	}
	return n.entry
}

// merge is both trees, with nothing between them.
func merge[V any](low, high *node[V]) *node[V] {
	if high == nil {
		return low
	}
	e := high.least()
	return balance(low, e, high.without(e.key))
}

func join[V any](low *node[V], e entry[V], high *node[V]) *node[V] {
	return &node[V]{entry: e, size: low.count() + 1 + high.count(), low: low, high: high}
}

// balance is join of two sides of which one has gained or lost one key.
func balance[V any](low *node[V], e entry[V], high *node[V]) *node[V] {
	switch {
	case high.weight() > tooHeavy*low.weight():
		return turnLow(low, e, high)
	case low.weight() > tooHeavy*high.weight():
		return turnHigh(low, e, high)
	}
	return join(low, e, high)
}

// turnLow gives a part of the high side, which is too heavy, to the low one.
func turnLow[V any](low *node[V], e entry[V], high *node[V]) *node[V] {
	inner, outer := high.low, high.high
	if inner.weight() < tooDeep*outer.weight() {
		return join(join(low, e, inner), high.entry, outer)
	}
	return join(join(low, e, inner.low), inner.entry, join(inner.high, high.entry, outer))
}

// turnHigh gives a part of the low side, which is too heavy, to the high one.
func turnHigh[V any](low *node[V], e entry[V], high *node[V]) *node[V] {
	inner, outer := low.high, low.low
	if inner.weight() < tooDeep*outer.weight() {
		return join(outer, low.entry, join(inner, e, high))
	}
	return join(join(outer, low.entry, inner.low), inner.entry, join(inner.high, e, high))
}
