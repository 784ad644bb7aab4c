package hold

import "testing"

// check: sizes are right, keys rise, and no side weighs too much; so no call takes more than a few steps for each
// doubling of the keys.
func check(t *testing.T, n *node[int]) {
	t.Helper()
	if n == nil {
		return
	}
	low, high := n.low, n.high
	if n.size != low.count()+1+high.count() {
		t.Fatalf("%d keys below %d and %d above it are not %d", low.count(), n.key, high.count(), n.size)
	}
	if low.weight() > tooHeavy*high.weight() || high.weight() > tooHeavy*low.weight() {
		t.Fatalf("%d keys below %d, %d above it", low.count(), n.key, high.count())
	}
	if low != nil && low.key >= n.key || high != nil && high.key <= n.key {
		t.Fatalf("the keys beside %d", n.key)
	}
	check(t, low)
	check(t, high)
}

// TestNoSideIsTooHeavy: keys that are set and deleted in several orders.
func TestNoSideIsTooHeavy(t *testing.T) {
	const size = 600
	for name, order := range map[string]func(int) int{
		"rising":       func(i int) int { return i },
		"falling":      func(i int) int { return -i },
		"from outside": func(i int) int { return (i%2*2 - 1) * (size - i) },
		"from inside":  func(i int) int { return (i%2*2 - 1) * i },
		"mixed":        func(i int) int { return i * 7919 % 1009 },
		"in heaps":     func(i int) int { return i%10*1000 - i },
	} {
		t.Run(name, func(t *testing.T) {
			table := New[int]()
			for i := range size {
				table.Set(order(i), i)
				check(t, table.root)
			}
			for i := 0; i < size; i += 3 {
				table.Del(order(i))
				check(t, table.root)
			}
			for i := range size {
				table.Del(order(i))
				check(t, table.root)
			}
			if table.Len() != 0 {
				t.Error(table.Keys())
			}
		})
	}
}

// TestTreesAreNeverChanged: what is kept of a table is as it was, however much is set and deleted.
func TestTreesAreNeverChanged(t *testing.T) {
	table := New[int]()
	kept := []*node[int]{}
	for i := range 300 {
		kept = append(kept, table.root)
		table.Set(i*7919%1009, i)
	}
	for i := range 300 {
		table.Del(i * 7919 % 1009)
	}
	for i, tree := range kept {
		if tree.count() != i {
			t.Fatalf("%d keys are %d", i, tree.count())
		}
		check(t, tree)
		for j := range i {
			if n := tree.find(j * 7919 % 1009); n == nil || n.value != j {
				t.Fatalf("the tree of %d has lost the key of %d", i, j)
			}
		}
	}
}
