package seal_test

import (
	"math"
	"math/bits"
	"testing"

	"seneschal/seal"
)

// knownQuorums: numbers of nodes, how many are enough and how many may lie (P4.2).
var knownQuorums = []struct{ nodes, quorum, faults int }{
	{4, 3, 1}, {7, 5, 2}, // the document's examples
	{math.MinInt, math.MinInt, 0}, {math.MinInt + 1, math.MinInt + 1, 0}, {-1 << 32, -1 << 32, 0},
	{-5, -5, 0}, {-4, -4, 0}, {-3, -3, 0}, {-2, -2, 0}, {-1, -1, 0}, {0, 0, 0},
	{1, 1, 0}, {2, 2, 0}, {3, 3, 0}, {5, 4, 1}, {6, 5, 1}, {8, 6, 2}, {9, 7, 2}, {10, 7, 3}, {11, 8, 3}, {12, 9, 3}, {13, 9, 4},
	{100, 67, 33}, {101, 68, 33}, {102, 69, 33}, {103, 69, 34}, {1 << 20, 699051, 349525},
	{math.MaxInt - 3, 6148914691236517203, 3074457345618258601},
	{math.MaxInt - 2, 6148914691236517204, 3074457345618258601},
	{math.MaxInt - 1, 6148914691236517205, 3074457345618258601},
	{math.MaxInt, 6148914691236517205, 3074457345618258602},
}

func TestKnownQuorums(t *testing.T) {
	for _, c := range knownQuorums {
		if got := seal.Faults(c.nodes); got != c.faults {
			t.Errorf("Faults(%d): %d, not %d", c.nodes, got, c.faults)
		}
		if got := seal.Quorum(c.nodes); got != c.quorum {
			t.Errorf("Quorum(%d): %d, not %d", c.nodes, got, c.quorum)
		}
	}
}

// TestFaultsAndQuorumOfEveryNumber: with every third node behind the first one more may lie (P4.2).
func TestFaultsAndQuorumOfEveryNumber(t *testing.T) {
	for nodes := -500; nodes < 1; nodes++ {
		if f, q := seal.Faults(nodes), seal.Quorum(nodes); f != 0 || q != nodes {
			t.Errorf("%d nodes: %d may lie, %d are enough", nodes, f, q)
		}
	}
	faults, behind := 0, 0
	for nodes := 1; nodes <= 5000; nodes++ {
		if f, q := seal.Faults(nodes), seal.Quorum(nodes); f != faults || q != nodes-faults {
			t.Errorf("%d nodes: %d may lie, %d are enough; not %d and %d", nodes, f, q, faults, nodes-faults)
		}
		if behind++; behind == 3 {
			faults, behind = faults+1, 0
		}
	}
}

// rowsOfNodes are all rows of so many of the nodes, a binary digit a node.
func rowsOfNodes(nodes, size int) []uint {
	var all []uint
	for row := range uint(1) << nodes {
		if bits.OnesCount(row) == size {
			all = append(all, row)
		}
	}
	return all
}

// TestRowsOfQuorumNodesMeet: any two of them, in more than Faults nodes; of one node less in each they would not (P4.3).
func TestRowsOfQuorumNodesMeet(t *testing.T) {
	for faults := range 5 {
		nodes := 3*faults + 1
		if got := seal.Faults(nodes); got != faults {
			t.Errorf("%d nodes: %d may lie, not %d", nodes, got, faults)
		}
		if least := leastInCommon(nodes, seal.Quorum(nodes)); least <= faults {
			t.Errorf("%d nodes: two rows of Quorum have %d in common", nodes, least)
		}
		if least := leastInCommon(nodes, seal.Quorum(nodes)-1); least > faults {
			t.Errorf("%d nodes: one less than Quorum would do", nodes)
		}
	}
}

// leastInCommon is how few nodes any two rows of so many nodes have in common.
func leastInCommon(nodes, size int) int {
	all, least := rowsOfNodes(nodes, size), nodes
	for _, a := range all {
		for _, b := range all {
			least = min(least, bits.OnesCount(a&b))
		}
	}
	return least
}

// TestQuorumsOfManyNodesMeet: two rows have at least twice their length less the nodes in common, which is Quorum less Faults (P4.3).
func TestQuorumsOfManyNodesMeet(t *testing.T) {
	for _, faults := range []int{5, 6, 100, 1000, 1 << 20, 1 << 40, math.MaxInt / 3} {
		nodes := 3*faults + 1
		f, q := seal.Faults(nodes), seal.Quorum(nodes)
		if f != faults || q != nodes-faults || q-f <= f {
			t.Errorf("%d nodes: %d may lie, %d are enough", nodes, f, q)
		}
		if live := nodes - f; live < q {
			t.Errorf("%d nodes: %d that do not lie are not enough", nodes, live)
		}
	}
}
