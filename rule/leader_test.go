package rule_test

import (
	"math"
	"math/big"
	"testing"

	"seneschal/api"
	"seneschal/rule"
)

func TestFreeFieldByField(t *testing.T) {
	k := rule.Free()
	if k.View != -1 {
		t.Error("View:", k.View)
	}
	if len(k.Value) != 0 {
		t.Errorf("Value: %q", k.Value)
	}
	if len(k.Votes) != 0 {
		t.Error("Votes:", k.Votes)
	}
}

// TestLeaderGoesRound: view by view and slot by slot the next node leads, and behind the last one the first (P7.1).
func TestLeaderGoesRound(t *testing.T) {
	for nodes := 1; nodes <= api.MaxNodes; nodes++ {
		ofSlot := 0
		for slot := range 2 * api.MaxSlots {
			ofView := ofSlot
			for view := range 4 * api.MaxNodes {
				if got := rule.Leader(slot, view, nodes); got != ofView {
					t.Errorf("slot %d, view %d of %d: %d, not %d", slot, view, nodes, got, ofView)
				}
				ofView = nextNode(ofView, nodes)
			}
			ofSlot = nextNode(ofSlot, nodes)
		}
	}
}

func nextNode(n, nodes int) int {
	if n == nodes-1 {
		return 0
	}
	return n + 1
}

func TestLeaderOfNoNodesAndOfNumbersBelowNought(t *testing.T) {
	for _, bad := range []int{math.MinInt, math.MinInt + 1, -1 << 32, -256, -10, -4, -3, -2, -1} {
		for _, n := range []int{0, 1, 2, 3, 5, 63, 1 << 32, math.MaxInt} {
			for _, m := range []int{1, 2, 4, 7, 10, math.MaxInt} {
				for _, got := range []int{rule.Leader(n, m, bad), rule.Leader(bad, n, m), rule.Leader(n, bad, m), rule.Leader(bad, bad, m), rule.Leader(bad, bad, bad)} {
					if got != 0 {
						t.Errorf("%d, with %d and %d: %d", bad, n, m, got)
					}
				}
			}
			if got := rule.Leader(n, 5, 0); got != 0 {
				t.Errorf("slot %d of no nodes: %d", n, got)
			}
		}
	}
}

// leaderOfOthers is Leader in numbers that have no end.
func leaderOfOthers(slot, view, nodes int) int {
	if nodes < 1 || slot < 0 || view < 0 {
		return 0
	}
	sum := new(big.Int).Add(big.NewInt(int64(slot)), big.NewInt(int64(view)))
	return int(sum.Mod(sum, big.NewInt(int64(nodes))).Int64())
}

// TestLeaderOfFarNumbers: neither slot and view nor what is left of them wraps (P7.1, W10).
func TestLeaderOfFarNumbers(t *testing.T) {
	counts := append(farNumbers(), 4, 5, 6, 10, math.MaxInt/2, math.MaxInt/2+1, math.MaxInt/2+2)
	for _, slot := range farNumbers() {
		for _, view := range farNumbers() {
			for _, nodes := range counts {
				if got, want := rule.Leader(slot, view, nodes), leaderOfOthers(slot, view, nodes); got != want {
					t.Errorf("slot %d, view %d of %d: %d, not %d", slot, view, nodes, got, want)
				}
			}
		}
	}
}

func TestKnownLeaders(t *testing.T) {
	for _, c := range []struct{ slot, view, nodes, want int }{
		{0, 0, 4, 0}, {1, 0, 4, 1}, {0, 1, 4, 1}, {3, 0, 4, 3}, {3, 1, 4, 0}, {5, 2, 4, 3}, {63, 8, 7, 1}, {63, 8, 10, 1}, {9, 9, 10, 8},
		{math.MaxInt, 0, 4, 3}, {math.MaxInt, 1, 4, 0}, {math.MaxInt, math.MaxInt, 4, 2}, {math.MaxInt, math.MaxInt, 1, 0},
		{math.MaxInt - 1, 1, math.MaxInt, 0}, {math.MaxInt - 1, math.MaxInt - 1, math.MaxInt, math.MaxInt - 2},
		{math.MinInt, 0, 4, 0}, {0, math.MinInt, 4, 0}, {5, 2, math.MinInt, 0}, {5, 2, 0, 0}, {-1, 2, 4, 0}, {2, -1, 4, 0},
	} {
		if got := rule.Leader(c.slot, c.view, c.nodes); got != c.want {
			t.Errorf("slot %d, view %d of %d: %d, not %d", c.slot, c.view, c.nodes, got, c.want)
		}
	}
}
