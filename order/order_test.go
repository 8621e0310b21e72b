package order_test

import (
	"math"
	"slices"
	"testing"

	"cistern/api"
	"cistern/order"
)

// The chapter's first table, in its order.
func TestP24_1AndP24_2Examples(t *testing.T) {
	checkOrder(t, 4, edges(2, 0, 3, 0), 1, 2, 3, 0)
	checkOrder(t, 3, nil, 0, 1, 2)
	checkOrder(t, 0, nil)
	checkCircle(t, 3, edges(0, 1, 1, 0), 0, 1)
	checkCircle(t, 2, edges(0, 0), 0)
	checkEdge(t, 2, edges(0, 2))
	checkEdge(t, -1, nil)
	checkOrder(t, 3, edges(0, 1, 1, 2), 0, 1, 2)
	if got, e := order.Circle(3, edges(0, 1, 1, 0)); !slices.Equal(got, []int{0, 1}) && !slices.Equal(got, []int{1, 0}) || e != api.OK {
		t.Errorf("Circle = %v, %d", got, e)
	}
	if got, e := order.Circle(2, edges(1, 1)); !slices.Equal(got, []int{1}) || e != api.OK {
		t.Errorf("Circle = %v, %d", got, e)
	}
}

// The least that is ready comes next, also where a greater one has been ready for longer.
func TestP24_1TheLeastThatIsReady(t *testing.T) {
	checkOrder(t, 1, nil, 0)
	checkOrder(t, 5, edges(4, 0, 0, 3), 1, 2, 4, 0, 3)
	checkOrder(t, 6, edges(1, 0, 3, 2, 5, 4), 1, 0, 3, 2, 5, 4)
	checkOrder(t, 6, edges(5, 0, 5, 1, 5, 2), 3, 4, 5, 0, 1, 2)
	checkOrder(t, 6, edges(0, 5, 5, 1, 1, 4), 0, 2, 3, 5, 1, 4)
	checkOrder(t, 4, edges(3, 2, 2, 1, 1, 0), 3, 2, 1, 0)
	checkOrder(t, 7, edges(6, 3, 5, 3, 3, 0, 3, 1, 1, 2, 4, 2), 4, 5, 6, 3, 0, 1, 2)
}

// An edge that stands several times is one edge.
func TestP24_1EdgesThatStandSeveralTimes(t *testing.T) {
	checkOrder(t, 3, edges(2, 1, 2, 1, 1, 0), 2, 1, 0)
	checkOrder(t, 3, edges(2, 1, 1, 0, 2, 1, 1, 0, 2, 0, 2, 1), 2, 1, 0)
	checkCircle(t, 3, edges(1, 2, 1, 2, 2, 1), 1, 2)
	checkCircle(t, 3, edges(0, 1, 0, 1, 1, 1, 1, 1), 1)
}

// No order is answered where some things could stand, if others are in a circle.
func TestP24_1AndP24_2Circles(t *testing.T) {
	checkCircle(t, 1, edges(0, 0), 0)
	checkCircle(t, 5, edges(3, 3), 3)
	checkCircle(t, 5, edges(0, 1, 3, 4, 4, 3), 3, 4)
	checkCircle(t, 6, edges(0, 1, 1, 2, 2, 3, 3, 1, 4, 0, 3, 5), 1, 2, 3)
	checkCircle(t, 4, edges(0, 1, 1, 2, 2, 3, 3, 0), 0, 1, 2, 3)
	checkCircle(t, 4, edges(0, 1, 1, 0, 2, 3, 3, 2))
	checkCircle(t, 4, edges(3, 1, 1, 0, 0, 2, 2, 3, 3, 3))
	checkCircle(t, 5, edges(0, 1, 1, 2, 2, 0, 2, 1, 0, 2))
	for count := 1; count < 40; count++ {
		checkCircle(t, count, ring(0, count))
		checkCircle(t, count+9, ring(3, count+3))
	}
}

// What lies behind a circle never becomes ready, but is in none; nor is what lies ahead of one, or between two.
func TestP24_2BehindACircle(t *testing.T) {
	checkCircle(t, 6, edges(1, 0, 0, 1, 1, 2, 2, 3, 3, 4, 2, 5), 0, 1)
	checkCircle(t, 6, edges(4, 5, 5, 4, 5, 3, 3, 2, 2, 1, 1, 0), 4, 5)
	checkCircle(t, 4, edges(2, 2, 2, 0, 2, 1, 1, 3, 0, 3), 2)
	checkCircle(t, 7, edges(0, 1, 1, 0, 1, 2, 2, 3, 3, 4, 4, 5, 5, 4, 6, 0), 0, 1, 4, 5)
	checkCircle(t, 7, edges(5, 6, 6, 5, 4, 5, 3, 4, 2, 3), 5, 6)
	behind := append(ring(0, 3), edges(2, 3)...)
	for i := 3; i < 5000; i++ {
		behind = append(behind, api.Edge{Before: i, After: i + 1})
	}
	checkCircle(t, 5001, behind, 0, 1, 2)
}

// The number of things and the ends of edges, just within and just beyond their bounds.
func TestP24_1AndP24_2Bounds(t *testing.T) {
	checkOrder(t, api.MaxBlocks, nil, rising(api.MaxBlocks)...)
	checkOrder(t, api.MaxBlocks, edges(0, api.MaxBlocks-1), rising(api.MaxBlocks)...)
	checkEdge(t, api.MaxBlocks+1, nil)
	checkEdge(t, api.MaxBlocks+1, edges(0, 0))
	checkEdge(t, api.MaxBlocks, edges(0, api.MaxBlocks))
	checkEdge(t, -1, edges(0, 0))
	checkEdge(t, math.MaxInt, nil)
	checkEdge(t, math.MinInt, nil)
	checkEdge(t, 0, edges(0, 0))
	checkOrder(t, 3, edges(0, 2), 0, 1, 2)
	checkOrder(t, 3, edges(2, 0), 1, 2, 0)
	for _, end := range []int{-1, 3, 4, math.MaxInt, math.MinInt} {
		checkEdge(t, 3, edges(0, end))
		checkEdge(t, 3, edges(end, 0))
		checkEdge(t, 3, edges(end, end))
		checkEdge(t, 3, edges(0, 1, 1, 2, end, 2))
		checkEdge(t, 3, edges(1, end, 0, 1, 1, 2))
	}
}

// An edge that may not be is told ahead of a circle.
func TestP24_1AndP24_2EdgesAheadOfCircles(t *testing.T) {
	checkEdge(t, 2, edges(0, 1, 1, 0, 0, 2))
	checkEdge(t, 2, edges(-1, 0, 0, 1, 1, 0))
	checkEdge(t, 2, edges(0, 0, 1, 1, 2, 2))
}

// Many things and many edges.
func TestP24_1AndP24_2Many(t *testing.T) {
	count := api.MaxBlocks
	falling := rising(count)
	slices.Reverse(falling)
	checkOrder(t, count, chain(count), falling...)
	checkCircle(t, count, append(chain(count), api.Edge{Before: 0, After: count - 1}))
	checkCircle(t, count, append(chain(count), api.Edge{Before: 7, After: 8}), 7, 8)
	var star []api.Edge
	for i := 1; i < count; i++ {
		star = append(star, api.Edge{Before: count - i, After: 0}, api.Edge{Before: count - i, After: 0})
	}
	checkOrder(t, count, star, append(rising(count)[1:], 0)...)
	var fan []api.Edge
	for i := range count - 1 {
		fan = append(fan, api.Edge{Before: count - 1, After: i})
	}
	checkOrder(t, count, fan, append([]int{count - 1}, rising(count-1)...)...)
}
