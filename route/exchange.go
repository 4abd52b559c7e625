package route

import (
	"math"
	"slices"
)

// exchange is a cheapest change from the setting a to the setting b, with prices that prove it. It is built bolt by bolt of a (this is the Hungarian method).
//
// What a bolt of a can go to are its stands: the bolts of b, behind them the store, in which there is always room, and at last the door, at which a bolt stands while it is added. The prices never prove too much, and those of a step of the change are together what it costs.
type exchange struct {
	a, b  []Bolt
	store int
	p     []int // the prices of the bolts of a
	q     []int // those of the stands; that of the store is always 0
	on    []int // the bolt of a on each stand but the store, or none
}

// chain is the search for a cheapest chain of bolts, of which the first one stands at the door, and each one takes the stand of the next one.
type chain struct {
	cost   []int // up to each stand, above the prices
	before []int // the stand in front of it
	done   []bool
}

func exchangeOf(a, b []Bolt, store int) exchange {
	stands := len(b) + 2
	x := exchange{
		a: a, b: b, store: store,
		p:  make([]int, len(a)),
		q:  make([]int, stands),
		on: slices.Repeat([]int{none}, stands),
	}
	for j := range b {
		x.q[j] = store
	}
	for i := range a {
		x.add(i)
	}
	return x
}

// bolts returns, for each bolt of b, the bolt of a that becomes it, or none.
func (x exchange) bolts() []int {
	return x.on[:len(x.b)]
}

func (x exchange) prices() ([]int, []int) {
	return x.p, x.q[:len(x.b)]
}

// add adds a bolt of a to the change.
func (x exchange) add(bolt int) {
	stands := len(x.on)
	door := stands - 1
	c := chain{
		cost:   slices.Repeat([]int{math.MaxInt}, stands),
		before: make([]int, stands),
		done:   make([]bool, stands),
	}
	c.cost[door] = 0
	x.on[door] = bolt
	end := door
	for x.on[end] != none {
		c.done[end] = true
		x.extend(c, end)
		end = nearest(c.cost, c.done)
	}
	x.raise(c, c.cost[end])
	for end != door {
		x.on[end] = x.on[c.before[end]]
		end = c.before[end]
	}
	x.on[len(x.b)], x.on[door] = none, none
}

// extend looks at the chains in which the bolt on a stand takes another one.
func (x exchange) extend(c chain, from int) {
	bolt := x.on[from]
	for to := range len(x.b) + 1 {
		cost, possible := x.cost(bolt, to)
		if !possible || c.done[to] {
			continue
		}
		if total := c.cost[from] + cost - x.p[bolt] - x.q[to]; total < c.cost[to] {
			c.cost[to], c.before[to] = total, from
		}
	}
}

// cost returns what it costs that a bolt of a goes to a stand, and whether it can.
func (x exchange) cost(bolt, stand int) (int, bool) {
	if stand == len(x.b) {
		return x.store, true
	}
	from, to := x.a[bolt], x.b[stand]
	return distance(from.At, to.At), from.Shape == to.Shape
}

// raise makes the bolts at which the search has been dearer and their stands cheaper, so that all steps of the chain with this cost, which is the cheapest one, cost just what their prices are.
func (x exchange) raise(c chain, cost int) {
	for stand, done := range c.done {
		if done {
			x.p[x.on[stand]] += cost - c.cost[stand]
			x.q[stand] -= cost - c.cost[stand]
		}
	}
}
