// Package equate finds what must become equal for two rows to become equal: what unify and the layers above it do behind their checks.
package equate

import (
	"slices"

	"quaere/api"
)

// node is a variable, or a symbol at one place of a row with the nodes of its arguments.
// Nodes that must become equal form a class with one root: a symbol if the class has one, otherwise its least variable.
type node struct {
	code   int
	args   []int
	up     int // a node nearer to the root; the root's own index if it is the root
	length int // how many codes the node stands for once all is replaced; 0 if that is not known yet
}

// Classes has the nodes of the variables at the indexes that are their numbers, and those of the symbols behind them.
type Classes struct {
	nodes []node
}

// pair is two nodes that must become equal.
type pair struct {
	x, y int
}

// Rows returns what must become equal for a and b to become equal, and false if they can not; sig is known to be valid, a and b to be rows.
func Rows(sig []api.Sym, a, b []int) (Classes, bool) {
	return equate(sig, a, b, 0)
}

// Apart tells whether a and b can become equal where the variables of b are different from those of a, whatever their numbers; however long the terms become.
func Apart(sig []api.Sym, a, b []int) bool {
	_, ok := equate(sig, a, b, api.MaxVar+1)
	return ok
}

// Term returns what the variable v becomes, in new memory, and false if that has more codes than a row may have.
func (c *Classes) Term(v int) ([]int, bool) {
	if c.nodes[c.root(v)].length > api.MaxTerm {
		return nil, false
	}
	return c.write(nil, v), true
}

// equate does it for a and for b with the numbers of its variables increased by by.
func equate(sig []api.Sym, a, b []int, by int) (Classes, bool) {
	variables := by + api.MaxVar + 1
	c := Classes{nodes: make([]node, 0, variables+len(a)+len(b))}
	for v := range variables {
		c.add(-1-v, nil)
	}
	left, right := c.read(sig, a, 0), c.read(sig, b, by)
	if len(left) != len(right) || !c.join(left, right) || !c.measure() {
		return Classes{}, false
	}
	return c, true
}

// add appends a node that is a class of its own, and returns its index.
func (c *Classes) add(code int, args []int) int {
	n := len(c.nodes)
	c.nodes = append(c.nodes, node{code: code, args: args, up: n})
	return n
}

// read returns the nodes of the terms of r, from the last term to the first.
func (c *Classes) read(sig []api.Sym, r []int, by int) []int {
	// From the last code to the first: then the arguments of a symbol are the terms that were read last.
	var terms []int
	for at := len(r) - 1; at >= 0; at-- {
		code := r[at]
		if code < 0 {
			terms = append(terms, -1-code+by)
			continue
		}
		rest := len(terms) - sig[code].Arity
		args := slices.Clone(terms[rest:])
		slices.Reverse(args)
		terms = append(terms[:rest], c.add(code, args))
	}
	return terms
}

// join makes one class of the nodes at equal places of two lists, and of all nodes that must become equal by that; it answers false if two symbols differ.
// Each pair that is not one class yet makes the classes fewer: so the pairs come to an end, however great the terms would be.
func (c *Classes) join(left, right []int) bool {
	pairs := both(nil, left, right)
nextPair:
	if len(pairs) == 0 {
		return true
	}
	last := pairs[len(pairs)-1]
	pairs = pairs[:len(pairs)-1]
	root, other := c.rootFirst(c.root(last.x), c.root(last.y))
	if root == other {
		goto nextPair
	}
	c.nodes[other].up = root
	if c.nodes[other].code < 0 {
		goto nextPair
	}
	if c.nodes[root].code != c.nodes[other].code {
		return false
	}
	pairs = both(pairs, c.nodes[root].args, c.nodes[other].args)
	goto nextPair
}

// both appends the pairs of nodes at equal places of two lists that are equally long.
func both(pairs []pair, left, right []int) []pair {
	for i := range left {
		pairs = append(pairs, pair{left[i], right[i]})
	}
	return pairs
}

func (c *Classes) root(n int) int {
	for c.nodes[n].up != n {
		n = c.nodes[n].up
	}
	return n
}

// rootFirst puts first which of two roots is to be the root of both classes.
func (c *Classes) rootFirst(x, y int) (int, int) {
	// The codes of variables are negative, and the least variable has the greatest of them.
	if c.nodes[x].code < c.nodes[y].code {
		return y, x
	}
	return x, y
}

// measure works out the length of every node, and answers false if a node's term would hold itself.
func (c *Classes) measure() bool {
	for left := len(c.nodes); left > 0; {
		before := left
		for n := range c.nodes {
			if c.nodes[n].length > 0 {
				continue
			}
			c.nodes[n].length = c.lengthOf(n)
			if c.nodes[n].length > 0 {
				left--
			}
		}
		// Where every node that is left waits for another one, one of them waits for itself.
		if left == before {
			return false
		}
	}
	return true
}

// lengthOf returns how many codes n stands for, 0 if that depends on a length that is not known yet.
func (c *Classes) lengthOf(n int) int {
	if root := c.root(n); root != n {
		return c.nodes[root].length
	}
	sum := 1
	for _, arg := range c.nodes[n].args {
		if c.nodes[arg].length == 0 {
			return 0
		}
		sum += c.nodes[arg].length
	}
	// All lengths above the bound are one: they may triple from symbol to symbol.
	return min(sum, api.MaxTerm+1)
}

// write appends the term that n stands for; it is known to be no longer than a row may be.
func (c *Classes) write(out []int, n int) []int {
	root := c.root(n)
	out = append(out, c.nodes[root].code)
	for _, arg := range c.nodes[root].args {
		out = c.write(out, arg)
	}
	return out
}
