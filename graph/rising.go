package graph

import "container/heap"

// rising is nodes of which the lowest comes first, as container/heap asks for it.
type rising []string

// Len tells how many there are.
func (r rising) Len() int { return len(r) }

// Less tells whether one is lower than another one.
func (r rising) Less(i, j int) bool { return r[i] < r[j] }

// Swap lets two change their places.
func (r rising) Swap(i, j int) { r[i], r[j] = r[j], r[i] }

// Push puts a node behind the others.
func (r *rising) Push(node any) { *r = append(*r, node.(string)) }

// Pop takes the last node.
func (r *rising) Pop() any {
	last := len(*r) - 1
	node := (*r)[last]
	*r = (*r)[:last]
	return node
}

// add adds a node.
func (r *rising) add(node string) { heap.Push(r, node) }

// lowest takes the lowest node.
func (r *rising) lowest() string { return heap.Pop(r).(string) }
