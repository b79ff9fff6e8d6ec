package solve

import "container/heap"

// queue is a heap whose least cost is known before a choice is taken.
type queue interface {
	heap.Interface
	least() int
}

// waitlist is a queue of choices.
type waitlist []*waiting

// Len returns how many choices wait.
func (l waitlist) Len() int { return len(l) }

// Less reports whether a choice costs less than another one.
func (l waitlist) Less(i, j int) bool { return l[i].cost < l[j].cost }

// Swap exchanges two choices.
func (l waitlist) Swap(i, j int) { l[i], l[j] = l[j], l[i] }

// Push adds a choice at the end.
func (l *waitlist) Push(x any) { *l = append(*l, x.(*waiting)) }

// Pop takes the choice at the end.
func (l *waitlist) Pop() any {
	n := len(*l) - 1
	last := (*l)[n]
	*l = (*l)[:n]
	return last
}

// least returns the cost of the cheapest choice.
func (l waitlist) least() int { return l[0].cost }
