package agenda

import "cmp"

// item is a scheduled key: its tick, which of the calls of Set scheduled it, and its place in the queue.
type item[K comparable] struct {
	key   K
	at    int
	turn  int
	place int
}

func (it *item[K]) compare(other *item[K]) int {
	return cmp.Or(cmp.Compare(it.at, other.at), cmp.Compare(it.turn, other.turn))
}

// queue is a heap of items, for container/heap, in which each item has its place, so that it can be removed from there.
type queue[K comparable] []*item[K]

func (q queue[K]) Len() int {
	return len(q)
}

func (q queue[K]) Less(i, j int) bool {
	return q[i].compare(q[j]) < 0
}

func (q queue[K]) Swap(i, j int) {
	q[i], q[j] = q[j], q[i]
	q[i].place, q[j].place = i, j
}

// Push appends an item.
func (q *queue[K]) Push(x any) {
	it := x.(*item[K])
	it.place = len(*q)
	*q = append(*q, it)
}

// Pop removes and returns the last item.
func (q *queue[K]) Pop() any {
	last := len(*q) - 1
	it := (*q)[last]
	(*q)[last] = nil // else the array would keep the item in memory
	*q = (*q)[:last]
	return it
}
