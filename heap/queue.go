package heap

import (
	"cmp"
	"slices"
)

// out stands for the index of a number that isn't in the row.
const out = -1

// queue is some of the numbers 0 to n - 1, each with a key, in a row whose first one is ahead of all others.
type queue[K any] struct {
	order func(a, b K) int // of keys: below 0, if a is less; 0, if they are like one another
	row   []entry[K]       // each is ahead of the two that stand at twice its index, and 1 or 2
	at    []int            // by numbers: the index in the row, so that one is found amid it without a search
}

// entry is a number with its key.
type entry[K any] struct {
	number int
	key    K
}

func newQueue[K any](n int, order func(a, b K) int) queue[K] {
	return queue[K]{order: order, at: slices.Repeat([]int{out}, n)}
}

// knows tells whether a number is one of the queue's.
func (q *queue[K]) knows(i int) bool { return i >= 0 && i < len(q.at) }

// has tells whether a number is in the row.
func (q *queue[K]) has(i int) bool { return q.knows(i) && q.at[i] != out }

// set is asked of a number that the queue knows.
func (q *queue[K]) set(i int, key K) {
	if q.at[i] == out {
		q.at[i] = len(q.row)
		q.row = append(q.row, entry[K]{number: i})
	}
	q.row[q.at[i]].key = key
	q.settle(q.at[i])
}

// drop is asked of a number that is in the row.
func (q *queue[K]) drop(i int) {
	at, last := q.at[i], len(q.row)-1
	q.swap(at, last)
	q.row = slices.Delete(q.row, last, last+1)
	q.at[i] = out
	if at < last {
		q.settle(at)
	}
}

// sorted is a copy of the row, each one ahead of those that it is ahead of.
func (q *queue[K]) sorted() []entry[K] {
	l := slices.Clone(q.row)
	slices.SortFunc(l, q.compare)
	return l
}

// compare is below 0, if a is ahead of b. Of like keys the numbers tell, so that no two are alike, and the order is one.
func (q *queue[K]) compare(a, b entry[K]) int {
	return cmp.Or(q.order(a.key, b.key), cmp.Compare(a.number, b.number))
}

// settle moves one that alone may stand wrong: towards the front, or towards the end.
func (q *queue[K]) settle(at int) { q.sink(q.rise(at)) }

// rise answers where it came to.
func (q *queue[K]) rise(at int) int {
	for at > 0 {
		above := (at - 1) / 2
		if !q.isAhead(at, above) {
			break
		}
		q.swap(at, above)
		at = above
	}
	return at
}

func (q *queue[K]) sink(at int) {
	for {
		first := at
		for below := 2*at + 1; below <= 2*at+2 && below < len(q.row); below++ {
			if q.isAhead(below, first) {
				first = below
			}
		}
		if first == at {
			return
		}
		q.swap(at, first)
		at = first
	}
}

// isAhead tells whether what stands at a is ahead of what stands at b.
func (q *queue[K]) isAhead(a, b int) bool { return q.compare(q.row[a], q.row[b]) < 0 }

// swap is the one way to move what is in the row, so that each number's index stays the one where it stands.
func (q *queue[K]) swap(a, b int) {
	q.row[a], q.row[b] = q.row[b], q.row[a]
	q.at[q.row[a].number], q.at[q.row[b].number] = a, b
}
