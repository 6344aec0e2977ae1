package ring

import (
	"cmp"
	"container/heap"
	"strings"

	"caulker/api"
	"caulker/uber"
)

// Best tells those of some uberblocks that may be, the newest first.
func Best(l []api.Uber) []api.Uber {
	var best []api.Uber
	last := "" // none yet; the same ones come out of the queue one behind the other
	for q := queued(l); q.Len() > 0; {
		if x := q.take(); x.sector != last {
			best = append(best, x.told())
			last = x.sector
		}
	}
	return best
}

// entry is an uberblock that may be.
type entry struct {
	txg    int
	sector string
}

func (x entry) compare(y entry) int {
	return cmp.Or(cmp.Compare(y.txg, x.txg), strings.Compare(x.sector, y.sector))
}

// told reads the sector, so that what is answered shares nothing with what was handed in. What was packed is never refused.
func (x entry) told() api.Uber {
	u, _ := uber.Unpack([]byte(x.sector))
	return u
}

// queue is a heap of uberblocks: ahead stands the one that comes first in their order.
type queue []entry

func queued(l []api.Uber) *queue {
	q := &queue{}
	for _, u := range l {
		if b, e := uber.Pack(u); e == api.OK {
			q.put(entry{u.Txg, string(b)})
		}
	}
	return q
}

func (q *queue) put(x entry) {
	q.Push(x)
	heap.Fix(q, q.Len()-1)
}

// take lets the last one stand in for the first, till Fix finds its place.
func (q *queue) take() entry {
	q.Swap(0, q.Len()-1)
	x := q.Pop().(entry)
	heap.Fix(q, 0)
	return x
}

func (q queue) Len() int           { return len(q) }
func (q queue) Less(i, j int) bool { return q[i].compare(q[j]) < 0 }
func (q queue) Swap(i, j int)      { q[i], q[j] = q[j], q[i] }

// Push and Pop do without the heap's order, as container/heap has it of them.
func (q *queue) Push(x any) { *q = append(*q, x.(entry)) }

func (q *queue) Pop() any {
	last := q.Len() - 1
	x := (*q)[last]
	*q = (*q)[:last]
	return x
}
