package solve

import (
	"cmp"
	"container/heap"
	"iter"
	"slices"

	"custos/api"
)

// choice has the index of an option for each feature.
type choice struct {
	options []int
	cost    int
}

// waiting is a choice that waits for its turn.
type waiting struct {
	choice
	ranks []int // for each question, how many answers to it come before the chosen one
	last  int   // the last question to which this is not the first answer, or 0
}

// question is a feature with several options.
type question struct {
	feature int // its number
	answers []answer
}

// answer is an option, with what it adds to the cost.
type answer struct{ option, price int }

// search goes through the choices of a case. Only those wait that follow one that was taken.
type search struct {
	questions []question
	queue     queue
}

// inOrder yields the choices of a case in order.
func inOrder(c Case, w Weights) iter.Seq[choice] {
	return func(yield func(choice) bool) {
		s := newSearch(c, w)
		for s.queue.Len() > 0 {
			for _, one := range s.cheapest() {
				if !yield(one) {
					return
				}
			}
		}
	}
}

// newSearch returns a search in which the choice of the cheapest options waits.
func newSearch(c Case, w Weights) *search {
	s, first := &search{queue: &waitlist{}}, &waiting{}
	for i, f := range features(c) {
		l := answersTo(f, w)
		first.options, first.cost = append(first.options, l[0].option), first.cost+l[0].price
		if len(l) > 1 {
			s.questions = append(s.questions, question{feature: i, answers: l})
		}
	}
	first.ranks = make([]int, len(s.questions))
	heap.Push(s.queue, first)
	return s
}

// answersTo returns the options of a feature, the cheapest one first.
func answersTo(f api.Feature, w Weights) []answer {
	var l []answer
	for i := range f.Options {
		l = append(l, answer{option: i, price: price(f, i, w)})
	}
	slices.SortStableFunc(l, func(a, b answer) int { return cmp.Compare(a.price, b.price) })
	return l
}

// cheapest takes all choices of the least cost. What follows a choice may cost no more than it, and is taken with it then.
func (s *search) cheapest() []choice {
	var l []choice
	for cost := s.queue.least(); s.queue.Len() > 0 && s.queue.least() == cost; {
		next := heap.Pop(s.queue).(*waiting)
		l = append(l, next.choice)
		s.follow(next)
	}
	slices.SortFunc(l, func(a, b choice) int { return slices.Compare(a.options, b.options) })
	return l
}

// follow lets the choices wait that follow one: those with the next answer to its last question, or to one behind it. So each choice follows just one, which costs no more.
func (s *search) follow(w *waiting) {
	for i, q := range s.questions[w.last:] {
		if n := w.last + i; w.ranks[n]+1 < len(q.answers) {
			heap.Push(s.queue, w.next(n, q))
		}
	}
}

// next returns the choice with the next answer to a question, which has a number.
func (w *waiting) next(n int, q question) *waiting {
	out := &waiting{choice: choice{options: slices.Clone(w.options)}, ranks: slices.Clone(w.ranks), last: n}
	was, is := q.answers[w.ranks[n]], q.answers[w.ranks[n]+1]
	out.ranks[n]++
	out.options[q.feature], out.cost = is.option, w.cost-was.price+is.price
	return out
}
