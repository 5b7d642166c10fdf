package assign

import (
	"math"

	"rebuttal/api"
)

// What is put on top of worths, so that one more of it is better than all that can be gained below it.
const (
	mostPairs = api.MaxNeeds * api.MaxEach
	kept      = 2*mostPairs*api.MaxWorth + 1        // for a pair that Repair wants to keep
	due       = 2*mostPairs*(kept+api.MaxWorth) + 1 // for a locked pair, and for each paper up to the Least of a person
)

// What is known of a place to which no step leads.
const (
	nowhere = math.MinInt // its height
	unknown = -1          // the place before it
)

// search is an assignment on the way to the best one. It is seen as places with steps between them: the papers, the persons, and behind them the ground. A step from a paper to a person adds this pair, one from a person to a paper takes it away. A step from a person to the ground stands for one paper more that they read, one from the ground for one less. So a way from a paper to the ground gives the paper one more reader, and a way that comes back to where it began exchanges pairs.
type search struct {
	holding
	papers [api.MaxLoads]int // how many each person reads
	fixed  spots             // these stay as they are
}

// best is the end of a search, if the table has a right assignment. Each new reader comes by the way that gains the most, so that no exchange ever gains anything.
func (b *table) best() (*search, bool) {
	s := &search{holding: holding{table: b}, fixed: b.barred}
	for i, n := range b.needs {
		for range n.Readers {
			if !s.add(i) {
				return nil, false
			}
		}
	}
	return s, s.isRight()
}

// isRight reports whether all that is due is there.
func (s *search) isRight() bool {
	for _, x := range s.marked(&s.locked) {
		if !s.in[x.paper][x.person] {
			return false
		}
	}
	for j, n := range s.loads {
		if s.papers[j] < n.Least {
			return false
		}
	}
	return true
}

// place is that of a person; that of a paper is its number.
func (s *search) place(j int) int { return len(s.needs) + j }

func (s *search) ground() int { return len(s.needs) + len(s.loads) }

// gain is what it is worth to add a pair.
func (s *search) gain(i, j int) int {
	if s.locked[i][j] {
		return s.worth[i][j] + due
	}
	return s.worth[i][j]
}

// turn is what it is worth that a person reads the paper with this number, counted from 1 on.
func (s *search) turn(j, n int) int {
	if n <= s.loads[j].Least {
		return due
	}
	return 0
}

// steps calls visit for each step from a place, with what it gains.
func (s *search) steps(place int, visit func(next, gain int)) {
	switch {
	case place < len(s.needs):
		s.fromPaper(place, visit)
	case place < s.ground():
		s.fromPerson(place-len(s.needs), visit)
	default:
		s.fromGround(visit)
	}
}

func (s *search) fromPaper(i int, visit func(next, gain int)) {
	for j := range s.loads {
		if !s.in[i][j] && !s.fixed[i][j] {
			visit(s.place(j), s.gain(i, j))
		}
	}
}

func (s *search) fromPerson(j int, visit func(next, gain int)) {
	for i := range s.needs {
		if s.in[i][j] && !s.fixed[i][j] {
			visit(i, -s.gain(i, j))
		}
	}
	if s.papers[j] < s.loads[j].Most {
		visit(s.ground(), s.turn(j, s.papers[j]+1))
	}
}

func (s *search) fromGround(visit func(next, gain int)) {
	for j := range s.loads {
		if s.papers[j] > 0 {
			visit(s.place(j), -s.turn(j, s.papers[j]))
		}
	}
}

// add gives a paper one more reader, if there is a way.
func (s *search) add(paper int) bool {
	height := make([]int, s.ground()+1)
	for p := range height {
		height[p] = nowhere
	}
	height[paper] = 0
	before := s.raise(height)
	if height[s.ground()] == nowhere {
		return false
	}
	s.follow(before, paper, s.ground())
	return true
}

// raise lets each step lead at least as high as what it gains, and returns the places from which others got their heights. This comes to an end, because no way back to its beginning gains anything.
func (s *search) raise(height []int) []int {
	before := make([]int, len(height))
	waiting := make([]bool, len(height))
	var queue []int
	for p, h := range height {
		if h != nowhere {
			queue = append(queue, p)
			waiting[p] = true
		}
	}
	for len(queue) > 0 {
		p := queue[0]
		queue = queue[1:]
		waiting[p] = false
		s.steps(p, func(next, gain int) {
			if height[p]+gain <= height[next] {
				return
			}
			height[next] = height[p] + gain
			before[next] = p
			if !waiting[next] {
				queue = append(queue, next)
				waiting[next] = true
			}
		})
	}
	return before
}

// heights are those of all places if one can begin at each one with 0. (A step that gives up what is due leads so deep that it counts for nothing here.)
func (s *search) heights() []int {
	height := make([]int, s.ground()+1)
	s.raise(height)
	return height
}

// follow changes all pairs on a way, which is known backwards.
func (s *search) follow(before []int, first, last int) {
	for p := last; p != first; p = before[p] {
		s.step(before[p], p)
	}
}

// step adds a pair, or takes it away. Those to and from the ground follow from the others.
func (s *search) step(from, to int) {
	papers := len(s.needs)
	switch {
	case from < papers:
		s.in[from][to-papers] = true
		s.papers[to-papers]++
	case to < papers:
		s.in[to][from-papers] = false
		s.papers[from-papers]--
	}
}

// settle makes the best assignment the least one of those with its sum: in order, each pair is added if this can be done without a loss, and without a change of those before it. An exchange without a loss has level steps alone, and these stay level whatever is exchanged.
func (s *search) settle() {
	height := s.heights()
	for i := range s.needs {
		for j := range s.loads {
			s.take(i, j, height)
			s.fixed[i][j] = true
		}
	}
}

// take adds a pair, if a way of level steps comes back from the person to the paper.
func (s *search) take(i, j int, height []int) {
	person := s.place(j)
	if s.in[i][j] || s.fixed[i][j] || height[i]+s.gain(i, j) != height[person] {
		return
	}
	before := s.level(person, height)
	if before[i] == unknown {
		return
	}
	s.follow(before, person, i)
	s.step(i, person)
}

// level goes from a place by all steps that lead just as high as what they gain, and returns from where it came to each place.
func (s *search) level(first int, height []int) []int {
	before := make([]int, len(height))
	for p := range before {
		before[p] = unknown
	}
	before[first] = first
	queue := []int{first}
	for len(queue) > 0 {
		p := queue[0]
		queue = queue[1:]
		s.steps(p, func(next, gain int) {
			if before[next] == unknown && height[p]+gain == height[next] {
				before[next] = p
				queue = append(queue, next)
			}
		})
	}
	return before
}
