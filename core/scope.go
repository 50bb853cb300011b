package core

// entry is something that is bound: what it is, and where in the list what it hides stands, -1 if it hides nothing.
type entry[K comparable] struct {
	key   K
	n     int
	hides int
}

// scope is what is bound, the innermost last. As very much may be bound, last tells where a key stands in the list last.
type scope[K comparable] struct {
	list []entry[K]
	last map[K]int
}

func newScope[K comparable]() *scope[K] {
	return &scope[K]{last: map[K]int{}}
}

// bind goes into where key is n.
func (s *scope[K]) bind(key K, n int) {
	hides, ok := s.last[key]
	if !ok {
		hides = -1
	}
	s.last[key] = len(s.list)
	s.list = append(s.list, entry[K]{key, n, hides})
}

// cut leaves all but the first n of the list.
func (s *scope[K]) cut(n int) {
	for len(s.list) > n {
		x := s.list[len(s.list)-1]
		s.list = s.list[:len(s.list)-1]
		if x.hides < 0 {
			delete(s.last, x.key)
		} else {
			s.last[x.key] = x.hides
		}
	}
}

func (s *scope[K]) has(key K) bool {
	_, ok := s.last[key]
	return ok
}

// hasFrom says whether key is bound by what stands from the place n of the list on.
func (s *scope[K]) hasFrom(n int, key K) bool {
	i, ok := s.last[key]
	return ok && i >= n
}

// find is what key is, innermost first, if it is bound.
func (s *scope[K]) find(key K) (int, bool) {
	i, ok := s.last[key]
	if !ok {
		return 0, false
	}
	return s.list[i].n, true
}
