package store

// Ended gives the names of what has ended since it was asked last: collection by collection, in each by the objects' numbers.
func (s *Store) Ended() []int {
	all := []int{}
	for _, names := range s.ended {
		for name := range names {
			all = append(all, name)
		}
	}
	s.ended = nil
	return all
}

// sent gives names through a channel that has room for all of them: they can wait in it, for nobody asks for them yet.
func sent(names []int) <-chan int {
	through := make(chan int, len(names))
	for _, name := range names {
		through <- name
	}
	close(through)
	return through
}

// names are those of the objects with these numbers that have one.
func (s *Store) names(numbers []int) []int {
	names := []int{}
	for _, number := range numbers {
		if o := s.objects[number]; o.named {
			names = append(names, o.name)
		}
	}
	return names
}
