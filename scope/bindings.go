package scope

// bindings are the names that are bound at a place, with their numbers. Each block hands the same map on to the blocks within it: no
// name is bound twice, and one map for each block would be made anew in each round.
type bindings map[string]int

func (b bindings) has(word string) bool {
	_, ok := b[word]
	return ok
}
