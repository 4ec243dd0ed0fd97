package gram

import "maps"

// ends are the places at which something may end: a set.
type ends map[int]struct{}

// part is something that the grammar has. It is held against the tokens from a place on, and tells where it may end.
type part func(from int) ends

// row is parts that stand one behind the other: each one begins where the one ahead of it may end.
func row(parts ...part) part {
	return func(from int) ends {
		reached := ends{from: {}}
		for _, p := range parts {
			reached = behind(reached, p)
		}
		return reached
	}
}

// behind is where p may end, if it begins at any of the places.
func behind(places ends, p part) ends {
	all := ends{}
	for from := range maps.Keys(places) {
		maps.Copy(all, p(from))
	}
	return all
}

// either is one of the parts, whichever it is.
func either(parts ...part) part {
	return func(from int) ends {
		all := ends{}
		for _, p := range parts {
			maps.Copy(all, p(from))
		}
		return all
	}
}
