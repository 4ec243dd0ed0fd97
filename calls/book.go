package calls

import (
	"slices"

	"vigil/api"
	"vigil/names"
)

// method is what a method does, and whom it calls.
type method struct {
	body  []api.Stmt
	calls []api.Ref
}

// book has all methods by their names, and so who leads to whom.
type book map[api.Ref]method

// newBook asks for each method by its names: of several that are alike, only the first one is ever called.
func newBook(p api.Program) book {
	b := book{}
	for _, m := range p.Mons {
		for _, f := range m.Methods {
			if found, ok := names.Method(p, m.Name, f.Name); ok {
				b[api.Ref{Mon: m.Name, Name: f.Name}] = method{found.Body, Calls(found.Body)}
			}
		}
	}
	return b
}

// reached tells the methods of a list and those that they lead to, each once, and each behind those that it calls, but where they go round.
func (b book) reached(list []api.Ref) []api.Ref {
	var all []api.Ref
	seen := map[api.Ref]int{}
	var reach func(r api.Ref)
	reach = func(r api.Ref) {
		if seen[r] > 0 {
			return
		}
		seen[r]++
		for _, next := range b[r].calls {
			reach(next)
		}
		all = append(all, r)
	}
	for _, r := range list {
		reach(r)
	}
	return all
}

// goesRound tells whether a method leads to itself.
func (b book) goesRound(r api.Ref) bool {
	return slices.Contains(b.reached(b[r].calls), r)
}

// count tells how many statements there are in l, which is of the right shape, with those of the methods that it calls.
func (b book) count(l []api.Stmt) (int, api.Errno) {
	reached := b.reached(Calls(l))
	for _, r := range reached {
		if _, ok := b[r]; !ok {
			return 0, api.ErrUnknown
		}
	}
	sizes, err := b.sizes(reached)
	if err != api.OK {
		return 0, err
	}
	n := size(l, sizes)
	if n > api.MaxInline {
		return 0, api.ErrBig
	}
	return n, api.OK
}

// sizes tells how big a call of each of those methods is. Each one is counted once, however often it is called: else a few that call one another twice would never end.
func (b book) sizes(reached []api.Ref) (map[api.Ref]int, api.Errno) {
	sizes := map[api.Ref]int{}
	for _, r := range reached {
		for _, next := range b[r].calls {
			// No call is of the size 0, so this one is not counted yet, and it should be, unless they go round.
			if sizes[next] == 0 {
				return nil, api.ErrCycle
			}
		}
		sizes[r] = 1 + size(b[r].body, sizes)
	}
	return sizes, api.OK
}

// size tells how many statements there are in l, where calls have these sizes. Where there are too many, it tells no more than that.
func size(l []api.Stmt, sizes map[api.Ref]int) int {
	n := 0
	for _, s := range l {
		if s.Kind == api.StCall {
			n += sizes[callee(s)]
		} else {
			n++
		}
		for _, inner := range s.Blocks {
			n += size(inner, sizes)
		}
		if n > api.MaxInline {
			return api.MaxInline + 1
		}
	}
	return n
}

// inline makes all lists of statements anew, those of a method at each of its calls, so that no two of them share anything.
func (b book) inline(l []api.Stmt) []api.Stmt {
	var all []api.Stmt
	for _, s := range l {
		if s.Kind == api.StCall {
			body := b.inline(b[callee(s)].body)
			all = append(all, api.Stmt{Kind: api.StSync, Mon: s.Mon, Blocks: [][]api.Stmt{body}, At: s.At})
			continue
		}
		var blocks [][]api.Stmt
		for _, inner := range s.Blocks {
			blocks = append(blocks, b.inline(inner))
		}
		s.Blocks = blocks
		all = append(all, s)
	}
	return all
}
