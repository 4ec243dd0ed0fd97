package tree

import (
	"iter"

	"vigil/api"
)

// parts goes over e and all its parts, each one ahead of its own kids, from the left.
func parts(e api.Expr) iter.Seq[api.Expr] {
	return func(yield func(api.Expr) bool) {
		passExpr(e, yield)
	}
}

// passExpr hands e and its parts over, and tells whether more is wanted.
// It calls itself with one yield for all depths: a range within a range would cost each part its depth.
func passExpr(e api.Expr, yield func(api.Expr) bool) bool {
	if !yield(e) {
		return false
	}
	for _, kid := range e.Kids {
		if !passExpr(kid, yield) {
			return false
		}
	}
	return true
}

// statements goes over all statements of p, at any depth.
func statements(p api.Program) iter.Seq[api.Stmt] {
	return func(yield func(api.Stmt) bool) {
		for _, m := range p.Mons {
			for _, method := range m.Methods {
				if !passBlock(method.Body, yield) {
					return
				}
			}
		}
		for _, r := range p.Roles {
			if !passBlock(r.Body, yield) {
				return
			}
		}
	}
}

// passBlock hands the statements of a block over, with all that is in them, and tells whether more is wanted.
func passBlock(block []api.Stmt, yield func(api.Stmt) bool) bool {
	for _, s := range block {
		if !yield(s) {
			return false
		}
		for _, inner := range s.Blocks {
			if !passBlock(inner, yield) {
				return false
			}
		}
	}
	return true
}
