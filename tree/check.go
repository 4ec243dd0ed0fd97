package tree

import (
	"math"

	"vigil/api"
	"vigil/lex"
)

// exprShape is what an expression of a kind has: a variable's names, a number, and so many kids.
type exprShape struct {
	names  bool
	number bool
	kids   int
}

// exprShapes has the shape of each Op; those that have nothing stand there too, for its length is that of the Ops.
var exprShapes = [api.OpOr + 1]exprShape{
	api.OpNum:   {number: true},
	api.OpTrue:  {},
	api.OpFalse: {},
	api.OpVar:   {names: true},
	api.OpNot:   {kids: 1},
	api.OpNeg:   {kids: 1},
	api.OpMul:   {number: true, kids: 1},
	api.OpAdd:   {kids: 2},
	api.OpSub:   {kids: 2},
	api.OpEq:    {kids: 2},
	api.OpNe:    {kids: 2},
	api.OpLt:    {kids: 2},
	api.OpLe:    {kids: 2},
	api.OpGt:    {kids: 2},
	api.OpGe:    {kids: 2},
	api.OpAnd:   {kids: 2},
	api.OpOr:    {kids: 2},
}

// stmtShape is what a statement of a kind has: a monitor's name, a variable's or a method's, a number, an expression, and from so many blocks to so many.
type stmtShape struct {
	mon    bool
	name   bool
	number bool
	expr   bool
	least  int
	most   int
}

// stmtShapes has the shape of each Kind.
var stmtShapes = [api.StAll + 1]stmtShape{
	api.StSkip:   {},
	api.StSet:    {mon: true, name: true, expr: true},
	api.StIf:     {expr: true, least: 1, most: 2},
	api.StWhile:  {expr: true, least: 1, most: 1},
	api.StLoop:   {least: 1, most: 1},
	api.StChoose: {least: 1, most: api.MaxBranch},
	api.StSync:   {mon: true, least: 1, most: 1},
	api.StCall:   {mon: true, name: true},
	api.StWait:   {mon: true, number: true},
	api.StNotify: {mon: true},
	api.StAll:    {mon: true},
}

// CheckExpr tells ErrShape, unless e and all its parts are of the shapes that expressions have.
func CheckExpr(e api.Expr) api.Errno {
	for x := range parts(e) {
		if !isExpr(x) {
			return api.ErrShape
		}
	}
	return api.OK
}

// Check tells ErrShape, unless p is of the shape that programs have.
func Check(p api.Program) api.Errno {
	if !declares(p) {
		return api.ErrShape
	}
	for s := range statements(p) {
		if !isStmt(s) {
			return api.ErrShape
		}
	}
	return api.OK
}

// isExpr tells whether e has the shape of its kind, whatever its kids are.
func isExpr(e api.Expr) bool {
	if e.Op < api.OpNum || e.Op > api.OpOr {
		return false
	}
	shape := exprShapes[e.Op]
	return fitsName(e.Mon, shape.names) && fitsName(e.Name, shape.names) && fitsNumber(e.N, shape.number) &&
		len(e.Kids) == shape.kids
}

// isStmt tells whether s has the shape of its kind, whatever is in its blocks.
func isStmt(s api.Stmt) bool {
	if s.Kind < api.StSkip || s.Kind > api.StAll {
		return false
	}
	shape := stmtShapes[s.Kind]
	return fitsName(s.Mon, shape.mon) && fitsName(s.Name, shape.name) && fitsNumber(s.N, shape.number) &&
		fitsExpr(s.E, shape.expr) && shape.least <= len(s.Blocks) && len(s.Blocks) <= shape.most
}

func fitsName(name string, wanted bool) bool {
	if wanted {
		return lex.Name(name)
	}
	return name == ""
}

func fitsNumber(n int64, wanted bool) bool {
	return n == 0 || wanted && n > 0
}

func fitsExpr(e api.Expr, wanted bool) bool {
	if wanted {
		return CheckExpr(e) == api.OK
	}
	return isNone(e)
}

// declares tells whether p is right in all but its statements.
func declares(p api.Program) bool {
	if len(p.Mons) > api.MaxMons || len(p.Roles) > api.MaxRoles {
		return false
	}
	for _, m := range p.Mons {
		if !isMonitor(m) {
			return false
		}
	}
	for _, r := range p.Roles {
		if !isRole(r) {
			return false
		}
	}
	return true
}

func isMonitor(m api.Monitor) bool {
	if !lex.Name(m.Name) || len(m.Vars) > api.MaxVars || len(m.Methods) > api.MaxMeths {
		return false
	}
	for _, v := range m.Vars {
		if !isVar(v) {
			return false
		}
	}
	for _, method := range m.Methods {
		if !lex.Name(method.Name) {
			return false
		}
	}
	return true
}

func isRole(r api.Role) bool {
	return lex.Name(r.Name) && fitsNumber(r.Count, !r.Star)
}

// isVar refuses -2^63 in any type: it is the one number of 64 bits whose digits, without the -, are no number.
func isVar(v api.Var) bool {
	if !lex.Name(v.Name) || min(v.Lo, v.Hi, v.Init) == math.MinInt64 {
		return false
	}
	switch v.Type {
	case api.TyBool:
		return v.Lo == 0 && v.Hi == 0 && (v.Init == 0 || v.Init == 1)
	case api.TyInt:
		return v.Lo == 0 && v.Hi == 0
	case api.TyRange:
		return v.Lo <= v.Hi
	}
	return false
}
