/-
  Package parse as plain Lean functions on lists of tokens: the reader's state, expressions by their operators' levels, statements, programs. Nothing is walked here.
-/
import Derived.Test.YtaekbgljbgmchaaGreatDoorLxH
import Derived.Test.YtaekbgljbgmchaaGreatDoorTrB
namespace Go.Proofs.YtaekbgljbgmchaaGreatDoor
open Go.RowKit
namespace Pz
open Lx (Out)
def k_monitor : ByteArray := ⟨#[109, 111, 110, 105, 116, 111, 114]⟩
def k_var : ByteArray := ⟨#[118, 97, 114]⟩
def k_method : ByteArray := ⟨#[109, 101, 116, 104, 111, 100]⟩
def k_thread : ByteArray := ⟨#[116, 104, 114, 101, 97, 100]⟩
def k_bool : ByteArray := ⟨#[98, 111, 111, 108]⟩
def k_int : ByteArray := ⟨#[105, 110, 116]⟩
def k_true : ByteArray := ⟨#[116, 114, 117, 101]⟩
def k_false : ByteArray := ⟨#[102, 97, 108, 115, 101]⟩
def k_skip : ByteArray := ⟨#[115, 107, 105, 112]⟩
def k_if : ByteArray := ⟨#[105, 102]⟩
def k_else : ByteArray := ⟨#[101, 108, 115, 101]⟩
def k_while : ByteArray := ⟨#[119, 104, 105, 108, 101]⟩
def k_loop : ByteArray := ⟨#[108, 111, 111, 112]⟩
def k_choose : ByteArray := ⟨#[99, 104, 111, 111, 115, 101]⟩
def k_or : ByteArray := ⟨#[111, 114]⟩
def k_sync : ByteArray := ⟨#[115, 121, 110, 99]⟩
def k_call : ByteArray := ⟨#[99, 97, 108, 108]⟩
def k_wait : ByteArray := ⟨#[119, 97, 105, 116]⟩
def k_notify : ByteArray := ⟨#[110, 111, 116, 105, 102, 121]⟩
def k_notifyall : ByteArray := ⟨#[110, 111, 116, 105, 102, 121, 97, 108, 108]⟩
def s_dot : ByteArray := ⟨#[46]⟩
def s_dots : ByteArray := ⟨#[46, 46]⟩
def s_eq : ByteArray := ⟨#[61]⟩
def s_semi : ByteArray := ⟨#[59]⟩
def s_colon : ByteArray := ⟨#[58]⟩
def s_lbr : ByteArray := ⟨#[123]⟩
def s_rbr : ByteArray := ⟨#[125]⟩
def s_lpar : ByteArray := ⟨#[40]⟩
def s_rpar : ByteArray := ⟨#[41]⟩
def s_bang : ByteArray := ⟨#[33]⟩
def s_minus : ByteArray := ⟨#[45]⟩
def s_plus : ByteArray := ⟨#[43]⟩
def s_star : ByteArray := ⟨#[42]⟩
def s_oror : ByteArray := ⟨#[124, 124]⟩
def s_andand : ByteArray := ⟨#[38, 38]⟩
def s_eqeq : ByteArray := ⟨#[61, 61]⟩
def s_ne : ByteArray := ⟨#[33, 61]⟩
def s_lt : ByteArray := ⟨#[60]⟩
def s_le : ByteArray := ⟨#[60, 61]⟩
def s_gt : ByteArray := ⟨#[62]⟩
def s_ge : ByteArray := ⟨#[62, 61]⟩
def e0 : ByteArray := ⟨#[]⟩
def noTok : Out := ⟨0, e0, 0, 0, 0⟩
/-- The reader: the tokens that are left, how many levels are open, the first error and its place. -/
structure S where
  rest : List Out
  opn : Int
  err : Int
  pos : Int
def S.hd (s : S) : Out := s.rest.headD noTok
def is (t : Out) (x : ByteArray) : Bool := t.text.toList == x.toList
def S.sees (s : S) (x : ByteArray) : Bool := is s.hd x
def last1 (l : List Out) : List Out := l.drop (l.length - 1)
def S.fail (s : S) (e a : Int) : S := if s.err = 0 then ⟨last1 s.rest, s.opn, e, a⟩ else s
def S.refuse (s : S) (e : Int) : S := s.fail e s.hd.pos
def S.pass (s : S) : S := if s.hd.kind = 5 then s else ⟨s.rest.tail, s.opn, s.err, s.pos⟩
def S.want (s : S) (x : ByteArray) : S := if s.sees x then s.pass else (s.refuse 40).pass
def S.take (s : S) (k : Int) : Out × S := if s.hd.kind = k then (s.hd, s.pass) else (noTok, s.refuse 40)
/-- Two names with a point between them. -/
def path (s : S) : (ByteArray × ByteArray) × S := (((s.take 1).1.text, (((s.take 1).2.want s_dot).take 1).1.text), (((s.take 1).2.want s_dot).take 1).2)
def S.more (s : S) : S := ⟨s.rest, s.opn + 1, s.err, s.pos⟩
def S.less (s : S) : S := ⟨s.rest, s.opn - 1, s.err, s.pos⟩
/-- Behind the sign that opens a level. -/
def S.enter (s : S) (sign : ByteArray) : S := ((if s.sees sign && s.opn == 64 then s.refuse 41 else s).want sign).more
def within {α : Type} (sign : ByteArray) (read : S → α × S) (s : S) : α × S := ((read (s.enter sign)).1, (read (s.enter sign)).2.less)
def enclosed {α : Type} (first : ByteArray) (read : S → α × S) (last : ByteArray) (s : S) : α × S := ((within first read s).1, (within first read s).2.want last)
def S.full (s : S) (b : Bool) : S := (if b then s.refuse 6 else s).pass
def oneMore {α : Type} (l : List α) (most : Nat) (read : S → α × S) (s : S) : List α × S := (l ++ [(read (s.full (decide (most ≤ l.length)))).1], (read (s.full (decide (most ≤ l.length)))).2)
def several {α : Type} (word : ByteArray) (most : Nat) (read : S → α × S) : Nat → List α → S → List α × S
  | 0, l, s => (l, s)
  | f + 1, l, s => if s.sees word then several word most read f (oneMore l most read s).1 (oneMore l most read s).2 else (l, s)
/-- An operator: its Op, the level of what it makes, the levels of its kids. -/
structure Oper where
  op : Int
  own : Nat
  first : Nat
  second : Nat
def operOf (t : Out) : Oper :=
  if is t s_oror then ⟨17, 1, 1, 2⟩
  else if is t s_andand then ⟨16, 2, 2, 3⟩
  else if is t s_eqeq then ⟨10, 4, 5, 5⟩
  else if is t s_ne then ⟨11, 4, 5, 5⟩
  else if is t s_lt then ⟨12, 4, 5, 5⟩
  else if is t s_le then ⟨13, 4, 5, 5⟩
  else if is t s_gt then ⟨14, 4, 5, 5⟩
  else if is t s_ge then ⟨15, 4, 5, 5⟩
  else if is t s_plus then ⟨8, 5, 5, 6⟩
  else if is t s_minus then ⟨9, 5, 5, 6⟩
  else ⟨0, 0, 0, 0⟩
def ex (op : Int) (mon name : ByteArray) (n : Int) (kids : List Ex) (pos : Int) : Ex := .mk op mon name n none 0 kids pos
def exZ : Ex := ex 0 e0 e0 0 [] 0
def exPos : Ex → Int
  | .mk _ _ _ _ _ _ _ pos => pos
def prefixed (op n : Int) (sign : ByteArray) (read : S → Ex × S) (pos : Int) (s : S) : Ex × S := (ex op e0 e0 n [(within sign read s).1] pos, (within sign read s).2)
mutual
/-- An expression of a level or a higher one. -/
def exprAt : Nat → Nat → S → Ex × S
  | 0, _, s => (exZ, s)
  | f + 1, l, s => if decide (l ≤ 3) && s.sees s_bang then loop f l (prefixed 5 0 s_bang (exprAt f 3) s.hd.pos s).1 3 (prefixed 5 0 s_bang (exprAt f 3) s.hd.pos s).2 else loop f l (term f s).1 6 (term f s).2
/-- Operators behind what is read already. -/
def loop : Nat → Nat → Ex → Nat → S → Ex × S
  | 0, _, x, _, s => (x, s)
  | f + 1, l, x, own, s =>
    if (operOf s.hd).op = 0 ∨ (operOf s.hd).own < l ∨ own < (operOf s.hd).first then (x, s)
    else loop f l (ex (operOf s.hd).op e0 e0 0 [x, (exprAt f (operOf s.hd).second s.pass).1] (exPos x)) (operOf s.hd).own (exprAt f (operOf s.hd).second s.pass).2
/-- What has no operator outside of it. -/
def term : Nat → S → Ex × S
  | 0, s => (exZ, s)
  | f + 1, s =>
    if s.hd.kind = 2 then (if s.pass.sees s_star then prefixed 7 s.hd.n s_star (term f) s.hd.pos s.pass else (ex 1 e0 e0 s.hd.n [] s.hd.pos, s.pass))
    else if s.hd.kind = 1 then (ex 4 (path s).1.1 (path s).1.2 0 [] s.hd.pos, (path s).2)
    else if s.sees s_minus then prefixed 6 0 s_minus (term f) s.hd.pos s
    else if s.sees s_lpar then enclosed s_lpar (exprAt f 1) s_rpar s
    else if s.sees k_true then (ex 2 e0 e0 0 [] s.hd.pos, s.pass)
    else (ex 3 e0 e0 0 [] s.hd.pos, s.want k_false)
end
def st (kind : Int) (mon name : ByteArray) (n : Int) (e : Ex) (blocks : List Bl) (pos : Int) : St := .mk kind mon name n e none 0 blocks pos
def bl (l : List St) : Bl := .mk none 0 l
def block (read : S → Bl × S) (s : S) : Bl × S := enclosed s_lbr read s_rbr s
/-- The kind of the statement that a token begins; 0: none. -/
def kindOf (t : Out) : Nat :=
  if t.kind = 1 then 2
  else if is t k_skip then 1
  else if is t k_if then 3
  else if is t k_while then 4
  else if is t k_loop then 5
  else if is t k_choose then 6
  else if is t k_sync then 7
  else if is t k_call then 8
  else if is t k_wait then 9
  else if is t k_notify then 10
  else if is t k_notifyall then 11
  else 0
def stSkip (s : S) : St × S := (st 1 e0 e0 0 exZ [] 0, (s.want k_skip).want s_semi)
def stSet (rx : S → Ex × S) (s : S) : St × S := (st 2 (path s).1.1 (path s).1.2 0 (rx ((path s).2.want s_eq)).1 [] 0, (rx ((path s).2.want s_eq)).2.want s_semi)
def stIf (rx : S → Ex × S) (rb : S → Bl × S) (s : S) : St × S :=
  let x := rx (s.want k_if)
  let y := rb x.2
  if y.2.sees k_else then (st 3 e0 e0 0 x.1 [y.1, (rb y.2.pass).1] 0, (rb y.2.pass).2) else (st 3 e0 e0 0 x.1 [y.1] 0, y.2)
def stWhile (rx : S → Ex × S) (rb : S → Bl × S) (s : S) : St × S :=
  let x := rx (s.want k_while)
  (st 4 e0 e0 0 x.1 [(rb x.2).1] 0, (rb x.2).2)
def stLoop (rb : S → Bl × S) (s : S) : St × S := (st 5 e0 e0 0 exZ [(rb (s.want k_loop)).1] 0, (rb (s.want k_loop)).2)
def stChoose (rb : S → Bl × S) (s : S) : St × S :=
  let x := oneMore [] 8 rb s
  let y := several k_or 8 rb x.2.rest.length x.1 x.2
  (st 6 e0 e0 0 exZ y.1 0, y.2)
def stSync (rb : S → Bl × S) (s : S) : St × S :=
  let x := (s.want k_sync).take 1
  (st 7 x.1.text e0 0 exZ [(rb x.2).1] 0, (rb x.2).2)
def stCall (s : S) : St × S := (st 8 (path (s.want k_call)).1.1 (path (s.want k_call)).1.2 0 exZ [] 0, (path (s.want k_call)).2.want s_semi)
def stWait (s : S) : St × S :=
  let x := (s.want k_wait).take 1
  if x.2.hd.kind = 2 then
    let y := x.2.take 2
    (st 9 x.1.text e0 y.1.n exZ [] 0, (if y.1.n = 0 then y.2.fail 40 x.2.hd.pos else y.2).want s_semi)
  else (st 9 x.1.text e0 0 exZ [] 0, x.2.want s_semi)
def stNotify (s : S) : St × S := (st 10 ((s.want k_notify).take 1).1.text e0 0 exZ [] 0, ((s.want k_notify).take 1).2.want s_semi)
def stAll (s : S) : St × S := (st 11 ((s.want k_notifyall).take 1).1.text e0 0 exZ [] 0, ((s.want k_notifyall).take 1).2.want s_semi)
/-- A statement of a kind. -/
def stmt (rx : S → Ex × S) (rb : S → Bl × S) (k : Nat) (s : S) : St × S :=
  match k with
  | 1 => stSkip s
  | 2 => stSet rx s
  | 3 => stIf rx rb s
  | 4 => stWhile rx rb s
  | 5 => stLoop rb s
  | 6 => stChoose rb s
  | 7 => stSync rb s
  | 8 => stCall s
  | 9 => stWait s
  | 10 => stNotify s
  | _ => stAll s
def stAt (x : St) (pos : Int) : St := match x with | .mk kind mon name n e ad cap blocks _ => .mk kind mon name n e ad cap blocks pos
/-- Statements, as many as there are. -/
def stmtsF : Nat → List St → S → Bl × S
  | 0, l, s => (bl l, s)
  | f + 1, l, s =>
    if kindOf s.hd = 0 then (bl l, s)
    else stmtsF f (l ++ [stAt (stmt (exprAt f 1) (block (stmtsF f [])) (kindOf s.hd) s).1 s.hd.pos]) (stmt (exprAt f 1) (block (stmtsF f [])) (kindOf s.hd) s).2
def blockF (f : Nat) (s : S) : Bl × S := block (stmtsF f []) s
def integer (s : S) : Int × S := if s.sees s_minus then (-(s.pass.take 2).1.n, (s.pass.take 2).2) else ((s.take 2).1.n, (s.take 2).2)
def truth (s : S) : Int × S := if s.sees k_true then (1, s.pass) else (0, s.want k_false)
def bounds (s : S) : (Int × Int) × S :=
  let x := integer s
  let y := x.2.want s_dots
  let z := integer y
  ((x.1, z.1), if z.1 < x.1 then z.2.fail 40 y.hd.pos else z.2)
def typed (s : S) : Va × S :=
  if s.sees k_bool then (⟨e0, 1, 0, 0, (truth (s.pass.want s_eq)).1, 0⟩, (truth (s.pass.want s_eq)).2)
  else if s.sees k_int then (⟨e0, 2, 0, 0, (integer (s.pass.want s_eq)).1, 0⟩, (integer (s.pass.want s_eq)).2)
  else (⟨e0, 3, (bounds s).1.1, (bounds s).1.2, (integer ((bounds s).2.want s_eq)).1, 0⟩, (integer ((bounds s).2.want s_eq)).2)
def vari (s : S) : Va × S :=
  let t := s.take 1
  let v := typed (t.2.want s_colon)
  (⟨t.1.text, v.1.type, v.1.lo, v.1.hi, v.1.init, t.1.pos⟩, v.2.want s_semi)
def method (f : Nat) (s : S) : Me × S := (⟨(s.take 1).1.text, (blockF f (s.take 1).2).1, (s.take 1).1.pos⟩, (blockF f (s.take 1).2).2)
def members (f : Nat) (s : S) : Mo × S :=
  let x := several k_var 16 vari s.rest.length [] s
  let y := several k_method 16 (method f) x.2.rest.length [] x.2
  (⟨e0, none, 0, x.1, none, 0, y.1, 0⟩, y.2)
def monitor (f : Nat) (s : S) : Mo × S :=
  let x := enclosed s_lbr (members f) s_rbr (s.take 1).2
  (⟨(s.take 1).1.text, none, 0, x.1.vars, none, 0, x.1.meths, (s.take 1).1.pos⟩, x.2)
def role (f : Nat) (s : S) : Ro × S :=
  let t := s.take 1
  if t.2.sees s_star then (⟨t.1.text, true, 0, (blockF f t.2.pass).1, t.1.pos⟩, (blockF f t.2.pass).2)
  else (⟨t.1.text, false, (t.2.take 2).1.n, (blockF f (t.2.take 2).2).1, t.1.pos⟩, (blockF f (t.2.take 2).2).2)
def pr (m : List Mo) (r : List Ro) : Pr := ⟨none, 0, m, none, 0, r⟩
def progF (g : Nat) : Nat → List Mo → List Ro → S → Pr × S
  | 0, m, r, s => (pr m r, s)
  | f + 1, m, r, s =>
    if s.sees k_monitor then progF g f (oneMore m 8 (monitor g) s).1 r (oneMore m 8 (monitor g) s).2
    else if s.sees k_thread then progF g f m (oneMore r 8 (role g) s).1 (oneMore r 8 (role g) s).2
    else (pr m r, s)
def fuel (s : S) : Nat := 3 * s.rest.length + 10
def program (s : S) : Pr × S := progF (fuel s) s.rest.length [] [] s
def expr (s : S) : Ex × S := exprAt (fuel s) 1 s
/-- What read makes of all that there is. -/
def atEnd (s : S) : S := if s.hd.kind = 5 then s else s.refuse 40
/-- A text's reader. -/
def reader (s : ByteArray) : S := if Lx.errOf s = 0 then ⟨Lx.outs s, 0, 0, 0⟩ else ⟨[⟨5, e0, 0, 0, 0⟩], 0, Lx.errOf s, Lx.atOf s⟩
end Pz
end Go.Proofs.YtaekbgljbgmchaaGreatDoor
