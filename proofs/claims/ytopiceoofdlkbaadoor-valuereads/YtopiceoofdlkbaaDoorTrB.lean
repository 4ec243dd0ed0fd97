/-
  Statements, methods, variables, monitors, roles and programs as plain Lean trees; how they lie in memory; when two are the same; the statements of a program in the order in which they are gone over. Nothing is walked here.
-/
import Derived.Test.YtopiceoofdlkbaaDoorTrA
namespace Go.Proofs.YtopiceoofdlkbaaDoor
open Go.RowKit
mutual
/-- A statement. -/
inductive St where
  | mk (kind : Int) (mon name : ByteArray) (n : Int) (e : Ex) (ad : Option Addr) (cap : Nat) (blocks : List Bl) (pos : Int)
/-- A list of statements, and where it lies. -/
inductive Bl where
  | mk (ad : Option Addr) (cap : Nat) (body : List St)
end
def Bl.body : Bl → List St
  | .mk _ _ body => body
def Bl.slice : Bl → Value
  | .mk ad cap body => .slice ad body.length cap
def Bl.cells (b : Bl) : List Value := [b.slice]
def St.cells : St → List Value
  | .mk kind mon name n e ad cap blocks pos => [.int .i64 kind, .string mon, .string name, .int .i64 n] ++ e.cells ++ [.slice ad blocks.length cap, .int .i64 pos]
def St.val (s : St) : Value := .agg s.cells.toArray
def St.e : St → Ex
  | .mk _ _ _ _ e _ _ _ _ => e
mutual
/-- A statement lies below n₀, with all that is in it. -/
def St.Is (n₀ : Nat) (W : World) : St → Prop
  | .mk kind mon name n e ad cap blocks pos => (I64 kind ∧ I64 n ∧ I64 pos ∧ Len mon ∧ Len name) ∧ e.Is n₀ W ∧ SlAt 1 Bl.cells n₀ W ad cap blocks ∧ ∀ b, (h : b ∈ blocks) → Bl.Is n₀ W b
def Bl.Is (n₀ : Nat) (W : World) : Bl → Prop
  | .mk ad cap body => SlAt 12 St.cells n₀ W ad cap body ∧ ∀ s, (h : s ∈ body) → St.Is n₀ W s
end
theorem St.Is.down {n₀ : Nat} {W : World} {kind : Int} {mon name : ByteArray} {n : Int} {e : Ex} {ad : Option Addr} {cap : Nat} {blocks : List Bl} {pos : Int} (h : (St.mk kind mon name n e ad cap blocks pos).Is n₀ W) :
    (I64 kind ∧ I64 n ∧ I64 pos ∧ Len mon ∧ Len name) ∧ e.Is n₀ W ∧ SlAt 1 Bl.cells n₀ W ad cap blocks ∧ ∀ b ∈ blocks, b.Is n₀ W := by rw [St.Is] at h; exact h
theorem Bl.Is.down {n₀ : Nat} {W : World} {ad : Option Addr} {cap : Nat} {body : List St} (h : (Bl.mk ad cap body).Is n₀ W) : SlAt 12 St.cells n₀ W ad cap body ∧ ∀ s ∈ body, s.Is n₀ W := by rw [Bl.Is] at h; exact h
theorem St.Is.up {n₀ : Nat} {W : World} {kind : Int} {mon name : ByteArray} {n : Int} {e : Ex} {ad : Option Addr} {cap : Nat} {blocks : List Bl} {pos : Int}
    (h : (I64 kind ∧ I64 n ∧ I64 pos ∧ Len mon ∧ Len name) ∧ e.Is n₀ W ∧ SlAt 1 Bl.cells n₀ W ad cap blocks ∧ ∀ b ∈ blocks, b.Is n₀ W) : (St.mk kind mon name n e ad cap blocks pos).Is n₀ W := by rw [St.Is]; exact h
theorem Bl.Is.up {n₀ : Nat} {W : World} {ad : Option Addr} {cap : Nat} {body : List St} (h : SlAt 12 St.cells n₀ W ad cap body ∧ ∀ s ∈ body, s.Is n₀ W) : (Bl.mk ad cap body).Is n₀ W := by rw [Bl.Is]; exact h
mutual
theorem St.ind {P : St → Prop} {Q : Bl → Prop} (h1 : ∀ kind mon name n e ad cap blocks pos, (∀ b ∈ blocks, Q b) → P (.mk kind mon name n e ad cap blocks pos)) (h2 : ∀ ad cap body, (∀ s ∈ body, P s) → Q (.mk ad cap body)) : ∀ s, P s
  | .mk kind mon name n e ad cap blocks pos => h1 kind mon name n e ad cap blocks pos (fun b _ => Bl.ind h1 h2 b)
theorem Bl.ind {P : St → Prop} {Q : Bl → Prop} (h1 : ∀ kind mon name n e ad cap blocks pos, (∀ b ∈ blocks, Q b) → P (.mk kind mon name n e ad cap blocks pos)) (h2 : ∀ ad cap body, (∀ s ∈ body, P s) → Q (.mk ad cap body)) : ∀ b, Q b
  | .mk ad cap body => h2 ad cap body (fun s _ => St.ind h1 h2 s)
end
theorem Bl.Is.below {n₀ : Nat} {W W' : World} (hb : Below n₀ W W') {b : Bl} : b.Is n₀ W → b.Is n₀ W' :=
  Bl.ind (P := fun s => s.Is n₀ W → s.Is n₀ W') (Q := fun b => b.Is n₀ W → b.Is n₀ W') (fun _ _ _ _ _ _ _ _ _ ih h => St.Is.up ⟨h.down.1, h.down.2.1.below hb, h.down.2.2.1.below hb, fun b hb' => ih b hb' (h.down.2.2.2 b hb')⟩)
    (fun _ _ _ ih h => Bl.Is.up ⟨h.down.1.below hb, fun s hs => ih s hs (h.down.2 s hs)⟩) b
theorem St.Is.below {n₀ : Nat} {W W' : World} (hb : Below n₀ W W') {s : St} : s.Is n₀ W → s.Is n₀ W' :=
  St.ind (P := fun s => s.Is n₀ W → s.Is n₀ W') (Q := fun b => b.Is n₀ W → b.Is n₀ W') (fun _ _ _ _ _ _ _ _ _ ih h => St.Is.up ⟨h.down.1, h.down.2.1.below hb, h.down.2.2.1.below hb, fun b hb' => ih b hb' (h.down.2.2.2 b hb')⟩)
    (fun _ _ _ ih h => Bl.Is.up ⟨h.down.1.below hb, fun s hs => ih s hs (h.down.2 s hs)⟩) s
theorem Bl.Is.mono {n₀ n₁ : Nat} {W : World} (hn : n₀ ≤ n₁) {b : Bl} : b.Is n₀ W → b.Is n₁ W :=
  Bl.ind (P := fun s => s.Is n₀ W → s.Is n₁ W) (Q := fun b => b.Is n₀ W → b.Is n₁ W) (fun _ _ _ _ _ _ _ _ _ ih h => St.Is.up ⟨h.down.1, h.down.2.1.mono hn, h.down.2.2.1.mono hn, fun b hb' => ih b hb' (h.down.2.2.2 b hb')⟩)
    (fun _ _ _ ih h => Bl.Is.up ⟨h.down.1.mono hn, fun s hs => ih s hs (h.down.2 s hs)⟩) b
mutual
/-- Two statements are the same but for places. -/
def St.same : St → St → Bool
  | .mk kind mon name n e _ _ blocks _, .mk kind' mon' name' n' e' _ _ blocks' _ => (kind == kind') && (mon.toList == mon'.toList) && (name.toList == name'.toList) && (n == n') && e.same e' && Bl.sameL blocks blocks'
def Bl.same : Bl → Bl → Bool
  | .mk _ _ body, .mk _ _ body' => St.sameL body body'
def St.sameL : List St → List St → Bool
  | [], [] => true
  | a :: xs, b :: ys => a.same b && St.sameL xs ys
  | _, _ => false
def Bl.sameL : List Bl → List Bl → Bool
  | [], [] => true
  | a :: xs, b :: ys => a.same b && Bl.sameL xs ys
  | _, _ => false
end
theorem St.sameL_eq (xs ys : List St) : St.sameL xs ys = all2 St.same xs ys := by
  induction xs generalizing ys with
  | nil => cases ys <;> simp [St.sameL, all2]
  | cons a xs ih => cases ys with
    | nil => simp [St.sameL, all2]
    | cons b ys => simp [St.sameL, all2, ih]
theorem Bl.sameL_eq (xs ys : List Bl) : Bl.sameL xs ys = all2 Bl.same xs ys := by
  induction xs generalizing ys with
  | nil => cases ys <;> simp [Bl.sameL, all2]
  | cons a xs ih => cases ys with
    | nil => simp [Bl.sameL, all2]
    | cons b ys => simp [Bl.sameL, all2, ih]
mutual
/-- A statement and all that are in it; the statements of a block. -/
def St.subs : St → List St
  | .mk kind mon name n e ad cap blocks pos => .mk kind mon name n e ad cap blocks pos :: Bl.subsL blocks
def Bl.subs : Bl → List St
  | .mk _ _ body => St.subsL body
def St.subsL : List St → List St
  | [] => []
  | s :: r => s.subs ++ St.subsL r
def Bl.subsL : List Bl → List St
  | [] => []
  | b :: r => b.subs ++ Bl.subsL r
end
theorem St.subsL_eq (l : List St) : St.subsL l = l.flatMap St.subs := by
  induction l with
  | nil => simp [St.subsL]
  | cons a l ih => simp [St.subsL, ih]
theorem Bl.subsL_eq (l : List Bl) : Bl.subsL l = l.flatMap Bl.subs := by
  induction l with
  | nil => simp [Bl.subsL]
  | cons a l ih => simp [Bl.subsL, ih]
theorem flatMap_snoc {α β : Type} (f : α → List β) (l : List α) (k : Nat) (h : k < l.length) : (l.take (k + 1)).flatMap f = (l.take k).flatMap f ++ f l[k] := by
  rw [List.take_succ_eq_append_getElem h, List.flatMap_append, List.flatMap_cons, List.flatMap_nil, List.append_nil]
theorem St.subs_mk (kind : Int) (mon name : ByteArray) (n : Int) (e : Ex) (ad : Option Addr) (cap : Nat) (blocks : List Bl) (pos : Int) : (St.mk kind mon name n e ad cap blocks pos).subs = .mk kind mon name n e ad cap blocks pos :: blocks.flatMap Bl.subs := by rw [St.subs, Bl.subsL_eq]
theorem Bl.subs_mk (ad : Option Addr) (cap : Nat) (body : List St) : (Bl.mk ad cap body).subs = body.flatMap St.subs := by rw [Bl.subs, St.subsL_eq]
theorem Bl.Is.subs {n₀ : Nat} {W : World} {b : Bl} : b.Is n₀ W → ∀ x ∈ b.subs, x.Is n₀ W :=
  Bl.ind (P := fun s => s.Is n₀ W → ∀ x ∈ s.subs, x.Is n₀ W) (Q := fun b => b.Is n₀ W → ∀ x ∈ b.subs, x.Is n₀ W) (fun _ _ _ _ _ _ _ _ _ ih h x hx => by
      rw [St.subs_mk, List.mem_cons, List.mem_flatMap] at hx
      rcases hx with rfl | ⟨y, hy, hx⟩
      · exact h
      · exact ih y hy (h.down.2.2.2 y hy) x hx)
    (fun _ _ _ ih h x hx => by
      rw [Bl.subs_mk, List.mem_flatMap] at hx
      obtain ⟨y, hy, hx⟩ := hx
      exact ih y hy (h.down.2 y hy) x hx) b
/-- A variable. -/
structure Va where
  name : ByteArray
  type : Int
  lo : Int
  hi : Int
  init : Int
  pos : Int
def Va.cells (v : Va) : List Value := [.string v.name, .int .i64 v.type, .int .i64 v.lo, .int .i64 v.hi, .int .i64 v.init, .int .i64 v.pos]
def Va.val (v : Va) : Value := .agg v.cells.toArray
def Va.Is (v : Va) : Prop := Len v.name ∧ I64 v.type ∧ I64 v.lo ∧ I64 v.hi ∧ I64 v.init ∧ I64 v.pos
def Va.same (v w : Va) : Bool := (v.name.toList == w.name.toList) && (v.type == w.type) && (v.lo == w.lo) && (v.hi == w.hi) && (v.init == w.init)
/-- A method. -/
structure Me where
  name : ByteArray
  body : Bl
  pos : Int
def Me.cells (m : Me) : List Value := [.string m.name, m.body.slice, .int .i64 m.pos]
def Me.val (m : Me) : Value := .agg m.cells.toArray
def Me.Is (n₀ : Nat) (W : World) (m : Me) : Prop := Len m.name ∧ I64 m.pos ∧ m.body.Is n₀ W
def Me.same (m k : Me) : Bool := (m.name.toList == k.name.toList) && m.body.same k.body
/-- A monitor. -/
structure Mo where
  name : ByteArray
  vad : Option Addr
  vcap : Nat
  vars : List Va
  mad : Option Addr
  mcap : Nat
  meths : List Me
  pos : Int
def Mo.cells (m : Mo) : List Value := [.string m.name, .slice m.vad m.vars.length m.vcap, .slice m.mad m.meths.length m.mcap, .int .i64 m.pos]
def Mo.val (m : Mo) : Value := .agg m.cells.toArray
def Mo.Is (n₀ : Nat) (W : World) (m : Mo) : Prop := (Len m.name ∧ I64 m.pos) ∧ (SlAt 6 Va.cells n₀ W m.vad m.vcap m.vars ∧ ∀ v ∈ m.vars, v.Is) ∧ SlAt 3 Me.cells n₀ W m.mad m.mcap m.meths ∧ ∀ x ∈ m.meths, x.Is n₀ W
def Mo.same (m k : Mo) : Bool := (m.name.toList == k.name.toList) && all2 Va.same m.vars k.vars && all2 Me.same m.meths k.meths
/-- A role. -/
structure Ro where
  name : ByteArray
  star : Bool
  count : Int
  body : Bl
  pos : Int
def Ro.cells (r : Ro) : List Value := [.string r.name, .bool r.star, .int .i64 r.count, r.body.slice, .int .i64 r.pos]
def Ro.val (r : Ro) : Value := .agg r.cells.toArray
def Ro.Is (n₀ : Nat) (W : World) (r : Ro) : Prop := Len r.name ∧ I64 r.count ∧ I64 r.pos ∧ r.body.Is n₀ W
def Ro.same (r s : Ro) : Bool := (r.name.toList == s.name.toList) && (r.star == s.star) && (r.count == s.count) && r.body.same s.body
/-- A program. -/
structure Pr where
  mad : Option Addr
  mcap : Nat
  mons : List Mo
  rad : Option Addr
  rcap : Nat
  roles : List Ro
def Pr.val (p : Pr) : Value := .agg #[.slice p.mad p.mons.length p.mcap, .slice p.rad p.roles.length p.rcap]
def Pr.Is (n₀ : Nat) (W : World) (p : Pr) : Prop := (SlAt 4 Mo.cells n₀ W p.mad p.mcap p.mons ∧ ∀ m ∈ p.mons, m.Is n₀ W) ∧ SlAt 5 Ro.cells n₀ W p.rad p.rcap p.roles ∧ ∀ r ∈ p.roles, r.Is n₀ W
def Pr.same (p q : Pr) : Bool := all2 Mo.same p.mons q.mons && all2 Ro.same p.roles q.roles
/-- All statements of a program. -/
def Pr.stmts (p : Pr) : List St := p.mons.flatMap (fun m => m.meths.flatMap fun x => x.body.subs) ++ p.roles.flatMap fun r => r.body.subs
theorem Me.Is.below {n₀ : Nat} {W W' : World} (hb : Below n₀ W W') {m : Me} (h : m.Is n₀ W) : m.Is n₀ W' := ⟨h.1, h.2.1, h.2.2.below hb⟩
theorem Mo.Is.below {n₀ : Nat} {W W' : World} (hb : Below n₀ W W') {m : Mo} (h : m.Is n₀ W) : m.Is n₀ W' := ⟨h.1, ⟨h.2.1.1.below hb, h.2.1.2⟩, h.2.2.1.below hb, fun x hx => (h.2.2.2 x hx).below hb⟩
theorem Ro.Is.below {n₀ : Nat} {W W' : World} (hb : Below n₀ W W') {r : Ro} (h : r.Is n₀ W) : r.Is n₀ W' := ⟨h.1, h.2.1, h.2.2.1, h.2.2.2.below hb⟩
theorem Pr.Is.below {n₀ : Nat} {W W' : World} (hb : Below n₀ W W') {p : Pr} (h : p.Is n₀ W) : p.Is n₀ W' := ⟨⟨h.1.1.below hb, fun m hm => (h.1.2 m hm).below hb⟩, h.2.1.below hb, fun r hr => (h.2.2 r hr).below hb⟩
theorem Me.Is.mono {n₀ n₁ : Nat} {W : World} (hn : n₀ ≤ n₁) {m : Me} (h : m.Is n₀ W) : m.Is n₁ W := ⟨h.1, h.2.1, h.2.2.mono hn⟩
theorem Mo.Is.mono {n₀ n₁ : Nat} {W : World} (hn : n₀ ≤ n₁) {m : Mo} (h : m.Is n₀ W) : m.Is n₁ W := ⟨h.1, ⟨h.2.1.1.mono hn, h.2.1.2⟩, h.2.2.1.mono hn, fun x hx => (h.2.2.2 x hx).mono hn⟩
theorem Ro.Is.mono {n₀ n₁ : Nat} {W : World} (hn : n₀ ≤ n₁) {r : Ro} (h : r.Is n₀ W) : r.Is n₁ W := ⟨h.1, h.2.1, h.2.2.1, h.2.2.2.mono hn⟩
theorem Pr.Is.mono {n₀ n₁ : Nat} {W : World} (hn : n₀ ≤ n₁) {p : Pr} (h : p.Is n₀ W) : p.Is n₁ W := ⟨⟨h.1.1.mono hn, fun m hm => (h.1.2 m hm).mono hn⟩, h.2.1.mono hn, fun r hr => (h.2.2 r hr).mono hn⟩
theorem Pr.Is.stmts {n₀ : Nat} {W : World} {p : Pr} (h : p.Is n₀ W) : ∀ x ∈ p.stmts, x.Is n₀ W := by
  intro x hx
  rcases List.mem_append.1 hx with hx | hx
  · obtain ⟨m, hm, hx⟩ := List.mem_flatMap.1 hx
    obtain ⟨k, hk, hx⟩ := List.mem_flatMap.1 hx
    exact ((h.1.2 m hm).2.2.2 k hk).2.2.subs x hx
  · obtain ⟨r, hr, hx⟩ := List.mem_flatMap.1 hx
    exact (h.2.2 r hr).2.2.2.subs x hx
end Go.Proofs.YtopiceoofdlkbaaDoor
