/-
  What the statement NamesFinds hangs on besides the contracts: lists of statements are the same as themselves, answers in one form, a small program has few variables.
-/
import Derived.Test.YtijeiiiiplkfaaaDoorNxR
import Derived.Test.YtijeiiiiplkfaaaDoorSmA
import Derived.Test.YtijeiiiiplkfaaaDoorEqD
namespace Go.Proofs.YtijeiiiiplkfaaaDoor
open Go.RowKit
theorem all2_refl {α : Type} (f : α → α → Bool) (l : List α) (h : ∀ x ∈ l, f x x = true) : all2 f l l = true := by
  induction l with
  | nil => rfl
  | cons x r ih => rw [all2, h x (List.mem_cons_self ..), ih (fun y hy => h y (List.mem_cons_of_mem _ hy))]; rfl
theorem exSame_refl (e : Ex) : e.same e = true := by
  induction e using Ex.ind with
  | h op mon name n ad cap kids pos ih =>
    rw [Ex.same, Ex.sameL_eq, all2_refl _ _ ih]
    simp
theorem stSame_refl (s : St) : s.same s = true :=
  St.ind (P := fun s => s.same s = true) (Q := fun b => b.same b = true)
    (fun kind mon name n e ad cap blocks pos ih => by rw [St.same, Bl.sameL_eq, all2_refl _ _ ih, exSame_refl]; simp)
    (fun ad cap body ih => by rw [Bl.same, St.sameL_eq, all2_refl _ _ ih]) s
theorem blSame_body (ad ad' : Option Addr) (cap cap' : Nat) (body : List St) : (Bl.mk ad cap body).same (.mk ad' cap' body) = true := by
  rw [Bl.same, St.sameL_eq]
  exact all2_refl _ _ fun s _ => stSame_refl s
/-- A place and whether there is one, in one form. -/
def fbI : Option Nat → Int
  | some i => (i : Int)
  | none => 0
theorem firstUni {f : FuncId} {args : Array Value} {o : Option Nat} {w : World} (h : Calls Tryd.prog f args w fun r w' => FirstBack o w w' r) : Calls Tryd.prog f args w fun r w' => r = .returned (.tuple #[.int .i64 (fbI o), .bool o.isSome]) ∧ Below w.heap.size w w' :=
  h.mono fun r w' hh => by
    rcases hh.1 with ⟨rfl, h2⟩ | ⟨a, rfl, h2⟩
    · exact ⟨h2, hh.2⟩
    · exact ⟨h2, hh.2⟩
def mNm : Option Me → ByteArray
  | some m => m.name
  | none => ⟨#[]⟩
def mPs : Option Me → Int
  | some m => m.pos
  | none => 0
def mBd : Option Me → List St
  | some m => m.body.body
  | none => []
theorem methUni {f : FuncId} {args : Array Value} {o : Option Me} {w : World} (h : Calls Tryd.prog f args w fun r w' => MethBack o w w' r) : Calls Tryd.prog f args w fun r w' => ∃ ad cap, r = .returned (.tuple #[.agg #[.string (mNm o), .slice ad (mBd o).length cap, .int .i64 (mPs o)], .bool o.isSome]) ∧ (Bl.mk ad cap (mBd o)).Is w'.heap.size w' ∧ Below w.heap.size w w' :=
  h.mono fun r w' hh => by
    rcases hh.1 with ⟨rfl, h2⟩ | ⟨m, ad, cap, rfl, h2, h3⟩
    · exact ⟨none, 0, h2, Bl.Is.up ⟨⟨Nat.le_refl _, Nat.zero_le _, .inl rfl⟩, fun s hs => by cases hs⟩, hh.2⟩
    · exact ⟨ad, cap, h2, h3, hh.2⟩
theorem slotsUni {f : FuncId} {args : Array Value} {l : List Mo} {w : World} (h : Calls Tryd.prog f args w fun r w' => SlotsBack l w w' r) : Calls Tryd.prog f args w fun r w' => ∃ ad cap, r = .returned (.slice ad (allV l).length cap) ∧ SlAt 6 Va.cells w'.heap.size w' ad cap (allV l) ∧ Below w.heap.size w w' :=
  h.mono fun r w' ⟨v, h1, h2, h3⟩ => by
    obtain ⟨ad, cp, rfl, h4⟩ := slOwn Va.len h2
    exact ⟨ad, cp, h1, h4, h3⟩
theorem vsum_small (l : List Mo) (h1 : l.length ≤ 20) (h2 : ∀ m ∈ l, m.vars.length ≤ 40) : vsum l ≤ 1000000 := by
  have h : vsum l ≤ 40 * l.length := by
    clear h1
    induction l with
    | nil => exact Nat.le_refl _
    | cons m r ih =>
      have h3 := ih (fun x hx => h2 x (List.mem_cons_of_mem _ hx))
      have h4 := h2 m (List.mem_cons_self ..)
      rw [vsum, List.map_cons, List.sum_cons, List.length_cons]
      rw [vsum] at h3
      omega
  omega
theorem sum_mem {α : Type} (f : α → Nat) (l : List α) (x : α) (h : x ∈ l) : f x ≤ (l.map f).sum := by
  induction l with
  | nil => cases h
  | cons y r ih =>
    rw [List.map_cons, List.sum_cons]
    rcases List.mem_cons.1 h with rfl | h
    · omega
    · have := ih h; omega
theorem len_sum {α : Type} (f : α → Nat) (l : List α) (h : ∀ x ∈ l, 1 ≤ f x) : l.length ≤ (l.map f).sum := by
  induction l with
  | nil => exact Nat.le_refl _
  | cons y r ih =>
    rw [List.map_cons, List.sum_cons, List.length_cons]
    have h1 := ih (fun x hx => h x (List.mem_cons_of_mem _ hx))
    have h2 := h y (List.mem_cons_self ..)
    omega
theorem bl_len (b : Bl) : b.body.length ≤ b.sz := by
  rcases b with ⟨ad, cap, body⟩
  rw [Bl.sz_mk]
  refine len_sum St.tot body fun s _ => ?_
  rcases s with ⟨kind, mon, name, n, e, ad, cap, blocks, pos⟩
  rw [St.tot_mk]
  omega
theorem body_small (p : Pr) (h : p.size ≤ 400) : ∀ m ∈ p.mons, ∀ f ∈ m.meths, f.body.body.length ≤ 1000000 := by
  intro m hm f hf
  rw [pr_size] at h
  have h1 := sum_mem Mo.msz p.mons m hm
  have h2 := sum_mem Me.bsz m.meths f hf
  have h3 : f.body.body.length ≤ f.body.sz := bl_len f.body
  have e1 : m.msz = (m.meths.map Me.bsz).sum := rfl
  have e2 : f.bsz = f.body.sz := rfl
  omega
end Go.Proofs.YtijeiiiiplkfaaaDoor
