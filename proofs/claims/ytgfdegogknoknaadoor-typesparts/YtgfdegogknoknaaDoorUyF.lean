/-
  The statement TypesParts: its walk.
-/
import Derived.Test.YtgfdegogknoknaaDoorJE
namespace Go.Proofs.YtgfdegogknoknaaDoor
open Go.RowKit
def Ex.ad0 : Ex → Option Addr
  | .mk _ _ _ _ ad _ _ _ => ad
def Ex.cap0 : Ex → Nat
  | .mk _ _ _ _ _ cap _ _ => cap
/-- The expression of two parts. -/
def pairE (op : Int) (q : Nat) (a b : Ex) : Ex := .mk op ⟨#[]⟩ ⟨#[]⟩ 0 (some ⟨q, 0, none⟩) 2 [a, b] 0
/-- The first error of such an expression. -/
def pairT (l : List Mo) (op : Int) (a b : Ex) : Option (Int × Int) := if a.ok && b.ok then ((a.ter l).or (b.ter l)).or (misfit l (wantOf l op [a, b]) [a, b]) else some (20, 0)
theorem pair_ok1 (op : Int) (q : Nat) (a b : Ex) (h : op = 16 ∨ op = 8 ∨ op = 10) : (pairE op q a b).ok1 = true := by
  rcases h with rfl | rfl | rfl <;> rfl
theorem pair_ok (op : Int) (q : Nat) (a b : Ex) (h : op = 16 ∨ op = 8 ∨ op = 10) : (pairE op q a b).ok = (a.ok && b.ok) := by
  have h1 := pair_ok1 op q a b h
  unfold pairE at h1 ⊢
  rw [Ex.ok, Ex.subs_mk, List.all_cons, h1, Bool.true_and, Ex.subsL_eq, List.all_flatMap]
  simp [Ex.ok]
theorem pair_tero (l : List Mo) (op : Int) (q : Nat) (a b : Ex) (h : op = 16 ∨ op = 8 ∨ op = 10) : (pairE op q a b).tero l = pairT l op a b := by
  rw [Ex.tero, pair_ok op q a b h, pairT]
  split
  · unfold pairE
    rw [Ex.ter_mk, if_neg (by omega), Ex.terL, Ex.terL, Ex.terL, Option.or_none]
  · rfl
theorem pair_is (l : List Mo) (op : Int) (q : Nat) (a b : Ex) (h : op = 16 ∨ op = 8 ∨ op = 10) : (pairE op q a b).is l = opIs op := by
  unfold pairE
  rw [Ex.is, if_neg (by omega)]
theorem tero_none {l : List Mo} {e : Ex} : e.tero l = none ↔ e.ok = true ∧ e.ter l = none := by
  rw [Ex.tero]
  split
  · rename_i h; simp [h]
  · rename_i h; simp [h]
theorem pairT_none (l : List Mo) (op : Int) (a b : Ex) (h : op = 16 ∨ op = 8 ∨ op = 10) : pairT l op a b = none ↔ a.tero l = none ∧ b.tero l = none ∧ (if op = 10 then b.is l = a.is l else a.is l = opIs op ∧ b.is l = opIs op) := by
  rw [tero_none, tero_none, pairT]
  by_cases ho : (a.ok && b.ok) = true
  · rw [if_pos ho]
    rw [Bool.and_eq_true] at ho
    rw [Option.or_eq_none_iff, Option.or_eq_none_iff, misfit_none]
    have hw : (∀ k ∈ [a, b], k.is l = wantOf l op [a, b]) ↔ (if op = 10 then b.is l = a.is l else a.is l = opIs op ∧ b.is l = opIs op) := by
      rcases h with rfl | rfl | rfl
      · simp [wantOf, opWant, opIs]
      · simp [wantOf, opWant, opIs]
      · simp [wantOf, opWant]
    rw [hw]
    simp [ho.1, ho.2, and_assoc]
  · rw [if_neg ho]
    constructor
    · intro h; cases h
    · rintro ⟨⟨h1, _⟩, ⟨h2, _⟩, _⟩
      rw [h1, h2] at ho
      exact absurd rfl ho
def tyS (is : Int) : Option (Int × Int) → Int
  | none => is
  | some _ => 0
def tyC : Option (Int × Int) → Int
  | none => 0
  | some x => x.1
def tyX : Option (Int × Int) → Int
  | none => 0
  | some x => x.2
theorem TyBack.uni {f : FuncId} {args : Array Value} {is : Int} {o : Option (Int × Int)} {w : World} (h : Calls Tryd.prog f args w fun r w' => TyBack is o w w' r) : Calls Tryd.prog f args w fun r w' => r = .returned (.tuple #[.int .i64 (tyS is o), .int .i64 (tyC o), .int .i64 (tyX o)]) ∧ Below w.heap.size w w' :=
  h.mono fun r w' hh => by
    rcases hh.1 with ⟨h1, h2⟩ | ⟨c, a, _, h1, h2⟩
    · subst h1; exact ⟨h2, hh.2⟩
    · subst h1; exact ⟨h2, hh.2⟩
theorem some_of_ne {l : List Mo} {e : Ex} {o : Option (Int × Int)} (he : e.tero l = o) (h : o ≠ none) : ∃ c a, o = some (c, a) ∧ (c == 0) = false := by
  cases o with
  | none => exact absurd rfl h
  | some x =>
    obtain ⟨c, a⟩ := x
    exact ⟨c, a, rfl, by rw [beq_eq_false_iff_ne]; exact Ex.tero_pos l e c a he⟩
theorem kids_tero {l : List Mo} {op : Int} {mon name : ByteArray} {n : Int} {ad : Option Addr} {cap : Nat} {kids : List Ex} {pos : Int} (h : (Ex.mk op mon name n ad cap kids pos).tero l = none) : ∀ x ∈ kids, x.tero l = none := by
  intro x hx
  rw [tero_none] at h ⊢
  obtain ⟨h1, h2⟩ := ok_kids h.1
  refine ⟨h2 x hx, ?_⟩
  have h3 := h.2
  rw [Ex.ter_mk] at h3
  split at h3
  · rename_i h4
    subst h4
    have := (ok1_parts h1).2.2
    have h5 : kids = [] := List.eq_nil_of_length_eq_zero this
    subst h5
    cases hx
  · rw [Option.or_eq_none_iff, Ex.terL_none] at h3
    exact h3.1 x hx
theorem is_two {l : List Mo} {e : Ex} (h : e.tero l = none) : e.is l = 1 ∨ e.is l = 2 := by
  rcases e with ⟨op, mon, name, n, ad, cap, kids, pos⟩
  rw [tero_none] at h
  have h2 := h.2
  rw [Ex.ter_mk] at h2
  rw [Ex.is]
  split
  · rename_i h4
    rw [if_pos h4] at h2
    cases hv : varTy l mon name with
    | none => rw [hv] at h2; cases h2
    | some t =>
      exact varTy_two hv
  · unfold opIs
    split
    · exact .inr rfl
    · exact .inl rfl
theorem pairE_is {W : World} {q n : Nat} {a b : Ex} {op : Int} (hop : I64 op) (ha : a.Is n W) (hb : b.Is n W) (h : W.heap[q]? = some (.cells (a.cells ++ b.cells).toArray 28 (0, 0))) (hq : q < n) : (pairE op q a b).Is n W := by
  refine Ex.Is.up ⟨⟨hop, i64z, i64z, len0, len0⟩, ⟨by simp, by unfold maxLen; simp, .inr ⟨q, 0, rfl, hq, fun j hj i hi => ?_⟩⟩, fun x hx => ?_⟩
  · rw [Nat.zero_add, cellOf h, List.getElem?_toArray]
    have hj2 : j < 2 := by simpa using hj
    have hla : a.cells.length = 6 := by rcases a with ⟨⟩; rfl
    rcases j with _ | _ | j
    · rw [Nat.zero_mul, Nat.zero_add, List.getElem?_append_left (by omega)]; rfl
    · have h2 : (a.cells ++ b.cells)[(0 + 1) * 6 + i]? = b.cells[i]? := by
        rw [List.getElem?_append_right (by omega), hla]; congr 1; omega
      exact h2
    · omega
  · simp only [List.mem_cons, List.not_mem_nil, or_false] at hx
    rcases hx with rfl | rfl
    · exact ha
    · exact hb
set_option maxRecDepth 100000 in
set_option maxHeartbeats 40000000 in
theorem typesParts_walk (p : Pr) (a b : Ex) (w : World) (hS : Shapes w) (hp : p.Is w.heap.size w) (ha : a.Is w.heap.size w) (hb : b.Is w.heap.size w) :
    Calls Tryd.prog 5 #[p.val, a.val, b.val] w fun e w' => e = .returned (.bool true) ∧ Below w.heap.size w w' := by
  have hs3 := hS.size
  have h8 : ∀ W, Below w.heap.size w W → Calls Tryd.prog 8 #[p.val, .int .i64 300] W fun r w' => SmallBack p W w' r := fun W hW => small_any w.heap.size p W hW.size (hp.below hW)
  have h9a : ∀ W, Below w.heap.size w W → Calls Tryd.prog 9 #[a.val, .int .i64 300] W fun r w' => r = .returned (.int .i64 (restE a 300)) ∧ Below W.heap.size W w' := fun W hW => restExpr_any w.heap.size a 300 W (by omega) (by omega) hW.size (ha.below hW)
  have h9b : ∀ W, Below w.heap.size w W → Calls Tryd.prog 9 #[b.val, .int .i64 300] W fun r w' => r = .returned (.int .i64 (restE b 300)) ∧ Below W.heap.size W w' := fun W hW => restExpr_any w.heap.size b 300 W (by omega) (by omega) hW.size (hb.below hW)
  have h10 : ∀ W, Below w.heap.size w W → Calls Tryd.prog 10 #[] W fun r w' => r = .returned (.bool true) ∧ Below W.heap.size W w' := fun W hW => live_any W (hS.below hW hs3)
  have h13 := num_any
  have HSM : Hid (p.mons.length ≤ 20 → (∀ m ∈ p.mons, m.vars.length ≤ 40) → vsum p.mons ≤ 1000000) := fun h1 h2 => vsum_small p.mons h1 h2
  have hT : vsum p.mons ≤ 1000000 → ∀ e : Ex, e.Is w.heap.size w → ∀ W, Below w.heap.size w W → Calls Tryd.prog 11 #[p.val, e.val] W fun r w' => TyBack (e.is p.mons) (e.tero p.mons) W w' r := fun hv e he W hW => type_any p hv e w.heap.size W hW.size (hp.below hW) (he.below hW) (hS.below hW hs3)
  have hPT : vsum p.mons ≤ 1000000 → ∀ op : Int, (op = 16 ∨ op = 8 ∨ op = 10) → ∀ q W, q < W.heap.size → Below w.heap.size w W → W.heap[q]? = some (.cells (a.cells ++ b.cells).toArray 28 (0, 0)) → Calls Tryd.prog 11 #[p.val, (pairE op q a b).val] W fun r w' => TyBack (opIs op) (pairT p.mons op a b) W w' r := fun hv op hop q W hq hW hbq => by
    have h := type_any p hv (pairE op q a b) W.heap.size W (Nat.le_refl _) ((hp.below hW).mono hW.size) (pairE_is (by rcases hop with rfl | rfl | rfl <;> exact ⟨by decide, by decide⟩) ((ha.below hW).mono hW.size) ((hb.below hW).mono hW.size) hbq hq) (hS.below hW hs3)
    rw [pair_is _ _ _ _ _ hop, pair_tero _ _ _ _ _ hop] at h
    exact h
  have HPN : Hid (∀ op : Int, (op = 16 ∨ op = 8 ∨ op = 10) → (pairT p.mons op a b = none ↔ a.tero p.mons = none ∧ b.tero p.mons = none ∧ (if op = 10 then b.is p.mons = a.is p.mons else a.is p.mons = opIs op ∧ b.is p.mons = opIs op))) := fun op hop => pairT_none p.mons op a b hop
  have HPO : Hid (∀ op : Int, (op = 16 ∨ op = 8 ∨ op = 10) → pairT p.mons op a b ≠ none → ∃ c x, pairT p.mons op a b = some (c, x) ∧ (c == 0) = false) := fun op hop hne => some_of_ne (pair_tero p.mons op 0 a b hop) hne
  have HKT : Hid (a.tero p.mons = none → ∀ x ∈ a.kids, x.tero p.mons = none) := by
    intro h
    rcases a with ⟨⟩
    exact kids_tero h
  have HA1 : Hid (a.tero p.mons ≠ none → ∃ c x, a.tero p.mons = some (c, x) ∧ (c == 0) = false) := fun h => some_of_ne rfl h
  have HB1 : Hid (b.tero p.mons ≠ none → ∃ c x, b.tero p.mons = some (c, x) ∧ (c == 0) = false) := fun h => some_of_ne rfl h
  have HA2 : Hid (a.tero p.mons = none → a.is p.mons = 1 ∨ a.is p.mons = 2) := fun h => is_two h
  have HB2 : Hid (b.tero p.mons = none → b.is p.mons = 1 ∨ b.is p.mons = 2) := fun h => is_two h
  have hTA := fun hv => hT hv a ha
  have hTB := fun hv => hT hv b hb
  have hak : ∀ x ∈ a.kids, x.Is w.heap.size w := by
    rcases a with ⟨⟩
    exact ha.down.2.2
  have hTK : vsum p.mons ≤ 1000000 → a.tero p.mons = none → ∀ x ∈ a.kids, ∀ W, Below w.heap.size w W → Calls Tryd.prog 11 #[p.val, x.val] W fun r w' => r = .returned (.tuple #[.int .i64 (x.is p.mons), .int .i64 0, .int .i64 0]) ∧ Below W.heap.size W w' := fun hv h x hx W hW => TyBack.no (hT hv x (hak x hx) W hW) (HKT.out h x hx)
  have hsl : SlAt 6 Ex.cells w.heap.size w a.ad0 a.cap0 a.kids := by
    rcases a with ⟨⟩
    exact ha.down.2.1
  clear hT hak HKT hp ha hb hS
  obtain ⟨ta, hta⟩ : ∃ ta, a.tero p.mons = ta := ⟨_, rfl⟩
  obtain ⟨tb, htb⟩ : ∃ tb, b.tero p.mons = tb := ⟨_, rfl⟩
  obtain ⟨ia, hia⟩ : ∃ ia, a.is p.mons = ia := ⟨_, rfl⟩
  obtain ⟨ib, hib⟩ : ∃ ib, b.is p.mons = ib := ⟨_, rfl⟩
  obtain ⟨ra, hra⟩ : ∃ ra, restE a 300 = ra := ⟨_, rfl⟩
  obtain ⟨rb, hrb⟩ : ∃ rb, restE b 300 = rb := ⟨_, rfl⟩
  simp only [hta, htb, hia, hib] at hTA hTB hTK HPN HA1 HB1 HA2 HB2
  simp only [hra, hrb] at h9a h9b
  obtain ⟨TG, hTG⟩ : ∃ T, pairT p.mons 16 a b = T := ⟨_, rfl⟩
  obtain ⟨TH, hTH⟩ : ∃ T, pairT p.mons 8 a b = T := ⟨_, rfl⟩
  obtain ⟨TI, hTI⟩ : ∃ T, pairT p.mons 10 a b = T := ⟨_, rfl⟩
  have HG1 := hid (HPN.out 16 (.inl rfl)); have HH1 := hid (HPN.out 8 (.inr (.inl rfl))); have HI1 := hid (HPN.out 10 (.inr (.inr rfl)))
  have HG2 := hid (HPO.out 16 (.inl rfl)); have HH2 := hid (HPO.out 8 (.inr (.inl rfl))); have HI2 := hid (HPO.out 10 (.inr (.inr rfl)))
  have hPG := fun hv => hPT hv 16 (.inl rfl); have hPH := fun hv => hPT hv 8 (.inr (.inl rfl)); have hPI := fun hv => hPT hv 10 (.inr (.inr rfl))
  simp only [show opIs 16 = 1 from rfl] at hPG
  simp only [show opIs 8 = 2 from rfl] at hPH
  simp only [show opIs 10 = 1 from rfl] at hPI
  simp only [hTG] at HG1 HG2 hPG
  simp only [hTH] at HH1 HH2 hPH
  simp only [hTI] at HI1 HI2 hPI
  clear hTG hTH hTI HPN HPO hPT hta htb hia hib hra hrb
  obtain ⟨pad, hpad⟩ : ∃ a, p.mad = a := ⟨_, rfl⟩
  obtain ⟨pml, hpml⟩ : ∃ a, p.mons.length = a := ⟨_, rfl⟩
  obtain ⟨pmc, hpmc⟩ : ∃ a, p.mcap = a := ⟨_, rfl⟩
  obtain ⟨prd, hprd⟩ : ∃ a, p.rad = a := ⟨_, rfl⟩
  obtain ⟨prl, hprl⟩ : ∃ a, p.roles.length = a := ⟨_, rfl⟩
  obtain ⟨prc, hprc⟩ : ∃ a, p.rcap = a := ⟨_, rfl⟩
  simp only [Pr.val, hpad, hpml, hpmc, hprd, hprl, hprc] at h8 hTA hTB hTK hPG hPH hPI ⊢
  clear hpad hpml hpmc hprd hprl hprc
  rcases a with ⟨aop, amon, aname, an, aad, acap, akids, apos⟩
  rcases b with ⟨bop, bmon, bname, bn, bad, bcap, bkids, bpos⟩
  simp only [Ex.val, Ex.cells, pairE, List.length_cons, List.length_nil, Nat.zero_add, Nat.reduceAdd, List.cons_append, List.nil_append] at h9a h9b hTA hTB hPG hPH hPI ⊢
  simp only [Ex.kids, Ex.ad0, Ex.cap0] at hTK hsl
  have hl1 := hsl.1; have hl2 := hsl.2.1
  unfold maxLen at hl2
  go_enter Tryd.func5, Tryd.ntmps5
  go_upto_region 1 with fail
  obtain ⟨e1, e2, e3, hB, hz⟩ := three_box w #[.slice pad pml pmc, .slice prd prl prc] #[.int .i64 aop, .string amon, .string aname, .int .i64 an, .slice aad akids.length acap, .int .i64 apos] #[.int .i64 bop, .string bmon, .string bname, .int .i64 bn, .slice bad bkids.length bcap, .int .i64 bpos] 25 28 28
  obtain ⟨W0, hW0⟩ : ∃ W0, ((w.alloc (.cells #[.slice pad pml pmc, .slice prd prl prc] 25)).alloc (.cells #[.int .i64 aop, .string amon, .string aname, .int .i64 an, .slice aad akids.length acap, .int .i64 apos] 28)).alloc (.cells #[.int .i64 bop, .string bmon, .string bname, .int .i64 bn, .slice bad bkids.length bcap, .int .i64 bpos] 28) = W0 := ⟨_, rfl⟩
  rw [hW0] at e1 e2 e3 hB hz ⊢
  clear hW0
  have HK : Hid (∀ W, Below W0.heap.size W0 W → W.heap[w.heap.size]? = some (.cells #[.slice pad pml pmc, .slice prd prl prc] 25 (0, 0)) ∧ W.heap[w.heap.size + 1]? = some (.cells #[.int .i64 aop, .string amon, .string aname, .int .i64 an, .slice aad akids.length acap, .int .i64 apos] 28 (0, 0)) ∧ W.heap[w.heap.size + 2]? = some (.cells #[.int .i64 bop, .string bmon, .string bname, .int .i64 bn, .slice bad bkids.length bcap, .int .i64 bpos] 28 (0, 0))) := fun W hW => ⟨(hW.block _ (by omega)).trans e1, (hW.block _ (by omega)).trans e2, (hW.block _ (by omega)).trans e3⟩
  have HZ := hid hz
  clear hz
  have r0 := cellOf e1 0
  have r1 := cellOf e1 1
  have a0 := cellOf e2 0
  have a1 := cellOf e2 1
  have a2 := cellOf e2 2
  have a3 := cellOf e2 3
  have a4 := cellOf e2 4
  have a5 := cellOf e2 5
  have b0 := cellOf e3 0
  have b1 := cellOf e3 1
  have b2 := cellOf e3 2
  have b3 := cellOf e3 3
  have b4 := cellOf e3 4
  have b5 := cellOf e3 5
  simp at r0 r1 a0 a1 a2 a3 a4 a5 b0 b1 b2 b3 b4 b5
  clear e1 e2 e3
  have B : Below W0.heap.size W0 W0 := Below.refl _ _
  by_cases g1 : ra < 0
  · go_upto_if 3 with (first
      | (go_at_call 8; (with_reducible refine (h8 _ hB).mono ?_); rintro r u1 ⟨c, rfl, -, bb⟩; have B := B.tr le_rfl' bb; obtain ⟨e1, e2, e3⟩ := HK.out _ B; have r0 := cellOf e1 0; have r1 := cellOf e1 1; have a0 := cellOf e2 0; have a1 := cellOf e2 1; have a2 := cellOf e2 2; have a3 := cellOf e2 3; have a4 := cellOf e2 4; have a5 := cellOf e2 5; have b0 := cellOf e3 0; have b1 := cellOf e3 1; have b2 := cellOf e3 2; have b3 := cellOf e3 3; have b4 := cellOf e3 4; have b5 := cellOf e3 5; simp at r0 r1 a0 a1 a2 a3 a4 a5 b0 b1 b2 b3 b4 b5; clear e1 e2 e3; cases c)
      | (go_at_call 9; (with_reducible refine (h9a _ (hB.tr le_rfl' B)).mono ?_); rintro r u2 ⟨rfl, bb⟩; have B := B.tr le_rfl' bb; obtain ⟨e1, e2, e3⟩ := HK.out _ B; have r0 := cellOf e1 0; have r1 := cellOf e1 1; have a0 := cellOf e2 0; have a1 := cellOf e2 1; have a2 := cellOf e2 2; have a3 := cellOf e2 3; have a4 := cellOf e2 4; have a5 := cellOf e2 5; have b0 := cellOf e3 0; have b1 := cellOf e3 1; have b2 := cellOf e3 2; have b3 := cellOf e3 3; have b4 := cellOf e3 4; have b5 := cellOf e3 5; simp at r0 r1 a0 a1 a2 a3 a4 a5 b0 b1 b2 b3 b4 b5; clear e1 e2 e3))
    all_goals ((with_reducible refine (h10 _ (hB.tr le_rfl' B)).mono ?_); rintro r u3 ⟨rfl, bb⟩; have B := B.tr le_rfl' bb)
    all_goals go_wp2
    all_goals go_ret
    all_goals exact ⟨rfl, hB.tr le_rfl' B⟩
  have g1' : decide (ra < 0) = false := by simp; omega
  by_cases g2 : rb < 0
  · go_upto_if 3 with (first
      | (go_at_call 8; (with_reducible refine (h8 _ hB).mono ?_); rintro r u1 ⟨c, rfl, -, bb⟩; have B := B.tr le_rfl' bb; obtain ⟨e1, e2, e3⟩ := HK.out _ B; have r0 := cellOf e1 0; have r1 := cellOf e1 1; have a0 := cellOf e2 0; have a1 := cellOf e2 1; have a2 := cellOf e2 2; have a3 := cellOf e2 3; have a4 := cellOf e2 4; have a5 := cellOf e2 5; have b0 := cellOf e3 0; have b1 := cellOf e3 1; have b2 := cellOf e3 2; have b3 := cellOf e3 3; have b4 := cellOf e3 4; have b5 := cellOf e3 5; simp at r0 r1 a0 a1 a2 a3 a4 a5 b0 b1 b2 b3 b4 b5; clear e1 e2 e3; cases c)
      | (go_at_call 9; (with_reducible refine (h9a _ (hB.tr le_rfl' B)).mono ?_); rintro r u2 ⟨rfl, bb⟩; have B := B.tr le_rfl' bb; obtain ⟨e1, e2, e3⟩ := HK.out _ B; have r0 := cellOf e1 0; have r1 := cellOf e1 1; have a0 := cellOf e2 0; have a1 := cellOf e2 1; have a2 := cellOf e2 2; have a3 := cellOf e2 3; have a4 := cellOf e2 4; have a5 := cellOf e2 5; have b0 := cellOf e3 0; have b1 := cellOf e3 1; have b2 := cellOf e3 2; have b3 := cellOf e3 3; have b4 := cellOf e3 4; have b5 := cellOf e3 5; simp at r0 r1 a0 a1 a2 a3 a4 a5 b0 b1 b2 b3 b4 b5; clear e1 e2 e3)
      | (go_at_call 9; (with_reducible refine (h9b _ (hB.tr le_rfl' B)).mono ?_); rintro r u2 ⟨rfl, bb⟩; have B := B.tr le_rfl' bb; obtain ⟨e1, e2, e3⟩ := HK.out _ B; have r0 := cellOf e1 0; have r1 := cellOf e1 1; have a0 := cellOf e2 0; have a1 := cellOf e2 1; have a2 := cellOf e2 2; have a3 := cellOf e2 3; have a4 := cellOf e2 4; have a5 := cellOf e2 5; have b0 := cellOf e3 0; have b1 := cellOf e3 1; have b2 := cellOf e3 2; have b3 := cellOf e3 3; have b4 := cellOf e3 4; have b5 := cellOf e3 5; simp at r0 r1 a0 a1 a2 a3 a4 a5 b0 b1 b2 b3 b4 b5; clear e1 e2 e3))
    all_goals ((with_reducible refine (h10 _ (hB.tr le_rfl' B)).mono ?_); rintro r u3 ⟨rfl, bb⟩; have B := B.tr le_rfl' bb)
    all_goals go_wp2
    all_goals go_ret
    all_goals exact ⟨rfl, hB.tr le_rfl' B⟩
  have g2' : decide (rb < 0) = false := by simp; omega
  clear g1 g2
  go_upto_if 3 with (first
    | (go_at_call 8; (with_reducible refine (h8 _ hB).mono ?_); rintro r u1 ⟨c, rfl, hsm, bb⟩; have B := B.tr le_rfl' bb; obtain ⟨e1, e2, e3⟩ := HK.out _ B; have r0 := cellOf e1 0; have r1 := cellOf e1 1; have a0 := cellOf e2 0; have a1 := cellOf e2 1; have a2 := cellOf e2 2; have a3 := cellOf e2 3; have a4 := cellOf e2 4; have a5 := cellOf e2 5; have b0 := cellOf e3 0; have b1 := cellOf e3 1; have b2 := cellOf e3 2; have b3 := cellOf e3 3; have b4 := cellOf e3 4; have b5 := cellOf e3 5; simp at r0 r1 a0 a1 a2 a3 a4 a5 b0 b1 b2 b3 b4 b5; clear e1 e2 e3; cases c)
    | (go_at_call 9; (with_reducible refine (h9a _ (hB.tr le_rfl' B)).mono ?_); rintro r u2 ⟨rfl, bb⟩; have B := B.tr le_rfl' bb; obtain ⟨e1, e2, e3⟩ := HK.out _ B; have r0 := cellOf e1 0; have r1 := cellOf e1 1; have a0 := cellOf e2 0; have a1 := cellOf e2 1; have a2 := cellOf e2 2; have a3 := cellOf e2 3; have a4 := cellOf e2 4; have a5 := cellOf e2 5; have b0 := cellOf e3 0; have b1 := cellOf e3 1; have b2 := cellOf e3 2; have b3 := cellOf e3 3; have b4 := cellOf e3 4; have b5 := cellOf e3 5; simp at r0 r1 a0 a1 a2 a3 a4 a5 b0 b1 b2 b3 b4 b5; clear e1 e2 e3)
    | (go_at_call 9; (with_reducible refine (h9b _ (hB.tr le_rfl' B)).mono ?_); rintro r u3 ⟨rfl, bb⟩; have B := B.tr le_rfl' bb; obtain ⟨e1, e2, e3⟩ := HK.out _ B; have r0 := cellOf e1 0; have r1 := cellOf e1 1; have a0 := cellOf e2 0; have a1 := cellOf e2 1; have a2 := cellOf e2 2; have a3 := cellOf e2 3; have a4 := cellOf e2 4; have a5 := cellOf e2 5; have b0 := cellOf e3 0; have b1 := cellOf e3 1; have b2 := cellOf e3 2; have b3 := cellOf e3 3; have b4 := cellOf e3 4; have b5 := cellOf e3 5; simp at r0 r1 a0 a1 a2 a3 a4 a5 b0 b1 b2 b3 b4 b5; clear e1 e2 e3))
  · (with_reducible refine (h10 _ (hB.tr le_rfl' B)).mono ?_); rintro r u4 ⟨rfl, bb⟩
    have B := B.tr le_rfl' bb
    go_wp2
    go_ret
    exact ⟨rfl, hB.tr le_rfl' B⟩
  have hv := HSM.out (hsm (by trivial)).2.1 (hsm (by trivial)).2.2
  have hTA := hTA hv; have hTB := hTB hv; have hTK := hTK hv; have hPG := hPG hv; have hPH := hPH hv; have hPI := hPI hv
  clear hsm hv HSM h8 h9a h9b
  rcases ta with _ | ⟨ca, xa⟩
  case some =>
    obtain ⟨c', x', he, hca⟩ := HA1.out (by simp)
    simp only [Option.some.injEq, Prod.mk.injEq] at he
    obtain ⟨rfl, rfl⟩ := he
    have hTA := fun W hW => TyBack.yes (hTA W hW) rfl
    have hTB := fun W hW => TyBack.uni (hTB W hW)
    obtain ⟨sb, hsb⟩ : ∃ x, tyS ib tb = x := ⟨_, rfl⟩
    obtain ⟨cb, hcb⟩ : ∃ x, tyC tb = x := ⟨_, rfl⟩
    obtain ⟨xb, hxb⟩ : ∃ x, tyX tb = x := ⟨_, rfl⟩
    simp only [hsb, hcb, hxb] at hTB
    clear hsb hcb hxb
    obtain ⟨cG, xG, hTG, hcG⟩ := HG2.out (fun h => by have h5 := HG1.out.1 h; have h6 := h5.1; cases h6)
    subst hTG
    have hG := fun q W hq hW hb => TyBack.yes (hPG q W hq hW hb) rfl
    obtain ⟨cH, xH, hTH, hcH⟩ := HH2.out (fun h => by have h5 := HH1.out.1 h; have h6 := h5.1; cases h6)
    subst hTH
    have hH := fun q W hq hW hb => TyBack.yes (hPH q W hq hW hb) rfl
    obtain ⟨cI, xI, hTI, hcI⟩ := HI2.out (fun h => by have h5 := HI1.out.1 h; have h6 := h5.1; cases h6)
    subst hTI
    have hI := fun q W hq hW hb => TyBack.yes (hPI q W hq hW hb) rfl
    clear HG1 HH1 HI1 HG2 HH2 HI2 HA1 HB1 HA2 HB2 hPG hPH hPI hTK
    (with_reducible refine (hTA _ (hB.tr le_rfl' B)).mono ?_); rintro r u5 ⟨rfl, bb⟩
    have B := B.tr le_rfl' bb
    obtain ⟨e1, e2, e3⟩ := HK.out _ B
    have r0 := cellOf e1 0
    have r1 := cellOf e1 1
    have a0 := cellOf e2 0
    have a1 := cellOf e2 1
    have a2 := cellOf e2 2
    have a3 := cellOf e2 3
    have a4 := cellOf e2 4
    have a5 := cellOf e2 5
    have b0 := cellOf e3 0
    have b1 := cellOf e3 1
    have b2 := cellOf e3 2
    have b3 := cellOf e3 3
    have b4 := cellOf e3 4
    have b5 := cellOf e3 5
    simp at r0 r1 a0 a1 a2 a3 a4 a5 b0 b1 b2 b3 b4 b5
    clear e1 e2 e3
    go_upto_region 6 with (go_at_call 11; (with_reducible refine (hTB _ (hB.tr le_rfl' B)).mono ?_); rintro r u6 ⟨rfl, bb⟩; have B := B.tr le_rfl' bb; obtain ⟨e1, e2, e3⟩ := HK.out _ B; have r0 := cellOf e1 0; have r1 := cellOf e1 1; have a0 := cellOf e2 0; have a1 := cellOf e2 1; have a2 := cellOf e2 2; have a3 := cellOf e2 3; have a4 := cellOf e2 4; have a5 := cellOf e2 5; have b0 := cellOf e3 0; have b1 := cellOf e3 1; have b2 := cellOf e3 2; have b3 := cellOf e3 3; have b4 := cellOf e3 4; have b5 := cellOf e3 5; simp at r0 r1 a0 a1 a2 a3 a4 a5 b0 b1 b2 b3 b4 b5; clear e1 e2 e3)
    have hq0 := heapNew u6 (.cells #[.int .i64 aop, .string amon, .string aname, .int .i64 an, .slice aad akids.length acap, .int .i64 apos, .int .i64 bop, .string bmon, .string bname, .int .i64 bn, .slice bad bkids.length bcap, .int .i64 bpos] 28)
    have hBQ : Below W0.heap.size W0 (u6.alloc (.cells #[.int .i64 aop, .string amon, .string aname, .int .i64 an, .slice aad akids.length acap, .int .i64 apos, .int .i64 bop, .string bmon, .string bname, .int .i64 bn, .slice bad bkids.length bcap, .int .i64 bpos] 28)) := B.al le_rfl' _
    have hqz : u6.heap.size < (u6.alloc (.cells #[.int .i64 aop, .string amon, .string aname, .int .i64 an, .slice aad akids.length acap, .int .i64 apos, .int .i64 bop, .string bmon, .string bname, .int .i64 bn, .slice bad bkids.length bcap, .int .i64 bpos] 28)).heap.size := by simp
    obtain ⟨W3, hW3⟩ : ∃ W3, u6.alloc (.cells #[.int .i64 aop, .string amon, .string aname, .int .i64 an, .slice aad akids.length acap, .int .i64 apos, .int .i64 bop, .string bmon, .string bname, .int .i64 bn, .slice bad bkids.length bcap, .int .i64 bpos] 28) = W3 := ⟨_, rfl⟩
    rw [hW3] at hq0 hBQ hqz ⊢
    obtain ⟨q, hq⟩ : ∃ q, u6.heap.size = q := ⟨_, rfl⟩
    rw [hq] at hq0 hqz ⊢
    clear hW3 hq
    have hG3 := fun W (hW : Below W3.heap.size W3 W) => hG q W (by have := hW.size; omega) ((hB.tr le_rfl' hBQ).tr le_rfl' hW) ((hW.block q hqz).trans hq0)
    have hH3 := fun W (hW : Below W3.heap.size W3 W) => hH q W (by have := hW.size; omega) ((hB.tr le_rfl' hBQ).tr le_rfl' hW) ((hW.block q hqz).trans hq0)
    have hI3 := fun W (hW : Below W3.heap.size W3 W) => hI q W (by have := hW.size; omega) ((hB.tr le_rfl' hBQ).tr le_rfl' hW) ((hW.block q hqz).trans hq0)
    clear hG hH hI hTA hTB r0 r1 a0 a1 a2 a3 a4 a5 b0 b1 b2 b3 b4 b5
    have C : Below W3.heap.size W3 W3 := Below.refl _ _
    obtain ⟨e1, e2, e3⟩ := HK.out _ hBQ
    have r0 := cellOf e1 0
    have r1 := cellOf e1 1
    have a0 := cellOf e2 0
    have a1 := cellOf e2 1
    have a2 := cellOf e2 2
    have a3 := cellOf e2 3
    have a4 := cellOf e2 4
    have a5 := cellOf e2 5
    have b0 := cellOf e3 0
    have b1 := cellOf e3 1
    have b2 := cellOf e3 2
    have b3 := cellOf e3 3
    have b4 := cellOf e3 4
    have b5 := cellOf e3 5
    simp at r0 r1 a0 a1 a2 a3 a4 a5 b0 b1 b2 b3 b4 b5
    clear e1 e2 e3
    go_wp2_with (first
      | (go_at_call 11; (with_reducible refine (hG3 _ C).mono ?_); rintro r u7 ⟨rfl, bb⟩; have C := C.tr le_rfl' bb; obtain ⟨e1, e2, e3⟩ := HK.out _ (hBQ.tr le_rfl' C); have r0 := cellOf e1 0; have r1 := cellOf e1 1; have a0 := cellOf e2 0; have a1 := cellOf e2 1; have a2 := cellOf e2 2; have a3 := cellOf e2 3; have a4 := cellOf e2 4; have a5 := cellOf e2 5; have b0 := cellOf e3 0; have b1 := cellOf e3 1; have b2 := cellOf e3 2; have b3 := cellOf e3 3; have b4 := cellOf e3 4; have b5 := cellOf e3 5; simp at r0 r1 a0 a1 a2 a3 a4 a5 b0 b1 b2 b3 b4 b5; clear e1 e2 e3)
      | (go_at_call 11; (with_reducible refine (hH3 _ C).mono ?_); rintro r u8 ⟨rfl, bb⟩; have C := C.tr le_rfl' bb; obtain ⟨e1, e2, e3⟩ := HK.out _ (hBQ.tr le_rfl' C); have r0 := cellOf e1 0; have r1 := cellOf e1 1; have a0 := cellOf e2 0; have a1 := cellOf e2 1; have a2 := cellOf e2 2; have a3 := cellOf e2 3; have a4 := cellOf e2 4; have a5 := cellOf e2 5; have b0 := cellOf e3 0; have b1 := cellOf e3 1; have b2 := cellOf e3 2; have b3 := cellOf e3 3; have b4 := cellOf e3 4; have b5 := cellOf e3 5; simp at r0 r1 a0 a1 a2 a3 a4 a5 b0 b1 b2 b3 b4 b5; clear e1 e2 e3)
      | (go_at_call 11; (with_reducible refine (hI3 _ C).mono ?_); rintro r u9 ⟨rfl, bb⟩; have C := C.tr le_rfl' bb; obtain ⟨e1, e2, e3⟩ := HK.out _ (hBQ.tr le_rfl' C); have r0 := cellOf e1 0; have r1 := cellOf e1 1; have a0 := cellOf e2 0; have a1 := cellOf e2 1; have a2 := cellOf e2 2; have a3 := cellOf e2 3; have a4 := cellOf e2 4; have a5 := cellOf e2 5; have b0 := cellOf e3 0; have b1 := cellOf e3 1; have b2 := cellOf e3 2; have b3 := cellOf e3 3; have b4 := cellOf e3 4; have b5 := cellOf e3 5; simp at r0 r1 a0 a1 a2 a3 a4 a5 b0 b1 b2 b3 b4 b5; clear e1 e2 e3)
      | (go_at_call 13; (with_reducible refine (h13 _ _).mono ?_); rintro r w' ⟨rfl, hw'⟩; have hw2 := hw'.symm; subst hw2))
    go_loopw [24] (fun i wr => i = .int .i64 0 ∧ wr = u9) (fun _ _ => 0)
    case atStart => exact ⟨rfl, rfl⟩
    case round =>
      obtain ⟨rfl, hwr⟩ := hrel
      have hw2 := hwr.symm
      subst hw2
      go_wp2_with (go_at_call 10; (with_reducible refine (h10 _ ((hB.tr le_rfl' hBQ).tr le_rfl' C)).mono ?_); rintro r u10 ⟨rfl, bb⟩; have C := C.tr le_rfl' bb)
      go_ret
      exact ⟨rfl, (hB.tr le_rfl' hBQ).tr le_rfl' C⟩
  have hTA := fun W hW => TyBack.no (hTA W hW) rfl
  rcases tb with _ | ⟨cb, xb⟩
  case some =>
    obtain ⟨c', x', he, hcb⟩ := HB1.out (by simp)
    simp only [Option.some.injEq, Prod.mk.injEq] at he
    obtain ⟨rfl, rfl⟩ := he
    have hTB := fun W hW => TyBack.yes (hTB W hW) rfl
    obtain ⟨cG, xG, hTG, hcG⟩ := HG2.out (fun h => by have h5 := HG1.out.1 h; have h6 := h5.2.1; cases h6)
    subst hTG
    have hG := fun q W hq hW hb => TyBack.yes (hPG q W hq hW hb) rfl
    obtain ⟨cH, xH, hTH, hcH⟩ := HH2.out (fun h => by have h5 := HH1.out.1 h; have h6 := h5.2.1; cases h6)
    subst hTH
    have hH := fun q W hq hW hb => TyBack.yes (hPH q W hq hW hb) rfl
    obtain ⟨cI, xI, hTI, hcI⟩ := HI2.out (fun h => by have h5 := HI1.out.1 h; have h6 := h5.2.1; cases h6)
    subst hTI
    have hI := fun q W hq hW hb => TyBack.yes (hPI q W hq hW hb) rfl
    clear HG1 HH1 HI1 HG2 HH2 HI2 HA1 HB1 HA2 HB2 hPG hPH hPI hTK
    (with_reducible refine (hTA _ (hB.tr le_rfl' B)).mono ?_); rintro r u5 ⟨rfl, bb⟩
    have B := B.tr le_rfl' bb
    obtain ⟨e1, e2, e3⟩ := HK.out _ B
    have r0 := cellOf e1 0
    have r1 := cellOf e1 1
    have a0 := cellOf e2 0
    have a1 := cellOf e2 1
    have a2 := cellOf e2 2
    have a3 := cellOf e2 3
    have a4 := cellOf e2 4
    have a5 := cellOf e2 5
    have b0 := cellOf e3 0
    have b1 := cellOf e3 1
    have b2 := cellOf e3 2
    have b3 := cellOf e3 3
    have b4 := cellOf e3 4
    have b5 := cellOf e3 5
    simp at r0 r1 a0 a1 a2 a3 a4 a5 b0 b1 b2 b3 b4 b5
    clear e1 e2 e3
    go_upto_region 6 with (go_at_call 11; (with_reducible refine (hTB _ (hB.tr le_rfl' B)).mono ?_); rintro r u6 ⟨rfl, bb⟩; have B := B.tr le_rfl' bb; obtain ⟨e1, e2, e3⟩ := HK.out _ B; have r0 := cellOf e1 0; have r1 := cellOf e1 1; have a0 := cellOf e2 0; have a1 := cellOf e2 1; have a2 := cellOf e2 2; have a3 := cellOf e2 3; have a4 := cellOf e2 4; have a5 := cellOf e2 5; have b0 := cellOf e3 0; have b1 := cellOf e3 1; have b2 := cellOf e3 2; have b3 := cellOf e3 3; have b4 := cellOf e3 4; have b5 := cellOf e3 5; simp at r0 r1 a0 a1 a2 a3 a4 a5 b0 b1 b2 b3 b4 b5; clear e1 e2 e3)
    have hq0 := heapNew u6 (.cells #[.int .i64 aop, .string amon, .string aname, .int .i64 an, .slice aad akids.length acap, .int .i64 apos, .int .i64 bop, .string bmon, .string bname, .int .i64 bn, .slice bad bkids.length bcap, .int .i64 bpos] 28)
    have hBQ : Below W0.heap.size W0 (u6.alloc (.cells #[.int .i64 aop, .string amon, .string aname, .int .i64 an, .slice aad akids.length acap, .int .i64 apos, .int .i64 bop, .string bmon, .string bname, .int .i64 bn, .slice bad bkids.length bcap, .int .i64 bpos] 28)) := B.al le_rfl' _
    have hqz : u6.heap.size < (u6.alloc (.cells #[.int .i64 aop, .string amon, .string aname, .int .i64 an, .slice aad akids.length acap, .int .i64 apos, .int .i64 bop, .string bmon, .string bname, .int .i64 bn, .slice bad bkids.length bcap, .int .i64 bpos] 28)).heap.size := by simp
    obtain ⟨W3, hW3⟩ : ∃ W3, u6.alloc (.cells #[.int .i64 aop, .string amon, .string aname, .int .i64 an, .slice aad akids.length acap, .int .i64 apos, .int .i64 bop, .string bmon, .string bname, .int .i64 bn, .slice bad bkids.length bcap, .int .i64 bpos] 28) = W3 := ⟨_, rfl⟩
    rw [hW3] at hq0 hBQ hqz ⊢
    obtain ⟨q, hq⟩ : ∃ q, u6.heap.size = q := ⟨_, rfl⟩
    rw [hq] at hq0 hqz ⊢
    clear hW3 hq
    have hG3 := fun W (hW : Below W3.heap.size W3 W) => hG q W (by have := hW.size; omega) ((hB.tr le_rfl' hBQ).tr le_rfl' hW) ((hW.block q hqz).trans hq0)
    have hH3 := fun W (hW : Below W3.heap.size W3 W) => hH q W (by have := hW.size; omega) ((hB.tr le_rfl' hBQ).tr le_rfl' hW) ((hW.block q hqz).trans hq0)
    have hI3 := fun W (hW : Below W3.heap.size W3 W) => hI q W (by have := hW.size; omega) ((hB.tr le_rfl' hBQ).tr le_rfl' hW) ((hW.block q hqz).trans hq0)
    clear hG hH hI hTA hTB r0 r1 a0 a1 a2 a3 a4 a5 b0 b1 b2 b3 b4 b5
    have C : Below W3.heap.size W3 W3 := Below.refl _ _
    obtain ⟨e1, e2, e3⟩ := HK.out _ hBQ
    have r0 := cellOf e1 0
    have r1 := cellOf e1 1
    have a0 := cellOf e2 0
    have a1 := cellOf e2 1
    have a2 := cellOf e2 2
    have a3 := cellOf e2 3
    have a4 := cellOf e2 4
    have a5 := cellOf e2 5
    have b0 := cellOf e3 0
    have b1 := cellOf e3 1
    have b2 := cellOf e3 2
    have b3 := cellOf e3 3
    have b4 := cellOf e3 4
    have b5 := cellOf e3 5
    simp at r0 r1 a0 a1 a2 a3 a4 a5 b0 b1 b2 b3 b4 b5
    clear e1 e2 e3
    go_wp2_with (first
      | (go_at_call 11; (with_reducible refine (hG3 _ C).mono ?_); rintro r u7 ⟨rfl, bb⟩; have C := C.tr le_rfl' bb; obtain ⟨e1, e2, e3⟩ := HK.out _ (hBQ.tr le_rfl' C); have r0 := cellOf e1 0; have r1 := cellOf e1 1; have a0 := cellOf e2 0; have a1 := cellOf e2 1; have a2 := cellOf e2 2; have a3 := cellOf e2 3; have a4 := cellOf e2 4; have a5 := cellOf e2 5; have b0 := cellOf e3 0; have b1 := cellOf e3 1; have b2 := cellOf e3 2; have b3 := cellOf e3 3; have b4 := cellOf e3 4; have b5 := cellOf e3 5; simp at r0 r1 a0 a1 a2 a3 a4 a5 b0 b1 b2 b3 b4 b5; clear e1 e2 e3)
      | (go_at_call 11; (with_reducible refine (hH3 _ C).mono ?_); rintro r u8 ⟨rfl, bb⟩; have C := C.tr le_rfl' bb; obtain ⟨e1, e2, e3⟩ := HK.out _ (hBQ.tr le_rfl' C); have r0 := cellOf e1 0; have r1 := cellOf e1 1; have a0 := cellOf e2 0; have a1 := cellOf e2 1; have a2 := cellOf e2 2; have a3 := cellOf e2 3; have a4 := cellOf e2 4; have a5 := cellOf e2 5; have b0 := cellOf e3 0; have b1 := cellOf e3 1; have b2 := cellOf e3 2; have b3 := cellOf e3 3; have b4 := cellOf e3 4; have b5 := cellOf e3 5; simp at r0 r1 a0 a1 a2 a3 a4 a5 b0 b1 b2 b3 b4 b5; clear e1 e2 e3)
      | (go_at_call 11; (with_reducible refine (hI3 _ C).mono ?_); rintro r u9 ⟨rfl, bb⟩; have C := C.tr le_rfl' bb; obtain ⟨e1, e2, e3⟩ := HK.out _ (hBQ.tr le_rfl' C); have r0 := cellOf e1 0; have r1 := cellOf e1 1; have a0 := cellOf e2 0; have a1 := cellOf e2 1; have a2 := cellOf e2 2; have a3 := cellOf e2 3; have a4 := cellOf e2 4; have a5 := cellOf e2 5; have b0 := cellOf e3 0; have b1 := cellOf e3 1; have b2 := cellOf e3 2; have b3 := cellOf e3 3; have b4 := cellOf e3 4; have b5 := cellOf e3 5; simp at r0 r1 a0 a1 a2 a3 a4 a5 b0 b1 b2 b3 b4 b5; clear e1 e2 e3)
      | (go_at_call 13; (with_reducible refine (h13 _ _).mono ?_); rintro r w' ⟨rfl, hw'⟩; have hw2 := hw'.symm; subst hw2))
    go_loopw [24] (fun i wr => i = .int .i64 0 ∧ wr = u9) (fun _ _ => 0)
    case atStart => exact ⟨rfl, rfl⟩
    case round =>
      obtain ⟨rfl, hwr⟩ := hrel
      have hw2 := hwr.symm
      subst hw2
      go_wp2_with (go_at_call 10; (with_reducible refine (h10 _ ((hB.tr le_rfl' hBQ).tr le_rfl' C)).mono ?_); rintro r u10 ⟨rfl, bb⟩; have C := C.tr le_rfl' bb)
      go_ret
      exact ⟨rfl, (hB.tr le_rfl' hBQ).tr le_rfl' C⟩
  have hTB := fun W hW => TyBack.no (hTB W hW) rfl
  rcases HA2.out rfl with rfl | rfl
  · rcases HB2.out rfl with rfl | rfl
    · have hG := fun q W hq hW hb => TyBack.no (hPG q W hq hW hb) (HG1.out.2 ⟨rfl, rfl, by decide⟩)
      obtain ⟨cH, xH, hTH, hcH⟩ := HH2.out (fun h => by have h5 := HH1.out.1 h; have h6 := h5.2.2; revert h6; decide)
      subst hTH
      have hH := fun q W hq hW hb => TyBack.yes (hPH q W hq hW hb) rfl
      have hI := fun q W hq hW hb => TyBack.no (hPI q W hq hW hb) (HI1.out.2 ⟨rfl, rfl, by decide⟩)
      clear HG1 HH1 HI1 HG2 HH2 HI2 HA1 HB1 HA2 HB2 hPG hPH hPI
      (with_reducible refine (hTA _ (hB.tr le_rfl' B)).mono ?_); rintro r u5 ⟨rfl, bb⟩
      have B := B.tr le_rfl' bb
      obtain ⟨e1, e2, e3⟩ := HK.out _ B
      have r0 := cellOf e1 0
      have r1 := cellOf e1 1
      have a0 := cellOf e2 0
      have a1 := cellOf e2 1
      have a2 := cellOf e2 2
      have a3 := cellOf e2 3
      have a4 := cellOf e2 4
      have a5 := cellOf e2 5
      have b0 := cellOf e3 0
      have b1 := cellOf e3 1
      have b2 := cellOf e3 2
      have b3 := cellOf e3 3
      have b4 := cellOf e3 4
      have b5 := cellOf e3 5
      simp at r0 r1 a0 a1 a2 a3 a4 a5 b0 b1 b2 b3 b4 b5
      clear e1 e2 e3
      go_upto_region 6 with (go_at_call 11; (with_reducible refine (hTB _ (hB.tr le_rfl' B)).mono ?_); rintro r u6 ⟨rfl, bb⟩; have B := B.tr le_rfl' bb; obtain ⟨e1, e2, e3⟩ := HK.out _ B; have r0 := cellOf e1 0; have r1 := cellOf e1 1; have a0 := cellOf e2 0; have a1 := cellOf e2 1; have a2 := cellOf e2 2; have a3 := cellOf e2 3; have a4 := cellOf e2 4; have a5 := cellOf e2 5; have b0 := cellOf e3 0; have b1 := cellOf e3 1; have b2 := cellOf e3 2; have b3 := cellOf e3 3; have b4 := cellOf e3 4; have b5 := cellOf e3 5; simp at r0 r1 a0 a1 a2 a3 a4 a5 b0 b1 b2 b3 b4 b5; clear e1 e2 e3)
      have hq0 := heapNew u6 (.cells #[.int .i64 aop, .string amon, .string aname, .int .i64 an, .slice aad akids.length acap, .int .i64 apos, .int .i64 bop, .string bmon, .string bname, .int .i64 bn, .slice bad bkids.length bcap, .int .i64 bpos] 28)
      have hBQ : Below W0.heap.size W0 (u6.alloc (.cells #[.int .i64 aop, .string amon, .string aname, .int .i64 an, .slice aad akids.length acap, .int .i64 apos, .int .i64 bop, .string bmon, .string bname, .int .i64 bn, .slice bad bkids.length bcap, .int .i64 bpos] 28)) := B.al le_rfl' _
      have hqz : u6.heap.size < (u6.alloc (.cells #[.int .i64 aop, .string amon, .string aname, .int .i64 an, .slice aad akids.length acap, .int .i64 apos, .int .i64 bop, .string bmon, .string bname, .int .i64 bn, .slice bad bkids.length bcap, .int .i64 bpos] 28)).heap.size := by simp
      obtain ⟨W3, hW3⟩ : ∃ W3, u6.alloc (.cells #[.int .i64 aop, .string amon, .string aname, .int .i64 an, .slice aad akids.length acap, .int .i64 apos, .int .i64 bop, .string bmon, .string bname, .int .i64 bn, .slice bad bkids.length bcap, .int .i64 bpos] 28) = W3 := ⟨_, rfl⟩
      rw [hW3] at hq0 hBQ hqz ⊢
      obtain ⟨q, hq⟩ : ∃ q, u6.heap.size = q := ⟨_, rfl⟩
      rw [hq] at hq0 hqz ⊢
      clear hW3 hq
      have hG3 := fun W (hW : Below W3.heap.size W3 W) => hG q W (by have := hW.size; omega) ((hB.tr le_rfl' hBQ).tr le_rfl' hW) ((hW.block q hqz).trans hq0)
      have hH3 := fun W (hW : Below W3.heap.size W3 W) => hH q W (by have := hW.size; omega) ((hB.tr le_rfl' hBQ).tr le_rfl' hW) ((hW.block q hqz).trans hq0)
      have hI3 := fun W (hW : Below W3.heap.size W3 W) => hI q W (by have := hW.size; omega) ((hB.tr le_rfl' hBQ).tr le_rfl' hW) ((hW.block q hqz).trans hq0)
      clear hG hH hI hTA hTB r0 r1 a0 a1 a2 a3 a4 a5 b0 b1 b2 b3 b4 b5
      have C : Below W3.heap.size W3 W3 := Below.refl _ _
      obtain ⟨e1, e2, e3⟩ := HK.out _ hBQ
      have r0 := cellOf e1 0
      have r1 := cellOf e1 1
      have a0 := cellOf e2 0
      have a1 := cellOf e2 1
      have a2 := cellOf e2 2
      have a3 := cellOf e2 3
      have a4 := cellOf e2 4
      have a5 := cellOf e2 5
      have b0 := cellOf e3 0
      have b1 := cellOf e3 1
      have b2 := cellOf e3 2
      have b3 := cellOf e3 3
      have b4 := cellOf e3 4
      have b5 := cellOf e3 5
      simp at r0 r1 a0 a1 a2 a3 a4 a5 b0 b1 b2 b3 b4 b5
      clear e1 e2 e3
      go_wp2_with (first
        | (go_at_call 11; (with_reducible refine (hG3 _ C).mono ?_); rintro r u7 ⟨rfl, bb⟩; have C := C.tr le_rfl' bb; obtain ⟨e1, e2, e3⟩ := HK.out _ (hBQ.tr le_rfl' C); have r0 := cellOf e1 0; have r1 := cellOf e1 1; have a0 := cellOf e2 0; have a1 := cellOf e2 1; have a2 := cellOf e2 2; have a3 := cellOf e2 3; have a4 := cellOf e2 4; have a5 := cellOf e2 5; have b0 := cellOf e3 0; have b1 := cellOf e3 1; have b2 := cellOf e3 2; have b3 := cellOf e3 3; have b4 := cellOf e3 4; have b5 := cellOf e3 5; simp at r0 r1 a0 a1 a2 a3 a4 a5 b0 b1 b2 b3 b4 b5; clear e1 e2 e3)
        | (go_at_call 11; (with_reducible refine (hH3 _ C).mono ?_); rintro r u8 ⟨rfl, bb⟩; have C := C.tr le_rfl' bb; obtain ⟨e1, e2, e3⟩ := HK.out _ (hBQ.tr le_rfl' C); have r0 := cellOf e1 0; have r1 := cellOf e1 1; have a0 := cellOf e2 0; have a1 := cellOf e2 1; have a2 := cellOf e2 2; have a3 := cellOf e2 3; have a4 := cellOf e2 4; have a5 := cellOf e2 5; have b0 := cellOf e3 0; have b1 := cellOf e3 1; have b2 := cellOf e3 2; have b3 := cellOf e3 3; have b4 := cellOf e3 4; have b5 := cellOf e3 5; simp at r0 r1 a0 a1 a2 a3 a4 a5 b0 b1 b2 b3 b4 b5; clear e1 e2 e3)
        | (go_at_call 11; (with_reducible refine (hI3 _ C).mono ?_); rintro r u9 ⟨rfl, bb⟩; have C := C.tr le_rfl' bb; obtain ⟨e1, e2, e3⟩ := HK.out _ (hBQ.tr le_rfl' C); have r0 := cellOf e1 0; have r1 := cellOf e1 1; have a0 := cellOf e2 0; have a1 := cellOf e2 1; have a2 := cellOf e2 2; have a3 := cellOf e2 3; have a4 := cellOf e2 4; have a5 := cellOf e2 5; have b0 := cellOf e3 0; have b1 := cellOf e3 1; have b2 := cellOf e3 2; have b3 := cellOf e3 3; have b4 := cellOf e3 4; have b5 := cellOf e3 5; simp at r0 r1 a0 a1 a2 a3 a4 a5 b0 b1 b2 b3 b4 b5; clear e1 e2 e3)
        | (go_at_call 13; (with_reducible refine (h13 _ _).mono ?_); rintro r w' ⟨rfl, hw'⟩; have hw2 := hw'.symm; subst hw2))
      clear r0 r1 a0 a1 a2 a3 a4 a5 b0 b1 b2 b3 b4 b5 hG3 hH3 hI3
      go_loopw [24] (fun i wr => ∃ k : Nat, k ≤ akids.length ∧ i = .int .i64 k ∧ Below W3.heap.size W3 wr)
        (fun i _ => akids.length - (intOf i).toNat)
      case atStart => exact ⟨0, by omega, rfl, C⟩
      case round =>
        obtain ⟨k, hk, rfl, hbw⟩ := hrel
        have hz1 := hbw.size
        have hbF := (hB.tr le_rfl' hBQ).tr le_rfl' hbw
        have hz2 := hBQ.size
        have hzz := HZ.out
        obtain ⟨e1, e2, e3⟩ := HK.out _ (hBQ.tr le_rfl' hbw)
        have r0 := cellOf e1 0
        have r1 := cellOf e1 1
        have a4 := cellOf e2 4
        simp at r0 r1 a4
        clear e1 e2 e3
        by_cases hlt : k < akids.length
        · rcases hsl.2.2 with h | ⟨kb, koff, rfl, hbn, hrow⟩
          · subst h; simp at hlt
          have hki : (k : Int) < (akids.length : Int) := by omega
          have hbn2 : kb < wr.heap.size := by have := hbF.size; omega
          have hrj := hrow.below hbF hbn
          have hq : ∀ W, Below wr.heap.size wr W → _ := fun W hW => hTK (by trivial) _ (List.getElem_mem hlt) W (hbF.tr le_rfl' hW)
          obtain ⟨ki, hki2⟩ : ∃ ki, akids[k].is p.mons = ki := ⟨_, rfl⟩
          rcases he' : akids[k] with ⟨kop, kmon, kname, kn, kad, kcap, kkids, kpos⟩
          obtain ⟨c0, c1, c2, c3, c4, c5⟩ := row6 hrj k hlt (by rw [he']; rfl)
          simp only [hki2] at hq
          simp only [he', Ex.val, Ex.cells] at hq
          clear he' hki2
          have HK2 : Hid (∀ W, Below wr.heap.size wr W → W.cell? ⟨w.heap.size, 0, none⟩ = some (.slice pad pml pmc) ∧ W.cell? ⟨w.heap.size, 1, none⟩ = some (.slice prd prl prc) ∧ W.cell? ⟨w.heap.size + 1, 4, none⟩ = some (.slice (some ⟨kb, koff, none⟩) akids.length acap) ∧ W.cell? ⟨kb, koff + k * 6, none⟩ = some (.int .i64 kop) ∧ W.cell? ⟨kb, koff + k * 6 + 1, none⟩ = some (.string kmon) ∧ W.cell? ⟨kb, koff + k * 6 + 2, none⟩ = some (.string kname) ∧ W.cell? ⟨kb, koff + k * 6 + 3, none⟩ = some (.int .i64 kn) ∧ W.cell? ⟨kb, koff + k * 6 + 4, none⟩ = some (.slice kad kkids.length kcap) ∧ W.cell? ⟨kb, koff + k * 6 + 5, none⟩ = some (.int .i64 kpos)) := fun W hW => ⟨(hW.cell (p := ⟨w.heap.size, 0, none⟩) (by show w.heap.size < _; omega)).trans r0, (hW.cell (p := ⟨w.heap.size, 1, none⟩) (by show w.heap.size < _; omega)).trans r1, (hW.cell (p := ⟨w.heap.size + 1, 4, none⟩) (by show w.heap.size + 1 < _; omega)).trans a4, (hW.cell (p := ⟨kb, _, none⟩) hbn2).trans c0, (hW.cell (p := ⟨kb, _, none⟩) hbn2).trans c1, (hW.cell (p := ⟨kb, _, none⟩) hbn2).trans c2, (hW.cell (p := ⟨kb, _, none⟩) hbn2).trans c3, (hW.cell (p := ⟨kb, _, none⟩) hbn2).trans c4, (hW.cell (p := ⟨kb, _, none⟩) hbn2).trans c5⟩
          have D := below_drewV (Below.refl wr.heap.size wr)
          clear c0 c1 c2 c3 c4 c5
          go_wp2
          go_region_held3 (fun W => W.cell? ⟨w.heap.size, 0, none⟩ = some (.slice pad pml pmc) ∧ W.cell? ⟨w.heap.size, 1, none⟩ = some (.slice prd prl prc) ∧ W.cell? ⟨w.heap.size + 1, 4, none⟩ = some (.slice (some ⟨kb, koff, none⟩) akids.length acap) ∧ W.cell? ⟨kb, koff + k * 6, none⟩ = some (.int .i64 kop) ∧ W.cell? ⟨kb, koff + k * 6 + 1, none⟩ = some (.string kmon) ∧ W.cell? ⟨kb, koff + k * 6 + 2, none⟩ = some (.string kname) ∧ W.cell? ⟨kb, koff + k * 6 + 3, none⟩ = some (.int .i64 kn) ∧ W.cell? ⟨kb, koff + k * 6 + 4, none⟩ = some (.slice kad kkids.length kcap) ∧ W.cell? ⟨kb, koff + k * 6 + 5, none⟩ = some (.int .i64 kpos)) (exact HK2.out _ D) (first | (go_at_call 11; (with_reducible refine (hq _ D).mono ?_); rintro r w1 ⟨rfl, bb⟩; have D := D.tr le_rfl' bb))
          all_goals go_wp2_with (go_at_call 13; (with_reducible refine (h13 _ _).mono ?_); rintro r w' ⟨rfl, hw'⟩; have hw2 := hw'.symm; subst hw2)
          all_goals go_roundw
          case rel => exact ⟨k + 1, by omega, by go_num, hbw.tr le_rfl' D⟩
          case measure => simp [intOf]; omega
        · have hjd : decide ((k : Int) < (akids.length : Int)) = false := by simp; omega
          go_wp2_with (go_at_call 10; (with_reducible refine (h10 _ hbF).mono ?_); rintro r u10 ⟨rfl, bb⟩)
          go_ret
          exact ⟨rfl, hbF.tr le_rfl' bb⟩
    · obtain ⟨cG, xG, hTG, hcG⟩ := HG2.out (fun h => by have h5 := HG1.out.1 h; have h6 := h5.2.2; revert h6; decide)
      subst hTG
      have hG := fun q W hq hW hb => TyBack.yes (hPG q W hq hW hb) rfl
      obtain ⟨cH, xH, hTH, hcH⟩ := HH2.out (fun h => by have h5 := HH1.out.1 h; have h6 := h5.2.2; revert h6; decide)
      subst hTH
      have hH := fun q W hq hW hb => TyBack.yes (hPH q W hq hW hb) rfl
      obtain ⟨cI, xI, hTI, hcI⟩ := HI2.out (fun h => by have h5 := HI1.out.1 h; have h6 := h5.2.2; revert h6; decide)
      subst hTI
      have hI := fun q W hq hW hb => TyBack.yes (hPI q W hq hW hb) rfl
      clear HG1 HH1 HI1 HG2 HH2 HI2 HA1 HB1 HA2 HB2 hPG hPH hPI
      (with_reducible refine (hTA _ (hB.tr le_rfl' B)).mono ?_); rintro r u5 ⟨rfl, bb⟩
      have B := B.tr le_rfl' bb
      obtain ⟨e1, e2, e3⟩ := HK.out _ B
      have r0 := cellOf e1 0
      have r1 := cellOf e1 1
      have a0 := cellOf e2 0
      have a1 := cellOf e2 1
      have a2 := cellOf e2 2
      have a3 := cellOf e2 3
      have a4 := cellOf e2 4
      have a5 := cellOf e2 5
      have b0 := cellOf e3 0
      have b1 := cellOf e3 1
      have b2 := cellOf e3 2
      have b3 := cellOf e3 3
      have b4 := cellOf e3 4
      have b5 := cellOf e3 5
      simp at r0 r1 a0 a1 a2 a3 a4 a5 b0 b1 b2 b3 b4 b5
      clear e1 e2 e3
      go_upto_region 6 with (go_at_call 11; (with_reducible refine (hTB _ (hB.tr le_rfl' B)).mono ?_); rintro r u6 ⟨rfl, bb⟩; have B := B.tr le_rfl' bb; obtain ⟨e1, e2, e3⟩ := HK.out _ B; have r0 := cellOf e1 0; have r1 := cellOf e1 1; have a0 := cellOf e2 0; have a1 := cellOf e2 1; have a2 := cellOf e2 2; have a3 := cellOf e2 3; have a4 := cellOf e2 4; have a5 := cellOf e2 5; have b0 := cellOf e3 0; have b1 := cellOf e3 1; have b2 := cellOf e3 2; have b3 := cellOf e3 3; have b4 := cellOf e3 4; have b5 := cellOf e3 5; simp at r0 r1 a0 a1 a2 a3 a4 a5 b0 b1 b2 b3 b4 b5; clear e1 e2 e3)
      have hq0 := heapNew u6 (.cells #[.int .i64 aop, .string amon, .string aname, .int .i64 an, .slice aad akids.length acap, .int .i64 apos, .int .i64 bop, .string bmon, .string bname, .int .i64 bn, .slice bad bkids.length bcap, .int .i64 bpos] 28)
      have hBQ : Below W0.heap.size W0 (u6.alloc (.cells #[.int .i64 aop, .string amon, .string aname, .int .i64 an, .slice aad akids.length acap, .int .i64 apos, .int .i64 bop, .string bmon, .string bname, .int .i64 bn, .slice bad bkids.length bcap, .int .i64 bpos] 28)) := B.al le_rfl' _
      have hqz : u6.heap.size < (u6.alloc (.cells #[.int .i64 aop, .string amon, .string aname, .int .i64 an, .slice aad akids.length acap, .int .i64 apos, .int .i64 bop, .string bmon, .string bname, .int .i64 bn, .slice bad bkids.length bcap, .int .i64 bpos] 28)).heap.size := by simp
      obtain ⟨W3, hW3⟩ : ∃ W3, u6.alloc (.cells #[.int .i64 aop, .string amon, .string aname, .int .i64 an, .slice aad akids.length acap, .int .i64 apos, .int .i64 bop, .string bmon, .string bname, .int .i64 bn, .slice bad bkids.length bcap, .int .i64 bpos] 28) = W3 := ⟨_, rfl⟩
      rw [hW3] at hq0 hBQ hqz ⊢
      obtain ⟨q, hq⟩ : ∃ q, u6.heap.size = q := ⟨_, rfl⟩
      rw [hq] at hq0 hqz ⊢
      clear hW3 hq
      have hG3 := fun W (hW : Below W3.heap.size W3 W) => hG q W (by have := hW.size; omega) ((hB.tr le_rfl' hBQ).tr le_rfl' hW) ((hW.block q hqz).trans hq0)
      have hH3 := fun W (hW : Below W3.heap.size W3 W) => hH q W (by have := hW.size; omega) ((hB.tr le_rfl' hBQ).tr le_rfl' hW) ((hW.block q hqz).trans hq0)
      have hI3 := fun W (hW : Below W3.heap.size W3 W) => hI q W (by have := hW.size; omega) ((hB.tr le_rfl' hBQ).tr le_rfl' hW) ((hW.block q hqz).trans hq0)
      clear hG hH hI hTA hTB r0 r1 a0 a1 a2 a3 a4 a5 b0 b1 b2 b3 b4 b5
      have C : Below W3.heap.size W3 W3 := Below.refl _ _
      obtain ⟨e1, e2, e3⟩ := HK.out _ hBQ
      have r0 := cellOf e1 0
      have r1 := cellOf e1 1
      have a0 := cellOf e2 0
      have a1 := cellOf e2 1
      have a2 := cellOf e2 2
      have a3 := cellOf e2 3
      have a4 := cellOf e2 4
      have a5 := cellOf e2 5
      have b0 := cellOf e3 0
      have b1 := cellOf e3 1
      have b2 := cellOf e3 2
      have b3 := cellOf e3 3
      have b4 := cellOf e3 4
      have b5 := cellOf e3 5
      simp at r0 r1 a0 a1 a2 a3 a4 a5 b0 b1 b2 b3 b4 b5
      clear e1 e2 e3
      go_wp2_with (first
        | (go_at_call 11; (with_reducible refine (hG3 _ C).mono ?_); rintro r u7 ⟨rfl, bb⟩; have C := C.tr le_rfl' bb; obtain ⟨e1, e2, e3⟩ := HK.out _ (hBQ.tr le_rfl' C); have r0 := cellOf e1 0; have r1 := cellOf e1 1; have a0 := cellOf e2 0; have a1 := cellOf e2 1; have a2 := cellOf e2 2; have a3 := cellOf e2 3; have a4 := cellOf e2 4; have a5 := cellOf e2 5; have b0 := cellOf e3 0; have b1 := cellOf e3 1; have b2 := cellOf e3 2; have b3 := cellOf e3 3; have b4 := cellOf e3 4; have b5 := cellOf e3 5; simp at r0 r1 a0 a1 a2 a3 a4 a5 b0 b1 b2 b3 b4 b5; clear e1 e2 e3)
        | (go_at_call 11; (with_reducible refine (hH3 _ C).mono ?_); rintro r u8 ⟨rfl, bb⟩; have C := C.tr le_rfl' bb; obtain ⟨e1, e2, e3⟩ := HK.out _ (hBQ.tr le_rfl' C); have r0 := cellOf e1 0; have r1 := cellOf e1 1; have a0 := cellOf e2 0; have a1 := cellOf e2 1; have a2 := cellOf e2 2; have a3 := cellOf e2 3; have a4 := cellOf e2 4; have a5 := cellOf e2 5; have b0 := cellOf e3 0; have b1 := cellOf e3 1; have b2 := cellOf e3 2; have b3 := cellOf e3 3; have b4 := cellOf e3 4; have b5 := cellOf e3 5; simp at r0 r1 a0 a1 a2 a3 a4 a5 b0 b1 b2 b3 b4 b5; clear e1 e2 e3)
        | (go_at_call 11; (with_reducible refine (hI3 _ C).mono ?_); rintro r u9 ⟨rfl, bb⟩; have C := C.tr le_rfl' bb; obtain ⟨e1, e2, e3⟩ := HK.out _ (hBQ.tr le_rfl' C); have r0 := cellOf e1 0; have r1 := cellOf e1 1; have a0 := cellOf e2 0; have a1 := cellOf e2 1; have a2 := cellOf e2 2; have a3 := cellOf e2 3; have a4 := cellOf e2 4; have a5 := cellOf e2 5; have b0 := cellOf e3 0; have b1 := cellOf e3 1; have b2 := cellOf e3 2; have b3 := cellOf e3 3; have b4 := cellOf e3 4; have b5 := cellOf e3 5; simp at r0 r1 a0 a1 a2 a3 a4 a5 b0 b1 b2 b3 b4 b5; clear e1 e2 e3)
        | (go_at_call 13; (with_reducible refine (h13 _ _).mono ?_); rintro r w' ⟨rfl, hw'⟩; have hw2 := hw'.symm; subst hw2))
      clear r0 r1 a0 a1 a2 a3 a4 a5 b0 b1 b2 b3 b4 b5 hG3 hH3 hI3
      go_loopw [24] (fun i wr => ∃ k : Nat, k ≤ akids.length ∧ i = .int .i64 k ∧ Below W3.heap.size W3 wr)
        (fun i _ => akids.length - (intOf i).toNat)
      case atStart => exact ⟨0, by omega, rfl, C⟩
      case round =>
        obtain ⟨k, hk, rfl, hbw⟩ := hrel
        have hz1 := hbw.size
        have hbF := (hB.tr le_rfl' hBQ).tr le_rfl' hbw
        have hz2 := hBQ.size
        have hzz := HZ.out
        obtain ⟨e1, e2, e3⟩ := HK.out _ (hBQ.tr le_rfl' hbw)
        have r0 := cellOf e1 0
        have r1 := cellOf e1 1
        have a4 := cellOf e2 4
        simp at r0 r1 a4
        clear e1 e2 e3
        by_cases hlt : k < akids.length
        · rcases hsl.2.2 with h | ⟨kb, koff, rfl, hbn, hrow⟩
          · subst h; simp at hlt
          have hki : (k : Int) < (akids.length : Int) := by omega
          have hbn2 : kb < wr.heap.size := by have := hbF.size; omega
          have hrj := hrow.below hbF hbn
          have hq : ∀ W, Below wr.heap.size wr W → _ := fun W hW => hTK (by trivial) _ (List.getElem_mem hlt) W (hbF.tr le_rfl' hW)
          obtain ⟨ki, hki2⟩ : ∃ ki, akids[k].is p.mons = ki := ⟨_, rfl⟩
          rcases he' : akids[k] with ⟨kop, kmon, kname, kn, kad, kcap, kkids, kpos⟩
          obtain ⟨c0, c1, c2, c3, c4, c5⟩ := row6 hrj k hlt (by rw [he']; rfl)
          simp only [hki2] at hq
          simp only [he', Ex.val, Ex.cells] at hq
          clear he' hki2
          have HK2 : Hid (∀ W, Below wr.heap.size wr W → W.cell? ⟨w.heap.size, 0, none⟩ = some (.slice pad pml pmc) ∧ W.cell? ⟨w.heap.size, 1, none⟩ = some (.slice prd prl prc) ∧ W.cell? ⟨w.heap.size + 1, 4, none⟩ = some (.slice (some ⟨kb, koff, none⟩) akids.length acap) ∧ W.cell? ⟨kb, koff + k * 6, none⟩ = some (.int .i64 kop) ∧ W.cell? ⟨kb, koff + k * 6 + 1, none⟩ = some (.string kmon) ∧ W.cell? ⟨kb, koff + k * 6 + 2, none⟩ = some (.string kname) ∧ W.cell? ⟨kb, koff + k * 6 + 3, none⟩ = some (.int .i64 kn) ∧ W.cell? ⟨kb, koff + k * 6 + 4, none⟩ = some (.slice kad kkids.length kcap) ∧ W.cell? ⟨kb, koff + k * 6 + 5, none⟩ = some (.int .i64 kpos)) := fun W hW => ⟨(hW.cell (p := ⟨w.heap.size, 0, none⟩) (by show w.heap.size < _; omega)).trans r0, (hW.cell (p := ⟨w.heap.size, 1, none⟩) (by show w.heap.size < _; omega)).trans r1, (hW.cell (p := ⟨w.heap.size + 1, 4, none⟩) (by show w.heap.size + 1 < _; omega)).trans a4, (hW.cell (p := ⟨kb, _, none⟩) hbn2).trans c0, (hW.cell (p := ⟨kb, _, none⟩) hbn2).trans c1, (hW.cell (p := ⟨kb, _, none⟩) hbn2).trans c2, (hW.cell (p := ⟨kb, _, none⟩) hbn2).trans c3, (hW.cell (p := ⟨kb, _, none⟩) hbn2).trans c4, (hW.cell (p := ⟨kb, _, none⟩) hbn2).trans c5⟩
          have D := below_drewV (Below.refl wr.heap.size wr)
          clear c0 c1 c2 c3 c4 c5
          go_wp2
          go_region_held3 (fun W => W.cell? ⟨w.heap.size, 0, none⟩ = some (.slice pad pml pmc) ∧ W.cell? ⟨w.heap.size, 1, none⟩ = some (.slice prd prl prc) ∧ W.cell? ⟨w.heap.size + 1, 4, none⟩ = some (.slice (some ⟨kb, koff, none⟩) akids.length acap) ∧ W.cell? ⟨kb, koff + k * 6, none⟩ = some (.int .i64 kop) ∧ W.cell? ⟨kb, koff + k * 6 + 1, none⟩ = some (.string kmon) ∧ W.cell? ⟨kb, koff + k * 6 + 2, none⟩ = some (.string kname) ∧ W.cell? ⟨kb, koff + k * 6 + 3, none⟩ = some (.int .i64 kn) ∧ W.cell? ⟨kb, koff + k * 6 + 4, none⟩ = some (.slice kad kkids.length kcap) ∧ W.cell? ⟨kb, koff + k * 6 + 5, none⟩ = some (.int .i64 kpos)) (exact HK2.out _ D) (first | (go_at_call 11; (with_reducible refine (hq _ D).mono ?_); rintro r w1 ⟨rfl, bb⟩; have D := D.tr le_rfl' bb))
          all_goals go_wp2_with (go_at_call 13; (with_reducible refine (h13 _ _).mono ?_); rintro r w' ⟨rfl, hw'⟩; have hw2 := hw'.symm; subst hw2)
          all_goals go_roundw
          case rel => exact ⟨k + 1, by omega, by go_num, hbw.tr le_rfl' D⟩
          case measure => simp [intOf]; omega
        · have hjd : decide ((k : Int) < (akids.length : Int)) = false := by simp; omega
          go_wp2_with (go_at_call 10; (with_reducible refine (h10 _ hbF).mono ?_); rintro r u10 ⟨rfl, bb⟩)
          go_ret
          exact ⟨rfl, hbF.tr le_rfl' bb⟩
  · rcases HB2.out rfl with rfl | rfl
    · obtain ⟨cG, xG, hTG, hcG⟩ := HG2.out (fun h => by have h5 := HG1.out.1 h; have h6 := h5.2.2; revert h6; decide)
      subst hTG
      have hG := fun q W hq hW hb => TyBack.yes (hPG q W hq hW hb) rfl
      obtain ⟨cH, xH, hTH, hcH⟩ := HH2.out (fun h => by have h5 := HH1.out.1 h; have h6 := h5.2.2; revert h6; decide)
      subst hTH
      have hH := fun q W hq hW hb => TyBack.yes (hPH q W hq hW hb) rfl
      obtain ⟨cI, xI, hTI, hcI⟩ := HI2.out (fun h => by have h5 := HI1.out.1 h; have h6 := h5.2.2; revert h6; decide)
      subst hTI
      have hI := fun q W hq hW hb => TyBack.yes (hPI q W hq hW hb) rfl
      clear HG1 HH1 HI1 HG2 HH2 HI2 HA1 HB1 HA2 HB2 hPG hPH hPI
      (with_reducible refine (hTA _ (hB.tr le_rfl' B)).mono ?_); rintro r u5 ⟨rfl, bb⟩
      have B := B.tr le_rfl' bb
      obtain ⟨e1, e2, e3⟩ := HK.out _ B
      have r0 := cellOf e1 0
      have r1 := cellOf e1 1
      have a0 := cellOf e2 0
      have a1 := cellOf e2 1
      have a2 := cellOf e2 2
      have a3 := cellOf e2 3
      have a4 := cellOf e2 4
      have a5 := cellOf e2 5
      have b0 := cellOf e3 0
      have b1 := cellOf e3 1
      have b2 := cellOf e3 2
      have b3 := cellOf e3 3
      have b4 := cellOf e3 4
      have b5 := cellOf e3 5
      simp at r0 r1 a0 a1 a2 a3 a4 a5 b0 b1 b2 b3 b4 b5
      clear e1 e2 e3
      go_upto_region 6 with (go_at_call 11; (with_reducible refine (hTB _ (hB.tr le_rfl' B)).mono ?_); rintro r u6 ⟨rfl, bb⟩; have B := B.tr le_rfl' bb; obtain ⟨e1, e2, e3⟩ := HK.out _ B; have r0 := cellOf e1 0; have r1 := cellOf e1 1; have a0 := cellOf e2 0; have a1 := cellOf e2 1; have a2 := cellOf e2 2; have a3 := cellOf e2 3; have a4 := cellOf e2 4; have a5 := cellOf e2 5; have b0 := cellOf e3 0; have b1 := cellOf e3 1; have b2 := cellOf e3 2; have b3 := cellOf e3 3; have b4 := cellOf e3 4; have b5 := cellOf e3 5; simp at r0 r1 a0 a1 a2 a3 a4 a5 b0 b1 b2 b3 b4 b5; clear e1 e2 e3)
      have hq0 := heapNew u6 (.cells #[.int .i64 aop, .string amon, .string aname, .int .i64 an, .slice aad akids.length acap, .int .i64 apos, .int .i64 bop, .string bmon, .string bname, .int .i64 bn, .slice bad bkids.length bcap, .int .i64 bpos] 28)
      have hBQ : Below W0.heap.size W0 (u6.alloc (.cells #[.int .i64 aop, .string amon, .string aname, .int .i64 an, .slice aad akids.length acap, .int .i64 apos, .int .i64 bop, .string bmon, .string bname, .int .i64 bn, .slice bad bkids.length bcap, .int .i64 bpos] 28)) := B.al le_rfl' _
      have hqz : u6.heap.size < (u6.alloc (.cells #[.int .i64 aop, .string amon, .string aname, .int .i64 an, .slice aad akids.length acap, .int .i64 apos, .int .i64 bop, .string bmon, .string bname, .int .i64 bn, .slice bad bkids.length bcap, .int .i64 bpos] 28)).heap.size := by simp
      obtain ⟨W3, hW3⟩ : ∃ W3, u6.alloc (.cells #[.int .i64 aop, .string amon, .string aname, .int .i64 an, .slice aad akids.length acap, .int .i64 apos, .int .i64 bop, .string bmon, .string bname, .int .i64 bn, .slice bad bkids.length bcap, .int .i64 bpos] 28) = W3 := ⟨_, rfl⟩
      rw [hW3] at hq0 hBQ hqz ⊢
      obtain ⟨q, hq⟩ : ∃ q, u6.heap.size = q := ⟨_, rfl⟩
      rw [hq] at hq0 hqz ⊢
      clear hW3 hq
      have hG3 := fun W (hW : Below W3.heap.size W3 W) => hG q W (by have := hW.size; omega) ((hB.tr le_rfl' hBQ).tr le_rfl' hW) ((hW.block q hqz).trans hq0)
      have hH3 := fun W (hW : Below W3.heap.size W3 W) => hH q W (by have := hW.size; omega) ((hB.tr le_rfl' hBQ).tr le_rfl' hW) ((hW.block q hqz).trans hq0)
      have hI3 := fun W (hW : Below W3.heap.size W3 W) => hI q W (by have := hW.size; omega) ((hB.tr le_rfl' hBQ).tr le_rfl' hW) ((hW.block q hqz).trans hq0)
      clear hG hH hI hTA hTB r0 r1 a0 a1 a2 a3 a4 a5 b0 b1 b2 b3 b4 b5
      have C : Below W3.heap.size W3 W3 := Below.refl _ _
      obtain ⟨e1, e2, e3⟩ := HK.out _ hBQ
      have r0 := cellOf e1 0
      have r1 := cellOf e1 1
      have a0 := cellOf e2 0
      have a1 := cellOf e2 1
      have a2 := cellOf e2 2
      have a3 := cellOf e2 3
      have a4 := cellOf e2 4
      have a5 := cellOf e2 5
      have b0 := cellOf e3 0
      have b1 := cellOf e3 1
      have b2 := cellOf e3 2
      have b3 := cellOf e3 3
      have b4 := cellOf e3 4
      have b5 := cellOf e3 5
      simp at r0 r1 a0 a1 a2 a3 a4 a5 b0 b1 b2 b3 b4 b5
      clear e1 e2 e3
      go_wp2_with (first
        | (go_at_call 11; (with_reducible refine (hG3 _ C).mono ?_); rintro r u7 ⟨rfl, bb⟩; have C := C.tr le_rfl' bb; obtain ⟨e1, e2, e3⟩ := HK.out _ (hBQ.tr le_rfl' C); have r0 := cellOf e1 0; have r1 := cellOf e1 1; have a0 := cellOf e2 0; have a1 := cellOf e2 1; have a2 := cellOf e2 2; have a3 := cellOf e2 3; have a4 := cellOf e2 4; have a5 := cellOf e2 5; have b0 := cellOf e3 0; have b1 := cellOf e3 1; have b2 := cellOf e3 2; have b3 := cellOf e3 3; have b4 := cellOf e3 4; have b5 := cellOf e3 5; simp at r0 r1 a0 a1 a2 a3 a4 a5 b0 b1 b2 b3 b4 b5; clear e1 e2 e3)
        | (go_at_call 11; (with_reducible refine (hH3 _ C).mono ?_); rintro r u8 ⟨rfl, bb⟩; have C := C.tr le_rfl' bb; obtain ⟨e1, e2, e3⟩ := HK.out _ (hBQ.tr le_rfl' C); have r0 := cellOf e1 0; have r1 := cellOf e1 1; have a0 := cellOf e2 0; have a1 := cellOf e2 1; have a2 := cellOf e2 2; have a3 := cellOf e2 3; have a4 := cellOf e2 4; have a5 := cellOf e2 5; have b0 := cellOf e3 0; have b1 := cellOf e3 1; have b2 := cellOf e3 2; have b3 := cellOf e3 3; have b4 := cellOf e3 4; have b5 := cellOf e3 5; simp at r0 r1 a0 a1 a2 a3 a4 a5 b0 b1 b2 b3 b4 b5; clear e1 e2 e3)
        | (go_at_call 11; (with_reducible refine (hI3 _ C).mono ?_); rintro r u9 ⟨rfl, bb⟩; have C := C.tr le_rfl' bb; obtain ⟨e1, e2, e3⟩ := HK.out _ (hBQ.tr le_rfl' C); have r0 := cellOf e1 0; have r1 := cellOf e1 1; have a0 := cellOf e2 0; have a1 := cellOf e2 1; have a2 := cellOf e2 2; have a3 := cellOf e2 3; have a4 := cellOf e2 4; have a5 := cellOf e2 5; have b0 := cellOf e3 0; have b1 := cellOf e3 1; have b2 := cellOf e3 2; have b3 := cellOf e3 3; have b4 := cellOf e3 4; have b5 := cellOf e3 5; simp at r0 r1 a0 a1 a2 a3 a4 a5 b0 b1 b2 b3 b4 b5; clear e1 e2 e3)
        | (go_at_call 13; (with_reducible refine (h13 _ _).mono ?_); rintro r w' ⟨rfl, hw'⟩; have hw2 := hw'.symm; subst hw2))
      clear r0 r1 a0 a1 a2 a3 a4 a5 b0 b1 b2 b3 b4 b5 hG3 hH3 hI3
      go_loopw [24] (fun i wr => ∃ k : Nat, k ≤ akids.length ∧ i = .int .i64 k ∧ Below W3.heap.size W3 wr)
        (fun i _ => akids.length - (intOf i).toNat)
      case atStart => exact ⟨0, by omega, rfl, C⟩
      case round =>
        obtain ⟨k, hk, rfl, hbw⟩ := hrel
        have hz1 := hbw.size
        have hbF := (hB.tr le_rfl' hBQ).tr le_rfl' hbw
        have hz2 := hBQ.size
        have hzz := HZ.out
        obtain ⟨e1, e2, e3⟩ := HK.out _ (hBQ.tr le_rfl' hbw)
        have r0 := cellOf e1 0
        have r1 := cellOf e1 1
        have a4 := cellOf e2 4
        simp at r0 r1 a4
        clear e1 e2 e3
        by_cases hlt : k < akids.length
        · rcases hsl.2.2 with h | ⟨kb, koff, rfl, hbn, hrow⟩
          · subst h; simp at hlt
          have hki : (k : Int) < (akids.length : Int) := by omega
          have hbn2 : kb < wr.heap.size := by have := hbF.size; omega
          have hrj := hrow.below hbF hbn
          have hq : ∀ W, Below wr.heap.size wr W → _ := fun W hW => hTK (by trivial) _ (List.getElem_mem hlt) W (hbF.tr le_rfl' hW)
          obtain ⟨ki, hki2⟩ : ∃ ki, akids[k].is p.mons = ki := ⟨_, rfl⟩
          rcases he' : akids[k] with ⟨kop, kmon, kname, kn, kad, kcap, kkids, kpos⟩
          obtain ⟨c0, c1, c2, c3, c4, c5⟩ := row6 hrj k hlt (by rw [he']; rfl)
          simp only [hki2] at hq
          simp only [he', Ex.val, Ex.cells] at hq
          clear he' hki2
          have HK2 : Hid (∀ W, Below wr.heap.size wr W → W.cell? ⟨w.heap.size, 0, none⟩ = some (.slice pad pml pmc) ∧ W.cell? ⟨w.heap.size, 1, none⟩ = some (.slice prd prl prc) ∧ W.cell? ⟨w.heap.size + 1, 4, none⟩ = some (.slice (some ⟨kb, koff, none⟩) akids.length acap) ∧ W.cell? ⟨kb, koff + k * 6, none⟩ = some (.int .i64 kop) ∧ W.cell? ⟨kb, koff + k * 6 + 1, none⟩ = some (.string kmon) ∧ W.cell? ⟨kb, koff + k * 6 + 2, none⟩ = some (.string kname) ∧ W.cell? ⟨kb, koff + k * 6 + 3, none⟩ = some (.int .i64 kn) ∧ W.cell? ⟨kb, koff + k * 6 + 4, none⟩ = some (.slice kad kkids.length kcap) ∧ W.cell? ⟨kb, koff + k * 6 + 5, none⟩ = some (.int .i64 kpos)) := fun W hW => ⟨(hW.cell (p := ⟨w.heap.size, 0, none⟩) (by show w.heap.size < _; omega)).trans r0, (hW.cell (p := ⟨w.heap.size, 1, none⟩) (by show w.heap.size < _; omega)).trans r1, (hW.cell (p := ⟨w.heap.size + 1, 4, none⟩) (by show w.heap.size + 1 < _; omega)).trans a4, (hW.cell (p := ⟨kb, _, none⟩) hbn2).trans c0, (hW.cell (p := ⟨kb, _, none⟩) hbn2).trans c1, (hW.cell (p := ⟨kb, _, none⟩) hbn2).trans c2, (hW.cell (p := ⟨kb, _, none⟩) hbn2).trans c3, (hW.cell (p := ⟨kb, _, none⟩) hbn2).trans c4, (hW.cell (p := ⟨kb, _, none⟩) hbn2).trans c5⟩
          have D := below_drewV (Below.refl wr.heap.size wr)
          clear c0 c1 c2 c3 c4 c5
          go_wp2
          go_region_held3 (fun W => W.cell? ⟨w.heap.size, 0, none⟩ = some (.slice pad pml pmc) ∧ W.cell? ⟨w.heap.size, 1, none⟩ = some (.slice prd prl prc) ∧ W.cell? ⟨w.heap.size + 1, 4, none⟩ = some (.slice (some ⟨kb, koff, none⟩) akids.length acap) ∧ W.cell? ⟨kb, koff + k * 6, none⟩ = some (.int .i64 kop) ∧ W.cell? ⟨kb, koff + k * 6 + 1, none⟩ = some (.string kmon) ∧ W.cell? ⟨kb, koff + k * 6 + 2, none⟩ = some (.string kname) ∧ W.cell? ⟨kb, koff + k * 6 + 3, none⟩ = some (.int .i64 kn) ∧ W.cell? ⟨kb, koff + k * 6 + 4, none⟩ = some (.slice kad kkids.length kcap) ∧ W.cell? ⟨kb, koff + k * 6 + 5, none⟩ = some (.int .i64 kpos)) (exact HK2.out _ D) (first | (go_at_call 11; (with_reducible refine (hq _ D).mono ?_); rintro r w1 ⟨rfl, bb⟩; have D := D.tr le_rfl' bb))
          all_goals go_wp2_with (go_at_call 13; (with_reducible refine (h13 _ _).mono ?_); rintro r w' ⟨rfl, hw'⟩; have hw2 := hw'.symm; subst hw2)
          all_goals go_roundw
          case rel => exact ⟨k + 1, by omega, by go_num, hbw.tr le_rfl' D⟩
          case measure => simp [intOf]; omega
        · have hjd : decide ((k : Int) < (akids.length : Int)) = false := by simp; omega
          go_wp2_with (go_at_call 10; (with_reducible refine (h10 _ hbF).mono ?_); rintro r u10 ⟨rfl, bb⟩)
          go_ret
          exact ⟨rfl, hbF.tr le_rfl' bb⟩
    · obtain ⟨cG, xG, hTG, hcG⟩ := HG2.out (fun h => by have h5 := HG1.out.1 h; have h6 := h5.2.2; revert h6; decide)
      subst hTG
      have hG := fun q W hq hW hb => TyBack.yes (hPG q W hq hW hb) rfl
      have hH := fun q W hq hW hb => TyBack.no (hPH q W hq hW hb) (HH1.out.2 ⟨rfl, rfl, by decide⟩)
      have hI := fun q W hq hW hb => TyBack.no (hPI q W hq hW hb) (HI1.out.2 ⟨rfl, rfl, by decide⟩)
      clear HG1 HH1 HI1 HG2 HH2 HI2 HA1 HB1 HA2 HB2 hPG hPH hPI
      (with_reducible refine (hTA _ (hB.tr le_rfl' B)).mono ?_); rintro r u5 ⟨rfl, bb⟩
      have B := B.tr le_rfl' bb
      obtain ⟨e1, e2, e3⟩ := HK.out _ B
      have r0 := cellOf e1 0
      have r1 := cellOf e1 1
      have a0 := cellOf e2 0
      have a1 := cellOf e2 1
      have a2 := cellOf e2 2
      have a3 := cellOf e2 3
      have a4 := cellOf e2 4
      have a5 := cellOf e2 5
      have b0 := cellOf e3 0
      have b1 := cellOf e3 1
      have b2 := cellOf e3 2
      have b3 := cellOf e3 3
      have b4 := cellOf e3 4
      have b5 := cellOf e3 5
      simp at r0 r1 a0 a1 a2 a3 a4 a5 b0 b1 b2 b3 b4 b5
      clear e1 e2 e3
      go_upto_region 6 with (go_at_call 11; (with_reducible refine (hTB _ (hB.tr le_rfl' B)).mono ?_); rintro r u6 ⟨rfl, bb⟩; have B := B.tr le_rfl' bb; obtain ⟨e1, e2, e3⟩ := HK.out _ B; have r0 := cellOf e1 0; have r1 := cellOf e1 1; have a0 := cellOf e2 0; have a1 := cellOf e2 1; have a2 := cellOf e2 2; have a3 := cellOf e2 3; have a4 := cellOf e2 4; have a5 := cellOf e2 5; have b0 := cellOf e3 0; have b1 := cellOf e3 1; have b2 := cellOf e3 2; have b3 := cellOf e3 3; have b4 := cellOf e3 4; have b5 := cellOf e3 5; simp at r0 r1 a0 a1 a2 a3 a4 a5 b0 b1 b2 b3 b4 b5; clear e1 e2 e3)
      have hq0 := heapNew u6 (.cells #[.int .i64 aop, .string amon, .string aname, .int .i64 an, .slice aad akids.length acap, .int .i64 apos, .int .i64 bop, .string bmon, .string bname, .int .i64 bn, .slice bad bkids.length bcap, .int .i64 bpos] 28)
      have hBQ : Below W0.heap.size W0 (u6.alloc (.cells #[.int .i64 aop, .string amon, .string aname, .int .i64 an, .slice aad akids.length acap, .int .i64 apos, .int .i64 bop, .string bmon, .string bname, .int .i64 bn, .slice bad bkids.length bcap, .int .i64 bpos] 28)) := B.al le_rfl' _
      have hqz : u6.heap.size < (u6.alloc (.cells #[.int .i64 aop, .string amon, .string aname, .int .i64 an, .slice aad akids.length acap, .int .i64 apos, .int .i64 bop, .string bmon, .string bname, .int .i64 bn, .slice bad bkids.length bcap, .int .i64 bpos] 28)).heap.size := by simp
      obtain ⟨W3, hW3⟩ : ∃ W3, u6.alloc (.cells #[.int .i64 aop, .string amon, .string aname, .int .i64 an, .slice aad akids.length acap, .int .i64 apos, .int .i64 bop, .string bmon, .string bname, .int .i64 bn, .slice bad bkids.length bcap, .int .i64 bpos] 28) = W3 := ⟨_, rfl⟩
      rw [hW3] at hq0 hBQ hqz ⊢
      obtain ⟨q, hq⟩ : ∃ q, u6.heap.size = q := ⟨_, rfl⟩
      rw [hq] at hq0 hqz ⊢
      clear hW3 hq
      have hG3 := fun W (hW : Below W3.heap.size W3 W) => hG q W (by have := hW.size; omega) ((hB.tr le_rfl' hBQ).tr le_rfl' hW) ((hW.block q hqz).trans hq0)
      have hH3 := fun W (hW : Below W3.heap.size W3 W) => hH q W (by have := hW.size; omega) ((hB.tr le_rfl' hBQ).tr le_rfl' hW) ((hW.block q hqz).trans hq0)
      have hI3 := fun W (hW : Below W3.heap.size W3 W) => hI q W (by have := hW.size; omega) ((hB.tr le_rfl' hBQ).tr le_rfl' hW) ((hW.block q hqz).trans hq0)
      clear hG hH hI hTA hTB r0 r1 a0 a1 a2 a3 a4 a5 b0 b1 b2 b3 b4 b5
      have C : Below W3.heap.size W3 W3 := Below.refl _ _
      obtain ⟨e1, e2, e3⟩ := HK.out _ hBQ
      have r0 := cellOf e1 0
      have r1 := cellOf e1 1
      have a0 := cellOf e2 0
      have a1 := cellOf e2 1
      have a2 := cellOf e2 2
      have a3 := cellOf e2 3
      have a4 := cellOf e2 4
      have a5 := cellOf e2 5
      have b0 := cellOf e3 0
      have b1 := cellOf e3 1
      have b2 := cellOf e3 2
      have b3 := cellOf e3 3
      have b4 := cellOf e3 4
      have b5 := cellOf e3 5
      simp at r0 r1 a0 a1 a2 a3 a4 a5 b0 b1 b2 b3 b4 b5
      clear e1 e2 e3
      go_wp2_with (first
        | (go_at_call 11; (with_reducible refine (hG3 _ C).mono ?_); rintro r u7 ⟨rfl, bb⟩; have C := C.tr le_rfl' bb; obtain ⟨e1, e2, e3⟩ := HK.out _ (hBQ.tr le_rfl' C); have r0 := cellOf e1 0; have r1 := cellOf e1 1; have a0 := cellOf e2 0; have a1 := cellOf e2 1; have a2 := cellOf e2 2; have a3 := cellOf e2 3; have a4 := cellOf e2 4; have a5 := cellOf e2 5; have b0 := cellOf e3 0; have b1 := cellOf e3 1; have b2 := cellOf e3 2; have b3 := cellOf e3 3; have b4 := cellOf e3 4; have b5 := cellOf e3 5; simp at r0 r1 a0 a1 a2 a3 a4 a5 b0 b1 b2 b3 b4 b5; clear e1 e2 e3)
        | (go_at_call 11; (with_reducible refine (hH3 _ C).mono ?_); rintro r u8 ⟨rfl, bb⟩; have C := C.tr le_rfl' bb; obtain ⟨e1, e2, e3⟩ := HK.out _ (hBQ.tr le_rfl' C); have r0 := cellOf e1 0; have r1 := cellOf e1 1; have a0 := cellOf e2 0; have a1 := cellOf e2 1; have a2 := cellOf e2 2; have a3 := cellOf e2 3; have a4 := cellOf e2 4; have a5 := cellOf e2 5; have b0 := cellOf e3 0; have b1 := cellOf e3 1; have b2 := cellOf e3 2; have b3 := cellOf e3 3; have b4 := cellOf e3 4; have b5 := cellOf e3 5; simp at r0 r1 a0 a1 a2 a3 a4 a5 b0 b1 b2 b3 b4 b5; clear e1 e2 e3)
        | (go_at_call 11; (with_reducible refine (hI3 _ C).mono ?_); rintro r u9 ⟨rfl, bb⟩; have C := C.tr le_rfl' bb; obtain ⟨e1, e2, e3⟩ := HK.out _ (hBQ.tr le_rfl' C); have r0 := cellOf e1 0; have r1 := cellOf e1 1; have a0 := cellOf e2 0; have a1 := cellOf e2 1; have a2 := cellOf e2 2; have a3 := cellOf e2 3; have a4 := cellOf e2 4; have a5 := cellOf e2 5; have b0 := cellOf e3 0; have b1 := cellOf e3 1; have b2 := cellOf e3 2; have b3 := cellOf e3 3; have b4 := cellOf e3 4; have b5 := cellOf e3 5; simp at r0 r1 a0 a1 a2 a3 a4 a5 b0 b1 b2 b3 b4 b5; clear e1 e2 e3)
        | (go_at_call 13; (with_reducible refine (h13 _ _).mono ?_); rintro r w' ⟨rfl, hw'⟩; have hw2 := hw'.symm; subst hw2))
      clear r0 r1 a0 a1 a2 a3 a4 a5 b0 b1 b2 b3 b4 b5 hG3 hH3 hI3
      go_loopw [24] (fun i wr => ∃ k : Nat, k ≤ akids.length ∧ i = .int .i64 k ∧ Below W3.heap.size W3 wr)
        (fun i _ => akids.length - (intOf i).toNat)
      case atStart => exact ⟨0, by omega, rfl, C⟩
      case round =>
        obtain ⟨k, hk, rfl, hbw⟩ := hrel
        have hz1 := hbw.size
        have hbF := (hB.tr le_rfl' hBQ).tr le_rfl' hbw
        have hz2 := hBQ.size
        have hzz := HZ.out
        obtain ⟨e1, e2, e3⟩ := HK.out _ (hBQ.tr le_rfl' hbw)
        have r0 := cellOf e1 0
        have r1 := cellOf e1 1
        have a4 := cellOf e2 4
        simp at r0 r1 a4
        clear e1 e2 e3
        by_cases hlt : k < akids.length
        · rcases hsl.2.2 with h | ⟨kb, koff, rfl, hbn, hrow⟩
          · subst h; simp at hlt
          have hki : (k : Int) < (akids.length : Int) := by omega
          have hbn2 : kb < wr.heap.size := by have := hbF.size; omega
          have hrj := hrow.below hbF hbn
          have hq : ∀ W, Below wr.heap.size wr W → _ := fun W hW => hTK (by trivial) _ (List.getElem_mem hlt) W (hbF.tr le_rfl' hW)
          obtain ⟨ki, hki2⟩ : ∃ ki, akids[k].is p.mons = ki := ⟨_, rfl⟩
          rcases he' : akids[k] with ⟨kop, kmon, kname, kn, kad, kcap, kkids, kpos⟩
          obtain ⟨c0, c1, c2, c3, c4, c5⟩ := row6 hrj k hlt (by rw [he']; rfl)
          simp only [hki2] at hq
          simp only [he', Ex.val, Ex.cells] at hq
          clear he' hki2
          have HK2 : Hid (∀ W, Below wr.heap.size wr W → W.cell? ⟨w.heap.size, 0, none⟩ = some (.slice pad pml pmc) ∧ W.cell? ⟨w.heap.size, 1, none⟩ = some (.slice prd prl prc) ∧ W.cell? ⟨w.heap.size + 1, 4, none⟩ = some (.slice (some ⟨kb, koff, none⟩) akids.length acap) ∧ W.cell? ⟨kb, koff + k * 6, none⟩ = some (.int .i64 kop) ∧ W.cell? ⟨kb, koff + k * 6 + 1, none⟩ = some (.string kmon) ∧ W.cell? ⟨kb, koff + k * 6 + 2, none⟩ = some (.string kname) ∧ W.cell? ⟨kb, koff + k * 6 + 3, none⟩ = some (.int .i64 kn) ∧ W.cell? ⟨kb, koff + k * 6 + 4, none⟩ = some (.slice kad kkids.length kcap) ∧ W.cell? ⟨kb, koff + k * 6 + 5, none⟩ = some (.int .i64 kpos)) := fun W hW => ⟨(hW.cell (p := ⟨w.heap.size, 0, none⟩) (by show w.heap.size < _; omega)).trans r0, (hW.cell (p := ⟨w.heap.size, 1, none⟩) (by show w.heap.size < _; omega)).trans r1, (hW.cell (p := ⟨w.heap.size + 1, 4, none⟩) (by show w.heap.size + 1 < _; omega)).trans a4, (hW.cell (p := ⟨kb, _, none⟩) hbn2).trans c0, (hW.cell (p := ⟨kb, _, none⟩) hbn2).trans c1, (hW.cell (p := ⟨kb, _, none⟩) hbn2).trans c2, (hW.cell (p := ⟨kb, _, none⟩) hbn2).trans c3, (hW.cell (p := ⟨kb, _, none⟩) hbn2).trans c4, (hW.cell (p := ⟨kb, _, none⟩) hbn2).trans c5⟩
          have D := below_drewV (Below.refl wr.heap.size wr)
          clear c0 c1 c2 c3 c4 c5
          go_wp2
          go_region_held3 (fun W => W.cell? ⟨w.heap.size, 0, none⟩ = some (.slice pad pml pmc) ∧ W.cell? ⟨w.heap.size, 1, none⟩ = some (.slice prd prl prc) ∧ W.cell? ⟨w.heap.size + 1, 4, none⟩ = some (.slice (some ⟨kb, koff, none⟩) akids.length acap) ∧ W.cell? ⟨kb, koff + k * 6, none⟩ = some (.int .i64 kop) ∧ W.cell? ⟨kb, koff + k * 6 + 1, none⟩ = some (.string kmon) ∧ W.cell? ⟨kb, koff + k * 6 + 2, none⟩ = some (.string kname) ∧ W.cell? ⟨kb, koff + k * 6 + 3, none⟩ = some (.int .i64 kn) ∧ W.cell? ⟨kb, koff + k * 6 + 4, none⟩ = some (.slice kad kkids.length kcap) ∧ W.cell? ⟨kb, koff + k * 6 + 5, none⟩ = some (.int .i64 kpos)) (exact HK2.out _ D) (first | (go_at_call 11; (with_reducible refine (hq _ D).mono ?_); rintro r w1 ⟨rfl, bb⟩; have D := D.tr le_rfl' bb))
          all_goals go_wp2_with (go_at_call 13; (with_reducible refine (h13 _ _).mono ?_); rintro r w' ⟨rfl, hw'⟩; have hw2 := hw'.symm; subst hw2)
          all_goals go_roundw
          case rel => exact ⟨k + 1, by omega, by go_num, hbw.tr le_rfl' D⟩
          case measure => simp [intOf]; omega
        · have hjd : decide ((k : Int) < (akids.length : Int)) = false := by simp; omega
          go_wp2_with (go_at_call 10; (with_reducible refine (h10 _ hbF).mono ?_); rintro r u10 ⟨rfl, bb⟩)
          go_ret
          exact ⟨rfl, hbF.tr le_rfl' bb⟩
end Go.Proofs.YtgfdegogknoknaaDoor
