/-
  oneMore of package parse, of monitors and roles, beside another list.
-/
import Derived.Test.YtaekbgljbgmchaaGreatDoorPzEx
namespace Go.Proofs.YtaekbgljbgmchaaGreatDoor
open Go.RowKit
open Lx (Out)
open Pz
/-- All blocks but b and the row of v stand. -/
structure Kg (b : Nat) (v : Value) (w w' : World) : Prop where
  os : w'.os = w.os
  tape : w'.tape = w.tape
  output : w'.output = w.output
  size : w.heap.size ≤ w'.heap.size
  block : ∀ k, k < w.heap.size → k ≠ b → v.ownBlock ≠ some k → w'.heap[k]? = w.heap[k]?
theorem Kg.of {b : Nat} {v : Value} {w u w' : World} (k : Kp b w u) (hg : u.grownBy w' v.ownBlock) : Kg b v w w' :=
  ⟨hg.os.trans k.os, hg.tape.trans k.tape, hg.output.trans k.output, Nat.le_trans k.size hg.size, fun i hi hb hv => (hg.block i (Nat.lt_of_lt_of_le hi k.size) (fun e => hv e.symm)).trans (k.block i hi hb)⟩
theorem own_kind {w : World} {B e size n : Nat} {v : Value} {xs : List Value} (h : w.ownsRow B e size v n xs) (g : Nat) (hg : v.ownBlock = some g) : ∃ c, w.heap[g]? = some (.cells c e (0, 0)) := by
  obtain ⟨_, ⟨rfl, _⟩ | ⟨g', cap, cur, rfl, _, hh, _⟩⟩ := h
  · cases hg
  · injection hg with hg; subst hg; exact ⟨cur, hh⟩
def by2 (n : Nat) (v u : Value) (k : Nat) : Bool := but n v k && decide (u.ownBlock ≠ some k)
theorem by2_iff {n : Nat} {v u : Value} {k : Nat} : by2 n v u k = true ↔ n ≤ k ∧ v.ownBlock ≠ some k ∧ u.ownBlock ≠ some k := by
  unfold by2; rw [Bool.and_eq_true, but_iff]; simp [and_assoc]
theorem by2_lt {n : Nat} {v u : Value} {k : Nat} (h : k < n) : by2 n v u k = false := by
  cases hb : by2 n v u k
  · rfl
  · have := (by2_iff.1 hb).1; omega
theorem grow_by2 {B : (Nat → Bool) → World → Prop} (hs : ∀ Q w w', B Q w → Kq Q w w' → B Q w') (hw : ∀ Q Q' w, B Q w → (∀ k, Q k = true → k < w.heap.size → Q' k = true) → B Q' w)
    {n : Nat} {v v' u : Value} {w w' : World} (h : B (by2 n v u) w) (hg : w.grownBy w' v.ownBlock) (hv : v'.ownBlock = v.ownBlock ∨ v'.ownBlock = some w.heap.size) : B (by2 n v' u) w' := by
  have h1 : B (fun k => by2 n v u k && decide (k < w.heap.size)) w := hw _ _ _ h (fun k hk hl => by simp only [hk, Bool.true_and, decide_eq_true_eq]; exact hl)
  have h2 := hs _ _ w' h1 ⟨hg.size, fun k hk hl => hg.block k hl (fun e => by
    have := (by2_iff.1 (Bool.and_eq_true_iff.1 hk).1).2.1
    exact this e.symm)⟩
  refine hw _ _ _ h2 (fun k hk _ => ?_)
  obtain ⟨ha, hb⟩ := Bool.and_eq_true_iff.1 hk
  have hlt : k < w.heap.size := of_decide_eq_true hb
  refine by2_iff.2 ⟨(by2_iff.1 ha).1, ?_, (by2_iff.1 ha).2.2⟩
  rcases hv with hv | hv
  · rw [hv]; exact (by2_iff.1 ha).2.1
  · rw [hv]; intro e; injection e with e; omega
/-- A list of Mo beside another one's row. -/
def L2Mo (base : Nat) (v u : Value) (l : List Mo) (w : World) : Prop := w.ownsRow base 80 4 v l.length (l.flatMap Mo.cells) ∧ ∀ x ∈ l, x.By (by2 base v u) w
theorem L2Mo.bel {base : Nat} {v u : Value} {l : List Mo} {w w' : World} (h : L2Mo base v u l w) (k : Below w.heap.size w w') : L2Mo base v u l w' := ⟨owns_below h.1 k, fun x hx => Mo.By.kq (h.2 x hx) ((Kq.refl _ _).bel k)⟩
theorem L2Mo.kp {base b : Nat} {v u : Value} {l : List Mo} {w w' : World} (h : L2Mo base v u l w) (k : Kp b w w') (hb : b < base) : L2Mo base v u l w' := ⟨owns_kp h.1 k hb, fun x hx => Mo.By.kq (h.2 x hx) ((Kq.refl _ _).kp k (by2_lt hb))⟩
theorem L2Mo.other {base b : Nat} {v v' u : Value} {l : List Mo} {w w' : World} {ts tm m : Nat} {xs : List Value} (h : L2Mo base u v l w) (hv : w.ownsRow base ts tm v m xs) (hts : ts ≠ 80) (k : Kg b v w w') (hb : b < base) (hw : v'.ownBlock = v.ownBlock ∨ ∃ k, v'.ownBlock = some k ∧ w.heap.size ≤ k) : L2Mo base u v' l w' := by
  have hne : ∀ g, u.ownBlock = some g → v.ownBlock ≠ some g := fun g hg e => by
    obtain ⟨c1, h1⟩ := own_kind h.1 g hg
    obtain ⟨c2, h2⟩ := own_kind hv g e
    rw [h1] at h2; injection h2 with h2; injection h2 with _ h3 _; exact hts h3.symm
  refine ⟨?_, fun x hx => ?_⟩
  · obtain ⟨hl, ⟨rfl, hn⟩ | ⟨g, cap, cur, rfl, hB, hh, hc, hm, hcs, hx⟩⟩ := h.1
    · exact ⟨hl, .inl ⟨rfl, hn⟩⟩
    · exact ⟨hl, .inr ⟨g, cap, cur, rfl, hB, by rw [k.block g (ltB hh) (by omega) (hne g rfl)]; exact hh, hc, hm, hcs, hx⟩⟩
  · have h1 : x.By (fun k => by2 base u v k && decide (k < w.heap.size)) w := Mo.By.weak (h.2 x hx) (fun k hk hl => by simp only [hk, Bool.true_and, decide_eq_true_eq]; exact hl)
    have h2 := Mo.By.kq h1 ⟨k.size, fun i hi hl => k.block i hl (by have := (by2_iff.1 (Bool.and_eq_true_iff.1 hi).1).1; omega) (by2_iff.1 (Bool.and_eq_true_iff.1 hi).1).2.2⟩
    refine Mo.By.weak h2 (fun i hi _ => ?_)
    obtain ⟨ha, hb'⟩ := Bool.and_eq_true_iff.1 hi
    have hlt : i < w.heap.size := of_decide_eq_true hb'
    refine by2_iff.2 ⟨(by2_iff.1 ha).1, (by2_iff.1 ha).2.1, ?_⟩
    rcases hw with hw | ⟨q, hw, hq⟩
    · rw [hw]; exact (by2_iff.1 ha).2.2
    · rw [hw]; intro e; injection e with e; omega
def Bk2Mo (b g cap base : Nat) (toks : List Out) (v0 u : Value) (x : List Mo × S) (w : World) (r : Ending) (w' : World) : Prop :=
  ∃ v l, r = .returned v ∧ l.map Mo.clr = x.1 ∧ L2Mo base v u l w' ∧ At b g cap toks x.2 w' ∧ Kg b v0 w w' ∧ (v.ownBlock = v0.ownBlock ∨ ∃ k, v.ownBlock = some k ∧ w.heap.size ≤ k)
set_option maxRecDepth 100000 in
set_option maxHeartbeats 2000000 in
theorem oneMore2_Mo (rd : S → Mo × S) (most : Nat) (u : Value) (ad0 : Option Addr) (cp0 : Nat) (l : List Mo) (base b g cap : Nat) (toks : List Out) (s : S) (w : World) (A : At b g cap toks s w) (Li : L2Mo base (.slice ad0 l.length cp0) u l w) (hu : ∀ k, u.ownBlock = some k → k < w.heap.size) (hbase : base ≤ w.heap.size) (hbb : b < base) (hgb : g < base) (hlen : l.length ≤ 200000)
    (hrd : ∀ W, At b g cap toks (s.full (decide (most ≤ l.length))) W → Kp b w W → Calls Tryz.prog 71 #[.pointer (some ⟨b, 0, none⟩)] W (MoBk b g cap toks (rd (s.full (decide (most ≤ l.length)))) W)) :
    Calls Tryz.prog 70 #[.pointer (some ⟨b, 0, none⟩), .slice ad0 l.length cp0, .int .i64 (most : Int), .func (.func 71) #[.pointer (some ⟨b, 0, none⟩)] #[]] w (Bk2Mo b g cap base toks (.slice ad0 l.length cp0) u (oneMore (l.map Mo.clr) most rd s) w) := by
  obtain ⟨i0, hi, hz0, hz1, hz2⟩ := info_parts Tryz.info80
  have K := Kp.refl b w
  have HX : Hid (oneMore (l.map Mo.clr) most rd s = (l.map Mo.clr ++ [(rd (s.full (decide (most ≤ l.length)))).1], (rd (s.full (decide (most ≤ l.length)))).2)) := by show _ = _; unfold oneMore; rw [List.length_map]
  obtain ⟨X, hX⟩ : ∃ X, oneMore (l.map Mo.clr) most rd s = X := ⟨_, rfl⟩
  rw [hX] at HX ⊢
  rw [HX.out]
  clear hX HX
  by_cases hm : most ≤ l.length
  · have HE : Hid (∀ W, At b g cap toks (s.refuse 6).pass W → At b g cap toks (s.full (decide (most ≤ l.length))) W) := fun W hW => by rw [decide_eq_true hm]; exact hW
    have hmi : (most : Int) ≤ (l.length : Int) := by omega
    obtain ⟨sF, hsF⟩ : ∃ sF, s.full (decide (most ≤ l.length)) = sF := ⟨_, rfl⟩
    rw [hsF] at hrd HE ⊢
    clear hsF
    go_enter Tryz.func70, Tryz.ntmps70
    go_wp2_with (first
          | (go_at_call 63; (with_reducible refine (refuse_any 6 b g cap toks _ _ A).mono ?_); rintro r u1 ⟨rfl, A, k⟩; have Li := Li.kp k hbb; have K := K.trans k)
          | (go_at_call 110; (with_reducible refine (pass_any b g cap toks _ _ A).mono ?_); rintro r u2 ⟨rfl, A, k⟩; have Li := Li.kp k hbb; have K := K.trans k; have A := HE.out _ A)
          | (go_at_call 71; (with_reducible refine (hrd _ A K).mono ?_); rintro r u3 ⟨nm, vad, vcp, vars, mad, mcp, meths, po, rfl, hclr, hBy, A, k⟩; have hzc := K.size; have Li0 := Li; have Li := Li.kp k hbb; have K := K.trans k)
          | (at_builtin; refine wpList_append_own2 rfl _ _ 34 rfl base 80 i0 (.agg #[.string ⟨#[]⟩, .slice none 0 0, .slice none 0 0, .int .i64 0]) 4 72 Tryz.underlying34 hi hz0 hz1 hz2 rfl (by decide) _ _ _ rfl (Li.1.alloc _) ⟨u3.heap.size, 0, none⟩ 1 1 (#[.string nm, .slice vad vars.length vcp, .slice mad meths.length mcp, .int .i64 po]).toList rfl rfl (news_of (newB' _ _ _ _ rfl)) ?c1 (by decide) ?c2 ?c3 ?c4 ?_))
    case c1 => exact ⟨rfl, rfl, rfl, rfl⟩
    case c2 => unfold maxLen; omega
    case c3 => omega
    case c4 => have := K.size; simp; omega
    intro v' u4 hown' hgrow hwh
    have hwh2 : v'.ownBlock = (Value.slice ad0 l.length cp0).ownBlock ∨ v'.ownBlock = some ((u3.alloc (.cells #[.string nm, .slice vad vars.length vcp, .slice mad meths.length mcp, .int .i64 po] 80)).heap.size) := by simpa using hwh
    have hel2 : ∀ x ∈ l, x.By (by2 base v' u) u4 := fun x hx => grow_by2 (B := fun Q w => x.By Q w) (fun _ _ _ h1 h2 => Mo.By.kq h1 h2) (fun _ _ _ h1 h2 => Mo.By.weak h1 h2) (Mo.By.kq (Li.2 x hx) ((Kq.refl _ _).al _)) hgrow hwh2
    have hnew : (Mo.mk nm vad vcp vars mad mcp meths po).By (by2 base v' u) u4 := by
      refine grow_by2 (B := fun Q w => (Mo.mk nm vad vcp vars mad mcp meths po).By Q w) (fun _ _ _ h1 h2 => Mo.By.kq h1 h2) (fun _ _ _ h1 h2 => Mo.By.weak h1 h2) ?_ hgrow hwh2
      refine Mo.By.kq (Mo.By.weak hBy (fun k hk _ => by2_iff.2 ⟨Nat.le_trans (Nat.le_trans hbase hzc) (from_iff.1 hk), fun e1 => ?_, fun e1 => ?_⟩)) ((Kq.refl _ _).al _)
      · have h1 := (Li0.1.lt k e1).2
        have h2 := from_iff.1 hk
        omega
      · have h1 := hu k e1
        have h2 := from_iff.1 hk
        omega
    have A := (A.al (.cells #[.string nm, .slice vad vars.length vcp, .slice mad meths.length mcp, .int .i64 po] 80)).grown (Li.1.alloc _) hgrow hbb hgb
    have KK : Kg b (Value.slice ad0 l.length cp0) w u4 := .of (K.al (.cells #[.string nm, .slice vad vars.length vcp, .slice mad meths.length mcp, .int .i64 po] 80)) hgrow
    have hwh3 : v'.ownBlock = (Value.slice ad0 l.length cp0).ownBlock ∨ ∃ k, v'.ownBlock = some k ∧ w.heap.size ≤ k := hwh2.imp id (fun e => ⟨_, e, by have := K.size; simp; omega⟩)
    clear hgrow hwh hwh2 Li Li0 hBy
    go_wp2
    go_ret
    refine ⟨v', l ++ [Mo.mk nm vad vcp vars mad mcp meths po], rfl, ?_, ⟨?_, ?_⟩, A, KK, hwh3⟩
    · rw [List.map_append, List.map_cons, List.map_nil, hclr]
    · rw [List.length_append, List.flatMap_append]; exact hown'
    · intro x hx
      rcases List.mem_append.1 hx with hx | hx
      · exact hel2 x hx
      · rw [List.mem_singleton.1 hx]; exact hnew
  · have HE : Hid (∀ W, At b g cap toks s.pass W → At b g cap toks (s.full (decide (most ≤ l.length))) W) := fun W hW => by rw [decide_eq_false hm]; exact hW
    have hmi : ¬ (most : Int) ≤ (l.length : Int) := by omega
    have hmd : decide ((most : Int) ≤ (l.length : Int)) = false := by simp only [decide_eq_false_iff_not]; exact hmi
    obtain ⟨sF, hsF⟩ : ∃ sF, s.full (decide (most ≤ l.length)) = sF := ⟨_, rfl⟩
    rw [hsF] at hrd HE ⊢
    clear hsF
    go_enter Tryz.func70, Tryz.ntmps70
    go_wp2_with (first
          | (go_at_call 110; (with_reducible refine (pass_any b g cap toks _ _ A).mono ?_); rintro r u2 ⟨rfl, A, k⟩; have Li := Li.kp k hbb; have K := K.trans k; have A := HE.out _ A)
          | (go_at_call 71; (with_reducible refine (hrd _ A K).mono ?_); rintro r u3 ⟨nm, vad, vcp, vars, mad, mcp, meths, po, rfl, hclr, hBy, A, k⟩; have hzc := K.size; have Li0 := Li; have Li := Li.kp k hbb; have K := K.trans k)
          | (at_builtin; refine wpList_append_own2 rfl _ _ 34 rfl base 80 i0 (.agg #[.string ⟨#[]⟩, .slice none 0 0, .slice none 0 0, .int .i64 0]) 4 72 Tryz.underlying34 hi hz0 hz1 hz2 rfl (by decide) _ _ _ rfl (Li.1.alloc _) ⟨u3.heap.size, 0, none⟩ 1 1 (#[.string nm, .slice vad vars.length vcp, .slice mad meths.length mcp, .int .i64 po]).toList rfl rfl (news_of (newB' _ _ _ _ rfl)) ?c1 (by decide) ?c2 ?c3 ?c4 ?_))
    case c1 => exact ⟨rfl, rfl, rfl, rfl⟩
    case c2 => unfold maxLen; omega
    case c3 => omega
    case c4 => have := K.size; simp; omega
    intro v' u4 hown' hgrow hwh
    have hwh2 : v'.ownBlock = (Value.slice ad0 l.length cp0).ownBlock ∨ v'.ownBlock = some ((u3.alloc (.cells #[.string nm, .slice vad vars.length vcp, .slice mad meths.length mcp, .int .i64 po] 80)).heap.size) := by simpa using hwh
    have hel2 : ∀ x ∈ l, x.By (by2 base v' u) u4 := fun x hx => grow_by2 (B := fun Q w => x.By Q w) (fun _ _ _ h1 h2 => Mo.By.kq h1 h2) (fun _ _ _ h1 h2 => Mo.By.weak h1 h2) (Mo.By.kq (Li.2 x hx) ((Kq.refl _ _).al _)) hgrow hwh2
    have hnew : (Mo.mk nm vad vcp vars mad mcp meths po).By (by2 base v' u) u4 := by
      refine grow_by2 (B := fun Q w => (Mo.mk nm vad vcp vars mad mcp meths po).By Q w) (fun _ _ _ h1 h2 => Mo.By.kq h1 h2) (fun _ _ _ h1 h2 => Mo.By.weak h1 h2) ?_ hgrow hwh2
      refine Mo.By.kq (Mo.By.weak hBy (fun k hk _ => by2_iff.2 ⟨Nat.le_trans (Nat.le_trans hbase hzc) (from_iff.1 hk), fun e1 => ?_, fun e1 => ?_⟩)) ((Kq.refl _ _).al _)
      · have h1 := (Li0.1.lt k e1).2
        have h2 := from_iff.1 hk
        omega
      · have h1 := hu k e1
        have h2 := from_iff.1 hk
        omega
    have A := (A.al (.cells #[.string nm, .slice vad vars.length vcp, .slice mad meths.length mcp, .int .i64 po] 80)).grown (Li.1.alloc _) hgrow hbb hgb
    have KK : Kg b (Value.slice ad0 l.length cp0) w u4 := .of (K.al (.cells #[.string nm, .slice vad vars.length vcp, .slice mad meths.length mcp, .int .i64 po] 80)) hgrow
    have hwh3 : v'.ownBlock = (Value.slice ad0 l.length cp0).ownBlock ∨ ∃ k, v'.ownBlock = some k ∧ w.heap.size ≤ k := hwh2.imp id (fun e => ⟨_, e, by have := K.size; simp; omega⟩)
    clear hgrow hwh hwh2 Li Li0 hBy
    go_wp2
    go_ret
    refine ⟨v', l ++ [Mo.mk nm vad vcp vars mad mcp meths po], rfl, ?_, ⟨?_, ?_⟩, A, KK, hwh3⟩
    · rw [List.map_append, List.map_cons, List.map_nil, hclr]
    · rw [List.length_append, List.flatMap_append]; exact hown'
    · intro x hx
      rcases List.mem_append.1 hx with hx | hx
      · exact hel2 x hx
      · rw [List.mem_singleton.1 hx]; exact hnew
/-- A list of Ro beside another one's row. -/
def L2Ro (base : Nat) (v u : Value) (l : List Ro) (w : World) : Prop := w.ownsRow base 62 5 v l.length (l.flatMap Ro.cells) ∧ ∀ x ∈ l, x.By (by2 base v u) w
theorem L2Ro.bel {base : Nat} {v u : Value} {l : List Ro} {w w' : World} (h : L2Ro base v u l w) (k : Below w.heap.size w w') : L2Ro base v u l w' := ⟨owns_below h.1 k, fun x hx => Ro.By.kq (h.2 x hx) ((Kq.refl _ _).bel k)⟩
theorem L2Ro.kp {base b : Nat} {v u : Value} {l : List Ro} {w w' : World} (h : L2Ro base v u l w) (k : Kp b w w') (hb : b < base) : L2Ro base v u l w' := ⟨owns_kp h.1 k hb, fun x hx => Ro.By.kq (h.2 x hx) ((Kq.refl _ _).kp k (by2_lt hb))⟩
theorem L2Ro.other {base b : Nat} {v v' u : Value} {l : List Ro} {w w' : World} {ts tm m : Nat} {xs : List Value} (h : L2Ro base u v l w) (hv : w.ownsRow base ts tm v m xs) (hts : ts ≠ 62) (k : Kg b v w w') (hb : b < base) (hw : v'.ownBlock = v.ownBlock ∨ ∃ k, v'.ownBlock = some k ∧ w.heap.size ≤ k) : L2Ro base u v' l w' := by
  have hne : ∀ g, u.ownBlock = some g → v.ownBlock ≠ some g := fun g hg e => by
    obtain ⟨c1, h1⟩ := own_kind h.1 g hg
    obtain ⟨c2, h2⟩ := own_kind hv g e
    rw [h1] at h2; injection h2 with h2; injection h2 with _ h3 _; exact hts h3.symm
  refine ⟨?_, fun x hx => ?_⟩
  · obtain ⟨hl, ⟨rfl, hn⟩ | ⟨g, cap, cur, rfl, hB, hh, hc, hm, hcs, hx⟩⟩ := h.1
    · exact ⟨hl, .inl ⟨rfl, hn⟩⟩
    · exact ⟨hl, .inr ⟨g, cap, cur, rfl, hB, by rw [k.block g (ltB hh) (by omega) (hne g rfl)]; exact hh, hc, hm, hcs, hx⟩⟩
  · have h1 : x.By (fun k => by2 base u v k && decide (k < w.heap.size)) w := Ro.By.weak (h.2 x hx) (fun k hk hl => by simp only [hk, Bool.true_and, decide_eq_true_eq]; exact hl)
    have h2 := Ro.By.kq h1 ⟨k.size, fun i hi hl => k.block i hl (by have := (by2_iff.1 (Bool.and_eq_true_iff.1 hi).1).1; omega) (by2_iff.1 (Bool.and_eq_true_iff.1 hi).1).2.2⟩
    refine Ro.By.weak h2 (fun i hi _ => ?_)
    obtain ⟨ha, hb'⟩ := Bool.and_eq_true_iff.1 hi
    have hlt : i < w.heap.size := of_decide_eq_true hb'
    refine by2_iff.2 ⟨(by2_iff.1 ha).1, (by2_iff.1 ha).2.1, ?_⟩
    rcases hw with hw | ⟨q, hw, hq⟩
    · rw [hw]; exact (by2_iff.1 ha).2.2
    · rw [hw]; intro e; injection e with e; omega
def Bk2Ro (b g cap base : Nat) (toks : List Out) (v0 u : Value) (x : List Ro × S) (w : World) (r : Ending) (w' : World) : Prop :=
  ∃ v l, r = .returned v ∧ l.map Ro.clr = x.1 ∧ L2Ro base v u l w' ∧ At b g cap toks x.2 w' ∧ Kg b v0 w w' ∧ (v.ownBlock = v0.ownBlock ∨ ∃ k, v.ownBlock = some k ∧ w.heap.size ≤ k)
set_option maxRecDepth 100000 in
set_option maxHeartbeats 2000000 in
theorem oneMore2_Ro (rd : S → Ro × S) (most : Nat) (u : Value) (ad0 : Option Addr) (cp0 : Nat) (l : List Ro) (base b g cap : Nat) (toks : List Out) (s : S) (w : World) (A : At b g cap toks s w) (Li : L2Ro base (.slice ad0 l.length cp0) u l w) (hu : ∀ k, u.ownBlock = some k → k < w.heap.size) (hbase : base ≤ w.heap.size) (hbb : b < base) (hgb : g < base) (hlen : l.length ≤ 200000)
    (hrd : ∀ W, At b g cap toks (s.full (decide (most ≤ l.length))) W → Kp b w W → Calls Tryz.prog 73 #[.pointer (some ⟨b, 0, none⟩)] W (RoBk b g cap toks (rd (s.full (decide (most ≤ l.length)))) W)) :
    Calls Tryz.prog 72 #[.pointer (some ⟨b, 0, none⟩), .slice ad0 l.length cp0, .int .i64 (most : Int), .func (.func 73) #[.pointer (some ⟨b, 0, none⟩)] #[]] w (Bk2Ro b g cap base toks (.slice ad0 l.length cp0) u (oneMore (l.map Ro.clr) most rd s) w) := by
  obtain ⟨i0, hi, hz0, hz1, hz2⟩ := info_parts Tryz.info62
  have K := Kp.refl b w
  have HX : Hid (oneMore (l.map Ro.clr) most rd s = (l.map Ro.clr ++ [(rd (s.full (decide (most ≤ l.length)))).1], (rd (s.full (decide (most ≤ l.length)))).2)) := by show _ = _; unfold oneMore; rw [List.length_map]
  obtain ⟨X, hX⟩ : ∃ X, oneMore (l.map Ro.clr) most rd s = X := ⟨_, rfl⟩
  rw [hX] at HX ⊢
  rw [HX.out]
  clear hX HX
  by_cases hm : most ≤ l.length
  · have HE : Hid (∀ W, At b g cap toks (s.refuse 6).pass W → At b g cap toks (s.full (decide (most ≤ l.length))) W) := fun W hW => by rw [decide_eq_true hm]; exact hW
    have hmi : (most : Int) ≤ (l.length : Int) := by omega
    obtain ⟨sF, hsF⟩ : ∃ sF, s.full (decide (most ≤ l.length)) = sF := ⟨_, rfl⟩
    rw [hsF] at hrd HE ⊢
    clear hsF
    go_enter Tryz.func72, Tryz.ntmps72
    go_wp2_with (first
          | (go_at_call 63; (with_reducible refine (refuse_any 6 b g cap toks _ _ A).mono ?_); rintro r u1 ⟨rfl, A, k⟩; have Li := Li.kp k hbb; have K := K.trans k)
          | (go_at_call 110; (with_reducible refine (pass_any b g cap toks _ _ A).mono ?_); rintro r u2 ⟨rfl, A, k⟩; have Li := Li.kp k hbb; have K := K.trans k; have A := HE.out _ A)
          | (go_at_call 73; (with_reducible refine (hrd _ A K).mono ?_); rintro r u3 ⟨nm, star, cnt, ad, cp, body, po, rfl, hclr, hBy, A, k⟩; have hzc := K.size; have Li0 := Li; have Li := Li.kp k hbb; have K := K.trans k)
          | (at_builtin; refine wpList_append_own2 rfl _ _ 35 rfl base 62 i0 (.agg #[.string ⟨#[]⟩, .bool false, .int .i64 0, .slice none 0 0, .int .i64 0]) 5 64 Tryz.underlying35 hi hz0 hz1 hz2 rfl (by decide) _ _ _ rfl (Li.1.alloc _) ⟨u3.heap.size, 0, none⟩ 1 1 (#[.string nm, .bool star, .int .i64 cnt, .slice ad body.length cp, .int .i64 po]).toList rfl rfl (news_of (newB' _ _ _ _ rfl)) ?c1 (by decide) ?c2 ?c3 ?c4 ?_))
    case c1 => exact ⟨rfl, rfl, rfl, rfl, rfl⟩
    case c2 => unfold maxLen; omega
    case c3 => omega
    case c4 => have := K.size; simp; omega
    intro v' u4 hown' hgrow hwh
    have hwh2 : v'.ownBlock = (Value.slice ad0 l.length cp0).ownBlock ∨ v'.ownBlock = some ((u3.alloc (.cells #[.string nm, .bool star, .int .i64 cnt, .slice ad body.length cp, .int .i64 po] 62)).heap.size) := by simpa using hwh
    have hel2 : ∀ x ∈ l, x.By (by2 base v' u) u4 := fun x hx => grow_by2 (B := fun Q w => x.By Q w) (fun _ _ _ h1 h2 => Ro.By.kq h1 h2) (fun _ _ _ h1 h2 => Ro.By.weak h1 h2) (Ro.By.kq (Li.2 x hx) ((Kq.refl _ _).al _)) hgrow hwh2
    have hnew : (Ro.mk nm star cnt (.mk ad cp body) po).By (by2 base v' u) u4 := by
      refine grow_by2 (B := fun Q w => (Ro.mk nm star cnt (.mk ad cp body) po).By Q w) (fun _ _ _ h1 h2 => Ro.By.kq h1 h2) (fun _ _ _ h1 h2 => Ro.By.weak h1 h2) ?_ hgrow hwh2
      refine Ro.By.kq (Ro.By.weak hBy (fun k hk _ => by2_iff.2 ⟨Nat.le_trans (Nat.le_trans hbase hzc) (from_iff.1 hk), fun e1 => ?_, fun e1 => ?_⟩)) ((Kq.refl _ _).al _)
      · have h1 := (Li0.1.lt k e1).2
        have h2 := from_iff.1 hk
        omega
      · have h1 := hu k e1
        have h2 := from_iff.1 hk
        omega
    have A := (A.al (.cells #[.string nm, .bool star, .int .i64 cnt, .slice ad body.length cp, .int .i64 po] 62)).grown (Li.1.alloc _) hgrow hbb hgb
    have KK : Kg b (Value.slice ad0 l.length cp0) w u4 := .of (K.al (.cells #[.string nm, .bool star, .int .i64 cnt, .slice ad body.length cp, .int .i64 po] 62)) hgrow
    have hwh3 : v'.ownBlock = (Value.slice ad0 l.length cp0).ownBlock ∨ ∃ k, v'.ownBlock = some k ∧ w.heap.size ≤ k := hwh2.imp id (fun e => ⟨_, e, by have := K.size; simp; omega⟩)
    clear hgrow hwh hwh2 Li Li0 hBy
    go_wp2
    go_ret
    refine ⟨v', l ++ [Ro.mk nm star cnt (.mk ad cp body) po], rfl, ?_, ⟨?_, ?_⟩, A, KK, hwh3⟩
    · rw [List.map_append, List.map_cons, List.map_nil, hclr]
    · rw [List.length_append, List.flatMap_append]; exact hown'
    · intro x hx
      rcases List.mem_append.1 hx with hx | hx
      · exact hel2 x hx
      · rw [List.mem_singleton.1 hx]; exact hnew
  · have HE : Hid (∀ W, At b g cap toks s.pass W → At b g cap toks (s.full (decide (most ≤ l.length))) W) := fun W hW => by rw [decide_eq_false hm]; exact hW
    have hmi : ¬ (most : Int) ≤ (l.length : Int) := by omega
    have hmd : decide ((most : Int) ≤ (l.length : Int)) = false := by simp only [decide_eq_false_iff_not]; exact hmi
    obtain ⟨sF, hsF⟩ : ∃ sF, s.full (decide (most ≤ l.length)) = sF := ⟨_, rfl⟩
    rw [hsF] at hrd HE ⊢
    clear hsF
    go_enter Tryz.func72, Tryz.ntmps72
    go_wp2_with (first
          | (go_at_call 110; (with_reducible refine (pass_any b g cap toks _ _ A).mono ?_); rintro r u2 ⟨rfl, A, k⟩; have Li := Li.kp k hbb; have K := K.trans k; have A := HE.out _ A)
          | (go_at_call 73; (with_reducible refine (hrd _ A K).mono ?_); rintro r u3 ⟨nm, star, cnt, ad, cp, body, po, rfl, hclr, hBy, A, k⟩; have hzc := K.size; have Li0 := Li; have Li := Li.kp k hbb; have K := K.trans k)
          | (at_builtin; refine wpList_append_own2 rfl _ _ 35 rfl base 62 i0 (.agg #[.string ⟨#[]⟩, .bool false, .int .i64 0, .slice none 0 0, .int .i64 0]) 5 64 Tryz.underlying35 hi hz0 hz1 hz2 rfl (by decide) _ _ _ rfl (Li.1.alloc _) ⟨u3.heap.size, 0, none⟩ 1 1 (#[.string nm, .bool star, .int .i64 cnt, .slice ad body.length cp, .int .i64 po]).toList rfl rfl (news_of (newB' _ _ _ _ rfl)) ?c1 (by decide) ?c2 ?c3 ?c4 ?_))
    case c1 => exact ⟨rfl, rfl, rfl, rfl, rfl⟩
    case c2 => unfold maxLen; omega
    case c3 => omega
    case c4 => have := K.size; simp; omega
    intro v' u4 hown' hgrow hwh
    have hwh2 : v'.ownBlock = (Value.slice ad0 l.length cp0).ownBlock ∨ v'.ownBlock = some ((u3.alloc (.cells #[.string nm, .bool star, .int .i64 cnt, .slice ad body.length cp, .int .i64 po] 62)).heap.size) := by simpa using hwh
    have hel2 : ∀ x ∈ l, x.By (by2 base v' u) u4 := fun x hx => grow_by2 (B := fun Q w => x.By Q w) (fun _ _ _ h1 h2 => Ro.By.kq h1 h2) (fun _ _ _ h1 h2 => Ro.By.weak h1 h2) (Ro.By.kq (Li.2 x hx) ((Kq.refl _ _).al _)) hgrow hwh2
    have hnew : (Ro.mk nm star cnt (.mk ad cp body) po).By (by2 base v' u) u4 := by
      refine grow_by2 (B := fun Q w => (Ro.mk nm star cnt (.mk ad cp body) po).By Q w) (fun _ _ _ h1 h2 => Ro.By.kq h1 h2) (fun _ _ _ h1 h2 => Ro.By.weak h1 h2) ?_ hgrow hwh2
      refine Ro.By.kq (Ro.By.weak hBy (fun k hk _ => by2_iff.2 ⟨Nat.le_trans (Nat.le_trans hbase hzc) (from_iff.1 hk), fun e1 => ?_, fun e1 => ?_⟩)) ((Kq.refl _ _).al _)
      · have h1 := (Li0.1.lt k e1).2
        have h2 := from_iff.1 hk
        omega
      · have h1 := hu k e1
        have h2 := from_iff.1 hk
        omega
    have A := (A.al (.cells #[.string nm, .bool star, .int .i64 cnt, .slice ad body.length cp, .int .i64 po] 62)).grown (Li.1.alloc _) hgrow hbb hgb
    have KK : Kg b (Value.slice ad0 l.length cp0) w u4 := .of (K.al (.cells #[.string nm, .bool star, .int .i64 cnt, .slice ad body.length cp, .int .i64 po] 62)) hgrow
    have hwh3 : v'.ownBlock = (Value.slice ad0 l.length cp0).ownBlock ∨ ∃ k, v'.ownBlock = some k ∧ w.heap.size ≤ k := hwh2.imp id (fun e => ⟨_, e, by have := K.size; simp; omega⟩)
    clear hgrow hwh hwh2 Li Li0 hBy
    go_wp2
    go_ret
    refine ⟨v', l ++ [Ro.mk nm star cnt (.mk ad cp body) po], rfl, ?_, ⟨?_, ?_⟩, A, KK, hwh3⟩
    · rw [List.map_append, List.map_cons, List.map_nil, hclr]
    · rw [List.length_append, List.flatMap_append]; exact hown'
    · intro x hx
      rcases List.mem_append.1 hx with hx | hx
      · exact hel2 x hx
      · rw [List.mem_singleton.1 hx]; exact hnew
end Go.Proofs.YtaekbgljbgmchaaGreatDoor
