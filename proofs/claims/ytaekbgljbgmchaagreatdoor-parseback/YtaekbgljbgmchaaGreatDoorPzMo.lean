/-
  members of package parse.
-/
import Derived.Test.YtaekbgljbgmchaaGreatDoorPzLi
import Derived.Test.YtaekbgljbgmchaaGreatDoorPzMr
namespace Go.Proofs.YtaekbgljbgmchaaGreatDoor
open Go.RowKit
open Lx (Out)
open Pz
namespace Pz
theorem le_integer (s : S) : Le s (integer s).2 := by
  unfold integer; split
  · exact (le_pass s).trans (le_take _ _)
  · exact le_take _ _
theorem le_truth (s : S) : Le s (truth s).2 := by
  unfold truth; split
  · exact le_pass s
  · exact le_want _ _
theorem le_bounds (s : S) : Le s (bounds s).2 := by
  have h : Le s (integer ((integer s).2.want s_dots)).2 := ((le_integer s).trans (le_want _ _)).trans (le_integer _)
  unfold bounds
  simp only
  split
  · exact h.trans (le_fail _ _ _)
  · exact h
theorem le_typed (s : S) : Le s (typed s).2 := by
  unfold typed; split
  · exact ((le_pass s).trans (le_want _ _)).trans (le_truth _)
  · split
    · exact ((le_pass s).trans (le_want _ _)).trans (le_integer _)
    · exact ((le_bounds s).trans (le_want _ _)).trans (le_integer _)
theorem le_vari (s : S) : Le s (vari s).2 := (((le_take s 1).trans (le_want _ _)).trans (le_typed _)).trans (le_want _ _)
theorem le_blockF (f : Nat) (s : S) : Le s (blockF f s).2 := le_block _ (fun s => stmts_le f [] s) s
theorem le_method (f : Nat) (s : S) : Le s (method f s).2 := (le_take s 1).trans (le_blockF f _)
theorem le_members (f : Nat) (s : S) : Le s (members f s).2 := (le_several _ _ _ le_vari _ _ _).trans (le_several _ _ _ (le_method f) _ _ _)
end Pz
theorem LiVa.set {base : Nat} {v : Value} {l : List Va} {w : World} (h : LiVa base v l w) {p : Addr} (hp : p.block < base) (x : Value) : LiVa base v l (w.setCell p x) := h.kp ((Kp.refl p.block w).set (.inl rfl) x) hp
theorem LiVa.nil (base : Nat) (w : World) : LiVa base (.slice none 0 0) [] w := ⟨World.ownsRow_nil _ _ _ _, by simp⟩
theorem LiMe.set {base : Nat} {v : Value} {l : List Me} {w : World} (h : LiMe base v l w) {p : Addr} (hp : p.block < base) (x : Value) : LiMe base v l (w.setCell p x) := h.kp ((Kp.refl p.block w).set (.inl rfl) x) hp
theorem LiMe.nil (base : Nat) (w : World) : LiMe base (.slice none 0 0) [] w := ⟨World.ownsRow_nil _ _ _ _, by simp⟩
theorem Kf.toKp {b base : Nat} {w w' : World} (h : Kf b base w w') (hb : w.heap.size ≤ base) : Kp b w w' := ⟨h.os, h.tape, h.output, h.size, fun k hk hne => h.block k (Nat.lt_of_lt_of_le hk hb) hk hne⟩
theorem MoBy.own {m base base2 : Nat} {w : World} {nm : ByteArray} {pos : Int} {vad mad : Option Addr} {vcp mcp : Nat} {vars : List Va} {meths : List Me} (hv : LiVa base (.slice vad vars.length vcp) vars w) (hm : LiMe base2 (.slice mad meths.length mcp) meths w) (h1 : m ≤ base) (h2 : m ≤ base2) (hl : Len nm) (hp : I64 pos) : (Mo.mk nm vad vcp vars mad mcp meths pos).By (from_ m) w := by
  obtain ⟨ad', cp', hve, hsl⟩ := sl_of_own Va.cells_len hv.1
  obtain ⟨ad2, cp2, hme, hsl2⟩ := sl_of_own Me.cells_len hm.1
  cases hve
  cases hme
  refine ⟨⟨hl, hp⟩, ⟨hsl.carry Va.cells_len (only_weak fun k hk _ => from_iff.2 (Nat.le_trans h1 (from_iff.1 hk))), fun v hv' => hv.2 v hv'⟩, hsl2.carry Me.cells_len (only_weak fun k hk _ => from_iff.2 (Nat.le_trans h2 (from_iff.1 hk))), fun x hx => Me.By.weak (hm.2 x hx) (fun k hk _ => from_iff.2 (Nat.le_trans h2 (but_iff.1 hk).1))⟩
set_option maxRecDepth 100000 in
set_option maxHeartbeats 2000000 in
theorem members_any (f : Nat) (b g cap : Nat) (toks : List Out) (s : S) (w : World) (h : At b g cap toks s w) (hn : Nn toks)
    (hM : ∀ s' W, Le s s' → s'.rest.length + 1 ≤ s.rest.length → At b g cap toks s' W → Kp b w W → Calls Tryz.prog 160 #[.pointer (some ⟨b, 0, none⟩)] W (MeBk b g cap toks (Pz.method f s') W)) :
    Calls Tryz.prog 119 #[.pointer (some ⟨b, 0, none⟩)] w (MoBk b g cap toks (members f s) w) := by
  have hb := h.lt
  have hgl := h.glt
  have A := h.al (.cells #[.string ⟨#[]⟩, .slice none 0 0, .slice none 0 0, .int .i64 0] 80)
  have bR := newB w #[.string ⟨#[]⟩, .slice none 0 0, .slice none 0 0, .int .i64 0] 80
  have hne : w.heap.size ≠ b := by omega
  have hng : w.heap.size ≠ g := by omega
  have K : Kp b w (w.alloc (.cells #[.string ⟨#[]⟩, .slice none 0 0, .slice none 0 0, .int .i64 0] 80)) := (Kp.refl b w).al _
  have hlR := ltB bR
  have bS := newB' (w.alloc (.cells #[.string ⟨#[]⟩, .slice none 0 0, .slice none 0 0, .int .i64 0] 80)) #[.string ⟨#[]⟩, .slice none 0 0, .slice none 0 0, .int .i64 0] 80 (w.heap.size + 1) (by simp)
  have A := A.al (.cells #[.string ⟨#[]⟩, .slice none 0 0, .slice none 0 0, .int .i64 0] 80)
  have K := K.al (.cells #[.string ⟨#[]⟩, .slice none 0 0, .slice none 0 0, .int .i64 0] 80)
  have bR := bel_box bR (bel_al _ (.cells #[.string ⟨#[]⟩, .slice none 0 0, .slice none 0 0, .int .i64 0] 80))
  have hnS : w.heap.size + 1 ≠ b := by omega
  have hnS2 : w.heap.size + 1 ≠ g := by omega
  have hnR : w.heap.size ≠ w.heap.size + 1 := by omega
  have hSw : w.heap.size ≤ w.heap.size + 1 := by omega
  obtain ⟨y0, y1, y2, y3, yf, yl⟩ := four bS
  have HX : Hid (members f s = (⟨e0, none, 0, (several k_var 16 vari s.rest.length [] s).1, none, 0, (several k_method 16 (Pz.method f) (several k_var 16 vari s.rest.length [] s).2.rest.length [] (several k_var 16 vari s.rest.length [] s).2).1, 0⟩, (several k_method 16 (Pz.method f) (several k_var 16 vari s.rest.length [] s).2.rest.length [] (several k_var 16 vari s.rest.length [] s).2).2)) := rfl
  obtain ⟨R, hR⟩ : ∃ R, members f s = R := ⟨_, rfl⟩
  rw [hR] at HX ⊢
  clear hR
  have HL := hid (le_several k_var 16 vari le_vari s.rest.length [] s)
  have h1 : ∀ W, At b g cap toks s W → Kp b w W → w.heap.size + 2 ≤ W.heap.size → Calls Tryz.prog 157 #[.pointer (some ⟨b, 0, none⟩), .slice none 0 0, .string ⟨#[118, 97, 114]⟩, .int .i64 16, .func (.func 158) #[.pointer (some ⟨b, 0, none⟩)] #[]] W (BackVa b g cap (w.heap.size + 2) toks (several k_var 16 vari s.rest.length [] s) W) := fun W hA hK hz =>
    several_Va vari le_vari k_var (by decide) 16 (.slice none 0 0) [] (w.heap.size + 2) b g cap toks s W hA (LiVa.nil _ _) hz (by omega) (by omega) (by simp) (fun s' _ V _ _ hV _ _ => vari_c b g cap toks s' V hV hn)
  obtain ⟨vs, hvs⟩ : ∃ vs, several k_var 16 vari s.rest.length [] s = vs := ⟨_, rfl⟩
  rw [hvs] at HX HL
  simp only [hvs] at h1
  have h2 : ∀ W, At b g cap toks vs.2 W → Kp b w W → w.heap.size ≤ W.heap.size → Calls Tryz.prog 159 #[.pointer (some ⟨b, 0, none⟩), .slice none 0 0, .string ⟨#[109, 101, 116, 104, 111, 100]⟩, .int .i64 16, .func (.func 160) #[.pointer (some ⟨b, 0, none⟩)] #[]] W (BackMe b g cap W.heap.size toks (several k_method 16 (Pz.method f) vs.2.rest.length [] vs.2) W) := fun W hA hK hz =>
    several_Me (Pz.method f) (le_method f) k_method (by decide) 16 (.slice none 0 0) [] W.heap.size b g cap toks vs.2 W hA (LiMe.nil _ _) (Nat.le_refl _) (by omega) (by omega) (by simp) (fun s' _ V hl hlt hV kV _ => hM s' V (HL.out.trans hl) (by have := HL.out.2; omega) hV (Kf.to hK kV hz))
  obtain ⟨ms, hms⟩ : ∃ ms, several k_method 16 (Pz.method f) vs.2.rest.length [] vs.2 = ms := ⟨_, rfl⟩
  rw [hms] at HX
  simp only [hms] at h2
  clear hms hvs hM h
  have hRb : w.heap.size < w.heap.size + 2 := by omega
  have hSb : w.heap.size + 1 < w.heap.size + 2 := by omega
  have hzz : w.heap.size + 2 ≤ ((w.alloc (.cells #[.string ⟨#[]⟩, .slice none 0 0, .slice none 0 0, .int .i64 0] 80)).alloc (.cells #[.string ⟨#[]⟩, .slice none 0 0, .slice none 0 0, .int .i64 0] 80)).heap.size := by simp
  go_enter Tryz.func119, Tryz.ntmps119
  go_wp2_with (first
      | (go_at_call 157; (with_reducible refine (h1 _ A K hzz).mono ?_); rintro r w1 ⟨v1, l1, rfl, hl1, Li1, A, k⟩; obtain ⟨ad1, cp1, rfl, -⟩ := sl_of_own Va.cells_len Li1.1; have hzk := Nat.le_trans hzz k.size; have K := Kf.to K k (by omega); have bR := k.box bR hne hRb; have bS := k.box bS hnS hSb; obtain ⟨y0, y1, y2, y3, yf, yl⟩ := four bS; have A := A.put (p := ⟨w.heap.size + 1, 1, none⟩) hnS hnS2 (.slice ad1 l1.length cp1); have K := K.set (p := ⟨w.heap.size + 1, 1, none⟩) (.inr hSw) (.slice ad1 l1.length cp1); have Li1 := Li1.set (p := ⟨w.heap.size + 1, 1, none⟩) hSb (.slice ad1 l1.length cp1); have bR := set_box (j := w.heap.size + 1) (i := 1) bR hnR (.slice ad1 l1.length cp1); have bS := setBx (i := 1) (c2 := #[.string ⟨#[]⟩, .slice ad1 l1.length cp1, .slice none 0 0, .int .i64 0]) bS (.slice ad1 l1.length cp1) rfl)
      | (go_at_call 159; (with_reducible refine (h2 _ A K K.size).mono ?_); rintro r w3 ⟨v2, l2, rfl, hl2, Li2, A, k⟩; obtain ⟨ad2, cp2, rfl, -⟩ := sl_of_own Me.cells_len Li2.1; have hzK := K.size; have k := k.toKp (Nat.le_refl _); have K := K.trans k; have bR := k.box bR hne; have bS := k.box bS hnS; have Li1 := Li1.kp k (by omega); have hz1 := ltB bR; obtain ⟨y0, y1, y2, y3, yf, yl⟩ := four bS; obtain ⟨x0, x1, x2, x3, xf, xl⟩ := four bR))
  rw [HX.out]
  refine bodyPost_ret (v := .agg #[.string ⟨#[]⟩, .slice ad1 l1.length cp1, .slice ad2 l2.length cp2, .int .i64 0]) ?_ rfl ⟨⟨#[]⟩, ad1, cp1, l1, ad2, cp2, l2, 0, rfl, ?_, ?_, ?_, ?_⟩
  · simp [results, Tryz.results119, go_sem, x0, x1, x2, x3]
  · unfold Mo.clr; rw [hl1, hl2]; rfl
  · have hby := MoBy.own (m := w.heap.size + 2) (nm := ⟨#[]⟩) (pos := 0) Li1 Li2 (Nat.le_refl _) (by simpa using hzk) len_e0 (i64_small (by decide) (by decide))
    have hpR := from_not hRb
    have hpS := from_not hSb
    refine (Mo.By.kq hby ?_).mono (by omega)
    repeat (first | with_reducible refine Kq.set ?_ (.inl hpR) _ | with_reducible refine Kq.set ?_ (.inl hpS) _ | with_reducible refine Kq.al ?_ _)
    with_reducible exact Kq.refl _ _
  · repeat (first | with_reducible refine Pz.At.put ?_ hne hng _ | with_reducible refine Pz.At.put ?_ hnS hnS2 _ | with_reducible refine Pz.At.al ?_ _)
    exact A
  · repeat (first | with_reducible refine Kp.set ?_ (.inr (Nat.le_refl _)) _ | with_reducible refine Kp.set ?_ (.inr hSw) _ | with_reducible refine Kp.al ?_ _)
    with_reducible exact K
end Go.Proofs.YtaekbgljbgmchaaGreatDoor
