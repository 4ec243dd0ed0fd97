/-
  choose of package parse.
-/
import Derived.Test.YtaekbgljbgmchaaGreatDoorPzY
namespace Go.Proofs.YtaekbgljbgmchaaGreatDoor
open Go.RowKit
open Lx (Out)
open Pz
theorem LiBl.set {base : Nat} {v : Value} {l : List Bl} {w : World} (h : LiBl base v l w) {p : Addr} (hp : p.block < base) (x : Value) : LiBl base v l (w.setCell p x) := h.kp ((Kp.refl p.block w).set (.inl rfl) x) hp
theorem LiBl.al {base : Nat} {v : Value} {l : List Bl} {w : World} (h : LiBl base v l w) (o : Obj) : LiBl base v l (w.alloc o) := h.bel (bel_al w o)
theorem LiBl.nil (base : Nat) (w : World) : LiBl base (.slice none 0 0) [] w := ⟨World.ownsRow_nil _ _ _ _, by simp⟩
/-- A statement whose blocks are a list that is owned. -/
theorem StBy.own {base : Nat} {w : World} {kind : Int} {mon name : ByteArray} {n : Int} {e : Ex} {pos : Int} {v : Value} {l : List Bl} (h : LiBl base v l w) (hnum : I64 kind ∧ I64 n ∧ I64 pos ∧ Len mon ∧ Len name) (he : e.By (from_ base) w) :
    ∃ ad cp, v = .slice ad l.length cp ∧ (St.mk kind mon name n e ad cp l pos).By (from_ base) w := by
  obtain ⟨ad, cp, hv, hsl⟩ := sl_of_own Bl.cells_len h.1
  exact ⟨ad, cp, hv, St.Is.up ⟨hnum, he, hsl, fun x hx => Bl.By.weak (h.2 x hx) (fun k hk _ => from_iff.2 (but_iff.1 hk).1)⟩⟩
theorem StBy.own2 {base : Nat} {w : World} {kind : Int} {mon name : ByteArray} {n : Int} {e : Ex} {pos : Int} {ad : Option Addr} {cp : Nat} {l : List Bl} (h : LiBl base (.slice ad l.length cp) l w) (hnum : I64 kind ∧ I64 n ∧ I64 pos ∧ Len mon ∧ Len name) (he : e.By (from_ base) w) :
    (St.mk kind mon name n e ad cp l pos).By (from_ base) w := by
  obtain ⟨ad', cp', hv, hby⟩ := StBy.own (kind := kind) (mon := mon) (name := name) (n := n) (e := e) (pos := pos) h hnum he
  cases hv
  exact hby
theorem Kf.set {b base : Nat} {u v : World} (h : Kf b base u v) {p : Addr} (hp : base ≤ p.block) (x : Value) : Kf b base u (v.setCell p x) := by
  refine h.trans ⟨rfl, rfl, rfl, by simp, fun k hk _ _ => ?_⟩
  have hne : k ≠ p.block := by omega
  simp [World.setCell, Array.getElem?_modify, hne.symm]
set_option maxRecDepth 100000 in
set_option maxHeartbeats 500000 in
theorem choose_any (rb : S → Bl × S) (hle : ∀ s, Le s (rb s).2) (b g cap : Nat) (toks : List Out) (s : S) (w : World) (h : At b g cap toks s w) (hk5 : s.hd.kind ≠ 5)
    (hB : ∀ s' W, Le s s' → s'.rest.length + 1 ≤ s.rest.length → At b g cap toks s' W → Kp b w W → Calls Tryz.prog 121 #[.pointer (some ⟨b, 0, none⟩)] W (BlBack b g cap toks (rb s') W)) :
    Calls Tryz.prog 203 #[.pointer (some ⟨b, 0, none⟩)] w (StBack b g cap toks (stChoose rb s) w) := by
  have hb := h.lt
  have hgl := h.glt
  have A := h.al (.cells #[.int .i64 0, .string ⟨#[]⟩, .string ⟨#[]⟩, .int .i64 0, .int .i64 0, .string ⟨#[]⟩, .string ⟨#[]⟩, .int .i64 0, .slice none 0 0, .int .i64 0, .slice none 0 0, .int .i64 0] 108)
  have bR := newB w #[.int .i64 0, .string ⟨#[]⟩, .string ⟨#[]⟩, .int .i64 0, .int .i64 0, .string ⟨#[]⟩, .string ⟨#[]⟩, .int .i64 0, .slice none 0 0, .int .i64 0, .slice none 0 0, .int .i64 0] 108
  have hne : w.heap.size ≠ b := by omega
  have hng : w.heap.size ≠ g := by omega
  have K : Kp b w (w.alloc (.cells #[.int .i64 0, .string ⟨#[]⟩, .string ⟨#[]⟩, .int .i64 0, .int .i64 0, .string ⟨#[]⟩, .string ⟨#[]⟩, .int .i64 0, .slice none 0 0, .int .i64 0, .slice none 0 0, .int .i64 0] 108)) := (Kp.refl b w).al _
  have hlR := ltB bR
  have bS := newB' (w.alloc (.cells #[.int .i64 0, .string ⟨#[]⟩, .string ⟨#[]⟩, .int .i64 0, .int .i64 0, .string ⟨#[]⟩, .string ⟨#[]⟩, .int .i64 0, .slice none 0 0, .int .i64 0, .slice none 0 0, .int .i64 0] 108)) #[.int .i64 6, .string ⟨#[]⟩, .string ⟨#[]⟩, .int .i64 0, .int .i64 0, .string ⟨#[]⟩, .string ⟨#[]⟩, .int .i64 0, .slice none 0 0, .int .i64 0, .slice none 0 0, .int .i64 0] 108 (w.heap.size + 1) (by simp)
  have A := A.al (.cells #[.int .i64 6, .string ⟨#[]⟩, .string ⟨#[]⟩, .int .i64 0, .int .i64 0, .string ⟨#[]⟩, .string ⟨#[]⟩, .int .i64 0, .slice none 0 0, .int .i64 0, .slice none 0 0, .int .i64 0] 108)
  have K := K.al (.cells #[.int .i64 6, .string ⟨#[]⟩, .string ⟨#[]⟩, .int .i64 0, .int .i64 0, .string ⟨#[]⟩, .string ⟨#[]⟩, .int .i64 0, .slice none 0 0, .int .i64 0, .slice none 0 0, .int .i64 0] 108)
  have bR := bel_box bR (bel_al _ (.cells #[.int .i64 6, .string ⟨#[]⟩, .string ⟨#[]⟩, .int .i64 0, .int .i64 0, .string ⟨#[]⟩, .string ⟨#[]⟩, .int .i64 0, .slice none 0 0, .int .i64 0, .slice none 0 0, .int .i64 0] 108))
  have hnS : w.heap.size + 1 ≠ b := by omega
  have hnS2 : w.heap.size + 1 ≠ g := by omega
  have hnR : w.heap.size ≠ w.heap.size + 1 := by omega
  have hSw : w.heap.size ≤ w.heap.size + 1 := by omega
  obtain ⟨⟨y0, y1, y2, y3, y4, y5, y6, y7, y8, y9, y10, y11⟩, yf, yl⟩ := twelve bS
  have hpl := pass_lt h.ok hk5
  have HX : Hid (stChoose rb s = (st 6 e0 e0 0 exZ (several k_or 8 rb (oneMore [] 8 rb s).2.rest.length (oneMore [] 8 rb s).1 (oneMore [] 8 rb s).2).1 0, (several k_or 8 rb (oneMore [] 8 rb s).2.rest.length (oneMore [] 8 rb s).1 (oneMore [] 8 rb s).2).2)) := rfl
  obtain ⟨R, hR⟩ : ∃ R, stChoose rb s = R := ⟨_, rfl⟩
  rw [hR] at HX ⊢
  clear hR
  have HO1 : Hid (Le s (oneMore [] 8 rb s).2 ∧ (oneMore [] 8 rb s).2.rest.length + 1 ≤ s.rest.length ∧ (oneMore [] 8 rb s).1.length = 1) := by
    refine ⟨le_oneMore _ _ _ hle s, ?_, rfl⟩
    have h1 := (hle s.pass).2
    show (rb s.pass).2.rest.length + 1 ≤ _
    omega
  have h1 : ∀ W, At b g cap toks s W → Kp b w W → w.heap.size + 2 ≤ W.heap.size → Calls Tryz.prog 218 #[.pointer (some ⟨b, 0, none⟩), .slice none 0 0, .int .i64 8, .func (.func 121) #[.pointer (some ⟨b, 0, none⟩)] #[]] W (BackBl b g cap (w.heap.size + 2) toks (oneMore [] 8 rb s) W) := fun W hA hK hz =>
    oneMore_Bl rb 8 (.slice none 0 0) [] (w.heap.size + 2) b g cap toks s W hA (LiBl.nil _ _) hz (by omega) (by omega) (by simp) (fun V hV kV => hB _ V (le_full s _) (full_lt h.ok hk5 _) hV (Kf.to hK kV (by omega)))
  obtain ⟨om, hom⟩ : ∃ om, oneMore [] 8 rb s = om := ⟨_, rfl⟩
  rw [hom] at HX HO1
  simp only [hom] at h1
  have h2 : ∀ v l W, l.map Bl.clr = om.1 → LiBl (w.heap.size + 2) v l W → At b g cap toks om.2 W → Kp b w W → w.heap.size + 2 ≤ W.heap.size → Calls Tryz.prog 219 #[.pointer (some ⟨b, 0, none⟩), v, .string ⟨#[111, 114]⟩, .int .i64 8, .func (.func 121) #[.pointer (some ⟨b, 0, none⟩)] #[]] W (BackBl b g cap (w.heap.size + 2) toks (several k_or 8 rb om.2.rest.length om.1 om.2) W) := fun v l W hl hL hA hK hz => by
    rw [← hl]
    refine several_Bl rb hle k_or (by decide) 8 v l (w.heap.size + 2) b g cap toks om.2 W hA hL hz (by omega) (by omega) (by have := HO1.out.2.2; rw [← hl, List.length_map] at this; omega) (fun s' bb V hLe hlt hV kV _ => hB s' V (HO1.out.1.trans hLe) (by have := HO1.out.2.1; omega) hV (Kf.to hK kV (by omega)))
  obtain ⟨sv, hsv⟩ : ∃ sv, several k_or 8 rb om.2.rest.length om.1 om.2 = sv := ⟨_, rfl⟩
  rw [hsv] at HX
  simp only [hsv] at h2
  clear hsv hom hB h hpl
  have hRb : w.heap.size < w.heap.size + 2 := by omega
  have hSb : w.heap.size + 1 < w.heap.size + 2 := by omega
  have hzz : w.heap.size + 2 ≤ ((w.alloc (.cells #[.int .i64 0, .string ⟨#[]⟩, .string ⟨#[]⟩, .int .i64 0, .int .i64 0, .string ⟨#[]⟩, .string ⟨#[]⟩, .int .i64 0, .slice none 0 0, .int .i64 0, .slice none 0 0, .int .i64 0] 108)).alloc (.cells #[.int .i64 6, .string ⟨#[]⟩, .string ⟨#[]⟩, .int .i64 0, .int .i64 0, .string ⟨#[]⟩, .string ⟨#[]⟩, .int .i64 0, .slice none 0 0, .int .i64 0, .slice none 0 0, .int .i64 0] 108)).heap.size := by simp
  go_enter Tryz.func203, Tryz.ntmps203
  go_wp2_with (first
      | (go_at_call 218; (with_reducible refine (h1 _ A K hzz).mono ?_); rintro r w1 ⟨v1, l1, rfl, hl1, Li1, A, k⟩; obtain ⟨ad1, cp1, rfl, -⟩ := sl_of_own Bl.cells_len Li1.1; have K := Kf.to K k (by omega); have bR := k.box bR hne hRb; have bS := k.box bS hnS hSb; have hz1 := k.size; obtain ⟨⟨y0, y1, y2, y3, y4, y5, y6, y7, y8, y9, y10, y11⟩, yf, yl⟩ := twelve bS; have A := A.put (p := ⟨w.heap.size + 1, 10, none⟩) hnS hnS2 (.slice ad1 l1.length cp1); have K := K.set (p := ⟨w.heap.size + 1, 10, none⟩) (.inr hSw) (.slice ad1 l1.length cp1); have Li1 := Li1.set (p := ⟨w.heap.size + 1, 10, none⟩) hSb (.slice ad1 l1.length cp1); have bR := set_box (j := w.heap.size + 1) (i := 10) bR hnR (.slice ad1 l1.length cp1); have bS := setBx (i := 10) (c2 := #[.int .i64 6, .string ⟨#[]⟩, .string ⟨#[]⟩, .int .i64 0, .int .i64 0, .string ⟨#[]⟩, .string ⟨#[]⟩, .int .i64 0, .slice none 0 0, .int .i64 0, .slice ad1 l1.length cp1, .int .i64 0]) bS (.slice ad1 l1.length cp1) rfl)
      | (go_at_call 219; (with_reducible refine (h2 (.slice ad1 l1.length cp1) l1 _ hl1 Li1 A K (by simp; omega)).mono ?_); rintro r w3 ⟨v2, l2, rfl, hl2, Li2, A, k⟩; obtain ⟨ad2, cp2, rfl, -⟩ := sl_of_own Bl.cells_len Li2.1; have K := Kf.to K k (by omega); have bR := k.box bR hne hRb; have bS := k.box bS hnS hSb; obtain ⟨⟨y0, y1, y2, y3, y4, y5, y6, y7, y8, y9, y10, y11⟩, yf, yl⟩ := twelve bS; obtain ⟨⟨x0, x1, x2, x3, x4, x5, x6, x7, x8, x9, x10, x11⟩, xf, xl⟩ := twelve bR))
  rw [HX.out]
  refine bodyPost_ret (v := .agg #[.int .i64 6, .string ⟨#[]⟩, .string ⟨#[]⟩, .int .i64 0, .int .i64 0, .string ⟨#[]⟩, .string ⟨#[]⟩, .int .i64 0, .slice none 0 0, .int .i64 0, .slice ad2 l2.length cp2, .int .i64 0]) ?_ rfl ⟨6, ⟨#[]⟩, ⟨#[]⟩, 0, 0, ⟨#[]⟩, ⟨#[]⟩, 0, none, 0, [], 0, ad2, cp2, l2, 0, rfl, ?_, ?_, ?_, ?_⟩
  · simp [results, Tryz.results203, go_sem, x0, x1, x2, x3, x4, x5, x6, x7, x8, x9, x10, x11]
  · rw [St.clr, Ex.clr, Ex.clrL, Bl.clrL_eq, hl2]; rfl
  · have hby := StBy.own2 (kind := 6) (mon := ⟨#[]⟩) (name := ⟨#[]⟩) (n := 0) (e := .mk 0 ⟨#[]⟩ ⟨#[]⟩ 0 none 0 [] 0) (pos := 0) Li2 ⟨i64_small (by decide) (by decide), i64_small (by decide) (by decide), i64_small (by decide) (by decide), len_e0, len_e0⟩ By.zero
    have hpR := from_not hRb
    have hpS := from_not hSb
    refine (St.By.kq hby ?_).mono (by omega)
    repeat (first | with_reducible refine Kq.set ?_ (.inl hpR) _ | with_reducible refine Kq.set ?_ (.inl hpS) _ | with_reducible refine Kq.al ?_ _)
    with_reducible exact Kq.refl _ _
  · repeat (first | with_reducible refine Pz.At.put ?_ hne hng _ | with_reducible refine Pz.At.put ?_ hnS hnS2 _ | with_reducible refine Pz.At.al ?_ _)
    exact A
  · repeat (first | with_reducible refine Kp.set ?_ (.inr (Nat.le_refl _)) _ | with_reducible refine Kp.set ?_ (.inr hSw) _ | with_reducible refine Kp.al ?_ _)
    with_reducible exact K
end Go.Proofs.YtaekbgljbgmchaaGreatDoor
