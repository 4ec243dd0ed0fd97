/-
  prefixed, enclosed, neg, expr of package parse.
-/
import Derived.Test.YtaekbgljbgmchaaGreatDoorPzG
namespace Go.Proofs.YtaekbgljbgmchaaGreatDoor
open Go.RowKit
open Lx (Out)
open Pz
theorem newB' (w : World) (c : Array Value) (T : TypeId) (k : Nat) (h : k = w.heap.size) : (w.alloc (.cells c T)).heap[k]? = some (.cells c T (0, 0)) := by subst h; exact newB w c T
theorem hd_fit {b g cap : Nat} {toks : List Out} {s : S} {w : World} (h : At b g cap toks s w) : I64 s.hd.kind ∧ I64 s.hd.n ∧ s.hd.pos ≤ 100000 ∧ s.hd.text.size ≤ 100000 := h.ok.tk.fit _ (hd_mem s h.ok.tk.ne)
theorem i64_nat {n : Nat} (h : n ≤ 100000) : I64 (n : Int) := by unfold I64; omega
theorem i64_small {n : Int} (h : 0 ≤ n) (h2 : n ≤ 1000) : I64 n := by unfold I64; omega
theorem len_e0 : Len ⟨#[]⟩ := by unfold Len; decide
theorem len_of {x : ByteArray} (h : x.size ≤ 100000) : Len x := by unfold Len; omega
set_option maxRecDepth 100000 in
set_option maxHeartbeats 2000000 in
theorem prefixed_any (fv : Value) (x : Ex × S) (op : Int) (sign : ByteArray) (b g cap : Nat) (toks : List Out) (s : S) (w : World) (h : At b g cap toks s w) (ho : 0 ≤ op ∧ op ≤ 1000)
    (hW : ∀ W, At b g cap toks s W → Kp b w W → Calls Tryz.prog 172 #[.pointer (some ⟨b, 0, none⟩), .string sign, fv] W (ExBack b g cap toks x W)) :
    Calls Tryz.prog 149 #[.pointer (some ⟨b, 0, none⟩), .int .i64 op, .string sign, fv] w (ExBack b g cap toks (ex op e0 e0 0 [x.1] s.hd.pos, x.2) w) := by
  have hb := h.lt
  have hgl := h.glt
  have A := h.al (.cells #[.int .i64 0, .string ⟨#[]⟩, .string ⟨#[]⟩, .int .i64 0, .slice none 0 0, .int .i64 0] 25)
  have bR := newB w #[.int .i64 0, .string ⟨#[]⟩, .string ⟨#[]⟩, .int .i64 0, .slice none 0 0, .int .i64 0] 25
  have hne : w.heap.size ≠ b := by omega
  have hng : w.heap.size ≠ g := by omega
  have K : Kp b w (w.alloc (.cells #[.int .i64 0, .string ⟨#[]⟩, .string ⟨#[]⟩, .int .i64 0, .slice none 0 0, .int .i64 0] 25)) := (Kp.refl b w).al _
  have h1 := token_any b g cap toks s _ A
  have hfit := (hd_fit h).2.2.1
  have f3 := fld3
  obtain ⟨hp, hhp⟩ : ∃ hp, s.hd.pos = hp := ⟨_, rfl⟩
  rw [hhp] at h1 hfit ⊢
  clear hhp
  go_enter Tryz.func149, Tryz.ntmps149
  go_wp2_with (first
      | (go_at_call 62; refine h1.mono ?_; rintro r w1 ⟨rfl, b1⟩; have A := A.below b1; have K := K.tr b1; have bR := bel_box bR b1; have hz1 := ltB bR; have hzb := A.lt)
      | (go_at_call 172; (with_reducible refine (hW _ A K).mono ?_); rintro r w3 ⟨kop, mon, name, n, ad, cp, kids, pos, rfl, hclr, hBy, A, k⟩; have K := K.trans k; have bR := k.box bR hne; obtain ⟨x0, x1, x2, x3, x4, x5, xf, xl⟩ := six bR))
  refine bodyPost_ret (v := .agg #[.int .i64 op, .string ⟨#[]⟩, .string ⟨#[]⟩, .int .i64 0, .slice (some ⟨w3.heap.size + 1, 0, none⟩) 1 1, .int .i64 (hp : Int)]) ?_ rfl ⟨op, ⟨#[]⟩, ⟨#[]⟩, 0, some ⟨w3.heap.size + 1, 0, none⟩, 1, [.mk kop mon name n ad cp kids pos], hp, rfl, ?_, ?_, ?_, ?_⟩
  · simp [results, Tryz.results149, go_sem, x0, x1, x2, x3, x4, x5, xl]
  · rw [Ex.clr, Ex.clrL, Ex.clrL, hclr]; rfl
  · refine By.up (Q := from_ w.heap.size) (n := 0) (kids := [.mk kop mon name n ad cp kids pos]) (k := w3.heap.size + 1) (T := 25) (c := #[.int .i64 kop, .string mon, .string name, .int .i64 n, .slice ad kids.length cp, .int .i64 pos]) (from_iff.2 (by have := K.size; omega)) ⟨i64_small ho.1 ho.2, i64_small (by decide) (by decide), i64_nat hfit, len_e0, len_e0⟩ (by simp) rfl (newB' _ _ _ _ (by simp)) ?_
    intro y hy
    rw [List.mem_singleton.1 hy]
    refine (Ex.By.kq hBy ?_).mono (Nat.le_of_lt hz1)
    repeat (first | with_reducible refine Kq.set ?_ (.inl (from_not hz1)) _ | with_reducible refine Kq.al ?_ _)
    exact Kq.refl _ _
  · repeat (first | with_reducible refine Pz.At.put ?_ hne hng _ | with_reducible refine Pz.At.al ?_ _)
    exact A
  · repeat (first | with_reducible refine Kp.set ?_ (.inr (Nat.le_refl _)) _ | with_reducible refine Kp.set ?_ (.inl rfl) _ | with_reducible refine Kp.al ?_ _)
    exact K
set_option maxRecDepth 100000 in
set_option maxHeartbeats 2000000 in
theorem enclosed_any (fv : Value) (x : Ex × S) (a c : ByteArray) (b g cap : Nat) (toks : List Out) (s : S) (w : World) (h : At b g cap toks s w)
    (hW : ∀ W, At b g cap toks s W → Kp b w W → Calls Tryz.prog 172 #[.pointer (some ⟨b, 0, none⟩), .string a, fv] W (ExBack b g cap toks x W)) :
    Calls Tryz.prog 175 #[.pointer (some ⟨b, 0, none⟩), .string a, fv, .string c] w (ExBack b g cap toks (x.1, x.2.want c) w) := by
  have hb := h.lt
  have hgl := h.glt
  have A := h.al (.cells #[.int .i64 0, .string ⟨#[]⟩, .string ⟨#[]⟩, .int .i64 0, .slice none 0 0, .int .i64 0] 25)
  have bR := newB w #[.int .i64 0, .string ⟨#[]⟩, .string ⟨#[]⟩, .int .i64 0, .slice none 0 0, .int .i64 0] 25
  have hne : w.heap.size ≠ b := by omega
  have hng : w.heap.size ≠ g := by omega
  have K : Kp b w (w.alloc (.cells #[.int .i64 0, .string ⟨#[]⟩, .string ⟨#[]⟩, .int .i64 0, .slice none 0 0, .int .i64 0] 25)) := (Kp.refl b w).al _
  have hz1 := ltB bR
  have hzb := A.lt
  go_enter Tryz.func175, Tryz.ntmps175
  go_wp2_with (first
      | (go_at_call 172; (with_reducible refine (hW _ A K).mono ?_); rintro r w3 ⟨op, mon, name, n, ad, cp, kids, pos, rfl, hclr, hBy, A, k⟩; have K := K.trans k; have bR := k.box bR hne; have A := A.al (.cells #[.int .i64 op, .string mon, .string name, .int .i64 n, .slice ad kids.length cp, .int .i64 pos] 25); have K := K.al (.cells #[.int .i64 op, .string mon, .string name, .int .i64 n, .slice ad kids.length cp, .int .i64 pos] 25); have bR := bel_box bR (bel_al _ (.cells #[.int .i64 op, .string mon, .string name, .int .i64 n, .slice ad kids.length cp, .int .i64 pos] 25)); have bX := newB w3 #[.int .i64 op, .string mon, .string name, .int .i64 n, .slice ad kids.length cp, .int .i64 pos] 25; have hnx : w3.heap.size ≠ b := (by have := k.size; omega))
      | (go_at_call 156; (with_reducible refine (want_any c b g cap toks _ _ A).mono ?_); rintro r w4 ⟨rfl, A, k4⟩; have K := K.trans k4; have bR := k4.box bR hne; have bX := k4.box bX hnx; obtain ⟨x0, x1, x2, x3, x4, x5, xf, xl⟩ := six bR; obtain ⟨y0, y1, y2, y3, y4, y5, yf, yl⟩ := six bX))
  refine bodyPost_ret (v := .agg #[.int .i64 op, .string mon, .string name, .int .i64 n, .slice ad kids.length cp, .int .i64 pos]) ?_ rfl ⟨op, mon, name, n, ad, cp, kids, pos, rfl, hclr, ?_, ?_, ?_⟩
  · simp [results, Tryz.results175, go_sem, x0, x1, x2, x3, x4, x5]
  · refine (Ex.By.kq hBy ?_).mono (Nat.le_of_lt hz1)
    repeat (first | with_reducible refine Kq.set ?_ (.inl (from_not hz1)) _ | with_reducible refine Kq.al ?_ _)
    exact ((Kq.refl _ _).al _).kp k4 (from_not hzb)
  · repeat (first | with_reducible refine Pz.At.put ?_ hne hng _ | with_reducible refine Pz.At.al ?_ _)
    exact A
  · repeat (first | with_reducible refine Kp.set ?_ (.inr (Nat.le_refl _)) _ | with_reducible refine Kp.set ?_ (.inl rfl) _ | with_reducible refine Kp.al ?_ _)
    exact K
set_option maxRecDepth 100000 in
set_option maxHeartbeats 2000000 in
theorem neg_of (x : Ex × S) (b g cap : Nat) (toks : List Out) (s : S) (w : World) (h : At b g cap toks s w)
    (hE : ∀ W, At b g cap toks s W → Kp b w W → Calls Tryz.prog 64 #[.pointer (some ⟨b, 0, none⟩), .int .i64 3] W (ExBack b g cap toks x W)) :
    Calls Tryz.prog 150 #[.pointer (some ⟨b, 0, none⟩)] w (ExBack b g cap toks x w) := by
  have hb := h.lt
  have hgl := h.glt
  have A := h.al (.cells #[.int .i64 0, .string ⟨#[]⟩, .string ⟨#[]⟩, .int .i64 0, .slice none 0 0, .int .i64 0] 25)
  have bR := newB w #[.int .i64 0, .string ⟨#[]⟩, .string ⟨#[]⟩, .int .i64 0, .slice none 0 0, .int .i64 0] 25
  have hne : w.heap.size ≠ b := by omega
  have hng : w.heap.size ≠ g := by omega
  have K : Kp b w (w.alloc (.cells #[.int .i64 0, .string ⟨#[]⟩, .string ⟨#[]⟩, .int .i64 0, .slice none 0 0, .int .i64 0] 25)) := (Kp.refl b w).al _
  have hz1 := ltB bR
  go_enter Tryz.func150, Tryz.ntmps150
  go_wp2_with (first
      | (go_at_call 64; (with_reducible refine (hE _ A K).mono ?_); rintro r w3 ⟨op, mon, name, n, ad, cp, kids, pos, rfl, hclr, hBy, A, k⟩; have K := K.trans k; have bR := k.box bR hne; obtain ⟨x0, x1, x2, x3, x4, x5, xf, xl⟩ := six bR))
  refine bodyPost_ret (v := .agg #[.int .i64 op, .string mon, .string name, .int .i64 n, .slice ad kids.length cp, .int .i64 pos]) ?_ rfl ⟨op, mon, name, n, ad, cp, kids, pos, rfl, hclr, ?_, ?_, ?_⟩
  · simp [results, Tryz.results150, go_sem, x0, x1, x2, x3, x4, x5]
  · refine (Ex.By.kq hBy ?_).mono (Nat.le_of_lt hz1)
    repeat (first | with_reducible refine Kq.set ?_ (.inl (from_not hz1)) _ | with_reducible refine Kq.al ?_ _)
    exact Kq.refl _ _
  · repeat (first | with_reducible refine Pz.At.put ?_ hne hng _ | with_reducible refine Pz.At.al ?_ _)
    exact A
  · repeat (first | with_reducible refine Kp.set ?_ (.inr (Nat.le_refl _)) _ | with_reducible refine Kp.set ?_ (.inl rfl) _ | with_reducible refine Kp.al ?_ _)
    exact K
set_option maxRecDepth 100000 in
set_option maxHeartbeats 2000000 in
theorem expr_of (x : Ex × S) (b g cap : Nat) (toks : List Out) (s : S) (w : World) (h : At b g cap toks s w)
    (hE : ∀ W, At b g cap toks s W → Kp b w W → Calls Tryz.prog 64 #[.pointer (some ⟨b, 0, none⟩), .int .i64 1] W (ExBack b g cap toks x W)) :
    Calls Tryz.prog 30 #[.pointer (some ⟨b, 0, none⟩)] w (ExBack b g cap toks x w) := by
  have hb := h.lt
  have hgl := h.glt
  have A := h.al (.cells #[.int .i64 0, .string ⟨#[]⟩, .string ⟨#[]⟩, .int .i64 0, .slice none 0 0, .int .i64 0] 25)
  have bR := newB w #[.int .i64 0, .string ⟨#[]⟩, .string ⟨#[]⟩, .int .i64 0, .slice none 0 0, .int .i64 0] 25
  have hne : w.heap.size ≠ b := by omega
  have hng : w.heap.size ≠ g := by omega
  have K : Kp b w (w.alloc (.cells #[.int .i64 0, .string ⟨#[]⟩, .string ⟨#[]⟩, .int .i64 0, .slice none 0 0, .int .i64 0] 25)) := (Kp.refl b w).al _
  have hz1 := ltB bR
  go_enter Tryz.func30, Tryz.ntmps30
  go_wp2_with (first
      | (go_at_call 64; (with_reducible refine (hE _ A K).mono ?_); rintro r w3 ⟨op, mon, name, n, ad, cp, kids, pos, rfl, hclr, hBy, A, k⟩; have K := K.trans k; have bR := k.box bR hne; obtain ⟨x0, x1, x2, x3, x4, x5, xf, xl⟩ := six bR))
  refine bodyPost_ret (v := .agg #[.int .i64 op, .string mon, .string name, .int .i64 n, .slice ad kids.length cp, .int .i64 pos]) ?_ rfl ⟨op, mon, name, n, ad, cp, kids, pos, rfl, hclr, ?_, ?_, ?_⟩
  · simp [results, Tryz.results30, go_sem, x0, x1, x2, x3, x4, x5]
  · refine (Ex.By.kq hBy ?_).mono (Nat.le_of_lt hz1)
    repeat (first | with_reducible refine Kq.set ?_ (.inl (from_not hz1)) _ | with_reducible refine Kq.al ?_ _)
    exact Kq.refl _ _
  · repeat (first | with_reducible refine Pz.At.put ?_ hne hng _ | with_reducible refine Pz.At.al ?_ _)
    exact A
  · repeat (first | with_reducible refine Kp.set ?_ (.inr (Nat.le_refl _)) _ | with_reducible refine Kp.set ?_ (.inl rfl) _ | with_reducible refine Kp.al ?_ _)
    exact K
end Go.Proofs.YtaekbgljbgmchaaGreatDoor
