/-
  Scope of package own (P9.1): the first error of statements, where some monitors are owned.
-/
import Derived.Test.YtfkabkbnfeiggaaDoorWA
namespace Go.Proofs.YtfkabkbnfeiggaaDoor
open Go.RowKit
theorem cells12 {W : World} {B : Nat} {T : TypeId} {z : Nat × Nat} {a0 a1 a2 a3 a4 a5 a6 a7 a8 a9 a10 a11 : Value} (h : W.heap[B]? = some (.cells #[a0, a1, a2, a3, a4, a5, a6, a7, a8, a9, a10, a11] T z)) :
    W.cell? ⟨B, 0, none⟩ = some a0 ∧ W.cell? ⟨B, 1, none⟩ = some a1 ∧ W.cell? ⟨B, 2, none⟩ = some a2 ∧ W.cell? ⟨B, 3, none⟩ = some a3 ∧ W.cell? ⟨B, 4, none⟩ = some a4 ∧ W.cell? ⟨B, 5, none⟩ = some a5 ∧ W.cell? ⟨B, 6, none⟩ = some a6 ∧ W.cell? ⟨B, 7, none⟩ = some a7 ∧ W.cell? ⟨B, 8, none⟩ = some a8 ∧ W.cell? ⟨B, 9, none⟩ = some a9 ∧ W.cell? ⟨B, 10, none⟩ = some a10 ∧ W.cell? ⟨B, 11, none⟩ = some a11 :=
  ⟨cellOf h 0, cellOf h 1, cellOf h 2, cellOf h 3, cellOf h 4, cellOf h 5, cellOf h 6, cellOf h 7, cellOf h 8, cellOf h 9, cellOf h 10, cellOf h 11⟩
theorem tri_box (w : World) (a x y : Array Value) (s t r : TypeId) : (((w.alloc (.cells a s)).alloc (.cells x t)).alloc (.cells y r)).heap[w.heap.size]? = some (.cells a s (0, 0)) ∧ (((w.alloc (.cells a s)).alloc (.cells x t)).alloc (.cells y r)).heap[w.heap.size + 1]? = some (.cells x t (0, 0)) ∧ (((w.alloc (.cells a s)).alloc (.cells x t)).alloc (.cells y r)).heap[w.heap.size + 2]? = some (.cells y r (0, 0)) ∧ Below w.heap.size w (((w.alloc (.cells a s)).alloc (.cells x t)).alloc (.cells y r)) ∧ (((w.alloc (.cells a s)).alloc (.cells x t)).alloc (.cells y r)).heap.size = w.heap.size + 3 := by
  obtain ⟨h1, h2, h3, h4⟩ := two_box w a x s t
  refine ⟨(Below.heap_alloc _ _ _ (by simp; omega)).trans h1, (Below.heap_alloc _ _ _ (by simp)).trans h2, ?_, h3.al le_rfl' _, by simp⟩
  have := heapNew ((w.alloc (.cells a s)).alloc (.cells x t)) (.cells y r)
  rwa [h4] at this
theorem Wk.set {u : World} {base b k p : Nat} {N : List ByteArray} {pl : ByteArray → Nat} {v : Value} (h : Wk u base b k N pl) (hp : u.heap[p]? = some (.cells #[v] 23 (0, 0))) (x : Value) : Wk (u.setCell ⟨p, 0, none⟩ x) base b k N pl := by
  obtain ⟨⟨v', h1, h2⟩, h3, h4⟩ := h
  have hset : u.grownBy (u.setCell ⟨p, 0, none⟩ x) (some p) := ⟨rfl, rfl, rfl, by simp, fun j _ hj => Below.heap_setCell _ _ _ _ (fun e => hj (by simp [e]))⟩
  have hpb : b ≠ p := by
    rintro rfl
    rw [h1] at hp; simp at hp
  refine ⟨⟨v', (Below.heap_setCell _ ⟨p, 0, none⟩ _ b hpb).trans h1, ?_⟩, h3.kept (Below.heap_setCell _ ⟨p, 0, none⟩ _ k (h3.not_cells hp).symm), h4⟩
  rcases h2.2 with ⟨rfl, hn⟩ | ⟨g, cap, cur, rfl, hb, hg, hr⟩
  · exact ⟨h2.1, .inl ⟨rfl, hn⟩⟩
  · have hgp : g ≠ p := by
      rintro rfl
      rw [hg] at hp; simp at hp
    exact ⟨h2.1, .inr ⟨g, cap, cur, rfl, hb, (Below.heap_setCell _ ⟨p, 0, none⟩ _ g hgp).trans hg, hr⟩⟩
theorem OwS.set {u : World} {b k p : Nat} {O : List ByteArray} {ad : Option Addr} {cap : Nat} (h : OwS u b k O ad cap) {a : Option Addr} {l c : Nat} (hp : u.heap[p]? = some (.cells #[.slice a l c] 23 (0, 0))) (x : Value) : OwS (u.setCell ⟨p, 0, none⟩ x) b k O ad cap := by
  obtain ⟨h1, h2, h3⟩ := h
  refine ⟨h1, h2, ?_⟩
  rcases h3 with h3 | ⟨g, h4, h5, h6, h7, h8⟩
  · exact .inl h3
  · by_cases hO : O = []
    · exact .inl hO
    · have hl : 0 < O.length := List.length_pos_iff.2 hO
      have hgp : g ≠ p := by
        rintro rfl
        have := h8 0 hl
        rw [cellOf hp 0] at this
        simp at this
      exact .inr ⟨g, h4, by simpa using h5, h6, h7, fun i hi => (World.cell?_of_block (Below.heap_setCell _ ⟨p, 0, none⟩ _ g hgp)).trans (h8 i hi)⟩
theorem Kw.set {b k n p : Nat} {w u : World} (h : Kw b k n w u) (hp : w.heap.size ≤ p) (hpb : p ≠ b) (x : Value) : Kw b k n w (u.setCell ⟨p, 0, none⟩ x) := by
  have hb : (u.setCell ⟨p, 0, none⟩ x).heap[b]? = u.heap[b]? := Below.heap_setCell _ ⟨p, 0, none⟩ _ b hpb.symm
  refine ⟨by simpa using h.size, fun j h1 h2 h3 h4 => ?_, fun g h1 h2 h3 h4 i hi => ?_⟩
  · obtain ⟨e1, e2⟩ := h.oth j h1 h2 h3 h4
    refine ⟨(Below.heap_setCell _ ⟨p, 0, none⟩ _ j (by show j ≠ p; omega)).trans e1, fun ⟨v, m, h5, h6⟩ => e2 ⟨v, m, hb.symm.trans h5, h6⟩⟩
  · exact (World.cell?_of_block (Below.heap_setCell _ ⟨p, 0, none⟩ _ g (by show g ≠ p; omega))).trans (h.row g h1 h2 h3 h4 i hi)
theorem WRow.set {b p j : Nat} {u : World} (hpb : p ≠ b) (x : Value) (h : WRow (u.setCell ⟨p, 0, none⟩ x) b j) : WRow u b j := by
  obtain ⟨v, m, h5, h6⟩ := h
  exact ⟨v, m, (Below.heap_setCell _ ⟨p, 0, none⟩ _ b hpb.symm).symm.trans h5, h6⟩
theorem foreign_eq {w : World} {base b k bw bo : Nat} {O : List ByteArray} {ad : Option Addr} {cap : Nat} (h : Fgn w base b k bw bo O ad cap) (mon : ByteArray) :
    Calls Tryd.prog 38 #[.string mon, .pointer (some ⟨bw, 0, none⟩), .pointer (some ⟨bo, 0, none⟩)] w fun e w' => e = .returned (.bool (!ownF O mon)) ∧ w' = w := by
  obtain ⟨⟨N, pl, h1, h2⟩, h3, h4, h5⟩ := h
  have hq := owns_any h1 h3 h2 mon
  have c0 := cellOf h4 0
  have c1 := cellOf h5 0
  simp at c0 c1
  obtain ⟨r, hr⟩ : ∃ r, ownF O mon = r := ⟨_, rfl⟩
  rw [hr] at hq ⊢
  clear hr h1 h2 h3 h4 h5
  go_enter Tryd.func38, Tryd.ntmps38
  go_wp2_with (go_at_call 26; (with_reducible refine hq.mono ?_); rintro rr ww ⟨rfl, hw'⟩; have hw2 := hw'.symm; subst hw2)
  go_ret
  exact ⟨rfl, rfl⟩
set_option maxRecDepth 100000 in
set_option maxHeartbeats 40000000 in
theorem stmt_own {base b k : Nat} (kind : Int) (mon name : ByteArray) (n : Int) (e : Ex) (ad : Option Addr) (cap : Nat) (blocks : List Bl) (pos : Int) (ih : ∀ x ∈ blocks, BlW base b k x) : StW base b k (.mk kind mon name n e ad cap blocks pos) := by
  intro n₀ w N O pl oad ocap hn hI hW hO hf hsz
  have HU : Hid ((St.mk kind mon name n e ad cap blocks pos).sco (ownF O) = fstE (oneE (ownF O) kind mon e blocks pos) (Bl.scoL (andMon (ownF O) kind mon) blocks)) := by show _ = _; rw [St.sco]
  have HO : Hid (oneE (ownF O) kind mon e blocks pos = if needs kind = true ∧ ownF O mon = false then ((90 : Int), pos) else match e.fv (fun m => !ownF O m) with
      | some k => ((90 : Int), k)
      | none => match imp kind e blocks with
        | some k => ((91 : Int), k)
        | none => ((0 : Int), (0 : Int))) := rfl
  have HP0 : Hid (andMon (ownF O) kind mon = ownF (if kind = 7 then wth O mon else O)) := andMon_own O kind mon
  rw [St.subs_mk] at hsz
  simp only [List.length_cons] at hsz
  have hwl := wtsL_len blocks
  have hwb : base ≤ w.heap.size := by have := hW.lt; have := hW.lo.1; omega
  have hImp := fun (W : World) (hW : Below w.heap.size w W) => impure_any kind mon name n e ad cap blocks pos n₀ W (by have := hW.size; omega) (hI.below (hW.mono (by omega))) (by omega)
  have hIe := hI.down.2.1
  have hIk := hI.down.2.2.2
  have hsl := hI.down.2.2.1
  have hl1 := hsl.1; have hl2 := hsl.2.1
  unfold maxLen at hl2
  have hO1 := hO.1; have hO2 := hO.2.1
  unfold maxLen at hO2
  rcases e with ⟨eop, emon, ename, en, ead, ecap, ekids, epos⟩
  simp only [St.val, St.cells, Ex.cells, List.cons_append, List.nil_append] at hImp ⊢
  go_enter Tryd.func25, Tryd.ntmps25
  go_upto_region 1 with fail
  obtain ⟨bW, bS, bO, hB, hz⟩ := tri_box w #[.pointer (some ⟨b, 0, none⟩)] #[.int .i64 kind, .string mon, .string name, .int .i64 n, .int .i64 eop, .string emon, .string ename, .int .i64 en, .slice ead ekids.length ecap, .int .i64 epos, .slice ad blocks.length cap, .int .i64 pos] #[.slice oad O.length ocap] 74 39 23
  obtain ⟨W0, hW0⟩ : ∃ W0, ((w.alloc (.cells #[.pointer (some ⟨b, 0, none⟩)] 74)).alloc (.cells #[.int .i64 kind, .string mon, .string name, .int .i64 n, .int .i64 eop, .string emon, .string ename, .int .i64 en, .slice ead ekids.length ecap, .int .i64 epos, .slice ad blocks.length cap, .int .i64 pos] 39)).alloc (.cells #[.slice oad O.length ocap] 23) = W0 := ⟨_, rfl⟩
  rw [hW0] at bW bS bO hB hz ⊢
  clear hW0
  have HZ := hid hz
  have hF0 : Fgn W0 base b k w.heap.size (w.heap.size + 2) O oad ocap := ⟨⟨N, pl, hW.below hB, hf⟩, hO.kw (Kw.below hB hW.lt) (Nat.le_refl _), bW, bO⟩
  have hN := needs_any kind W0
  have hG := foreign_eq hF0 mon
  have hE0 := firstVar_38 (bw := w.heap.size) (bo := w.heap.size + 2) (fun m => !ownF O m) (fun W => Fgn W base b k w.heap.size (w.heap.size + 2) O oad ocap) (fun _ _ h hb => h.below hb) (fun mon W h => foreign_any h mon) ⟨eop, emon, ename, en, ead, ecap, ekids, epos⟩ n₀ W0 (by omega) (hIe.below (hB.mono (by omega))) hF0
  -- what stands when the world has only grown
  have HNS : Hid (∀ U, Below W0.heap.size W0 U → Wk U base b k N pl ∧ OwS U b k O oad ocap ∧ Kw b k O.length w U ∧ Below base w U ∧ ∀ j, w.heap.size ≤ j → ¬ WRow U b j) := fun U hU => by
    have hwU := hB.tr le_rfl' hU
    exact ⟨hW.below hwU, hO.kw (Kw.below hwU hW.lt) (Nat.le_refl _), Kw.below hwU hW.lt, hwU.mono hwb, fun j hj => (hW.fresh hwU hj).2.2⟩
  have HFR : Hid (∀ U, w.heap.size ≤ U.heap.size → (∀ j, w.heap.size ≤ j → j < w.heap.size + 3 → j < U.heap.size ∧ ¬ WRow U b j) → (w.heap.size < U.heap.size ∧ w.heap.size ≠ b ∧ w.heap.size ≠ k ∧ ¬ WRow U b w.heap.size) ∧ (w.heap.size + 1 < U.heap.size ∧ w.heap.size + 1 ≠ b ∧ w.heap.size + 1 ≠ k ∧ ¬ WRow U b (w.heap.size + 1)) ∧ (w.heap.size + 2 < U.heap.size ∧ w.heap.size + 2 ≠ b ∧ w.heap.size + 2 ≠ k ∧ ¬ WRow U b (w.heap.size + 2))) := fun U _ hR => by
    have h1 := hW.lt
    have h2 := hW.map.lt
    exact ⟨⟨(hR _ (by omega) (by omega)).1, by omega, by omega, (hR _ (by omega) (by omega)).2⟩, ⟨(hR _ (by omega) (by omega)).1, by omega, by omega, (hR _ (by omega) (by omega)).2⟩, ⟨(hR _ (by omega) (by omega)).1, by omega, by omega, (hR _ (by omega) (by omega)).2⟩⟩
  have HWT : Hid (∀ U, Below W0.heap.size W0 U → Calls Tryd.prog 18 #[.pointer (some ⟨b, 0, none⟩), .slice oad O.length ocap, .slice (some ⟨U.heap.size, 0, none⟩) 1 1] (U.alloc (.cells #[.string mon] 9)) fun e w' => WithBack base b k O [mon] (U.alloc (.cells #[.string mon] 9)) e w') := fun U hU => by
    have hwU := hB.tr le_rfl' hU
    have hUa : Below U.heap.size U (U.alloc (.cells #[.string mon] 9)) := (Below.refl _ _).al le_rfl' _
    have hwA := hwU.tr le_rfl' hUa
    have hfr := (hW.below hwU).fresh hUa (Nat.le_refl _)
    exact with_any (hW.below hwA) (hO.kw (Kw.below hwA hW.lt) (Nat.le_refl _)) hf [mon] (some ⟨U.heap.size, 0, none⟩) 1 ⟨by simp, by unfold maxLen; omega, .inr ⟨U.heap.size, 0, rfl, by simp, hfr.1, hfr.2.1, hfr.2.2, fun i hi => by
      obtain rfl : i = 0 := by simpa using hi
      rw [cellOf (heapNew U _)]; rfl⟩⟩ (by simp; omega)
  have HBO : Hid (∀ U U3, Below W0.heap.size W0 U → U.heap[w.heap.size + 2]? = some (.cells #[.slice oad O.length ocap] 23 (0, 0)) → Kw b k O.length (U.alloc (.cells #[.string mon] 9)) U3 → U3.heap[w.heap.size + 2]? = some (.cells #[.slice oad O.length ocap] 23 (0, 0))) := fun U U3 hU hbo hK => by
    have hwU := hB.tr le_rfl' hU
    have hUa : Below U.heap.size U (U.alloc (.cells #[.string mon] 9)) := (Below.refl _ _).al le_rfl' _
    have hfr := hW.fresh (hwU.tr le_rfl' hUa) (j := w.heap.size + 2) (by omega)
    have hlt := (Array.getElem?_eq_some_iff.1 hbo).1
    exact (hK.oth _ (by simp; omega) hfr.1 hfr.2.1 hfr.2.2).1.trans ((Below.heap_alloc _ _ _ hlt).trans hbo)
  have HST : Hid (∀ U U3 N1 pl1 pad pcap, Below W0.heap.size W0 U → U.heap[w.heap.size]? = some (.cells #[.pointer (some ⟨b, 0, none⟩)] 74 (0, 0)) → U.heap[w.heap.size + 1]? = some (.cells #[.int .i64 kind, .string mon, .string name, .int .i64 n, .int .i64 eop, .string emon, .string ename, .int .i64 en, .slice ead ekids.length ecap, .int .i64 epos, .slice ad blocks.length cap, .int .i64 pos] 39 (0, 0)) → U.heap[w.heap.size + 2]? = some (.cells #[.slice oad O.length ocap] 23 (0, 0)) → U3.heap[w.heap.size + 2]? = some (.cells #[.slice oad O.length ocap] 23 (0, 0)) → Wk U3 base b k N1 pl1 → OwS U3 b k (wths O [mon]) pad pcap → Kw b k O.length (U.alloc (.cells #[.string mon] 9)) U3 → Below base (U.alloc (.cells #[.string mon] 9)) U3 →
      Wk (U3.setCell ⟨w.heap.size + 2, 0, none⟩ (.slice pad (wths O [mon]).length pcap)) base b k N1 pl1 ∧ OwS (U3.setCell ⟨w.heap.size + 2, 0, none⟩ (.slice pad (wths O [mon]).length pcap)) b k (wths O [mon]) pad pcap ∧ Kw b k O.length w (U3.setCell ⟨w.heap.size + 2, 0, none⟩ (.slice pad (wths O [mon]).length pcap)) ∧ Below base w (U3.setCell ⟨w.heap.size + 2, 0, none⟩ (.slice pad (wths O [mon]).length pcap)) ∧ (∀ j, w.heap.size ≤ j → j < w.heap.size + 3 → j < (U3.setCell ⟨w.heap.size + 2, 0, none⟩ (.slice pad (wths O [mon]).length pcap)).heap.size ∧ ¬ WRow (U3.setCell ⟨w.heap.size + 2, 0, none⟩ (.slice pad (wths O [mon]).length pcap)) b j) ∧ (U3.setCell ⟨w.heap.size + 2, 0, none⟩ (.slice pad (wths O [mon]).length pcap)).heap[w.heap.size]? = some (.cells #[.pointer (some ⟨b, 0, none⟩)] 74 (0, 0)) ∧ (U3.setCell ⟨w.heap.size + 2, 0, none⟩ (.slice pad (wths O [mon]).length pcap)).heap[w.heap.size + 1]? = some (.cells #[.int .i64 kind, .string mon, .string name, .int .i64 n, .int .i64 eop, .string emon, .string ename, .int .i64 en, .slice ead ekids.length ecap, .int .i64 epos, .slice ad blocks.length cap, .int .i64 pos] 39 (0, 0)) ∧ (U3.setCell ⟨w.heap.size + 2, 0, none⟩ (.slice pad (wths O [mon]).length pcap)).heap[w.heap.size + 2]? = some (.cells #[.slice pad (wths O [mon]).length pcap] 23 (0, 0))) := fun U U3 N1 pl1 pad pcap hU hbw hbs hbo hbo3 hW3 hP3 hK3 hB3 => by
    have hwU := hB.tr le_rfl' hU
    have hUa : Below U.heap.size U (U.alloc (.cells #[.string mon] 9)) := (Below.refl _ _).al le_rfl' _
    have hwA := hwU.tr le_rfl' hUa
    have hfr := fun j (hj : w.heap.size ≤ j) => hW.fresh hwA hj
    have hlt := (Array.getElem?_eq_some_iff.1 hbo).1
    have hkeep : ∀ j o, w.heap.size ≤ j → U.heap[j]? = some o → U3.heap[j]? = some o := fun j o hj ho => by
      have hjl := (Array.getElem?_eq_some_iff.1 ho).1
      exact (hK3.oth j (by simp; omega) (hfr j hj).1 (hfr j hj).2.1 (hfr j hj).2.2).1.trans ((Below.heap_alloc _ _ _ hjl).trans ho)
    have hne := (hfr (w.heap.size + 2) (by omega)).1
    have hKw : Kw b k O.length w U3 := (Kw.below hwA hW.lt).trans hK3
    refine ⟨hW3.set hbo3 _, hP3.set hbo3 _, hKw.set (by omega) hne _, ((hwA.mono hwb).trans hB3).setCell (p := ⟨w.heap.size + 2, 0, none⟩) (by show base ≤ w.heap.size + 2; omega) _, fun j hj hj3 => ⟨?_, fun hr => ?_⟩, ?_, ?_, ?_⟩
    · have := hK3.size
      simp at this
      simp
      omega
    · have hrU := WRow.set hne _ hr
      exact (hK3.oth j (by simp; omega) (hfr j hj).1 (hfr j hj).2.1 (hfr j hj).2.2).2 hrU
    · exact (Below.heap_setCell _ ⟨w.heap.size + 2, 0, none⟩ _ _ (by show w.heap.size ≠ w.heap.size + 2; omega)).trans (hkeep _ _ (by omega) hbw)
    · exact (Below.heap_setCell _ ⟨w.heap.size + 2, 0, none⟩ _ _ (by show w.heap.size + 1 ≠ w.heap.size + 2; omega)).trans (hkeep _ _ (by omega) hbs)
    · exact one_setCell hbo3
  have HNS : Hid (∀ U, Below W0.heap.size W0 U → Wk U base b k N pl ∧ OwS U b k O oad ocap ∧ Kw b k O.length w U ∧ Below base w U ∧ ∀ j, w.heap.size ≤ j → j < w.heap.size + 3 → j < U.heap.size ∧ ¬ WRow U b j) := fun U hU => by
    obtain ⟨h1, h2, h3, h4, h5⟩ := HNS.out U hU
    exact ⟨h1, h2, h3, h4, fun j hj hj3 => ⟨by have := hU.size; have := HZ.out; omega, h5 j hj⟩⟩
  obtain ⟨o1, ho1⟩ : ∃ o1, (Ex.mk eop emon ename en ead ecap ekids epos).fv (fun m => !ownF O m) = o1 := ⟨_, rfl⟩
  obtain ⟨o2, ho2⟩ : ∃ o2, imp kind (Ex.mk eop emon ename en ead ecap ekids epos) blocks = o2 := ⟨_, rfl⟩
  obtain ⟨nd, hnd⟩ : ∃ nd, needs kind = nd := ⟨_, rfl⟩
  obtain ⟨fo, hfo⟩ : ∃ fo, ownF O mon = fo := ⟨_, rfl⟩
  rw [ho1, ho2, hnd, hfo] at HO
  rw [hnd] at hN
  rw [hfo] at hG
  rw [ho1] at hE0
  simp only [ho2] at hImp
  simp only [Ex.val, Ex.cells] at hE0
  obtain ⟨s0, s1, s2, s3, s4, s5, s6, s7, s8, s9, s10, s11⟩ := cells12 bS
  clear ho1 ho2 hnd hfo hIe hz hI hwl
  cases nd
  · rw [if_neg (by simp)] at HO
    rcases o1 with _ | a
    · have hE := FvBack.no hE0 rfl
      rcases o2 with _ | a
      · have hImp := fun W hW => FvBack.no (hImp W hW) rfl
        by_cases e7 : kind = 7
        · subst e7
          rw [if_pos rfl] at HP0
          go_upto_region 12 with (first
            | (go_at_call 39; (with_reducible refine hN.mono ?_); rintro r u0 ⟨rfl, hw'⟩; have hw2 := hw'.symm; subst hw2) | (go_at_call 40; (with_reducible refine hE.mono ?_); rintro r u1 ⟨rfl, bb1⟩; have hz1 := bb1.size; have bS1 := (bb1.block (w.heap.size + 1) (by have := HZ.out; omega)).trans bS; obtain ⟨y0, y1, y2, y3, y4, y5, y6, y7, y8, y9, y10, y11⟩ := cells12 bS1; have hI1 := hImp u1 (hB.tr le_rfl' bb1)) | (go_at_call 41; (with_reducible refine hI1.mono ?_); rintro r u2 ⟨rfl, bb2⟩; have hz2 := bb2.size; have bS2 := (bb2.block (w.heap.size + 1) (by have := HZ.out; omega)).trans bS1; obtain ⟨t0, t1, t2, t3, t4, t5, t6, t7, t8, t9, t10, t11⟩ := cells12 bS2; have bW2 := (bb2.block w.heap.size (by have := HZ.out; omega)).trans ((bb1.block w.heap.size (by have := HZ.out; omega)).trans bW); have bO2 := (bb2.block (w.heap.size + 2) (by have := HZ.out; omega)).trans ((bb1.block (w.heap.size + 2) (by have := HZ.out; omega)).trans bO); have v0 := cellOf bW2 0; have q0 := cellOf bO2 0; simp only [List.getElem?_toArray, List.getElem?_cons_zero] at v0 q0)
            | (go_at_call 18; (with_reducible refine (HWT.out u2 (bb1.tr le_rfl' bb2)).mono ?_); rintro r u3 ⟨N1, pl1, pad, pcap, rfl, hW3, hP3, hf3, hK3, hB3⟩; have bO3 := HBO.out u2 u3 (bb1.tr le_rfl' bb2) bO2 hK3; have e0 := cellOf bO3 0; have e1 := frozenOf bO3 0; simp only [List.getElem?_toArray, List.getElem?_cons_zero] at e0))
          have hbb := bb1.tr le_rfl' bb2
          obtain ⟨hWc, hPc, hKc, hBc, hRc, bwc, bsc, boc⟩ := HST.out u2 u3 N1 pl1 pad pcap hbb bW2 bS2 bO2 bO3 hW3 hP3 hK3 hB3
          obtain ⟨P, hP⟩ : ∃ P, wths O [mon] = P := ⟨_, rfl⟩
          have HP : Hid (andMon (ownF O) 7 mon = ownF P) := by show _ = _; rw [HP0.out, ← hP]; rfl
          have hOP : O <+: P := by rw [← hP]; exact wths_pre _ _
          have hPl : P.length ≤ O.length + 1 := by rw [← hP]; exact wths_len [mon] O
          rw [hP] at hWc hPc hKc hBc hRc bwc bsc boc hf3 ⊢
          have hfc := hf3
          obtain ⟨Wc, hWcE⟩ : ∃ Wc, u3.setCell ⟨w.heap.size + 2, 0, none⟩ (.slice pad P.length pcap) = Wc := ⟨_, rfl⟩
          rw [hWcE] at hWc hPc hKc hBc hRc bwc bsc boc ⊢
          clear hWcE hP HWT HBO HST HP0 bb1 bb2 hbb hz1 hz2 bS1 bS2 bW2 bO2 bO3 hW3 hP3 hK3 hB3 hf3 e0 e1 v0 q0 y0 y1 y2 y3 y4 y5 y6 y7 y8 y9 y10 y11 t0 t1 t2 t3 t4 t5 t6 t7 t8 t9 t10 t11 hI1 hE
          obtain ⟨g10a, g10b, g10c⟩ := HFR.out Wc hKc.size hRc
          clear hImp hN hG hE0 hF0 bW bS bO
          have z10 := cellOf bsc 10
          simp only [List.getElem?_toArray, List.getElem?_cons_zero, List.getElem?_cons_succ] at z10
          go_wp2
          go_loopw [57] (fun i wr => ∃ (j : Nat) (N' : List ByteArray) (pl' : ByteArray → Nat), j ≤ blocks.length ∧ i = .int .i64 j ∧ Hid (Bl.scoL (ownF P) blocks = Bl.scoL (ownF P) (blocks.drop j)) ∧ Wk wr base b k N' pl' ∧ Fits P N' pl' ∧ Kw b k P.length Wc wr ∧ Below base Wc wr)
            (fun i _ => blocks.length - (intOf i).toNat)
          case atStart => exact ⟨0, N1, pl1, by omega, rfl, rfl, hWc, hfc, Kw.refl _ _ _ _, Below.refl _ _⟩
          case round =>
            obtain ⟨j, N', pl', hj, rfl, HQ, hWr, hfr, hKr, hbw⟩ := hrel
            have hz3 := hbw.size
            have hb0 : Below n₀ w wr := (hBc.trans hbw).mono hn
            have hzc := hKc.size
            by_cases hlt : j < blocks.length
            · rcases hsl.2.2 with h | ⟨kb, koff, rfl, hbn, hrow⟩
              · subst h; simp at hlt
              have hbn2 : kb < wr.heap.size := by omega
              have HD := hid (Bl.scoL_drop (ownF P) blocks j hlt)
              have hrj := hrow.below hb0 hbn
              have hss := subs_at Bl.subs blocks j hlt
              have hq := ih _ (List.getElem_mem hlt) n₀ wr N' P pl' pad pcap hn ((hIk _ (List.getElem_mem hlt)).below hb0) hWr (hPc.kw hKr (Nat.le_refl _)) hfr (by omega)
              obtain ⟨u, hu⟩ : ∃ u, blocks[j].sco (ownF P) = u := ⟨_, rfl⟩
              have hu0 := Bl.sco_zero (f := ownF P) blocks[j]
              rw [hu] at hq HD hu0
              clear hu
              have x0 := cellOf ((hKr.oth w.heap.size g10a.1 g10a.2.1 g10a.2.2.1 g10a.2.2.2).1.trans bwc) 0
              have x1 := cellOf ((hKr.oth (w.heap.size + 2) g10c.1 g10c.2.1 g10c.2.2.1 g10c.2.2.2).1.trans boc) 0
              simp only [List.getElem?_toArray, List.getElem?_cons_zero] at x0 x1
              rcases he' : blocks[j] with ⟨bad, bcap, bbody⟩
              have c0 := hrj j hlt 0 (by omega)
              simp only [he', Bl.cells, Bl.slice, Nat.mul_one, Nat.add_zero, List.getElem?_cons_zero] at hq c0
              clear he' ih hss
              obtain ⟨ue, ua⟩ := u
              simp only [ScoBack] at hq
              by_cases hue : ue = 0
              · subst hue
                have hua := hu0 rfl
                have hub : ua = 0 := congrArg Prod.snd hua
                subst hub
                rw [fstE_zero] at HD
                go_wp2_with (go_at_call 17; (with_reducible refine hq.mono ?_); rintro r w1 ⟨rfl, ⟨N2, pl2, hW2, hf2⟩, hK2, hb2⟩)
                go_roundw
                case rel => exact ⟨j + 1, N2, pl2, by omega, by go_num, by show _ = _; rw [HQ.out, HD.out], hW2, hf2, hKr.trans hK2, hbw.trans hb2⟩
                case measure => simp [intOf]; omega
              · rw [fstE_err (by exact hue)] at HD
                have hueb : (ue == 0) = false := by rw [beq_eq_false_iff_ne]; exact hue
                have hueb2 : (ue != 0) = true := by rw [bne, hueb]; rfl
                go_wp2_with (go_at_call 17; (with_reducible refine hq.mono ?_); rintro r w1 ⟨rfl, ⟨N2, pl2, hW2, hf2⟩, hK2, hb2⟩)
                go_ret2
                exact ⟨by rw [HU.out, HO.out, fstE_zero, HP.out, HQ.out, HD.out]; rfl, ⟨N2, pl2, hW2, hf2.pre hOP⟩, hKc.trans ((hKr.trans hK2).mono hOP.length_le), (hBc.trans hbw).trans hb2⟩
            · have hjd : decide ((j : Int) < (blocks.length : Int)) = false := by simp; omega
              go_wp2
              go_ret2
              exact ⟨by rw [HU.out, HO.out, fstE_zero, HP.out, HQ.out, Bl.scoL_end _ _ _ (by omega)]; rfl, ⟨N', pl', hWr, hfr.pre hOP⟩, hKc.trans (hKr.mono hOP.length_le), hBc.trans hbw⟩
        · have q7 : (kind == 7) = false := by rw [beq_eq_false_iff_ne]; exact e7
          rw [if_neg e7] at HP0
          clear e7
          go_upto_region 12 with (first
            | (go_at_call 39; (with_reducible refine hN.mono ?_); rintro r u0 ⟨rfl, hw'⟩; have hw2 := hw'.symm; subst hw2) | (go_at_call 40; (with_reducible refine hE.mono ?_); rintro r u1 ⟨rfl, bb1⟩; have hz1 := bb1.size; have bS1 := (bb1.block (w.heap.size + 1) (by have := HZ.out; omega)).trans bS; obtain ⟨y0, y1, y2, y3, y4, y5, y6, y7, y8, y9, y10, y11⟩ := cells12 bS1; have hI1 := hImp u1 (hB.tr le_rfl' bb1)) | (go_at_call 41; (with_reducible refine hI1.mono ?_); rintro r u2 ⟨rfl, bb2⟩; have hz2 := bb2.size; have bS2 := (bb2.block (w.heap.size + 1) (by have := HZ.out; omega)).trans bS1; obtain ⟨t0, t1, t2, t3, t4, t5, t6, t7, t8, t9, t10, t11⟩ := cells12 bS2; have bW2 := (bb2.block w.heap.size (by have := HZ.out; omega)).trans ((bb1.block w.heap.size (by have := HZ.out; omega)).trans bW); have bO2 := (bb2.block (w.heap.size + 2) (by have := HZ.out; omega)).trans ((bb1.block (w.heap.size + 2) (by have := HZ.out; omega)).trans bO); have v0 := cellOf bW2 0; have q0 := cellOf bO2 0; simp only [List.getElem?_toArray, List.getElem?_cons_zero] at v0 q0))
          have hbb := bb1.tr le_rfl' bb2
          obtain ⟨hWc, hPc, hKc, hBc, hRc⟩ := HNS.out u2 hbb
          have bwc := bW2
          have bsc := bS2
          have boc := bO2
          obtain ⟨P, hP⟩ : ∃ P, O = P := ⟨_, rfl⟩
          have HP : Hid (andMon (ownF O) kind mon = ownF P) := by show _ = _; rw [HP0.out, ← hP]
          have hOP : O <+: P := by rw [← hP]; exact List.prefix_refl _
          have hPl : P.length ≤ O.length + 1 := by rw [← hP]; omega
          have hfc : Fits P N pl := by rw [← hP]; exact hf
          rw [hP] at hPc boc
          obtain ⟨N1, hN1⟩ : ∃ N1, N = N1 := ⟨_, rfl⟩
          obtain ⟨pl1, hpl1⟩ : ∃ pl1, pl = pl1 := ⟨_, rfl⟩
          rw [hN1, hpl1] at hWc hfc
          obtain ⟨pad, hpad⟩ : ∃ pad, oad = pad := ⟨_, rfl⟩
          obtain ⟨pcap, hpcap⟩ : ∃ pcap, ocap = pcap := ⟨_, rfl⟩
          rw [hpad, hpcap] at hPc boc
          obtain ⟨Wc, hWcE⟩ : ∃ Wc, u2 = Wc := ⟨_, rfl⟩
          rw [hWcE] at hWc hPc hKc hBc hRc bwc bsc boc ⊢
          clear hWcE hP hN1 hpl1 hpad hpcap HWT HBO HST HNS HP0 hbb hz1 hz2 bS1 bS2 bW2 bO2 v0 q0 y0 y1 y2 y3 y4 y5 y6 y7 y8 y9 y10 y11 t0 t1 t2 t3 t4 t5 t6 t7 t8 t9 t10 t11 hI1 hE
          obtain ⟨g10a, g10b, g10c⟩ := HFR.out Wc hKc.size hRc
          clear hImp hN hG hE0 hF0 bW bS bO
          have z10 := cellOf bsc 10
          simp only [List.getElem?_toArray, List.getElem?_cons_zero, List.getElem?_cons_succ] at z10
          go_wp2
          go_loopw [57] (fun i wr => ∃ (j : Nat) (N' : List ByteArray) (pl' : ByteArray → Nat), j ≤ blocks.length ∧ i = .int .i64 j ∧ Hid (Bl.scoL (ownF P) blocks = Bl.scoL (ownF P) (blocks.drop j)) ∧ Wk wr base b k N' pl' ∧ Fits P N' pl' ∧ Kw b k P.length Wc wr ∧ Below base Wc wr)
            (fun i _ => blocks.length - (intOf i).toNat)
          case atStart => exact ⟨0, N1, pl1, by omega, rfl, rfl, hWc, hfc, Kw.refl _ _ _ _, Below.refl _ _⟩
          case round =>
            obtain ⟨j, N', pl', hj, rfl, HQ, hWr, hfr, hKr, hbw⟩ := hrel
            have hz3 := hbw.size
            have hb0 : Below n₀ w wr := (hBc.trans hbw).mono hn
            have hzc := hKc.size
            by_cases hlt : j < blocks.length
            · rcases hsl.2.2 with h | ⟨kb, koff, rfl, hbn, hrow⟩
              · subst h; simp at hlt
              have hbn2 : kb < wr.heap.size := by omega
              have HD := hid (Bl.scoL_drop (ownF P) blocks j hlt)
              have hrj := hrow.below hb0 hbn
              have hss := subs_at Bl.subs blocks j hlt
              have hq := ih _ (List.getElem_mem hlt) n₀ wr N' P pl' pad pcap hn ((hIk _ (List.getElem_mem hlt)).below hb0) hWr (hPc.kw hKr (Nat.le_refl _)) hfr (by omega)
              obtain ⟨u, hu⟩ : ∃ u, blocks[j].sco (ownF P) = u := ⟨_, rfl⟩
              have hu0 := Bl.sco_zero (f := ownF P) blocks[j]
              rw [hu] at hq HD hu0
              clear hu
              have x0 := cellOf ((hKr.oth w.heap.size g10a.1 g10a.2.1 g10a.2.2.1 g10a.2.2.2).1.trans bwc) 0
              have x1 := cellOf ((hKr.oth (w.heap.size + 2) g10c.1 g10c.2.1 g10c.2.2.1 g10c.2.2.2).1.trans boc) 0
              simp only [List.getElem?_toArray, List.getElem?_cons_zero] at x0 x1
              rcases he' : blocks[j] with ⟨bad, bcap, bbody⟩
              have c0 := hrj j hlt 0 (by omega)
              simp only [he', Bl.cells, Bl.slice, Nat.mul_one, Nat.add_zero, List.getElem?_cons_zero] at hq c0
              clear he' ih hss
              obtain ⟨ue, ua⟩ := u
              simp only [ScoBack] at hq
              by_cases hue : ue = 0
              · subst hue
                have hua := hu0 rfl
                have hub : ua = 0 := congrArg Prod.snd hua
                subst hub
                rw [fstE_zero] at HD
                go_wp2_with (go_at_call 17; (with_reducible refine hq.mono ?_); rintro r w1 ⟨rfl, ⟨N2, pl2, hW2, hf2⟩, hK2, hb2⟩)
                go_roundw
                case rel => exact ⟨j + 1, N2, pl2, by omega, by go_num, by show _ = _; rw [HQ.out, HD.out], hW2, hf2, hKr.trans hK2, hbw.trans hb2⟩
                case measure => simp [intOf]; omega
              · rw [fstE_err (by exact hue)] at HD
                have hueb : (ue == 0) = false := by rw [beq_eq_false_iff_ne]; exact hue
                have hueb2 : (ue != 0) = true := by rw [bne, hueb]; rfl
                go_wp2_with (go_at_call 17; (with_reducible refine hq.mono ?_); rintro r w1 ⟨rfl, ⟨N2, pl2, hW2, hf2⟩, hK2, hb2⟩)
                go_ret2
                exact ⟨by rw [HU.out, HO.out, fstE_zero, HP.out, HQ.out, HD.out]; rfl, ⟨N2, pl2, hW2, hf2.pre hOP⟩, hKc.trans ((hKr.trans hK2).mono hOP.length_le), (hBc.trans hbw).trans hb2⟩
            · have hjd : decide ((j : Int) < (blocks.length : Int)) = false := by simp; omega
              go_wp2
              go_ret2
              exact ⟨by rw [HU.out, HO.out, fstE_zero, HP.out, HQ.out, Bl.scoL_end _ _ _ (by omega)]; rfl, ⟨N', pl', hWr, hfr.pre hOP⟩, hKc.trans (hKr.mono hOP.length_le), hBc.trans hbw⟩
      · have hImp := fun W hW => FvBack.yes (hImp W hW) rfl
        go_wp2_with (first
          | (go_at_call 39; (with_reducible refine hN.mono ?_); rintro r u0 ⟨rfl, hw'⟩; have hw2 := hw'.symm; subst hw2) | (go_at_call 40; (with_reducible refine hE.mono ?_); rintro r u1 ⟨rfl, bb1⟩; have hz1 := bb1.size; have bS1 := (bb1.block (w.heap.size + 1) (by have := HZ.out; omega)).trans bS; obtain ⟨y0, y1, y2, y3, y4, y5, y6, y7, y8, y9, y10, y11⟩ := cells12 bS1; have hI1 := hImp u1 (hB.tr le_rfl' bb1)) | (go_at_call 41; (with_reducible refine hI1.mono ?_); rintro r u2 ⟨rfl, bb2⟩; have hz2 := bb2.size; have bS2 := (bb2.block (w.heap.size + 1) (by have := HZ.out; omega)).trans bS1; obtain ⟨t0, t1, t2, t3, t4, t5, t6, t7, t8, t9, t10, t11⟩ := cells12 bS2; have bW2 := (bb2.block w.heap.size (by have := HZ.out; omega)).trans ((bb1.block w.heap.size (by have := HZ.out; omega)).trans bW); have bO2 := (bb2.block (w.heap.size + 2) (by have := HZ.out; omega)).trans ((bb1.block (w.heap.size + 2) (by have := HZ.out; omega)).trans bO); have v0 := cellOf bW2 0; have q0 := cellOf bO2 0; simp only [List.getElem?_toArray, List.getElem?_cons_zero] at v0 q0))
        go_ret2
        exact ⟨by rw [HU.out, HO.out]; rfl, ⟨N, pl, HNS.out u2 (bb1.tr le_rfl' bb2) |>.1, hf⟩, HNS.out u2 (bb1.tr le_rfl' bb2) |>.2.2.1, HNS.out u2 (bb1.tr le_rfl' bb2) |>.2.2.2.1⟩
    · have hE := FvBack.yes hE0 rfl
      go_wp2_with (first
        | (go_at_call 39; (with_reducible refine hN.mono ?_); rintro r u0 ⟨rfl, hw'⟩; have hw2 := hw'.symm; subst hw2) | (go_at_call 40; (with_reducible refine hE.mono ?_); rintro r u1 ⟨rfl, bb1⟩; have hz1 := bb1.size; have bS1 := (bb1.block (w.heap.size + 1) (by have := HZ.out; omega)).trans bS; obtain ⟨y0, y1, y2, y3, y4, y5, y6, y7, y8, y9, y10, y11⟩ := cells12 bS1; have hI1 := hImp u1 (hB.tr le_rfl' bb1)) | (go_at_call 41; (with_reducible refine hI1.mono ?_); rintro r u2 ⟨rfl, bb2⟩; have hz2 := bb2.size; have bS2 := (bb2.block (w.heap.size + 1) (by have := HZ.out; omega)).trans bS1; obtain ⟨t0, t1, t2, t3, t4, t5, t6, t7, t8, t9, t10, t11⟩ := cells12 bS2; have bW2 := (bb2.block w.heap.size (by have := HZ.out; omega)).trans ((bb1.block w.heap.size (by have := HZ.out; omega)).trans bW); have bO2 := (bb2.block (w.heap.size + 2) (by have := HZ.out; omega)).trans ((bb1.block (w.heap.size + 2) (by have := HZ.out; omega)).trans bO); have v0 := cellOf bW2 0; have q0 := cellOf bO2 0; simp only [List.getElem?_toArray, List.getElem?_cons_zero] at v0 q0))
      go_ret2
      exact ⟨by rw [HU.out, HO.out]; rfl, ⟨N, pl, HNS.out u1 bb1 |>.1, hf⟩, HNS.out u1 bb1 |>.2.2.1, HNS.out u1 bb1 |>.2.2.2.1⟩
  · cases fo
    · rw [if_pos ⟨rfl, rfl⟩] at HO
      clear hE0 hImp HWT HBO HST
      go_wp2_with (first
        | (go_at_call 39; (with_reducible refine hN.mono ?_); rintro r u0 ⟨rfl, hw'⟩; have hw2 := hw'.symm; subst hw2)
        | (go_at_call 38; (with_reducible refine hG.mono ?_); rintro r u0 ⟨rfl, hw'⟩; have hw2 := hw'.symm; subst hw2))
      go_quiet (fail)
      go_wp2
      go_ret2
      obtain ⟨h1, h2, h3, h4, h5⟩ := HNS.out W0 (Below.refl _ _)
      exact ⟨by rw [HU.out, HO.out]; rfl, ⟨N, pl, ⟨h1.box, h1.map, h1.lo⟩, hf⟩, ⟨h3.size, h3.oth, h3.row⟩, ⟨h4.os, h4.tape, h4.output, h4.size, h4.block⟩⟩
    · rw [if_neg (by simp)] at HO
      rcases o1 with _ | a
      · have hE := FvBack.no hE0 rfl
        rcases o2 with _ | a
        · have hImp := fun W hW => FvBack.no (hImp W hW) rfl
          by_cases e7 : kind = 7
          · subst e7
            rw [if_pos rfl] at HP0
            go_upto_region 12 with (first
              | (go_at_call 39; (with_reducible refine hN.mono ?_); rintro r u0 ⟨rfl, hw'⟩; have hw2 := hw'.symm; subst hw2) | (go_at_call 38; (with_reducible refine hG.mono ?_); rintro r u0 ⟨rfl, hw'⟩; have hw2 := hw'.symm; subst hw2) | (go_at_call 40; (with_reducible refine hE.mono ?_); rintro r u1 ⟨rfl, bb1⟩; have hz1 := bb1.size; have bS1 := (bb1.block (w.heap.size + 1) (by have := HZ.out; omega)).trans bS; obtain ⟨y0, y1, y2, y3, y4, y5, y6, y7, y8, y9, y10, y11⟩ := cells12 bS1; have hI1 := hImp u1 (hB.tr le_rfl' bb1)) | (go_at_call 41; (with_reducible refine hI1.mono ?_); rintro r u2 ⟨rfl, bb2⟩; have hz2 := bb2.size; have bS2 := (bb2.block (w.heap.size + 1) (by have := HZ.out; omega)).trans bS1; obtain ⟨t0, t1, t2, t3, t4, t5, t6, t7, t8, t9, t10, t11⟩ := cells12 bS2; have bW2 := (bb2.block w.heap.size (by have := HZ.out; omega)).trans ((bb1.block w.heap.size (by have := HZ.out; omega)).trans bW); have bO2 := (bb2.block (w.heap.size + 2) (by have := HZ.out; omega)).trans ((bb1.block (w.heap.size + 2) (by have := HZ.out; omega)).trans bO); have v0 := cellOf bW2 0; have q0 := cellOf bO2 0; simp only [List.getElem?_toArray, List.getElem?_cons_zero] at v0 q0)
              | (go_at_call 18; (with_reducible refine (HWT.out u2 (bb1.tr le_rfl' bb2)).mono ?_); rintro r u3 ⟨N1, pl1, pad, pcap, rfl, hW3, hP3, hf3, hK3, hB3⟩; have bO3 := HBO.out u2 u3 (bb1.tr le_rfl' bb2) bO2 hK3; have e0 := cellOf bO3 0; have e1 := frozenOf bO3 0; simp only [List.getElem?_toArray, List.getElem?_cons_zero] at e0))
            have hbb := bb1.tr le_rfl' bb2
            obtain ⟨hWc, hPc, hKc, hBc, hRc, bwc, bsc, boc⟩ := HST.out u2 u3 N1 pl1 pad pcap hbb bW2 bS2 bO2 bO3 hW3 hP3 hK3 hB3
            obtain ⟨P, hP⟩ : ∃ P, wths O [mon] = P := ⟨_, rfl⟩
            have HP : Hid (andMon (ownF O) 7 mon = ownF P) := by show _ = _; rw [HP0.out, ← hP]; rfl
            have hOP : O <+: P := by rw [← hP]; exact wths_pre _ _
            have hPl : P.length ≤ O.length + 1 := by rw [← hP]; exact wths_len [mon] O
            rw [hP] at hWc hPc hKc hBc hRc bwc bsc boc hf3 ⊢
            have hfc := hf3
            obtain ⟨Wc, hWcE⟩ : ∃ Wc, u3.setCell ⟨w.heap.size + 2, 0, none⟩ (.slice pad P.length pcap) = Wc := ⟨_, rfl⟩
            rw [hWcE] at hWc hPc hKc hBc hRc bwc bsc boc ⊢
            clear hWcE hP HWT HBO HST HP0 bb1 bb2 hbb hz1 hz2 bS1 bS2 bW2 bO2 bO3 hW3 hP3 hK3 hB3 hf3 e0 e1 v0 q0 y0 y1 y2 y3 y4 y5 y6 y7 y8 y9 y10 y11 t0 t1 t2 t3 t4 t5 t6 t7 t8 t9 t10 t11 hI1 hE
            obtain ⟨g10a, g10b, g10c⟩ := HFR.out Wc hKc.size hRc
            clear hImp hN hG hE0 hF0 bW bS bO
            have z10 := cellOf bsc 10
            simp only [List.getElem?_toArray, List.getElem?_cons_zero, List.getElem?_cons_succ] at z10
            go_wp2
            go_loopw [57] (fun i wr => ∃ (j : Nat) (N' : List ByteArray) (pl' : ByteArray → Nat), j ≤ blocks.length ∧ i = .int .i64 j ∧ Hid (Bl.scoL (ownF P) blocks = Bl.scoL (ownF P) (blocks.drop j)) ∧ Wk wr base b k N' pl' ∧ Fits P N' pl' ∧ Kw b k P.length Wc wr ∧ Below base Wc wr)
              (fun i _ => blocks.length - (intOf i).toNat)
            case atStart => exact ⟨0, N1, pl1, by omega, rfl, rfl, hWc, hfc, Kw.refl _ _ _ _, Below.refl _ _⟩
            case round =>
              obtain ⟨j, N', pl', hj, rfl, HQ, hWr, hfr, hKr, hbw⟩ := hrel
              have hz3 := hbw.size
              have hb0 : Below n₀ w wr := (hBc.trans hbw).mono hn
              have hzc := hKc.size
              by_cases hlt : j < blocks.length
              · rcases hsl.2.2 with h | ⟨kb, koff, rfl, hbn, hrow⟩
                · subst h; simp at hlt
                have hbn2 : kb < wr.heap.size := by omega
                have HD := hid (Bl.scoL_drop (ownF P) blocks j hlt)
                have hrj := hrow.below hb0 hbn
                have hss := subs_at Bl.subs blocks j hlt
                have hq := ih _ (List.getElem_mem hlt) n₀ wr N' P pl' pad pcap hn ((hIk _ (List.getElem_mem hlt)).below hb0) hWr (hPc.kw hKr (Nat.le_refl _)) hfr (by omega)
                obtain ⟨u, hu⟩ : ∃ u, blocks[j].sco (ownF P) = u := ⟨_, rfl⟩
                have hu0 := Bl.sco_zero (f := ownF P) blocks[j]
                rw [hu] at hq HD hu0
                clear hu
                have x0 := cellOf ((hKr.oth w.heap.size g10a.1 g10a.2.1 g10a.2.2.1 g10a.2.2.2).1.trans bwc) 0
                have x1 := cellOf ((hKr.oth (w.heap.size + 2) g10c.1 g10c.2.1 g10c.2.2.1 g10c.2.2.2).1.trans boc) 0
                simp only [List.getElem?_toArray, List.getElem?_cons_zero] at x0 x1
                rcases he' : blocks[j] with ⟨bad, bcap, bbody⟩
                have c0 := hrj j hlt 0 (by omega)
                simp only [he', Bl.cells, Bl.slice, Nat.mul_one, Nat.add_zero, List.getElem?_cons_zero] at hq c0
                clear he' ih hss
                obtain ⟨ue, ua⟩ := u
                simp only [ScoBack] at hq
                by_cases hue : ue = 0
                · subst hue
                  have hua := hu0 rfl
                  have hub : ua = 0 := congrArg Prod.snd hua
                  subst hub
                  rw [fstE_zero] at HD
                  go_wp2_with (go_at_call 17; (with_reducible refine hq.mono ?_); rintro r w1 ⟨rfl, ⟨N2, pl2, hW2, hf2⟩, hK2, hb2⟩)
                  go_roundw
                  case rel => exact ⟨j + 1, N2, pl2, by omega, by go_num, by show _ = _; rw [HQ.out, HD.out], hW2, hf2, hKr.trans hK2, hbw.trans hb2⟩
                  case measure => simp [intOf]; omega
                · rw [fstE_err (by exact hue)] at HD
                  have hueb : (ue == 0) = false := by rw [beq_eq_false_iff_ne]; exact hue
                  have hueb2 : (ue != 0) = true := by rw [bne, hueb]; rfl
                  go_wp2_with (go_at_call 17; (with_reducible refine hq.mono ?_); rintro r w1 ⟨rfl, ⟨N2, pl2, hW2, hf2⟩, hK2, hb2⟩)
                  go_ret2
                  exact ⟨by rw [HU.out, HO.out, fstE_zero, HP.out, HQ.out, HD.out]; rfl, ⟨N2, pl2, hW2, hf2.pre hOP⟩, hKc.trans ((hKr.trans hK2).mono hOP.length_le), (hBc.trans hbw).trans hb2⟩
              · have hjd : decide ((j : Int) < (blocks.length : Int)) = false := by simp; omega
                go_wp2
                go_ret2
                exact ⟨by rw [HU.out, HO.out, fstE_zero, HP.out, HQ.out, Bl.scoL_end _ _ _ (by omega)]; rfl, ⟨N', pl', hWr, hfr.pre hOP⟩, hKc.trans (hKr.mono hOP.length_le), hBc.trans hbw⟩
          · have q7 : (kind == 7) = false := by rw [beq_eq_false_iff_ne]; exact e7
            rw [if_neg e7] at HP0
            clear e7
            go_upto_region 12 with (first
              | (go_at_call 39; (with_reducible refine hN.mono ?_); rintro r u0 ⟨rfl, hw'⟩; have hw2 := hw'.symm; subst hw2) | (go_at_call 38; (with_reducible refine hG.mono ?_); rintro r u0 ⟨rfl, hw'⟩; have hw2 := hw'.symm; subst hw2) | (go_at_call 40; (with_reducible refine hE.mono ?_); rintro r u1 ⟨rfl, bb1⟩; have hz1 := bb1.size; have bS1 := (bb1.block (w.heap.size + 1) (by have := HZ.out; omega)).trans bS; obtain ⟨y0, y1, y2, y3, y4, y5, y6, y7, y8, y9, y10, y11⟩ := cells12 bS1; have hI1 := hImp u1 (hB.tr le_rfl' bb1)) | (go_at_call 41; (with_reducible refine hI1.mono ?_); rintro r u2 ⟨rfl, bb2⟩; have hz2 := bb2.size; have bS2 := (bb2.block (w.heap.size + 1) (by have := HZ.out; omega)).trans bS1; obtain ⟨t0, t1, t2, t3, t4, t5, t6, t7, t8, t9, t10, t11⟩ := cells12 bS2; have bW2 := (bb2.block w.heap.size (by have := HZ.out; omega)).trans ((bb1.block w.heap.size (by have := HZ.out; omega)).trans bW); have bO2 := (bb2.block (w.heap.size + 2) (by have := HZ.out; omega)).trans ((bb1.block (w.heap.size + 2) (by have := HZ.out; omega)).trans bO); have v0 := cellOf bW2 0; have q0 := cellOf bO2 0; simp only [List.getElem?_toArray, List.getElem?_cons_zero] at v0 q0))
            have hbb := bb1.tr le_rfl' bb2
            obtain ⟨hWc, hPc, hKc, hBc, hRc⟩ := HNS.out u2 hbb
            have bwc := bW2
            have bsc := bS2
            have boc := bO2
            obtain ⟨P, hP⟩ : ∃ P, O = P := ⟨_, rfl⟩
            have HP : Hid (andMon (ownF O) kind mon = ownF P) := by show _ = _; rw [HP0.out, ← hP]
            have hOP : O <+: P := by rw [← hP]; exact List.prefix_refl _
            have hPl : P.length ≤ O.length + 1 := by rw [← hP]; omega
            have hfc : Fits P N pl := by rw [← hP]; exact hf
            rw [hP] at hPc boc
            obtain ⟨N1, hN1⟩ : ∃ N1, N = N1 := ⟨_, rfl⟩
            obtain ⟨pl1, hpl1⟩ : ∃ pl1, pl = pl1 := ⟨_, rfl⟩
            rw [hN1, hpl1] at hWc hfc
            obtain ⟨pad, hpad⟩ : ∃ pad, oad = pad := ⟨_, rfl⟩
            obtain ⟨pcap, hpcap⟩ : ∃ pcap, ocap = pcap := ⟨_, rfl⟩
            rw [hpad, hpcap] at hPc boc
            obtain ⟨Wc, hWcE⟩ : ∃ Wc, u2 = Wc := ⟨_, rfl⟩
            rw [hWcE] at hWc hPc hKc hBc hRc bwc bsc boc ⊢
            clear hWcE hP hN1 hpl1 hpad hpcap HWT HBO HST HNS HP0 hbb hz1 hz2 bS1 bS2 bW2 bO2 v0 q0 y0 y1 y2 y3 y4 y5 y6 y7 y8 y9 y10 y11 t0 t1 t2 t3 t4 t5 t6 t7 t8 t9 t10 t11 hI1 hE
            obtain ⟨g10a, g10b, g10c⟩ := HFR.out Wc hKc.size hRc
            clear hImp hN hG hE0 hF0 bW bS bO
            have z10 := cellOf bsc 10
            simp only [List.getElem?_toArray, List.getElem?_cons_zero, List.getElem?_cons_succ] at z10
            go_wp2
            go_loopw [57] (fun i wr => ∃ (j : Nat) (N' : List ByteArray) (pl' : ByteArray → Nat), j ≤ blocks.length ∧ i = .int .i64 j ∧ Hid (Bl.scoL (ownF P) blocks = Bl.scoL (ownF P) (blocks.drop j)) ∧ Wk wr base b k N' pl' ∧ Fits P N' pl' ∧ Kw b k P.length Wc wr ∧ Below base Wc wr)
              (fun i _ => blocks.length - (intOf i).toNat)
            case atStart => exact ⟨0, N1, pl1, by omega, rfl, rfl, hWc, hfc, Kw.refl _ _ _ _, Below.refl _ _⟩
            case round =>
              obtain ⟨j, N', pl', hj, rfl, HQ, hWr, hfr, hKr, hbw⟩ := hrel
              have hz3 := hbw.size
              have hb0 : Below n₀ w wr := (hBc.trans hbw).mono hn
              have hzc := hKc.size
              by_cases hlt : j < blocks.length
              · rcases hsl.2.2 with h | ⟨kb, koff, rfl, hbn, hrow⟩
                · subst h; simp at hlt
                have hbn2 : kb < wr.heap.size := by omega
                have HD := hid (Bl.scoL_drop (ownF P) blocks j hlt)
                have hrj := hrow.below hb0 hbn
                have hss := subs_at Bl.subs blocks j hlt
                have hq := ih _ (List.getElem_mem hlt) n₀ wr N' P pl' pad pcap hn ((hIk _ (List.getElem_mem hlt)).below hb0) hWr (hPc.kw hKr (Nat.le_refl _)) hfr (by omega)
                obtain ⟨u, hu⟩ : ∃ u, blocks[j].sco (ownF P) = u := ⟨_, rfl⟩
                have hu0 := Bl.sco_zero (f := ownF P) blocks[j]
                rw [hu] at hq HD hu0
                clear hu
                have x0 := cellOf ((hKr.oth w.heap.size g10a.1 g10a.2.1 g10a.2.2.1 g10a.2.2.2).1.trans bwc) 0
                have x1 := cellOf ((hKr.oth (w.heap.size + 2) g10c.1 g10c.2.1 g10c.2.2.1 g10c.2.2.2).1.trans boc) 0
                simp only [List.getElem?_toArray, List.getElem?_cons_zero] at x0 x1
                rcases he' : blocks[j] with ⟨bad, bcap, bbody⟩
                have c0 := hrj j hlt 0 (by omega)
                simp only [he', Bl.cells, Bl.slice, Nat.mul_one, Nat.add_zero, List.getElem?_cons_zero] at hq c0
                clear he' ih hss
                obtain ⟨ue, ua⟩ := u
                simp only [ScoBack] at hq
                by_cases hue : ue = 0
                · subst hue
                  have hua := hu0 rfl
                  have hub : ua = 0 := congrArg Prod.snd hua
                  subst hub
                  rw [fstE_zero] at HD
                  go_wp2_with (go_at_call 17; (with_reducible refine hq.mono ?_); rintro r w1 ⟨rfl, ⟨N2, pl2, hW2, hf2⟩, hK2, hb2⟩)
                  go_roundw
                  case rel => exact ⟨j + 1, N2, pl2, by omega, by go_num, by show _ = _; rw [HQ.out, HD.out], hW2, hf2, hKr.trans hK2, hbw.trans hb2⟩
                  case measure => simp [intOf]; omega
                · rw [fstE_err (by exact hue)] at HD
                  have hueb : (ue == 0) = false := by rw [beq_eq_false_iff_ne]; exact hue
                  have hueb2 : (ue != 0) = true := by rw [bne, hueb]; rfl
                  go_wp2_with (go_at_call 17; (with_reducible refine hq.mono ?_); rintro r w1 ⟨rfl, ⟨N2, pl2, hW2, hf2⟩, hK2, hb2⟩)
                  go_ret2
                  exact ⟨by rw [HU.out, HO.out, fstE_zero, HP.out, HQ.out, HD.out]; rfl, ⟨N2, pl2, hW2, hf2.pre hOP⟩, hKc.trans ((hKr.trans hK2).mono hOP.length_le), (hBc.trans hbw).trans hb2⟩
              · have hjd : decide ((j : Int) < (blocks.length : Int)) = false := by simp; omega
                go_wp2
                go_ret2
                exact ⟨by rw [HU.out, HO.out, fstE_zero, HP.out, HQ.out, Bl.scoL_end _ _ _ (by omega)]; rfl, ⟨N', pl', hWr, hfr.pre hOP⟩, hKc.trans (hKr.mono hOP.length_le), hBc.trans hbw⟩
        · have hImp := fun W hW => FvBack.yes (hImp W hW) rfl
          go_wp2_with (first
            | (go_at_call 39; (with_reducible refine hN.mono ?_); rintro r u0 ⟨rfl, hw'⟩; have hw2 := hw'.symm; subst hw2) | (go_at_call 38; (with_reducible refine hG.mono ?_); rintro r u0 ⟨rfl, hw'⟩; have hw2 := hw'.symm; subst hw2) | (go_at_call 40; (with_reducible refine hE.mono ?_); rintro r u1 ⟨rfl, bb1⟩; have hz1 := bb1.size; have bS1 := (bb1.block (w.heap.size + 1) (by have := HZ.out; omega)).trans bS; obtain ⟨y0, y1, y2, y3, y4, y5, y6, y7, y8, y9, y10, y11⟩ := cells12 bS1; have hI1 := hImp u1 (hB.tr le_rfl' bb1)) | (go_at_call 41; (with_reducible refine hI1.mono ?_); rintro r u2 ⟨rfl, bb2⟩; have hz2 := bb2.size; have bS2 := (bb2.block (w.heap.size + 1) (by have := HZ.out; omega)).trans bS1; obtain ⟨t0, t1, t2, t3, t4, t5, t6, t7, t8, t9, t10, t11⟩ := cells12 bS2; have bW2 := (bb2.block w.heap.size (by have := HZ.out; omega)).trans ((bb1.block w.heap.size (by have := HZ.out; omega)).trans bW); have bO2 := (bb2.block (w.heap.size + 2) (by have := HZ.out; omega)).trans ((bb1.block (w.heap.size + 2) (by have := HZ.out; omega)).trans bO); have v0 := cellOf bW2 0; have q0 := cellOf bO2 0; simp only [List.getElem?_toArray, List.getElem?_cons_zero] at v0 q0))
          go_ret2
          exact ⟨by rw [HU.out, HO.out]; rfl, ⟨N, pl, HNS.out u2 (bb1.tr le_rfl' bb2) |>.1, hf⟩, HNS.out u2 (bb1.tr le_rfl' bb2) |>.2.2.1, HNS.out u2 (bb1.tr le_rfl' bb2) |>.2.2.2.1⟩
      · have hE := FvBack.yes hE0 rfl
        go_wp2_with (first
          | (go_at_call 39; (with_reducible refine hN.mono ?_); rintro r u0 ⟨rfl, hw'⟩; have hw2 := hw'.symm; subst hw2) | (go_at_call 38; (with_reducible refine hG.mono ?_); rintro r u0 ⟨rfl, hw'⟩; have hw2 := hw'.symm; subst hw2) | (go_at_call 40; (with_reducible refine hE.mono ?_); rintro r u1 ⟨rfl, bb1⟩; have hz1 := bb1.size; have bS1 := (bb1.block (w.heap.size + 1) (by have := HZ.out; omega)).trans bS; obtain ⟨y0, y1, y2, y3, y4, y5, y6, y7, y8, y9, y10, y11⟩ := cells12 bS1; have hI1 := hImp u1 (hB.tr le_rfl' bb1)) | (go_at_call 41; (with_reducible refine hI1.mono ?_); rintro r u2 ⟨rfl, bb2⟩; have hz2 := bb2.size; have bS2 := (bb2.block (w.heap.size + 1) (by have := HZ.out; omega)).trans bS1; obtain ⟨t0, t1, t2, t3, t4, t5, t6, t7, t8, t9, t10, t11⟩ := cells12 bS2; have bW2 := (bb2.block w.heap.size (by have := HZ.out; omega)).trans ((bb1.block w.heap.size (by have := HZ.out; omega)).trans bW); have bO2 := (bb2.block (w.heap.size + 2) (by have := HZ.out; omega)).trans ((bb1.block (w.heap.size + 2) (by have := HZ.out; omega)).trans bO); have v0 := cellOf bW2 0; have q0 := cellOf bO2 0; simp only [List.getElem?_toArray, List.getElem?_cons_zero] at v0 q0))
        go_ret2
        exact ⟨by rw [HU.out, HO.out]; rfl, ⟨N, pl, HNS.out u1 bb1 |>.1, hf⟩, HNS.out u1 bb1 |>.2.2.1, HNS.out u1 bb1 |>.2.2.2.1⟩
theorem block_w {base b k : Nat} (x : Bl) : BlW base b k x :=
  Bl.ind (P := StW base b k) (Q := BlW base b k) (fun kind mon name n e ad cap blocks pos ih => stmt_own kind mon name n e ad cap blocks pos ih) (fun ad cap body ih => block_own ad cap body ih) x
end Go.Proofs.YtfkabkbnfeiggaaDoor
namespace Go.Proofs.YtfkabkbnfeiggaaDoor
open Go.RowKit
def ScBack (r : Int × Int) (w : World) (e : Ending) (w' : World) : Prop := e = .returned (.tuple #[.int .i64 r.1, .int .i64 r.2]) ∧ Below w.heap.size w w'
set_option maxRecDepth 100000 in
set_option maxHeartbeats 4000000 in
theorem scope_any (x : Bl) (l : List ByteArray) (oad : Option Addr) (ocap n₀ : Nat) (w : World) (hn : n₀ ≤ w.heap.size) (hx : x.Is n₀ w) (hl : SlAt 1 ncells n₀ w oad ocap l) (hsz : l.length + x.subs.length ≤ 1000000) :
    Calls Tryd.prog 10 #[x.slice, .slice oad l.length ocap] w fun e w' => ScBack (x.sco (ownF l)) w e w' := by
  have hmm := @run_makeMap Tryd.prog
  obtain ⟨W1, hW1⟩ : ∃ W1, w.alloc (.map #[] 0) = W1 := ⟨_, rfl⟩
  obtain ⟨W2, hW2⟩ : ∃ W2, W1.alloc (.cells #[.slice none 0 0, .map (some w.heap.size)] 56) = W2 := ⟨_, rfl⟩
  have hz1 : W1.heap.size = w.heap.size + 1 := by rw [← hW1]; simp
  have hB : Below w.heap.size w W2 := by rw [← hW2, ← hW1]; exact ((Below.refl _ w).al le_rfl' _).al le_rfl' _
  have hb : W2.heap[w.heap.size + 1]? = some (.cells #[.slice none 0 0, .map (some w.heap.size)] 56 (0, 0)) := by
    have := heapNew W1 (.cells #[.slice none 0 0, .map (some w.heap.size)] 56)
    rwa [hz1, hW2] at this
  have hk : PMap W2 w.heap.size (fun _ => 0) := by
    have h1 := PMap.new w
    rw [hW1] at h1
    exact h1.kept (by rw [← hW2]; exact Below.heap_alloc _ _ _ (by omega))
  have hWk : Wk W2 w.heap.size (w.heap.size + 1) w.heap.size [] (fun _ => 0) := ⟨⟨_, hb, World.ownsRow_nil _ _ _ _⟩, hk, by omega, Nat.le_refl _⟩
  have hOw : OwS W2 (w.heap.size + 1) w.heap.size [] none 0 := ⟨by simp, by unfold maxLen; omega, .inl rfl⟩
  have hMo : MoAt W2 (w.heap.size + 1) w.heap.size l oad ocap := by
    obtain ⟨g1, g2, g3⟩ := hl.below (hB.mono hn)
    refine ⟨g1, g2, ?_⟩
    rcases g3 with g3 | ⟨mb, off, g4, g5, g6⟩
    · exact .inl g3
    · have hold := hWk.old (j := mb) (by omega)
      refine .inr ⟨mb, off, g4, by have := hB.size; omega, hold.1, hold.2.1, hold.2.2, fun i hi => ?_⟩
      have := g6 i hi 0 (by omega)
      simpa [ncells] using this
  have hq1 := with_any hWk hOw ⟨List.prefix_refl _, List.nodup_nil, fun i hi => by simp at hi⟩ l oad ocap hMo (by simp; omega)
  have hq2 := fun (u : World) (hu : Below w.heap.size W2 u) (N' : List ByteArray) (pl' : ByteArray → Nat) (ad' : Option Addr) (cap' : Nat) (hWu : Wk u w.heap.size (w.heap.size + 1) w.heap.size N' pl') (hOu : OwS u (w.heap.size + 1) w.heap.size (wths [] l) ad' cap') (hfu : Fits (wths [] l) N' pl') => block_w (base := w.heap.size) (b := w.heap.size + 1) (k := w.heap.size) x n₀ u N' (wths [] l) pl' ad' cap' hn (hx.below ((hB.trans hu).mono hn)) hWu hOu hfu (by have := wths_len l []; simp at this; omega)
  rw [wths_nil] at hq2
  obtain ⟨P, hP⟩ : ∃ P, wths [] l = P := ⟨_, rfl⟩
  obtain ⟨r, hr⟩ : ∃ r, x.sco (ownF l) = r := ⟨_, rfl⟩
  simp only [WithBack, hP, List.length_nil] at hq1
  simp only [hP, hr] at hq2
  rw [hr]
  clear hMo hP hr hl hx hWk hOw hk hb
  rcases x with ⟨xad, xcap, xbody⟩
  simp only [Bl.slice] at hq2 ⊢
  go_enter Tryd.func10, Tryd.ntmps10
  go_upto_region 2 with fail
  clear hW1 hW2 hmm
  have HZ1 := hid hz1
  clear hz1
  go_wp2_with (first
    | (go_at_call 18; (with_reducible refine hq1.mono ?_); rintro rr u1 ⟨N', pl', ad', cap', rfl, hWu, hOu, hfu, hKu, hBu⟩; have hq3 := hq2 u1 hBu N' pl' ad' cap' hWu hOu hfu)
    | (go_at_call 17; (with_reducible refine hq3.mono ?_); rintro rr u2 ⟨rfl, _, _, hB2⟩))
  go_ret2
  exact ⟨rfl, (hB.trans hBu).trans hB2⟩
end Go.Proofs.YtfkabkbnfeiggaaDoor
