/-
  The reader of package names: those who look names up (closures), newReader, knows.
-/
import Derived.Test.YtfkabkbnfeiggaaDoorNxB
import Derived.Test.YtfkabkbnfeiggaaDoorCkE
import Derived.Deep.QuietTactic
import Derived.BigQuiet
import Derived.Deep.Cut
import Derived.Laws.EntriesVeiled
namespace Go.Proofs.YtfkabkbnfeiggaaDoor
open Go.RowKit
/-- What the reader's closures lead to. -/
structure Rdr (W : World) (sb k1 k2 b : Nat) (S : List (ByteArray × List (ByteArray × Int))) (B : List Nat) : Prop where
  c0 : W.cell? ⟨sb, 0, none⟩ = some (.map (some b))
  c1 : W.cell? ⟨k1, 0, none⟩ = some (.int .i64 1)
  c2 : W.cell? ⟨k2, 0, none⟩ = some (.int .i64 2)
  s : Scope W b S B
theorem lt_cell {w : World} {b o : Nat} {v : Value} (h : w.cell? ⟨b, o, none⟩ = some v) : b < w.heap.size := by
  rcases Nat.lt_or_ge b w.heap.size with h1 | h1
  · exact h1
  · exfalso
    have h2 : w.heap[b]? = none := by rw [Array.getElem?_eq_none_iff]; exact h1
    simp [World.cell?, h2] at h
theorem Rdr.below {W W' : World} {sb k1 k2 b n : Nat} {S : List (ByteArray × List (ByteArray × Int))} {B : List Nat} (h : Rdr W sb k1 k2 b S B) (hb : Below n W W') (hn : W.heap.size ≤ n) : Rdr W' sb k1 k2 b S B :=
  ⟨(hb.cell (p := ⟨sb, 0, none⟩) (Nat.lt_of_lt_of_le (lt_cell h.c0) hn)).trans h.c0, (hb.cell (p := ⟨k1, 0, none⟩) (Nat.lt_of_lt_of_le (lt_cell h.c1) hn)).trans h.c1, (hb.cell (p := ⟨k2, 0, none⟩) (Nat.lt_of_lt_of_le (lt_cell h.c2) hn)).trans h.c2, h.s.below hb hn⟩
theorem mapNeq (c : Nat) (w : World) : (binOp .neq 54 (.map (some c)) (.map none)).run Tryd.prog w = .ok (.bool true) w := by kernel_rfl
theorem mapNeq0 (w : World) : (binOp .neq 54 (.map none) (.map none)).run Tryd.prog w = .ok (.bool false) w := by kernel_rfl
set_option maxRecDepth 100000 in
set_option maxHeartbeats 1000000 in
theorem isMon_any (mon : ByteArray) (w : World) (sb b : Nat) (S : List (ByteArray × List (ByteArray × Int))) (B : List Nat) (h0 : w.cell? ⟨sb, 0, none⟩ = some (.map (some b))) (hs : Scope w b S B) :
    Calls Tryd.prog 77 #[.string mon, .pointer (some ⟨sb, 0, none⟩)] w fun e w' => e = .returned (.bool ((scLk S).M mon)) ∧ w' = w := by
  have hn1 := fun c => mapNeq c w
  have hn2 := mapNeq0 w
  rcases scope_look hs mon with ⟨c, l, h1, h2, h3, h4, -⟩ | ⟨h1, h2, h3, -⟩
  · rw [h2]
    clear h1 h2 h4
    go_enter Tryd.func77, Tryd.ntmps77
    go_wp2
    go_ret
    exact ⟨rfl, rfl⟩
  · rw [h2]
    clear h1 h2
    go_enter Tryd.func77, Tryd.ntmps77
    go_wp2
    go_ret
    exact ⟨rfl, rfl⟩
set_option maxHeartbeats 1000000 in
theorem isKind_any (mon name : ByteArray) (w : World) (sb kb b : Nat) (k : Int) (S : List (ByteArray × List (ByteArray × Int))) (B : List Nat) (h0 : w.cell? ⟨sb, 0, none⟩ = some (.map (some b))) (hk : w.cell? ⟨kb, 0, none⟩ = some (.int .i64 k)) (hk0 : k ≠ 0) (hs : Scope w b S B) (r : Bool)
    (hr : ∀ l, (∀ name, (scLk S).V mon name = decide (kindAt l name = 1) ∧ (scLk S).F mon name = decide (kindAt l name = 2)) → r = decide (kindAt l name = k)) (hr0 : (∀ name, (scLk S).V mon name = false ∧ (scLk S).F mon name = false) → r = false) :
    Calls Tryd.prog 76 #[.string mon, .string name, .pointer (some ⟨sb, 0, none⟩), .pointer (some ⟨kb, 0, none⟩)] w fun e w' => e = .returned (.bool r) ∧ w' = w := by
  rcases scope_look hs mon with ⟨c, l, h1, h2, h3, h4, -⟩ | ⟨h1, h2, h3, -⟩
  · have h5 := look_in h4 name
    have hd := hr l h1
    subst hd
    clear h1 h2 h4 hr hr0
    obtain ⟨kk, hkk⟩ : ∃ kk, kindAt l name = kk := ⟨_, rfl⟩
    rw [hkk] at h5 ⊢
    clear hkk
    cases hq : decide (kk = k)
    · have hq2 : (kk == k) = false := by simpa using hq
      clear hq
      go_enter Tryd.func76, Tryd.ntmps76
      go_wp2
      go_ret
      exact ⟨rfl, rfl⟩
    · have hq2 : (kk == k) = true := by simpa using hq
      clear hq
      go_enter Tryd.func76, Tryd.ntmps76
      go_wp2
      go_ret
      exact ⟨rfl, rfl⟩
  · have h5 := look_none w name
    have hd := hr0 h1
    subst hd
    clear h1 h2 hr hr0
    have hq2 : ((0 : Int) == k) = false := by rw [beq_eq_false_iff_ne]; exact fun e => hk0 e.symm
    go_enter Tryd.func76, Tryd.ntmps76
    go_wp2
    go_ret
    exact ⟨rfl, rfl⟩
theorem isVar_rd (mon name : ByteArray) {w : World} {sb k1 k2 b : Nat} {S : List (ByteArray × List (ByteArray × Int))} {B : List Nat} (h : Rdr w sb k1 k2 b S B) :
    Calls Tryd.prog 76 #[.string mon, .string name, .pointer (some ⟨sb, 0, none⟩), .pointer (some ⟨k1, 0, none⟩)] w fun e w' => e = .returned (.bool ((scLk S).V mon name)) ∧ w' = w :=
  isKind_any mon name w sb k1 b 1 S B h.c0 h.c1 (by decide) h.s _ (fun _ hl => (hl name).1) (fun hl => (hl name).1)
theorem isMeth_rd (mon name : ByteArray) {w : World} {sb k1 k2 b : Nat} {S : List (ByteArray × List (ByteArray × Int))} {B : List Nat} (h : Rdr w sb k1 k2 b S B) :
    Calls Tryd.prog 76 #[.string mon, .string name, .pointer (some ⟨sb, 0, none⟩), .pointer (some ⟨k2, 0, none⟩)] w fun e w' => e = .returned (.bool ((scLk S).F mon name)) ∧ w' = w :=
  isKind_any mon name w sb k2 b 2 S B h.c0 h.c2 (by decide) h.s _ (fun _ hl => (hl name).2) (fun hl => (hl name).2)
theorem isMon_rd (mon : ByteArray) {w : World} {sb k1 k2 b : Nat} {S : List (ByteArray × List (ByteArray × Int))} {B : List Nat} (h : Rdr w sb k1 k2 b S B) :
    Calls Tryd.prog 77 #[.string mon, .pointer (some ⟨sb, 0, none⟩)] w fun e w' => e = .returned (.bool ((scLk S).M mon)) ∧ w' = w := isMon_any mon w sb b S B h.c0 h.s
set_option maxHeartbeats 1000000 in
theorem within_any (k : Int) (w : World) (sb : Nat) :
    Calls Tryd.prog 75 #[.int .i64 k, .pointer (some ⟨sb, 0, none⟩)] w fun e w' => e = .returned (.func (.func 76) #[] #[.pointer (some ⟨sb, 0, none⟩), .pointer (some ⟨w.heap.size, 0, none⟩)]) ∧ w' = w.alloc (.cells #[.int .i64 k] 3) := by
  go_enter Tryd.func75, Tryd.ntmps75
  go_wp2
  go_ret
  exact ⟨rfl, rfl⟩
theorem frozen_of {W : World} {B : Nat} {c : Array Value} {t : TypeId} (h : W.heap[B]? = some (.cells c t (0, 0))) (i : Nat) : W.frozen? ⟨B, i, none⟩ = false := by
  simp [World.frozen?, h]
theorem cellOf {W : World} {B : Nat} {c : Array Value} {t : TypeId} {z : Nat × Nat} (h : W.heap[B]? = some (.cells c t z)) (i : Nat) : W.cell? ⟨B, i, none⟩ = c[i]? := by
  simp [World.cell?, h]
theorem heapNew (W : World) (o : Obj) : (W.alloc o).heap[W.heap.size]? = some o := (MapKept.heap_alloc W _).1
set_option maxRecDepth 100000 in
set_option maxHeartbeats 2000000 in
theorem newReader_any (w : World) (b : Nat) (S : List (ByteArray × List (ByteArray × Int))) (B : List Nat) (hs : Scope w b S B) :
    Calls Tryd.prog 61 #[.map (some b)] w fun e w' => ∃ sb k1 k2, e = .returned (.agg #[.func (.func 77) #[] #[.pointer (some ⟨sb, 0, none⟩)], .func (.func 76) #[] #[.pointer (some ⟨sb, 0, none⟩), .pointer (some ⟨k1, 0, none⟩)], .func (.func 76) #[] #[.pointer (some ⟨sb, 0, none⟩), .pointer (some ⟨k2, 0, none⟩)]]) ∧ Rdr w' sb k1 k2 b S B ∧ Below w.heap.size w w' := by
  go_enter Tryd.func61, Tryd.ntmps61
  go_upto_region 2 with fail
  have bS : ((w.alloc (.cells #[.map (some b)] 115)).alloc (.cells #[.nilFunc, .nilFunc, .nilFunc] 119)).heap[w.heap.size]? = some (.cells #[.map (some b)] 115 (0, 0)) := (Below.heap_alloc _ _ _ (by simp)).trans (heapNew w _)
  have bR : ((w.alloc (.cells #[.map (some b)] 115)).alloc (.cells #[.nilFunc, .nilFunc, .nilFunc] 119)).heap[w.heap.size + 1]? = some (.cells #[.nilFunc, .nilFunc, .nilFunc] 119 (0, 0)) := by
    have := heapNew (w.alloc (.cells #[.map (some b)] 115)) (.cells #[.nilFunc, .nilFunc, .nilFunc] 119)
    rwa [World.size_alloc] at this
  have hB : Below w.heap.size w ((w.alloc (.cells #[.map (some b)] 115)).alloc (.cells #[.nilFunc, .nilFunc, .nilFunc] 119)) := ((Below.refl _ w).al le_rfl' _).al le_rfl' _
  have hz : ((w.alloc (.cells #[.map (some b)] 115)).alloc (.cells #[.nilFunc, .nilFunc, .nilFunc] 119)).heap.size = w.heap.size + 2 := by simp
  obtain ⟨W0, hW0⟩ : ∃ W0, (w.alloc (.cells #[.map (some b)] 115)).alloc (.cells #[.nilFunc, .nilFunc, .nilFunc] 119) = W0 := ⟨_, rfl⟩
  rw [hW0] at bS bR hB hz ⊢
  clear hW0
  obtain ⟨Bs, hBs⟩ : ∃ Bs, w.heap.size = Bs := ⟨_, rfl⟩
  have HZ := hid hz
  have HBs := hid hBs
  rw [hBs] at bS bR hB ⊢
  clear hBs hz
  go_wp2_with (first
    | (go_at_call 75; (with_reducible refine (within_any 1 _ _).mono ?_); rintro r u1 ⟨rfl, hu1⟩; have HU1 := hid hu1; clear hu1)
    | (go_at_call 75; (with_reducible refine (within_any 2 _ _).mono ?_); rintro r u2 ⟨rfl, hu2⟩; have HU2 := hid hu2; clear hu2; have bR2 : u2.heap[Bs + 1]? = some (.cells #[.nilFunc, .nilFunc, .nilFunc] 119 (0, 0)) := (by rw [HU2.out, HU1.out, Below.heap_alloc _ _ _ (by simp; have := HZ.out; have := HBs.out; omega), Below.heap_alloc _ _ _ (by have := HZ.out; have := HBs.out; omega)]; exact bR); have x0 := cellOf bR2 0; have x1 := cellOf bR2 1; have x2 := cellOf bR2 2; have y0 := frozen_of bR2 0; have y1 := frozen_of bR2 1; have y2 := frozen_of bR2 2; simp at x0 x1 x2))
  have hz := HZ.out
  have hbs := HBs.out
  have hu1 := HU1.out
  have hu2 := HU2.out
  have hz1 : u1.heap.size = Bs + 3 := by rw [hu1]; simp; omega
  have hz2 : u2.heap.size = Bs + 4 := by rw [hu2]; simp; omega
  have hzW : W0.heap.size = Bs + 2 := by omega
  have hB1 : Below Bs w u2 := by rw [hu2, hu1]; exact (hB.al (by omega) _).al (by omega) _
  have hBf := ((hB1.setCell (p := ⟨Bs + 1, 0, none⟩) (by simp) (.func (.func 77) #[] #[.pointer (some ⟨Bs, 0, none⟩)])).setCell (p := ⟨Bs + 1, 1, none⟩) (by simp) (.func (.func 76) #[] #[.pointer (some ⟨Bs, 0, none⟩), .pointer (some ⟨W0.heap.size, 0, none⟩)])).setCell (p := ⟨Bs + 1, 2, none⟩) (by simp) (.func (.func 76) #[] #[.pointer (some ⟨Bs, 0, none⟩), .pointer (some ⟨u1.heap.size, 0, none⟩)])
  refine bodyPost_ret (v := .agg #[.func (.func 77) #[] #[.pointer (some ⟨Bs, 0, none⟩)], .func (.func 76) #[] #[.pointer (some ⟨Bs, 0, none⟩), .pointer (some ⟨W0.heap.size, 0, none⟩)], .func (.func 76) #[] #[.pointer (some ⟨Bs, 0, none⟩), .pointer (some ⟨u1.heap.size, 0, none⟩)]]) ?_ rfl ⟨Bs, W0.heap.size, u1.heap.size, rfl, ?_, ?_⟩
  · simp [results, Tryd.results61, go_sem, x0, x1, x2]
  · have hk : ∀ k, k ≠ Bs + 1 → (((u2.setCell ⟨Bs + 1, 0, none⟩ (.func (.func 77) #[] #[.pointer (some ⟨Bs, 0, none⟩)])).setCell ⟨Bs + 1, 1, none⟩ (.func (.func 76) #[] #[.pointer (some ⟨Bs, 0, none⟩), .pointer (some ⟨W0.heap.size, 0, none⟩)])).setCell ⟨Bs + 1, 2, none⟩ (.func (.func 76) #[] #[.pointer (some ⟨Bs, 0, none⟩), .pointer (some ⟨u1.heap.size, 0, none⟩)])).heap[k]? = u2.heap[k]? := fun k hk => by
      rw [Below.heap_setCell _ _ _ _ hk, Below.heap_setCell _ _ _ _ hk, Below.heap_setCell _ _ _ _ hk]
    refine ⟨?_, ?_, ?_, ?_⟩
    · have h := (hk Bs (by omega)).trans ((show u2.heap[Bs]? = W0.heap[Bs]? by rw [hu2, hu1, Below.heap_alloc _ _ _ (by simp; omega), Below.heap_alloc _ _ _ (by omega)]).trans bS)
      exact cellOf h 0
    · have h := (hk W0.heap.size (by omega)).trans (show u2.heap[W0.heap.size]? = some (.cells #[.int .i64 1] 3 (0, 0)) by rw [hu2, hu1, Below.heap_alloc _ _ _ (by simp)]; exact heapNew _ _)
      exact cellOf h 0
    · have h := (hk u1.heap.size (by omega)).trans (show u2.heap[u1.heap.size]? = some (.cells #[.int .i64 2] 3 (0, 0)) by rw [hu2]; exact heapNew _ _)
      exact cellOf h 0
    · exact hs.below hBf (by omega)
  · rw [hbs]; exact hBf
end Go.Proofs.YtfkabkbnfeiggaaDoor
