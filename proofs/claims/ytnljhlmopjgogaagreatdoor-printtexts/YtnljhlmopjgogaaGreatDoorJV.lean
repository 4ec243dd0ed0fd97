/-
  nestStmts of the document's answer for package print: how many levels lie within one another in a block.
-/
import Derived.Test.YtnljhlmopjgogaaGreatDoorJR
import Derived.Test.YtnljhlmopjgogaaGreatDoorStD
import Derived.Test.YtnljhlmopjgogaaGreatDoorExB
import Derived.Deep.Cut
import Derived.Deep.DeepCutAuto
import Derived.Test.YtnljhlmopjgogaaGreatDoorPnC
namespace Go.Proofs.YtnljhlmopjgogaaGreatDoor
open Go.RowKit Px
theorem box6 {w : World} {a0 a1 a2 a3 a4 a5 : Value} {t : TypeId} : (w.alloc (.cells #[a0, a1, a2, a3, a4, a5] t)).cell? ⟨w.heap.size, 0, none⟩ = some a0 ∧ (w.alloc (.cells #[a0, a1, a2, a3, a4, a5] t)).cell? ⟨w.heap.size, 1, none⟩ = some a1 ∧ (w.alloc (.cells #[a0, a1, a2, a3, a4, a5] t)).cell? ⟨w.heap.size, 2, none⟩ = some a2 ∧ (w.alloc (.cells #[a0, a1, a2, a3, a4, a5] t)).cell? ⟨w.heap.size, 3, none⟩ = some a3 ∧ (w.alloc (.cells #[a0, a1, a2, a3, a4, a5] t)).cell? ⟨w.heap.size, 4, none⟩ = some a4 := by
  have h := heap_alloc_new w (.cells #[a0, a1, a2, a3, a4, a5] t)
  exact ⟨cell_of' h 0, cell_of' h 1, cell_of' h 2, cell_of' h 3, cell_of' h 4⟩
set_option maxRecDepth 100000 in
set_option maxHeartbeats 2000000 in
theorem variable_ref12 (v : Va) (w : World) (hv : v.Is) (hok : v.ok = true) (h3 : v.type ≠ 3) :
    Calls Tryz.prog 22 #[v.val] w fun r w' => r = .returned (.string ⟨(vaT 1 v).toArray⟩) ∧ Below w.heap.size w w' := by
  have hnl : v.name.size ≤ 32 := by unfold Va.ok at hok; simp only [Bool.and_eq_true] at hok; have := name_len hok.1.1; simpa using this
  have hty : v.type = 1 ∨ v.type = 2 ∨ v.type = 3 := by unfold Va.ok at hok; simp only [Bool.and_eq_true, decide_eq_true_iff] at hok; rcases hok.2 with h | h | h <;> omega
  have hv1 := hv.2.2.1; have hv2 := hv.2.2.2.1; have hv3 := hv.2.2.2.2.1
  have l1 := itoa_len v.lo hv1; have l2 := itoa_len v.hi hv2; have l3 := itoa_len v.init hv3
  have HT : Hid (∀ ki fi : ByteArray, ki.data.toList = vaKind v → fi.data.toList = vaInit v → vaT 1 v = lin 1 ((⟨#[118, 97, 114, 32]⟩ : ByteArray) ++ v.name ++ ⟨#[32, 58, 32]⟩ ++ ki ++ ⟨#[32, 61, 32]⟩ ++ fi ++ ⟨#[59]⟩).data.toList) := fun ki fi h1 h2 => by
    simp [vaT, ByteArray.data_append, h1, h2]
  have HKI : Hid (vaKind v = if v.type = 1 then [98, 111, 111, 108] else if v.type = 3 then Lib.itoa v.lo ++ ([46, 46] ++ Lib.itoa v.hi) else [105, 110, 116]) := rfl
  have HFI : Hid (vaInit v = if v.type = 1 then (if v.init = 1 then [116, 114, 117, 101] else [102, 97, 108, 115, 101]) else Lib.itoa v.init) := rfl
  rcases v with ⟨name, type, lo, hi, init, pos⟩
  simp only [Va.val, Va.cells] at *
  obtain ⟨LO, hLO⟩ : ∃ s : ByteArray, s = ⟨(Lib.itoa lo).toArray⟩ := ⟨_, rfl⟩
  obtain ⟨HI, hHI⟩ : ∃ s : ByteArray, s = ⟨(Lib.itoa hi).toArray⟩ := ⟨_, rfl⟩
  obtain ⟨IN, hIN⟩ : ∃ s : ByteArray, s = ⟨(Lib.itoa init).toArray⟩ := ⟨_, rfl⟩
  have z1 : LO.size ≤ 20 := by rw [hLO]; show (Lib.itoa lo).toArray.size ≤ 20; rw [List.size_toArray]; exact l1
  have z2 : HI.size ≤ 20 := by rw [hHI]; show (Lib.itoa hi).toArray.size ≤ 20; rw [List.size_toArray]; exact l2
  have z3 : IN.size ≤ 20 := by rw [hIN]; show (Lib.itoa init).toArray.size ≤ 20; rw [List.size_toArray]; exact l3
  have d1 : ∀ W, Calls Tryz.prog 24 #[.int .i64 lo] W fun r w' => r = .returned (.string LO) ∧ w' = W := fun W => by rw [hLO]; exact digits_any lo W hv1
  have d2 : ∀ W, Calls Tryz.prog 24 #[.int .i64 hi] W fun r w' => r = .returned (.string HI) ∧ w' = W := fun W => by rw [hHI]; exact digits_any hi W hv2
  have d3 : ∀ W, Calls Tryz.prog 24 #[.int .i64 init] W fun r w' => r = .returned (.string IN) ∧ w' = W := fun W => by rw [hIN]; exact digits_any init W hv3
  have E1 := hid hLO; have E2 := hid hHI; have E3 := hid hIN
  have HL : Hid (∀ (s : ByteArray) (W : World), s.size ≤ 1000 → Calls Tryz.prog 21 #[.int .i64 1, .string s] W fun r w' => r = .returned (.string ⟨(lin 1 s.data.toList).toArray⟩) ∧ w' = W) := fun s W h => line_ref 1 s W (by omega) (by omega)
  clear hLO hHI hIN hv hok hv1 hv2 hv3 l1 l2 l3
  have hB0 : Below w.heap.size w (w.alloc (.cells #[.string name, .int .i64 type, .int .i64 lo, .int .i64 hi, .int .i64 init, .int .i64 pos] 41)) := (Below.refl _ w).al le_rfl' _
  obtain ⟨c0, c1, c2, c3, c4⟩ := box6 (w := w) (a0 := .string name) (a1 := .int .i64 type) (a2 := .int .i64 lo) (a3 := .int .i64 hi) (a4 := .int .i64 init) (a5 := .int .i64 pos) (t := 41)
  rcases hty with rfl | rfl | rfl
  · by_cases qi : init = 1
    · subst qi
      have HE : Hid (vaT 1 ⟨name, 1, lo, hi, 1, pos⟩ = lin 1 ((⟨#[118, 97, 114, 32]⟩ : ByteArray) ++ name ++ ⟨#[32, 58, 32]⟩ ++ (⟨#[98, 111, 111, 108]⟩ : ByteArray) ++ ⟨#[32, 61, 32]⟩ ++ ⟨#[116, 114, 117, 101]⟩ ++ ⟨#[59]⟩).data.toList) := HT.out ((⟨#[98, 111, 111, 108]⟩ : ByteArray)) ⟨#[116, 114, 117, 101]⟩ (by rw [HKI.out]; rfl) (by rw [HFI.out]; rfl)
      obtain ⟨R, hR⟩ : ∃ R : ByteArray, (⟨(vaT 1 ⟨name, 1, lo, hi, 1, pos⟩).toArray⟩ : ByteArray) = R := ⟨_, rfl⟩
      have hl : Calls Tryz.prog 21 #[.int .i64 1, .string ((⟨#[118, 97, 114, 32]⟩ : ByteArray) ++ name ++ ⟨#[32, 58, 32]⟩ ++ (⟨#[98, 111, 111, 108]⟩ : ByteArray) ++ ⟨#[32, 61, 32]⟩ ++ ⟨#[116, 114, 117, 101]⟩ ++ ⟨#[59]⟩)] (w.alloc (.cells #[.string name, .int .i64 1, .int .i64 lo, .int .i64 hi, .int .i64 1, .int .i64 pos] 41)) fun r w' => r = .returned (.string R) ∧ w' = (w.alloc (.cells #[.string name, .int .i64 1, .int .i64 lo, .int .i64 hi, .int .i64 1, .int .i64 pos] 41)) := by
        have := HL.out ((⟨#[118, 97, 114, 32]⟩ : ByteArray) ++ name ++ ⟨#[32, 58, 32]⟩ ++ (⟨#[98, 111, 111, 108]⟩ : ByteArray) ++ ⟨#[32, 61, 32]⟩ ++ ⟨#[116, 114, 117, 101]⟩ ++ ⟨#[59]⟩) (w.alloc (.cells #[.string name, .int .i64 1, .int .i64 lo, .int .i64 hi, .int .i64 1, .int .i64 pos] 41)) (by simp only [ByteArray.size_append']; show 4 + name.size + 3 + 4 + 3 + 4 + 1 ≤ 1000; omega)
        rw [← HE.out, hR] at this
        exact this
      rw [hR]
      have g1 : ¬ (9223372036854775807 < 4 + name.size) := by omega
      have g2 : ¬ (9223372036854775807 < 4 + name.size + 3) := by omega
      have g3 : ¬ (9223372036854775807 < 4 + name.size + 3 + 4) := by omega
      have g4 : ¬ (9223372036854775807 < 4 + name.size + 3 + 4 + 3) := by omega
      have g5 : ¬ (9223372036854775807 < 4 + name.size + 3 + 4 + 3 + 4) := by omega
      have g6 : ¬ (9223372036854775807 < 4 + name.size + 3 + 4 + 3 + 4 + 1) := by omega
      clear HT HL HE hR HKI HFI
      go_enter Tryz.func22, Tryz.ntmps22
      go_wp2_with (first
        | (go_at_call 24; (with_reducible refine (d3 _).mono ?_); rintro r w' ⟨rfl, hw'⟩; have hw2 := hw'.symm; subst hw2)
        | (go_at_call 21; (with_reducible refine hl.mono ?_); rintro r w' ⟨rfl, hw'⟩; have hw2 := hw'.symm; subst hw2))
      go_ret
      exact ⟨rfl, hB0⟩
    · have qib : (init == 1) = false := by rw [beq_eq_false_iff_ne]; exact qi
      have HE : Hid (vaT 1 ⟨name, 1, lo, hi, init, pos⟩ = lin 1 ((⟨#[118, 97, 114, 32]⟩ : ByteArray) ++ name ++ ⟨#[32, 58, 32]⟩ ++ (⟨#[98, 111, 111, 108]⟩ : ByteArray) ++ ⟨#[32, 61, 32]⟩ ++ ⟨#[102, 97, 108, 115, 101]⟩ ++ ⟨#[59]⟩).data.toList) := HT.out ((⟨#[98, 111, 111, 108]⟩ : ByteArray)) ⟨#[102, 97, 108, 115, 101]⟩ (by rw [HKI.out]; rfl) (by rw [HFI.out, if_pos rfl, if_neg qi])
      obtain ⟨R, hR⟩ : ∃ R : ByteArray, (⟨(vaT 1 ⟨name, 1, lo, hi, init, pos⟩).toArray⟩ : ByteArray) = R := ⟨_, rfl⟩
      have hl : Calls Tryz.prog 21 #[.int .i64 1, .string ((⟨#[118, 97, 114, 32]⟩ : ByteArray) ++ name ++ ⟨#[32, 58, 32]⟩ ++ (⟨#[98, 111, 111, 108]⟩ : ByteArray) ++ ⟨#[32, 61, 32]⟩ ++ ⟨#[102, 97, 108, 115, 101]⟩ ++ ⟨#[59]⟩)] (w.alloc (.cells #[.string name, .int .i64 1, .int .i64 lo, .int .i64 hi, .int .i64 init, .int .i64 pos] 41)) fun r w' => r = .returned (.string R) ∧ w' = (w.alloc (.cells #[.string name, .int .i64 1, .int .i64 lo, .int .i64 hi, .int .i64 init, .int .i64 pos] 41)) := by
        have := HL.out ((⟨#[118, 97, 114, 32]⟩ : ByteArray) ++ name ++ ⟨#[32, 58, 32]⟩ ++ (⟨#[98, 111, 111, 108]⟩ : ByteArray) ++ ⟨#[32, 61, 32]⟩ ++ ⟨#[102, 97, 108, 115, 101]⟩ ++ ⟨#[59]⟩) (w.alloc (.cells #[.string name, .int .i64 1, .int .i64 lo, .int .i64 hi, .int .i64 init, .int .i64 pos] 41)) (by simp only [ByteArray.size_append']; show 4 + name.size + 3 + 4 + 3 + 5 + 1 ≤ 1000; omega)
        rw [← HE.out, hR] at this
        exact this
      rw [hR]
      have g1 : ¬ (9223372036854775807 < 4 + name.size) := by omega
      have g2 : ¬ (9223372036854775807 < 4 + name.size + 3) := by omega
      have g3 : ¬ (9223372036854775807 < 4 + name.size + 3 + 4) := by omega
      have g4 : ¬ (9223372036854775807 < 4 + name.size + 3 + 4 + 3) := by omega
      have g5 : ¬ (9223372036854775807 < 4 + name.size + 3 + 4 + 3 + 5) := by omega
      have g6 : ¬ (9223372036854775807 < 4 + name.size + 3 + 4 + 3 + 5 + 1) := by omega
      clear HT HL HE hR HKI HFI
      go_enter Tryz.func22, Tryz.ntmps22
      go_wp2_with (first
        | (go_at_call 24; (with_reducible refine (d3 _).mono ?_); rintro r w' ⟨rfl, hw'⟩; have hw2 := hw'.symm; subst hw2)
        | (go_at_call 21; (with_reducible refine hl.mono ?_); rintro r w' ⟨rfl, hw'⟩; have hw2 := hw'.symm; subst hw2))
      go_ret
      exact ⟨rfl, hB0⟩
  · have HE : Hid (vaT 1 ⟨name, 2, lo, hi, init, pos⟩ = lin 1 ((⟨#[118, 97, 114, 32]⟩ : ByteArray) ++ name ++ ⟨#[32, 58, 32]⟩ ++ (⟨#[105, 110, 116]⟩ : ByteArray) ++ ⟨#[32, 61, 32]⟩ ++ IN ++ ⟨#[59]⟩).data.toList) := HT.out ((⟨#[105, 110, 116]⟩ : ByteArray)) IN (by rw [HKI.out]; rfl) (by rw [HFI.out, E3.out]; simp)
    obtain ⟨R, hR⟩ : ∃ R : ByteArray, (⟨(vaT 1 ⟨name, 2, lo, hi, init, pos⟩).toArray⟩ : ByteArray) = R := ⟨_, rfl⟩
    have hl : Calls Tryz.prog 21 #[.int .i64 1, .string ((⟨#[118, 97, 114, 32]⟩ : ByteArray) ++ name ++ ⟨#[32, 58, 32]⟩ ++ (⟨#[105, 110, 116]⟩ : ByteArray) ++ ⟨#[32, 61, 32]⟩ ++ IN ++ ⟨#[59]⟩)] (w.alloc (.cells #[.string name, .int .i64 2, .int .i64 lo, .int .i64 hi, .int .i64 init, .int .i64 pos] 41)) fun r w' => r = .returned (.string R) ∧ w' = (w.alloc (.cells #[.string name, .int .i64 2, .int .i64 lo, .int .i64 hi, .int .i64 init, .int .i64 pos] 41)) := by
      have := HL.out ((⟨#[118, 97, 114, 32]⟩ : ByteArray) ++ name ++ ⟨#[32, 58, 32]⟩ ++ (⟨#[105, 110, 116]⟩ : ByteArray) ++ ⟨#[32, 61, 32]⟩ ++ IN ++ ⟨#[59]⟩) (w.alloc (.cells #[.string name, .int .i64 2, .int .i64 lo, .int .i64 hi, .int .i64 init, .int .i64 pos] 41)) (by simp only [ByteArray.size_append']; show 4 + name.size + 3 + 3 + 3 + IN.size + 1 ≤ 1000; omega)
      rw [← HE.out, hR] at this
      exact this
    rw [hR]
    have g1 : ¬ (9223372036854775807 < 4 + name.size) := by omega
    have g2 : ¬ (9223372036854775807 < 4 + name.size + 3) := by omega
    have g3 : ¬ (9223372036854775807 < 4 + name.size + 3 + 3) := by omega
    have g4 : ¬ (9223372036854775807 < 4 + name.size + 3 + 3 + 3) := by omega
    have g5 : ¬ (9223372036854775807 < 4 + name.size + 3 + 3 + 3 + IN.size) := by omega
    have g6 : ¬ (9223372036854775807 < 4 + name.size + 3 + 3 + 3 + IN.size + 1) := by omega
    clear HT HL HE hR HKI HFI
    go_enter Tryz.func22, Tryz.ntmps22
    go_wp2_with (first
      | (go_at_call 24; (with_reducible refine (d3 _).mono ?_); rintro r w' ⟨rfl, hw'⟩; have hw2 := hw'.symm; subst hw2)
      | (go_at_call 21; (with_reducible refine hl.mono ?_); rintro r w' ⟨rfl, hw'⟩; have hw2 := hw'.symm; subst hw2))
    go_ret
    exact ⟨rfl, hB0⟩
  · exact absurd rfl h3
end Go.Proofs.YtnljhlmopjgogaaGreatDoor
namespace Go.Proofs.YtnljhlmopjgogaaGreatDoor
open Go.RowKit Px
set_option maxRecDepth 100000 in
set_option maxHeartbeats 2000000 in
theorem variable_ref3 (name : ByteArray) (lo hi init pos : Int) (w : World) (hv : (⟨name, 3, lo, hi, init, pos⟩ : Va).Is) (hok : (⟨name, 3, lo, hi, init, pos⟩ : Va).ok = true) :
    Calls Tryz.prog 22 #[(⟨name, 3, lo, hi, init, pos⟩ : Va).val] w fun r w' => r = .returned (.string ⟨(vaT 1 ⟨name, 3, lo, hi, init, pos⟩).toArray⟩) ∧ Below w.heap.size w w' := by
  have hnl : name.size ≤ 32 := by unfold Va.ok at hok; simp only [Bool.and_eq_true] at hok; have := name_len hok.1.1; simpa using this
  have hv1 : I64 lo := hv.2.2.1; have hv2 : I64 hi := hv.2.2.2.1; have hv3 : I64 init := hv.2.2.2.2.1
  have l1 := itoa_len lo hv1; have l2 := itoa_len hi hv2; have l3 := itoa_len init hv3
  simp only [Va.val, Va.cells] at *
  obtain ⟨LO, hLO⟩ : ∃ s : ByteArray, s = ⟨(Lib.itoa lo).toArray⟩ := ⟨_, rfl⟩
  obtain ⟨HI, hHI⟩ : ∃ s : ByteArray, s = ⟨(Lib.itoa hi).toArray⟩ := ⟨_, rfl⟩
  obtain ⟨IN, hIN⟩ : ∃ s : ByteArray, s = ⟨(Lib.itoa init).toArray⟩ := ⟨_, rfl⟩
  obtain ⟨KI, hKI⟩ : ∃ s : ByteArray, s = LO ++ ⟨#[46, 46]⟩ ++ HI := ⟨_, rfl⟩
  have z1 : LO.size ≤ 20 := by rw [hLO]; show (Lib.itoa lo).toArray.size ≤ 20; rw [List.size_toArray]; exact l1
  have z2 : HI.size ≤ 20 := by rw [hHI]; show (Lib.itoa hi).toArray.size ≤ 20; rw [List.size_toArray]; exact l2
  have z3 : IN.size ≤ 20 := by rw [hIN]; show (Lib.itoa init).toArray.size ≤ 20; rw [List.size_toArray]; exact l3
  have z4 : KI.size ≤ 42 := by rw [hKI]; simp only [ByteArray.size_append']; show LO.size + 2 + HI.size ≤ 42; omega
  have d1 : ∀ W, Calls Tryz.prog 24 #[.int .i64 lo] W fun r w' => r = .returned (.string LO) ∧ w' = W := fun W => by rw [hLO]; exact digits_any lo W hv1
  have d2 : ∀ W, Calls Tryz.prog 24 #[.int .i64 hi] W fun r w' => r = .returned (.string HI) ∧ w' = W := fun W => by rw [hHI]; exact digits_any hi W hv2
  have d3 : ∀ W, Calls Tryz.prog 24 #[.int .i64 init] W fun r w' => r = .returned (.string IN) ∧ w' = W := fun W => by rw [hIN]; exact digits_any init W hv3
  have HE : Hid (vaT 1 ⟨name, 3, lo, hi, init, pos⟩ = lin 1 ((⟨#[118, 97, 114, 32]⟩ : ByteArray) ++ name ++ ⟨#[32, 58, 32]⟩ ++ KI ++ ⟨#[32, 61, 32]⟩ ++ IN ++ ⟨#[59]⟩).data.toList) := by
    show _ = _
    rw [hKI, hLO, hHI, hIN]
    simp [vaT, vaKind, vaInit, ByteArray.data_append]
  have HKI := hid hKI
  obtain ⟨R, hR⟩ : ∃ R : ByteArray, (⟨(vaT 1 ⟨name, 3, lo, hi, init, pos⟩).toArray⟩ : ByteArray) = R := ⟨_, rfl⟩
  have hl : ∀ W, Calls Tryz.prog 21 #[.int .i64 1, .string ((⟨#[118, 97, 114, 32]⟩ : ByteArray) ++ name ++ ⟨#[32, 58, 32]⟩ ++ KI ++ ⟨#[32, 61, 32]⟩ ++ IN ++ ⟨#[59]⟩)] W fun r w' => r = .returned (.string R) ∧ w' = W := fun W => by
    have := line_ref 1 ((⟨#[118, 97, 114, 32]⟩ : ByteArray) ++ name ++ ⟨#[32, 58, 32]⟩ ++ KI ++ ⟨#[32, 61, 32]⟩ ++ IN ++ ⟨#[59]⟩) W (by omega) (by simp only [ByteArray.size_append']; show 4 + name.size + 3 + KI.size + 3 + IN.size + 1 ≤ _; omega)
    rw [← HE.out, hR] at this
    exact this
  rw [hR]
  have g1 : ¬ (9223372036854775807 < 4 + name.size) := by omega
  have g2 : ¬ (9223372036854775807 < 4 + name.size + 3) := by omega
  have g3 : ¬ (9223372036854775807 < 4 + name.size + 3 + KI.size) := by omega
  have g4 : ¬ (9223372036854775807 < 4 + name.size + 3 + KI.size + 3) := by omega
  have g5 : ¬ (9223372036854775807 < 4 + name.size + 3 + KI.size + 3 + IN.size) := by omega
  have g6 : ¬ (9223372036854775807 < 4 + name.size + 3 + KI.size + 3 + IN.size + 1) := by omega
  have g7 : ¬ (9223372036854775807 < LO.size + 2) := by omega
  have g8 : ¬ (9223372036854775807 < LO.size + 2 + HI.size) := by omega
  have hB0 : Below w.heap.size w (w.alloc (.cells #[.string name, .int .i64 3, .int .i64 lo, .int .i64 hi, .int .i64 init, .int .i64 pos] 41)) := (Below.refl _ w).al le_rfl' _
  have b0 := heap_alloc_new w (.cells #[.string name, .int .i64 3, .int .i64 lo, .int .i64 hi, .int .i64 init, .int .i64 pos] 41)
  clear hLO hHI hIN hKI hv hok hv1 hv2 hv3 l1 l2 l3 HE hR
  obtain ⟨c0, c1, c2, c3, c4⟩ := box6 (w := w) (a0 := .string name) (a1 := .int .i64 3) (a2 := .int .i64 lo) (a3 := .int .i64 hi) (a4 := .int .i64 init) (a5 := .int .i64 pos) (t := 41)
  go_enter Tryz.func22, Tryz.ntmps22
  go_wp2_with (go_at_call 24; (with_reducible refine (d3 _).mono ?_); rintro r w' ⟨rfl, hw'⟩; have hw2 := hw'.symm; subst hw2)
  obtain ⟨W1, hW1⟩ : ∃ W1, w.alloc (.cells #[.string name, .int .i64 3, .int .i64 lo, .int .i64 hi, .int .i64 init, .int .i64 pos] 41) = W1 := ⟨_, rfl⟩
  rw [hW1] at c0 c1 c2 c3 c4 hB0 b0
  simp only [hW1]
  clear hW1
  have HK : Hid (∀ W, Below W1.heap.size W1 W → W.cell? ⟨w.heap.size, 2, none⟩ = some (.int .i64 lo) ∧ W.cell? ⟨w.heap.size, 3, none⟩ = some (.int .i64 hi)) := fun W h => by
    have hlt : w.heap.size < W1.heap.size := (Array.getElem?_eq_some_iff.1 b0).1
    have := (h.block _ hlt).trans b0
    exact ⟨cell_of' this 2, cell_of' this 3⟩
  have B := below_drewE (Below.refl W1.heap.size W1)
  go_cut [3] (fun t wx => t = .string KI ∧ Below W1.heap.size W1 wx)
  case first =>
    go_region_held3 (fun W => W.cell? ⟨w.heap.size, 2, none⟩ = some (.int .i64 lo) ∧ W.cell? ⟨w.heap.size, 3, none⟩ = some (.int .i64 hi)) (exact HK.out _ B)
      (first
        | (go_at_call 24; (with_reducible refine (d1 _).mono ?_); rintro r w' ⟨rfl, hw'⟩; have hw2 := hw'.symm; subst hw2)
        | (go_at_call 24; (with_reducible refine (d2 _).mono ?_); rintro r w' ⟨rfl, hw'⟩; have hw2 := hw'.symm; subst hw2))
    all_goals go_wp2
    all_goals go_meet
    all_goals exact ⟨by rw [HKI.out], B⟩
  case rest =>
    obtain ⟨rfl, hbq⟩ := hcut
    have hlt : w.heap.size < W1.heap.size := (Array.getElem?_eq_some_iff.1 b0).1
    have bq := (hbq.block _ hlt).trans b0
    have q0 := cell_of' bq 0
    have q1 := cell_of' bq 1
    have q4 := cell_of' bq 4
    go_wp2_with (go_at_call 21; (with_reducible refine (hl _).mono ?_); rintro r w' ⟨rfl, hw'⟩; have hw2 := hw'.symm; subst hw2)
    go_ret
    exact ⟨rfl, hB0.trans (hbq.mono (by omega))⟩
theorem variable_ref (v : Va) (w : World) (hv : v.Is) (hok : v.ok = true) :
    Calls Tryz.prog 22 #[v.val] w fun r w' => r = .returned (.string ⟨(vaT 1 v).toArray⟩) ∧ Below w.heap.size w w' := by
  by_cases h : v.type = 3
  · rcases v with ⟨name, type, lo, hi, init, pos⟩
    simp only at h
    subst h
    exact variable_ref3 name lo hi init pos w hv hok
  · exact variable_ref12 v w hv hok h
end Go.Proofs.YtnljhlmopjgogaaGreatDoor
namespace Go.Proofs.YtnljhlmopjgogaaGreatDoor
open Go.RowKit Px
/-- The document's nestStmts tells how deep a block is. -/
def RefNst (x : Bl) : Prop := x.okb → ∀ (n₀ o : Nat) (w : World), n₀ ≤ w.heap.size → x.Is n₀ w → o + x.sz ≤ 1000000 →
  Calls Tryz.prog 25 #[x.slice, .int .i64 (o : Int)] w fun r w' => r = .returned (.int .i64 ((x.nst o : Nat) : Int)) ∧ Below w.heap.size w w'
/-- A statement has an expression, or none. -/
theorem st_expr {kind : Int} {mon name : ByteArray} {n : Int} {op : Int} {em en : ByteArray} {ei : Int} {ea : Option Addr} {ec : Nat} {ek : List Ex} {ep : Int} {ad : Option Addr} {cap : Nat} {blocks : List Bl} {pos : Int} (h : (St.mk kind mon name n (.mk op em en ei ea ec ek ep) ad cap blocks pos).ok1 = true) :
    (op ≠ 0 ∧ (Ex.mk op em en ei ea ec ek ep).ok = true) ∨ (op = 0 ∧ (Ex.mk op em en ei ea ec ek ep).none = true) := by
  have he := (St.ok_parts h).2.2.2.2.1
  unfold fitsEx at he
  split at he
  · left
    refine ⟨?_, he⟩
    have h1 := (Ex.ok_mk he).1
    simp only [Ex.ok1, Bool.and_eq_true, decide_eq_true_iff] at h1
    omega
  · right
    refine ⟨?_, he⟩
    unfold Ex.none at he
    rw [Ex.same] at he
    simp only [Bool.and_eq_true, beq_iff_eq] at he
    exact he.1.1.1.1
set_option maxRecDepth 100000 in
set_option maxHeartbeats 2000000 in
theorem refNst_step (ad : Option Addr) (cap : Nat) (body : List St) (ih : ∀ s ∈ body, ∀ x ∈ s.blocks, RefNst x) : RefNst (.mk ad cap body) := by
  intro hokb n₀ o w hn hI ho
  have hoks := Bl.okb_stmt hokb
  have hsl := hI.down.1
  have hIs := hI.down.2
  have hl1 := hsl.1; have hl2 := hsl.2.1
  unfold maxLen at hl2
  have HN := hid (Bl.nst_mk ad cap body o)
  rw [Bl.sz_mk] at ho
  simp only [Bl.slice]
  go_enter Tryz.func25, Tryz.ntmps25
  go_wp2
  go_loopw [5, 6] (fun v i wr => ∃ (k a : Nat), k ≤ body.length ∧ v = .int .i64 (a : Int) ∧ i = .int .i64 (k : Int) ∧ Hid (a = max o (maxL (fun s => s.nst o) (body.take k))) ∧ o ≤ a ∧ a ≤ 4000000 ∧ Below w.heap.size w wr) (fun _ i _ => body.length - (intOf i).toNat)
  case atStart => exact ⟨0, o, by omega, rfl, rfl, by simp [Hid, maxL], by omega, by omega, Below.refl _ _⟩
  case round =>
    obtain ⟨k, a, hk, rfl, rfl, HA, hoa, ha, hbw⟩ := hrel
    have hzw := hbw.size
    obtain ⟨wo, hwo⟩ : ∃ wo : World, wo = wr := ⟨_, rfl⟩
    subst hwo
    by_cases hlt : k < body.length
    · rcases hsl.2.2 with h | ⟨b, off, rfl, hbn, hrow⟩
      · subst h; simp at hlt
      have hr := hrow.below (hbw.mono hn) hbn
      have hbl : b < wo.heap.size := by omega
      have HS := hid (maxL_snoc (fun s : St => s.nst o) body k hlt)
      have hIj := (hIs _ (List.getElem_mem hlt)).below (hbw.mono hn)
      have hij := ih _ (List.getElem_mem hlt)
      have hoj := hoks _ (List.getElem_mem hlt)
      have htot := sum_ge St.tot body _ (List.getElem_mem hlt)
      rcases he' : body[k] with ⟨kind, mon, name, n, e, ad', cap', blocks, pos⟩
      have HX := hid (St.nst_mk kind mon name n e ad' cap' blocks pos o)
      rw [he'] at hIj hij htot HS hoj
      rw [St.tot_mk] at htot
      have hen := exnest_le e
      have hsub : e.subs.length ≤ 1000000 := by
        cases hno : e.none
        · rw [hno] at htot; simp at htot; omega
        · have := (none_nest hno).2; omega
      rcases hee : e with ⟨eop, emon, ename, en, ead, ecap, ekids, epos⟩
      have hor := hoj.1
      rw [hee] at hor
      have hor2 := st_expr hor
      rw [← hee] at hor2
      have hnst := fun (h : e.ok = true) => refNest_any e h n₀ wo 1 (by omega) hIj.down.2.1 hsub
      have hnz := fun (h : e.none = true) => (none_nest h).1
      obtain ⟨y, hy⟩ : ∃ y, e.nest 1 = y := ⟨_, rfl⟩
      rw [hy] at hen HX hnz
      simp only [hy] at hnst
      clear hy
      have hce : body[k].cells = [.int .i64 kind, .string mon, .string name, .int .i64 n, .int .i64 eop, .string emon, .string ename, .int .i64 en, .slice ead ekids.length ecap, .int .i64 epos, .slice ad' blocks.length cap', .int .i64 pos] := by rw [he', hee]; rfl
      obtain ⟨c0, c1, c2, c3, c4, c5, c6, c7, c8, c9, c10, c11⟩ := row12 hr k hlt hce
      have hIb := hIj.down.2.2
      have hlb1 := hIb.1.1; have hlb2 := hIb.1.2.1
      unfold maxLen at hlb2
      rw [show e.val = Value.agg #[.int .i64 eop, .string emon, .string ename, .int .i64 en, .slice ead ekids.length ecap, .int .i64 epos] by rw [hee]; rfl] at hnst
      have HTOT := hid htot
      have hyb : y ≤ 2000000 := by
        have := HTOT.out
        split at hen <;> simp_all <;> omega
      have hao : IntKind.i64.wrap ((o : Int) + (y : Int)) = ((o + y : Nat) : Int) := by rw [wrap_id _ (by omega) (by omega)]; omega
      have HIJ := hid hij
      have HOB := hid hoj.2
      have HCE := hid hce
      clear hee hen htot hij hIj hsub hor hoj hce he'
      rcases hor2 with ⟨hz, hok⟩ | ⟨rfl, hno⟩
      · have hzb : (eop != 0) = true := by simpa using hz
        have hzc : ¬ eop = 0 := hz
        have hnst1 := hnst hok
        clear hnst hnz
        go_wp2_with (go_at_call 44; refine hnst1.mono ?_; rintro r w2 ⟨rfl, bb2⟩)
        have hbN : Below n₀ wo w2 := bb2.mono (by omega)
        have hbF : Below w.heap.size w w2 := hbw.trans (bb2.mono (by omega))
        have hz2 := bb2.size
        clear c0 c1 c2 c3 c4 c5 c6 c7 c8 c9 c10 c11 hnst1 bb2
        go_loopw [5, 7] (fun v i wr => ∃ (j d : Nat), j ≤ blocks.length ∧ v = .int .i64 (d : Int) ∧ i = .int .i64 (j : Int) ∧ Hid (d = max a (max (o + y) (maxL (fun b => b.nst (o + 1)) (blocks.take j)))) ∧ o ≤ d ∧ d ≤ 4000000 ∧ Below w2.heap.size w2 wr) (fun _ i _ => blocks.length - (intOf i).toNat)
        case atStart => exact ⟨0, max a (o + y), by omega, by congr 1; omega, rfl, by simp [Hid, maxL], by omega, by omega, Below.refl _ _⟩
        case round =>
          obtain ⟨j, d, hj, rfl, rfl, HD, hod, hd, hbj⟩ := hrel
          have hzj := hbj.size
          have hbl3 : b < wr.heap.size := by omega
          obtain ⟨-, -, -, -, -, -, -, -, -, -, c10, -⟩ := row12 ((hr.below hbN hbn).below (hbj.mono (by omega)) hbn) k hlt HCE.out
          by_cases hlt2 : j < blocks.length
          · rcases hIb.1.2.2 with h | ⟨b3, off3, rfl, hbn3, hrow3⟩
            · subst h; simp at hlt2
            have hr3 := (hrow3.below hbN hbn3).below (hbj.mono (by omega)) hbn3
            have hb3l : b3 < wr.heap.size := by omega
            have hszj := sum_ge Bl.sz blocks _ (List.getElem_mem hlt2)
            have hnl := blnst_le blocks[j] (o + 1)
            have hq := HIJ.out blocks[j] (List.getElem_mem hlt2) (HOB.out _ (List.getElem_mem hlt2)) n₀ (o + 1) wr (by omega) ((hIb.2 _ (List.getElem_mem hlt2)).below (hbN.trans (hbj.mono (by omega)))) (by have := HTOT.out; omega)
            have HS2 := hid (maxL_snoc (fun b : Bl => b.nst (o + 1)) blocks j hlt2)
            obtain ⟨z, hz⟩ : ∃ z, blocks[j].nst (o + 1) = z := ⟨_, rfl⟩
            have hzb : z ≤ 4000000 := by have := HTOT.out; omega
            rw [hz] at hq HS2
            clear hz hnl hszj
            rcases he2 : blocks[j] with ⟨bad, bcap, bbody⟩
            have d0 := row1 hr3 j hlt2 (by rw [he2]; rfl)
            simp only [he2, Bl.slice] at hq d0
            have hcast : ((o + 1 : Nat) : Int) = (o : Int) + 1 := by omega
            rw [hcast] at hq
            clear he2 hcast
            go_wp2_with (go_at_call 25; refine hq.mono ?_; rintro r w5 ⟨rfl, bb5⟩)
            go_roundw
            case rel =>
              refine ⟨j + 1, max d z, by omega, by congr 1; omega, by go_num, ?_, by omega, by omega, hbj.tr le_rfl' bb5⟩
              show _ = _
              rw [HS2.out, HD.out]; omega
            case measure => simp [intOf]; omega
          · have hmb : j = blocks.length := by omega
            have hmd : decide ((j : Int) < (blocks.length : Int)) = false := by simp; omega
            go_wp2
            go_roundw
            case rel =>
              refine ⟨k + 1, d, by omega, rfl, by go_num, ?_, hod, hd, hbF.trans (hbj.mono (by omega))⟩
              show _ = _
              rw [HS.out, HX.out, HD.out, HA.out, hmb, List.take_length]; omega
            case measure => simp [intOf]; omega
      · have hy0 := hnz hno
        clear hnst hnz
        obtain ⟨w2, hw2⟩ : ∃ w2, w2 = wo := ⟨_, rfl⟩
        have hbN : Below n₀ wo w2 := by rw [hw2]; exact Below.refl _ _
        have hbF : Below w.heap.size w w2 := by rw [hw2]; exact hbw
        have hz2 : wo.heap.size ≤ w2.heap.size := by rw [hw2]; exact Nat.le_refl _
        go_wp2
        clear c0 c1 c2 c3 c4 c5 c6 c7 c8 c9 c10 c11
        rw [← hw2]
        clear hw2
        go_loopw [5, 7] (fun v i wr => ∃ (j d : Nat), j ≤ blocks.length ∧ v = .int .i64 (d : Int) ∧ i = .int .i64 (j : Int) ∧ Hid (d = max a (max (o + y) (maxL (fun b => b.nst (o + 1)) (blocks.take j)))) ∧ o ≤ d ∧ d ≤ 4000000 ∧ Below w2.heap.size w2 wr) (fun _ i _ => blocks.length - (intOf i).toNat)
        case atStart => exact ⟨0, max a (o + y), by omega, by congr 1; omega, rfl, by simp [Hid, maxL], by omega, by omega, Below.refl _ _⟩
        case round =>
          obtain ⟨j, d, hj, rfl, rfl, HD, hod, hd, hbj⟩ := hrel
          have hzj := hbj.size
          have hbl3 : b < wr.heap.size := by omega
          obtain ⟨-, -, -, -, -, -, -, -, -, -, c10, -⟩ := row12 ((hr.below hbN hbn).below (hbj.mono (by omega)) hbn) k hlt HCE.out
          by_cases hlt2 : j < blocks.length
          · rcases hIb.1.2.2 with h | ⟨b3, off3, rfl, hbn3, hrow3⟩
            · subst h; simp at hlt2
            have hr3 := (hrow3.below hbN hbn3).below (hbj.mono (by omega)) hbn3
            have hb3l : b3 < wr.heap.size := by omega
            have hszj := sum_ge Bl.sz blocks _ (List.getElem_mem hlt2)
            have hnl := blnst_le blocks[j] (o + 1)
            have hq := HIJ.out blocks[j] (List.getElem_mem hlt2) (HOB.out _ (List.getElem_mem hlt2)) n₀ (o + 1) wr (by omega) ((hIb.2 _ (List.getElem_mem hlt2)).below (hbN.trans (hbj.mono (by omega)))) (by have := HTOT.out; omega)
            have HS2 := hid (maxL_snoc (fun b : Bl => b.nst (o + 1)) blocks j hlt2)
            obtain ⟨z, hz⟩ : ∃ z, blocks[j].nst (o + 1) = z := ⟨_, rfl⟩
            have hzb : z ≤ 4000000 := by have := HTOT.out; omega
            rw [hz] at hq HS2
            clear hz hnl hszj
            rcases he2 : blocks[j] with ⟨bad, bcap, bbody⟩
            have d0 := row1 hr3 j hlt2 (by rw [he2]; rfl)
            simp only [he2, Bl.slice] at hq d0
            have hcast : ((o + 1 : Nat) : Int) = (o : Int) + 1 := by omega
            rw [hcast] at hq
            clear he2 hcast
            go_wp2_with (go_at_call 25; refine hq.mono ?_; rintro r w5 ⟨rfl, bb5⟩)
            go_roundw
            case rel =>
              refine ⟨j + 1, max d z, by omega, by congr 1; omega, by go_num, ?_, by omega, by omega, hbj.tr le_rfl' bb5⟩
              show _ = _
              rw [HS2.out, HD.out]; omega
            case measure => simp [intOf]; omega
          · have hmb : j = blocks.length := by omega
            have hmd : decide ((j : Int) < (blocks.length : Int)) = false := by simp; omega
            go_wp2
            go_roundw
            case rel =>
              refine ⟨k + 1, d, by omega, rfl, by go_num, ?_, hod, hd, hbF.trans (hbj.mono (by omega))⟩
              show _ = _
              rw [HS.out, HX.out, HD.out, HA.out, hmb, List.take_length]; omega
            case measure => simp [intOf]; omega
    · have hkb : k = body.length := by omega
      have hkd : decide ((k : Int) < (body.length : Int)) = false := by simp; omega
      go_wp2
      go_ret
      refine ⟨?_, hbw⟩
      rw [HN.out, ← List.take_length (l := body), ← hkb, ← HA.out]
      rfl
theorem refNst_any (x : Bl) : RefNst x :=
  Bl.ind (P := fun s => ∀ x ∈ s.blocks, RefNst x) (Q := RefNst) (fun _ _ _ _ _ _ _ _ _ ih b hb => ih b hb) (fun ad cap body ih => refNst_step ad cap body ih) x
end Go.Proofs.YtnljhlmopjgogaaGreatDoor
