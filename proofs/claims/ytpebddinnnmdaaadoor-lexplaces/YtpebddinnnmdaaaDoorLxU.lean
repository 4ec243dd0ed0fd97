/-
  The document's own number tells the value of digits, or that there is none.
-/
import Derived.Test.YtpebddinnnmdaaaDoorLxH
namespace Go.Proofs.YtpebddinnnmdaaaDoor
open Go.RowKit
namespace Lx
/-- Whether digits are a number. -/
def numOk (x : ByteArray) : Bool := !(decide (1 < x.size) && decide (x.data.toList.head? = some 48)) && decide (decVal x.data.toList ≤ 9223372036854775807)
theorem decF_eq (acc : Nat) (l : List UInt8) : decF acc l = acc * 10 ^ l.length + decF 0 l := by
  induction l generalizing acc with
  | nil => simp [decF]
  | cons c r ih =>
    have e : ∀ a, decF a (c :: r) = decF (a * 10 + (c.toNat - 48)) r := fun _ => rfl
    rw [e, e, ih, ih (0 * 10 + (c.toNat - 48)), List.length_cons, Nat.pow_succ]
    rw [Nat.add_mul, Nat.zero_mul, Nat.zero_add, Nat.add_assoc, Nat.mul_assoc, Nat.mul_comm 10]
theorem decF_lt (l : List UInt8) (hd : l.all digit = true) : decF 0 l < 10 ^ l.length := by
  induction l with
  | nil => simp [decF]
  | cons c r ih =>
    simp only [List.all_cons, Bool.and_eq_true] at hd
    have hc := (digit_iff c).1 hd.1
    have h1 := ih hd.2
    have e : decF 0 (c :: r) = decF (0 * 10 + (c.toNat - 48)) r := rfl
    rw [e, decF_eq, List.length_cons, Nat.pow_succ]
    have h9 : 0 * 10 + (c.toNat - 48) ≤ 9 := by omega
    have := Nat.mul_le_mul_right (10 ^ r.length) h9
    omega
theorem decVal_big (l : List UInt8) (hd : l.all digit = true) (h19 : 19 < l.length) (h48 : l.head? ≠ some 48) : 9223372036854775807 < decVal l := by
  cases l with
  | nil => simp at h19
  | cons c r =>
    simp only [List.all_cons, Bool.and_eq_true] at hd
    have hc := (digit_iff c).1 hd.1
    have hc48 : c.toNat ≠ 48 := fun h => h48 (by simp; exact UInt8.toNat_inj.1 h)
    have e : decVal (c :: r) = decF (0 * 10 + (c.toNat - 48)) r := rfl
    rw [e, decF_eq]
    have h1 : 10 ^ 19 ≤ 10 ^ r.length := Nat.pow_le_pow_right (by decide) (by simp at h19; omega)
    have h2 : 1 ≤ 0 * 10 + (c.toNat - 48) := by omega
    have h3 := Nat.mul_le_mul_right (10 ^ r.length) h2
    have h4 : (10 : Nat) ^ 19 = 10000000000000000000 := by decide
    omega
theorem decF_snoc (x : ByteArray) (k : Nat) (h : k < x.size) : decF 0 (x.data.toList.take (k + 1)) = decF 0 (x.data.toList.take k) * 10 + (x[k].toNat - 48) := by
  rw [List.take_succ_eq_append_getElem (by simpa using h)]
  unfold decF
  rw [List.foldl_append]; rfl
theorem all_take (l : List UInt8) (hd : l.all digit = true) (k : Nat) : (l.take k).all digit = true := by
  rw [List.all_eq_true] at hd ⊢
  intro x hx; exact hd x (List.mem_of_mem_take hx)
theorem decF_small (x : ByteArray) (hd : x.data.toList.all digit = true) (k m : Nat) (hk : k ≤ m) : decF 0 (x.data.toList.take k) < 10 ^ m := by
  have h1 := decF_lt _ (all_take _ hd k)
  refine Nat.lt_of_lt_of_le h1 (Nat.pow_le_pow_right (by decide) ?_)
  rw [List.length_take]; omega
end Lx
theorem digit_at (x : ByteArray) (hd : x.data.toList.all Lx.digit = true) (k : Nat) (h : k < x.size) : (48 : Int) ≤ x[k].toNat ∧ (x[k].toNat : Int) ≤ 57 := by
  have h1 : Lx.digit x[k] = true := by
    rw [List.all_eq_true] at hd
    exact hd _ (by rw [show x[k] = x.data.toList[k]'(by simpa using h) from rfl]; exact List.getElem_mem _)
  have := (Lx.digit_iff _).1 h1
  omega
set_option maxHeartbeats 1000000 in
theorem number_any (x : ByteArray) (w : World) (hx : x.size ≤ 20000) (h0 : 0 < x.size) (hd : x.data.toList.all Lx.digit = true) :
    Calls Tryd.prog 38 #[.string x] w fun e w' => ∃ v : Int, e = .returned (.tuple #[.int .i64 v, .bool (Lx.numOk x)]) ∧ (Lx.numOk x = true → v = (Lx.decVal x.data.toList : Nat)) ∧ w' = w := by
  have hhead : x.data.toList.head? = some x[0] := by rw [Lx.list_cons x h0]; rfl
  by_cases h48 : 1 < x.size ∧ x[0] = 48
  · have hb : ((x[0].toNat : Int) == 48) = true := by rw [h48.2]; decide
    have h1 := h48.1
    have HN : Hid (Lx.numOk x = false) := by show _ = _; simp [Lx.numOk, hhead, h48.1, h48.2]
    clear h48 hhead
    go_enter Tryd.func38, Tryd.ntmps38
    go_wp2
    go_ret2
    exact ⟨0, by rw [HN.out]; rfl, (fun h => by rw [HN.out] at h; cases h), rfl⟩
  · by_cases h19 : 19 < x.size
    · have hb : ((x[0].toNat : Int) == 48) = false := by
        rw [beq_eq_false_iff_ne]; intro h; exact h48 ⟨by omega, u8_eq _ 48 h⟩
      have HN : Hid (Lx.numOk x = false) := by
        show _ = _
        have := Lx.decVal_big _ hd (by simpa using h19) (by rw [hhead]; intro h; exact h48 ⟨by omega, Option.some.inj h⟩)
        simp [Lx.numOk]; omega
      clear h48 hhead
      go_enter Tryd.func38, Tryd.ntmps38
      go_wp2
      go_ret2
      exact ⟨0, by rw [HN.out]; rfl, (fun h => by rw [HN.out] at h; cases h), rfl⟩
    · have HN : Hid (Lx.numOk x = decide (Lx.decVal x.data.toList ≤ 9223372036854775807)) := by
        show _ = _
        have : ¬ (1 < x.size ∧ x.data.toList.head? = some 48) := by rw [hhead]; rintro ⟨h1, h2⟩; exact h48 ⟨h1, Option.some.inj h2⟩
        unfold Lx.numOk
        rw [show (decide (1 < x.size) && decide (x.data.toList.head? = some 48)) = false by rw [← Bool.decide_and]; exact decide_eq_false this]
        rfl
      have hb : 1 < x.size → ((x[0].toNat : Int) == 48) = false := by
        intro h1; rw [beq_eq_false_iff_ne]; intro h; exact h48 ⟨h1, u8_eq _ 48 h⟩
      have HD := hid hd
      clear h48 hhead hd
      by_cases h1 : 1 < x.size
      · have hb2 := hb h1
        clear hb
        go_enter Tryd.func38, Tryd.ntmps38
        go_wp2
        go_loop [4, 5] (fun v i => ∃ k : Nat, k ≤ x.size ∧ i = .int .i64 k ∧ v = .int .u64 (Lx.decF 0 (x.data.toList.take k) : Nat)) (fun _ i => x.size - (intOf i).toNat)
        case atStart => exact ⟨0, by omega, rfl, rfl⟩
        case round =>
          obtain ⟨k, hk, rfl, rfl⟩ := hrel
          by_cases hlt : k < x.size
          · obtain ⟨d1, d2⟩ := digit_at x HD.out k hlt
            have hs1 := Lx.decF_small x HD.out k 18 (by omega)
            have e18 : (10 : Nat) ^ 18 = 1000000000000000000 := by decide
            rw [e18] at hs1
            have HS := hid (Lx.decF_snoc x k hlt)
            clear e18
            generalize Lx.decF 0 (x.data.toList.take k) = m at *
            go_wp2
            go_round
            case rel => exact ⟨k + 1, by omega, by go_num, by rw [HS.out]; go_num⟩
            case measure => simp [intOf]; omega
          · have hk2 : x.size ≤ k := by omega
            have hs1 := Lx.decF_small x HD.out k 19 (by omega)
            have e19 : (10 : Nat) ^ 19 = 10000000000000000000 := by decide
            rw [e19] at hs1
            have HV : Hid (Lx.decF 0 (x.data.toList.take k) = Lx.decVal x.data.toList) := by show _ = _; rw [all_whole x k hk2]; rfl
            clear e19
            generalize Lx.decF 0 (x.data.toList.take k) = m at *
            by_cases hm : m ≤ 9223372036854775807
            · go_wp2
              go_ret2
              exact ⟨(m : Int), by rw [HN.out, ← HV.out]; simp [hm]; omega, (fun _ => by rw [HV.out]), rfl⟩
            · go_wp2
              go_ret2
              exact ⟨wrap64 (m : Int), by rw [HN.out, ← HV.out]; simp [hm]; omega, (fun h => by rw [HN.out, ← HV.out] at h; simp [hm] at h), rfl⟩
      · clear hb
        go_enter Tryd.func38, Tryd.ntmps38
        go_wp2
        go_loop [4, 5] (fun v i => ∃ k : Nat, k ≤ x.size ∧ i = .int .i64 k ∧ v = .int .u64 (Lx.decF 0 (x.data.toList.take k) : Nat)) (fun _ i => x.size - (intOf i).toNat)
        case atStart => exact ⟨0, by omega, rfl, rfl⟩
        case round =>
          obtain ⟨k, hk, rfl, rfl⟩ := hrel
          by_cases hlt : k < x.size
          · obtain ⟨d1, d2⟩ := digit_at x HD.out k hlt
            have hs1 := Lx.decF_small x HD.out k 18 (by omega)
            have e18 : (10 : Nat) ^ 18 = 1000000000000000000 := by decide
            rw [e18] at hs1
            have HS := hid (Lx.decF_snoc x k hlt)
            clear e18
            generalize Lx.decF 0 (x.data.toList.take k) = m at *
            go_wp2
            go_round
            case rel => exact ⟨k + 1, by omega, by go_num, by rw [HS.out]; go_num⟩
            case measure => simp [intOf]; omega
          · have hk2 : x.size ≤ k := by omega
            have hs1 := Lx.decF_small x HD.out k 19 (by omega)
            have e19 : (10 : Nat) ^ 19 = 10000000000000000000 := by decide
            rw [e19] at hs1
            have HV : Hid (Lx.decF 0 (x.data.toList.take k) = Lx.decVal x.data.toList) := by show _ = _; rw [all_whole x k hk2]; rfl
            clear e19
            generalize Lx.decF 0 (x.data.toList.take k) = m at *
            by_cases hm : m ≤ 9223372036854775807
            · go_wp2
              go_ret2
              exact ⟨(m : Int), by rw [HN.out, ← HV.out]; simp [hm]; omega, (fun _ => by rw [HV.out]), rfl⟩
            · go_wp2
              go_ret2
              exact ⟨wrap64 (m : Int), by rw [HN.out, ← HV.out]; simp [hm]; omega, (fun h => by rw [HN.out, ← HV.out] at h; simp [hm] at h), rfl⟩
end Go.Proofs.YtpebddinnnmdaaaDoor
