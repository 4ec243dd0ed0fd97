/-
  The document's own Join lays the tokens' texts one behind the other, a blank between two.
-/
import Derived.Test.YtpebddinnnmdaaaDoorLxJ
namespace Go.Proofs.YtpebddinnnmdaaaDoor
open Go.RowKit
theorem join_str0 (l : List ByteArray) (h : 0 < l.length) : (⟨(Lx.joinB (l.take 0)).toArray⟩ : ByteArray) ++ l[0] = ⟨(Lx.joinB (l.take 1)).toArray⟩ := by
  rw [Lx.joinB_first l h]
  apply ByteArray.ext
  simp [Lx.joinB]
theorem join_str1 (l : List ByteArray) (k : Nat) (h : k < l.length) (hk : 0 < k) : ((⟨(Lx.joinB (l.take k)).toArray⟩ : ByteArray) ++ ⟨#[32]⟩) ++ l[k] = ⟨(Lx.joinB (l.take (k + 1))).toArray⟩ := by
  rw [Lx.joinB_next l k h hk]
  apply ByteArray.ext
  simp
set_option maxRecDepth 100000 in
set_option maxHeartbeats 1000000 in
theorem refJoin_any (l : List ByteArray) (b off c : Nat) (w : World) (hn : l.length ≤ 1000000) (ht : TextsAt w b off l) (hlen : (Lx.joinB l).length ≤ 1000000000) :
    Calls Tryd.prog 19 #[.slice (some ⟨b, off, none⟩) l.length c] w fun e w' => e = .returned (.string ⟨(Lx.joinB l).toArray⟩) ∧ w' = w := by
  go_enter Tryd.func19, Tryd.ntmps19
  go_wp2
  go_loop [3, 4] (fun v i => ∃ k : Nat, k ≤ l.length ∧ i = .int .i64 k ∧ v = .string ⟨(Lx.joinB (l.take k)).toArray⟩)
    (fun _ i => l.length - (intOf i).toNat)
  case atStart => exact ⟨0, by omega, rfl, rfl⟩
  case round =>
    obtain ⟨k, hk, rfl, rfl⟩ := hrel
    by_cases hlt : k < l.length
    · obtain ⟨tk, tn, tp, c0, c1, c2, c3⟩ := ht k hlt
      obtain ⟨hl1, hl2⟩ := text_le l k hlt
      by_cases hk0 : 0 < k
      · have HJ := hid (join_str1 l k hlt hk0)
        have hsz : (⟨(Lx.joinB (l.take k)).toArray⟩ : ByteArray).size = (Lx.joinB (l.take k)).length := by simp [ByteArray.size]
        go_wp2
        go_round
        case rel => exact ⟨k + 1, by omega, by go_num, by rw [HJ.out]⟩
        case measure => simp [intOf]; omega
      · obtain rfl : k = 0 := by omega
        have HJ := hid (join_str0 l hlt)
        simp only [Nat.zero_mul, Nat.add_zero] at c0 c1 c2 c3
        have hsz : (⟨(Lx.joinB (l.take 0)).toArray⟩ : ByteArray).size = 0 := by simp [ByteArray.size, Lx.joinB]
        have hj0 : (Lx.joinB []).length = 0 := rfl
        go_wp2
        go_round
        case rel => exact ⟨1, by omega, by go_num, congrArg Value.string HJ.out⟩
        case measure => simp [intOf]; omega
    · have hk1 : k = l.length := by omega
      have HJ : Hid (l.take k = l) := by show _ = _; rw [hk1]; simp
      have hk2 : l.length ≤ k := by omega
      clear hk1
      go_wp2
      go_ret
      exact ⟨(show Ending.returned (Value.string ⟨(Lx.joinB (l.take k)).toArray⟩) = _ by rw [HJ.out]), rfl⟩
end Go.Proofs.YtpebddinnnmdaaaDoor
