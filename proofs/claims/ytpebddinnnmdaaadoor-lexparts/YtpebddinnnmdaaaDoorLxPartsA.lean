/-
  For every two texts the statement LexParts hands back true (its walk): two texts with a note between tell the tokens of both.
-/
import Derived.Test.YtpebddinnnmdaaaDoorLxAgain
namespace Go.Proofs.YtpebddinnnmdaaaDoor
open Go.RowKit
namespace Lx
theorem parts_outs (s t J : ByteArray) (g : List UInt8) (hg : Gap g) (hJ : J.data.toList = s.data.toList ++ (g ++ t.data.toList)) (ls : List Out) (hs : scan s = .done ls) :
    (∀ e j, scan t = .fail e j → scan J = .fail e (j + (s.size + g.length))) ∧ (∀ lt, scan t = .done lt → ∃ lj, scan J = .done lj ∧ lj.map ofOut = (ls ++ lt).map ofOut) := by
  obtain ⟨R, h1, h2⟩ := scan_told s
  obtain ⟨R2, h3, h4⟩ := scan_told t
  rw [hs] at h2
  cases R with
  | fail e k => exact h2.elim
  | done ts =>
    obtain ⟨o, h5, h6⟩ := h2
    rw [List.nil_append] at h5
    subst h5
    have hgl := glue h1 g t.data.toList hg h3 ts rfl
    rw [← hJ] at hgl
    have hf := scan_of J _ hgl
    have hlen : s.data.toList.length = s.size := by rw [Array.length_toList]; rfl
    constructor
    · intro e j ht
      rw [ht] at h4
      cases R2 with
      | done us => exact h4.elim
      | fail e' k' =>
        obtain ⟨h7, h8⟩ := h4
        subst h7
        cases hJs : scan J with
        | done l => rw [hJs] at hf; exact hf.elim
        | fail e2 j2 =>
          rw [hJs] at hf
          obtain ⟨h9, h10⟩ := hf
          rw [h9, h10, h8, hlen]; simp only [Nat.zero_add]
    · intro lt ht
      rw [ht] at h4
      cases R2 with
      | fail e' k' => exact h4.elim
      | done us =>
        obtain ⟨o2, h7, h8⟩ := h4
        rw [List.nil_append] at h7
        subst h7
        cases hJs : scan J with
        | fail e2 j2 => rw [hJs] at hf; exact hf.elim
        | done l =>
          rw [hJs] at hf
          obtain ⟨o3, h9, h10⟩ := hf
          rw [List.nil_append] at h9
          exact ⟨l, rfl, by rw [h9, h10, List.map_append, h6, h8]⟩
end Lx
/-- A bool is handed back. -/
def BoolBack (e : Ending) : Prop := ∃ b : Bool, e = .returned (.bool b)
set_option maxHeartbeats 1000000 in
theorem hashed_any (s : ByteArray) (w : World) (hs : s.size ≤ 20000) :
    Calls Tryd.prog 21 #[.string s] w fun e w' => BoolBack e ∧ w' = w := by
  go_enter Tryd.func21, Tryd.ntmps21
  go_wp2
  go_loop [3] (fun i => ∃ k : Nat, k ≤ s.size ∧ i = .int .i64 ((k : Int) - 1)) (fun i => (intOf i + 1).toNat)
  case atStart => exact ⟨s.size, by omega, rfl⟩
  case round =>
    obtain ⟨k, hk, rfl⟩ := hrel
    cases k with
    | zero =>
      go_wp2
      all_goals go_ret
      all_goals exact ⟨⟨_, rfl⟩, rfl⟩
    | succ k =>
      have hkk : (((k + 1 : Nat) : Int) - 1) = (k : Int) := by omega
      rw [hkk]
      clear hkk
      have hlt : k < s.size := by omega
      cases h10 : ((s[k].toNat : Int) != 10)
      · go_wp2
        all_goals go_ret
        all_goals exact ⟨⟨_, rfl⟩, rfl⟩
      · cases h35 : ((s[k].toNat : Int) == 35)
        · go_wp2
          go_round
          case rel => exact ⟨k, by omega, by go_num⟩
          case measure => first | (simp [intOf]; done) | (simp [intOf]; omega)
        · go_wp2
          all_goals go_ret
          all_goals exact ⟨⟨_, rfl⟩, rfl⟩
end Go.Proofs.YtpebddinnnmdaaaDoor
