/-
  The functions of package lex that pass over bytes (nameEnd, numberEnd, noteEnd, passBlanks) hand back the places that plain Lean functions on the text's bytes say; nothing in memory turns.
-/
import Derived.Test.YtaekbgljbgmchaaGreatDoorLxA
namespace Go.Proofs.YtaekbgljbgmchaaGreatDoor
open Go.RowKit
namespace Lx
/-- A byte that a name may go on with. -/
def nameByte (c : UInt8) : Bool := letter c || digit c || c == 95
/-- The end of the run of bytes from k on that p likes. -/
def spanEnd (p : UInt8 → Bool) (s : ByteArray) (k : Nat) : Nat := k + ((s.data.toList.drop k).takeWhile p).length
theorem drop_cons (s : ByteArray) (k : Nat) (h : k < s.size) : s.data.toList.drop k = s[k] :: s.data.toList.drop (k + 1) := by
  rw [List.drop_eq_getElem_cons (by simpa using h)]; rfl
theorem drop_over (s : ByteArray) (k : Nat) (h : s.size ≤ k) : s.data.toList.drop k = [] := by
  apply List.drop_of_length_le; simpa using h
theorem spanEnd_step (p : UInt8 → Bool) (s : ByteArray) (k : Nat) (h : k < s.size) (hp : p s[k] = true) : spanEnd p s (k + 1) = spanEnd p s k := by
  unfold spanEnd; rw [drop_cons s k h]; simp [hp]; omega
theorem spanEnd_stop (p : UInt8 → Bool) (s : ByteArray) (k : Nat) (h : k < s.size) (hp : p s[k] = false) : spanEnd p s k = k := by
  unfold spanEnd; rw [drop_cons s k h]; simp [hp]
theorem spanEnd_over (p : UInt8 → Bool) (s : ByteArray) (k : Nat) (h : s.size ≤ k) : spanEnd p s k = k := by
  unfold spanEnd; rw [drop_over s k h]; simp
theorem le_spanEnd (p : UInt8 → Bool) (s : ByteArray) (k : Nat) : k ≤ spanEnd p s k := by unfold spanEnd; omega
theorem spanEnd_le (p : UInt8 → Bool) (s : ByteArray) (k : Nat) (h : k ≤ s.size) : spanEnd p s k ≤ s.size := by
  unfold spanEnd
  have h1 := (List.takeWhile_sublist p (l := s.data.toList.drop k)).length_le
  have h2 : s.data.toList.length = s.size := by simp
  simp only [List.length_drop, h2] at h1; omega
/-- No line feed. -/
def noLf (c : UInt8) : Bool := c != 10
/-- A blank. -/
def blank (c : UInt8) : Bool := c == 32 || c == 9 || c == 13 || c == 10
/-- How many bytes are blanks and notes; 'note': within a note. -/
def skipC : Bool → List UInt8 → Nat
  | _, [] => 0
  | true, c :: r => if c = 10 then skipC false r + 1 else skipC true r + 1
  | false, c :: r => if c = 35 then skipC true r + 1 else if blank c then skipC false r + 1 else 0
/-- The first place from k on where a token begins, or the end. -/
def skip (s : ByteArray) (k : Nat) : Nat := k + skipC false (s.data.toList.drop k)
theorem skipC_le (b : Bool) (l : List UInt8) : skipC b l ≤ l.length := by
  induction l generalizing b with
  | nil => simp [skipC]
  | cons c r ih =>
    have h1 := ih true; have h2 := ih false
    cases b <;> simp only [skipC, List.length_cons] <;> (repeat' split) <;> omega
theorem le_skip (s : ByteArray) (k : Nat) : k ≤ skip s k := by unfold skip; omega
theorem skip_le (s : ByteArray) (k : Nat) (h : k ≤ s.size) : skip s k ≤ s.size := by
  unfold skip
  have h1 := skipC_le false (s.data.toList.drop k)
  have h2 : s.data.toList.length = s.size := by simp
  simp only [List.length_drop, h2] at h1; omega
theorem skip_blank (s : ByteArray) (k : Nat) (h : k < s.size) (hb : blank s[k] = true) : skip s (k + 1) = skip s k := by
  unfold skip; rw [drop_cons s k h]
  have : s[k] ≠ 35 := by intro e; rw [e] at hb; simp [blank] at hb
  simp [skipC, hb, this]; omega
theorem skip_stop (s : ByteArray) (k : Nat) (h : k < s.size) (hb : blank s[k] = false) (h35 : s[k] ≠ 35) : skip s k = k := by
  unfold skip; rw [drop_cons s k h]; simp [skipC, hb, h35]
theorem skip_over (s : ByteArray) (k : Nat) (h : s.size ≤ k) : skip s k = k := by
  unfold skip; rw [drop_over s k h]; simp [skipC]
theorem skipC_true (l : List UInt8) : skipC true l = (l.takeWhile noLf).length + skipC false (l.drop (l.takeWhile noLf).length) := by
  induction l with
  | nil => simp [skipC]
  | cons c r ih =>
    by_cases h : c = 10
    · subst h; simp [skipC, noLf, blank]
    · have e : noLf c = true := by simp [noLf, h]
      simp only [skipC, h, if_false, List.takeWhile_cons, e, if_true, List.length_cons, List.drop_succ_cons]
      rw [ih]; omega
theorem skip_note (s : ByteArray) (k : Nat) (h : k < s.size) (h35 : s[k] = 35) : skip s (spanEnd noLf s k) = skip s k := by
  unfold skip spanEnd
  have e : noLf s[k] = true := by rw [h35]; decide
  rw [← List.drop_drop, drop_cons s k h]
  simp only [List.takeWhile_cons, e, if_true, List.length_cons, List.drop_succ_cons]
  rw [show skipC false (s[k] :: s.data.toList.drop (k + 1)) = skipC true (s.data.toList.drop (k + 1)) + 1 by simp [skipC, h35], skipC_true]
  omega
end Lx

theorem hid {p : Prop} (h : p) : Hid p := h
theorem u8_eq (c d : UInt8) (h : (c.toNat : Int) = (d.toNat : Int)) : c = d := UInt8.toNat_inj.1 (by omega)
theorem ret_i64 {a b : Int} (h : a = b) : Ending.returned (.int .i64 a) = .returned (.int .i64 b) := by rw [h]
set_option maxHeartbeats 400000 in
theorem numberEnd_any (s : ByteArray) (a : Nat) (w : World) (hs : s.size ≤ 20000) (ha : a ≤ s.size) :
    Calls Tryz.prog 145 #[.string s, .int .i64 (a : Int)] w fun e w' => e = .returned (.int .i64 (Lx.spanEnd Lx.digit s a : Nat)) ∧ w' = w := by
  go_enter Tryz.func145, Tryz.ntmps145
  go_wp2
  go_loop [1] (fun i => ∃ k : Nat, a ≤ k ∧ k ≤ s.size ∧ i = .int .i64 k ∧ Lx.spanEnd Lx.digit s k = Lx.spanEnd Lx.digit s a) (fun i => s.size - (intOf i).toNat)
  case atStart => exact ⟨a, Nat.le_refl _, ha, rfl, rfl⟩
  case round =>
    obtain ⟨k, hak, hk, rfl, hq⟩ := hrel
    have HQ : Hid (Lx.spanEnd Lx.digit s k = Lx.spanEnd Lx.digit s a) := hq
    clear hq
    by_cases hlt : k < s.size
    · cases hd : Lx.digit s[k]
      · go_wp2_with (go_at_call 103; refine (isDigit_any _ _).mono ?_; rintro e w' ⟨rfl, rfl⟩)
        go_ret
        exact ⟨ret_i64 (by rw [← HQ.out, Lx.spanEnd_stop _ _ _ hlt hd]), rfl⟩
      · go_wp2_with (go_at_call 103; refine (isDigit_any _ _).mono ?_; rintro e w' ⟨rfl, rfl⟩)
        go_round
        case rel => exact ⟨k + 1, by omega, by omega, by go_num, by rw [Lx.spanEnd_step _ _ _ hlt hd]; exact HQ.out⟩
        case measure => simp [intOf]; omega
    · go_wp2
      go_ret
      exact ⟨ret_i64 (by rw [← HQ.out, Lx.spanEnd_over _ _ _ (by omega)]), rfl⟩
set_option maxHeartbeats 400000 in
theorem noteEnd_any (s : ByteArray) (a : Nat) (w : World) (hs : s.size ≤ 20000) (ha : a ≤ s.size) :
    Calls Tryz.prog 100 #[.string s, .int .i64 (a : Int)] w fun e w' => e = .returned (.int .i64 (Lx.spanEnd Lx.noLf s a : Nat)) ∧ w' = w := by
  go_enter Tryz.func100, Tryz.ntmps100
  go_wp2
  go_loop [1] (fun i => ∃ k : Nat, a ≤ k ∧ k ≤ s.size ∧ i = .int .i64 k ∧ Lx.spanEnd Lx.noLf s k = Lx.spanEnd Lx.noLf s a) (fun i => s.size - (intOf i).toNat)
  case atStart => exact ⟨a, Nat.le_refl _, ha, rfl, rfl⟩
  case round =>
    obtain ⟨k, hak, hk, rfl, hq⟩ := hrel
    have HQ : Hid (Lx.spanEnd Lx.noLf s k = Lx.spanEnd Lx.noLf s a) := hq
    clear hq
    by_cases hlt : k < s.size
    · cases hd : Lx.noLf s[k]
      · have h10 : s[k] = 10 := by simpa [Lx.noLf] using hd
        have hb : ((s[k].toNat : Int) != 10) = false := by rw [h10]; decide
        have HD := hid hd
        clear hd
        have H10 := hid h10
        clear h10
        go_wp2
        go_ret
        exact ⟨ret_i64 (by rw [← HQ.out, Lx.spanEnd_stop _ _ _ hlt HD.out]), rfl⟩
      · have h10 : s[k] ≠ 10 := by simpa [Lx.noLf] using hd
        have hb : ((s[k].toNat : Int) != 10) = true := by
          rw [bne_iff_ne]; intro h; apply h10; exact u8_eq _ 10 h
        have HD := hid hd
        clear hd h10
        go_wp2
        go_round
        case rel => exact ⟨k + 1, by omega, by omega, by go_num, by rw [Lx.spanEnd_step _ _ _ hlt HD.out]; exact HQ.out⟩
        case measure => simp [intOf]; omega
    · go_wp2
      go_ret
      exact ⟨ret_i64 (by rw [← HQ.out, Lx.spanEnd_over _ _ _ (by omega)]), rfl⟩
set_option maxHeartbeats 400000 in
theorem nameEnd_any (s : ByteArray) (a : Nat) (w : World) (hs : s.size ≤ 140737488351232) (ha : a ≤ s.size) :
    Calls Tryz.prog 143 #[.string s, .int .i64 (a : Int)] w fun e w' => e = .returned (.int .i64 (Lx.spanEnd Lx.nameByte s a : Nat)) ∧ w' = w := by
  go_enter Tryz.func143, Tryz.ntmps143
  go_wp2
  go_loop [1] (fun i => ∃ k : Nat, a ≤ k ∧ k ≤ s.size ∧ i = .int .i64 k ∧ Lx.spanEnd Lx.nameByte s k = Lx.spanEnd Lx.nameByte s a) (fun i => s.size - (intOf i).toNat)
  case atStart => exact ⟨a, Nat.le_refl _, ha, rfl, rfl⟩
  case round =>
    obtain ⟨k, hak, hk, rfl, hq⟩ := hrel
    have HQ : Hid (Lx.spanEnd Lx.nameByte s k = Lx.spanEnd Lx.nameByte s a) := hq
    clear hq
    by_cases hlt : k < s.size
    · have hgo : Lx.nameByte s[k] = true → Lx.spanEnd Lx.nameByte s (k + 1) = Lx.spanEnd Lx.nameByte s a := fun h => (Lx.spanEnd_step _ _ _ hlt h).trans HQ.out
      have HG := hid hgo
      clear hgo
      cases hl : Lx.letter s[k]
      · cases hd : Lx.digit s[k]
        · cases hu : ((s[k].toNat : Int) == 95)
          · have HN : Hid (Lx.nameByte s[k] = false) := by
              have : s[k] ≠ 95 := by intro h; rw [h] at hu; simp at hu
              show Lx.nameByte s[k] = false
              simp [Lx.nameByte, hl, hd, this]
            go_wp2_with (first | (go_at_call 101; refine (isLetter_any _ _).mono ?_; rintro e w' ⟨rfl, rfl⟩) | (go_at_call 103; refine (isDigit_any _ _).mono ?_; rintro e w' ⟨rfl, rfl⟩))
            go_ret
            exact ⟨ret_i64 (by rw [← HQ.out, Lx.spanEnd_stop _ _ _ hlt HN.out]), rfl⟩
          · have HN : Hid (Lx.nameByte s[k] = true) := by
              have : s[k] = 95 := u8_eq _ 95 (eq_of_beq hu)
              show Lx.nameByte s[k] = true
              simp [Lx.nameByte, this]
            go_wp2_with (first | (go_at_call 101; refine (isLetter_any _ _).mono ?_; rintro e w' ⟨rfl, rfl⟩) | (go_at_call 103; refine (isDigit_any _ _).mono ?_; rintro e w' ⟨rfl, rfl⟩))
            go_round
            case rel => exact ⟨k + 1, by omega, by omega, by go_num, HG.out HN.out⟩
            case measure => simp [intOf]; omega
        · have HN : Hid (Lx.nameByte s[k] = true) := by
            show Lx.nameByte s[k] = true
            simp [Lx.nameByte, hd]
          go_wp2_with (first | (go_at_call 101; refine (isLetter_any _ _).mono ?_; rintro e w' ⟨rfl, rfl⟩) | (go_at_call 103; refine (isDigit_any _ _).mono ?_; rintro e w' ⟨rfl, rfl⟩))
          go_round
          case rel => exact ⟨k + 1, by omega, by omega, by go_num, HG.out HN.out⟩
          case measure => simp [intOf]; omega
      · have HN : Hid (Lx.nameByte s[k] = true) := by
          show Lx.nameByte s[k] = true
          simp [Lx.nameByte, hl]
        go_wp2_with (first | (go_at_call 101; refine (isLetter_any _ _).mono ?_; rintro e w' ⟨rfl, rfl⟩) | (go_at_call 103; refine (isDigit_any _ _).mono ?_; rintro e w' ⟨rfl, rfl⟩))
        go_round
        case rel => exact ⟨k + 1, by omega, by omega, by go_num, HG.out HN.out⟩
        case measure => simp [intOf]; omega
    · go_wp2
      go_ret
      exact ⟨ret_i64 (by rw [← HQ.out, Lx.spanEnd_over _ _ _ (by omega)]), rfl⟩
set_option maxHeartbeats 1000000 in
theorem passBlanks_any (s : ByteArray) (a : Nat) (w : World) (hs : s.size ≤ 20000) (ha : a ≤ s.size) :
    Calls Tryz.prog 57 #[.string s, .int .i64 (a : Int)] w fun e w' => e = .returned (.int .i64 (Lx.skip s a : Nat)) ∧ w' = w := by
  go_enter Tryz.func57, Tryz.ntmps57
  go_wp2
  go_loop [1] (fun i => ∃ k : Nat, a ≤ k ∧ k ≤ s.size ∧ i = .int .i64 k ∧ Lx.skip s k = Lx.skip s a) (fun i => s.size - (intOf i).toNat)
  case atStart => exact ⟨a, Nat.le_refl _, ha, rfl, rfl⟩
  case round =>
    obtain ⟨k, hak, hk, rfl, hq⟩ := hrel
    have HQ : Hid (Lx.skip s k = Lx.skip s a) := hq
    clear hq
    by_cases hlt : k < s.size
    · cases h35 : ((s[k].toNat : Int) == 35)
      · skip
        cases h32 : ((s[k].toNat : Int) == 32)
        · skip
          cases h9 : ((s[k].toNat : Int) == 9)
          · skip
            cases h13 : ((s[k].toNat : Int) == 13)
            · skip
              cases h10 : ((s[k].toNat : Int) == 10)
              · skip
                have HN : Hid (Lx.skip s k = k) := by
                  refine Lx.skip_stop _ _ hlt ?_ ?_
                  · have h1 : s[k] ≠ 32 := by intro h; rw [h] at h32; simp at h32
                    have h2 : s[k] ≠ 9 := by intro h; rw [h] at h9; simp at h9
                    have h3 : s[k] ≠ 13 := by intro h; rw [h] at h13; simp at h13
                    have h4 : s[k] ≠ 10 := by intro h; rw [h] at h10; simp at h10
                    simp [Lx.blank, h1, h2, h3, h4]
                  · intro h; rw [h] at h35; simp at h35
                go_wp2
                go_ret
                exact ⟨ret_i64 (by rw [← HQ.out, HN.out]), rfl⟩
              · have HN : Hid (Lx.blank s[k] = true) := by
                  have : s[k] = 10 := u8_eq _ 10 (eq_of_beq h10)
                  show Lx.blank s[k] = true
                  simp [Lx.blank, this]
                go_wp2
                go_round
                case rel => exact ⟨k + 1, by omega, by omega, by go_num, (Lx.skip_blank _ _ hlt HN.out).trans HQ.out⟩
                case measure => simp [intOf]; omega
            · have HN : Hid (Lx.blank s[k] = true) := by
                have : s[k] = 13 := u8_eq _ 13 (eq_of_beq h13)
                show Lx.blank s[k] = true
                simp [Lx.blank, this]
              go_wp2
              go_round
              case rel => exact ⟨k + 1, by omega, by omega, by go_num, (Lx.skip_blank _ _ hlt HN.out).trans HQ.out⟩
              case measure => simp [intOf]; omega
          · have HN : Hid (Lx.blank s[k] = true) := by
              have : s[k] = 9 := u8_eq _ 9 (eq_of_beq h9)
              show Lx.blank s[k] = true
              simp [Lx.blank, this]
            go_wp2
            go_round
            case rel => exact ⟨k + 1, by omega, by omega, by go_num, (Lx.skip_blank _ _ hlt HN.out).trans HQ.out⟩
            case measure => simp [intOf]; omega
        · have HN : Hid (Lx.blank s[k] = true) := by
            have : s[k] = 32 := u8_eq _ 32 (eq_of_beq h32)
            show Lx.blank s[k] = true
            simp [Lx.blank, this]
          go_wp2
          go_round
          case rel => exact ⟨k + 1, by omega, by omega, by go_num, (Lx.skip_blank _ _ hlt HN.out).trans HQ.out⟩
          case measure => simp [intOf]; omega
      · have HN : Hid (s[k] = 35) := u8_eq _ 35 (eq_of_beq h35)
        have hse : k < Lx.spanEnd Lx.noLf s k := by
          have h1 := Lx.spanEnd_step Lx.noLf s k hlt (by rw [HN.out]; decide)
          have h2 := Lx.le_spanEnd Lx.noLf s (k + 1)
          omega
        have hle := Lx.spanEnd_le Lx.noLf s k (by omega)
        go_wp2_with (go_at_call 100; refine (noteEnd_any _ _ _ hs (by omega)).mono ?_; rintro e w' ⟨rfl, rfl⟩)
        go_round
        case rel => exact ⟨Lx.spanEnd Lx.noLf s k, by omega, by omega, rfl, (Lx.skip_note _ _ hlt HN.out).trans HQ.out⟩
        case measure => simp [intOf]; omega
    · go_wp2
      go_ret
      exact ⟨ret_i64 (by rw [← HQ.out, Lx.skip_over _ _ (by omega)]), rfl⟩
end Go.Proofs.YtaekbgljbgmchaaGreatDoor
