/-
  stmt of package parse tells who reads the statement that begins at the next token.
-/
import Derived.Test.YtaekbgljbgmchaaGreatDoorPzR
namespace Go.Proofs.YtaekbgljbgmchaaGreatDoor
open Go.RowKit
open Lx (Out)
open Pz
/-- The function that reads a statement of a kind. -/
def fnOf (k : Nat) : Nat := if k = 2 then 198 else if k = 1 then 199 else k + 197
/-- Who reads a statement of a kind; nobody: 0. -/
def rdV (b k : Nat) : Value := if k = 0 then .nilFunc else .func (.func (fnOf k)) #[.pointer (some ⟨b, 0, none⟩)] #[]
theorem list_skip : k_skip.toList = [115, 107, 105, 112] := by rw [ByteArray.toList_eq]; rfl
theorem list_if : k_if.toList = [105, 102] := by rw [ByteArray.toList_eq]; rfl
theorem list_while : k_while.toList = [119, 104, 105, 108, 101] := by rw [ByteArray.toList_eq]; rfl
theorem list_loop : k_loop.toList = [108, 111, 111, 112] := by rw [ByteArray.toList_eq]; rfl
theorem list_choose : k_choose.toList = [99, 104, 111, 111, 115, 101] := by rw [ByteArray.toList_eq]; rfl
theorem list_sync : k_sync.toList = [115, 121, 110, 99] := by rw [ByteArray.toList_eq]; rfl
theorem list_call : k_call.toList = [99, 97, 108, 108] := by rw [ByteArray.toList_eq]; rfl
theorem list_wait : k_wait.toList = [119, 97, 105, 116] := by rw [ByteArray.toList_eq]; rfl
theorem list_notify : k_notify.toList = [110, 111, 116, 105, 102, 121] := by rw [ByteArray.toList_eq]; rfl
theorem list_notifyall : k_notifyall.toList = [110, 111, 116, 105, 102, 121, 97, 108, 108] := by rw [ByteArray.toList_eq]; rfl
set_option maxRecDepth 100000 in
set_option maxHeartbeats 2000000 in
theorem stmt_any (b g cap : Nat) (toks : List Out) (s : S) (w : World) (A : At b g cap toks s w) :
    Calls Tryz.prog 181 #[.pointer (some ⟨b, 0, none⟩)] w fun r w' => r = .returned (rdV b (kindOf s.hd)) ∧ Below w.heap.size w w' := by
  have h1 := token_any b g cap toks s w A
  obtain ⟨t, ht⟩ : ∃ t, s.hd = t := ⟨_, rfl⟩
  rw [ht] at h1 ⊢
  clear ht A
  obtain ⟨tk, tt, tn, tp, te⟩ := t
  obtain ⟨kd, hkd⟩ : ∃ kd, kindOf ⟨tk, tt, tn, tp, te⟩ = kd := ⟨_, rfl⟩
  rw [hkd]
  unfold kindOf is at hkd
  simp only [list_skip, list_if, list_while, list_loop, list_choose, list_sync, list_call, list_wait, list_notify, list_notifyall] at hkd h1
  cases q1 : (tk == 1)
  case true =>
    obtain rfl : tk = 1 := by simpa using q1
    have HK : Hid (kd = 2) := by show _ = _; rw [← hkd]; rfl
    clear hkd
    go_enter Tryz.func181, Tryz.ntmps181
    go_wp2_with (go_at_call 62; refine h1.mono ?_; rintro r w1 ⟨rfl, b1⟩; obtain ⟨t0, t1, t2, t3, tf, tl⟩ := four (newB w1 #[.int .i64 1, .string tt, .int .i64 tn, .int .i64 (tp : Int)] 57))
    go_ret
    refine ⟨?_, (b1.al (Nat.le_refl _) _)⟩
    rw [HK.out]; rfl
  have n1 : ¬ tk = 1 := by simpa using q1
  rw [if_neg n1] at hkd
  cases q_skip : (tt.toList == [115, 107, 105, 112])
  case true =>
    have HK : Hid (kd = 1) := by show _ = _; rw [← hkd, q_skip]; rfl
    clear hkd
    go_enter Tryz.func181, Tryz.ntmps181
    go_wp2_with (go_at_call 62; refine h1.mono ?_; rintro r w1 ⟨rfl, b1⟩; obtain ⟨t0, t1, t2, t3, tf, tl⟩ := four (newB w1 #[.int .i64 tk, .string tt, .int .i64 tn, .int .i64 (tp : Int)] 57))
    go_ret
    refine ⟨?_, (b1.al (Nat.le_refl _) _)⟩
    rw [HK.out]; rfl
  rw [q_skip, if_neg (by decide)] at hkd
  cases q_if : (tt.toList == [105, 102])
  case true =>
    have HK : Hid (kd = 3) := by show _ = _; rw [← hkd, q_if]; rfl
    clear hkd
    go_enter Tryz.func181, Tryz.ntmps181
    go_wp2_with (go_at_call 62; refine h1.mono ?_; rintro r w1 ⟨rfl, b1⟩; obtain ⟨t0, t1, t2, t3, tf, tl⟩ := four (newB w1 #[.int .i64 tk, .string tt, .int .i64 tn, .int .i64 (tp : Int)] 57))
    go_ret
    refine ⟨?_, (b1.al (Nat.le_refl _) _)⟩
    rw [HK.out]; rfl
  rw [q_if, if_neg (by decide)] at hkd
  cases q_while : (tt.toList == [119, 104, 105, 108, 101])
  case true =>
    have HK : Hid (kd = 4) := by show _ = _; rw [← hkd, q_while]; rfl
    clear hkd
    go_enter Tryz.func181, Tryz.ntmps181
    go_wp2_with (go_at_call 62; refine h1.mono ?_; rintro r w1 ⟨rfl, b1⟩; obtain ⟨t0, t1, t2, t3, tf, tl⟩ := four (newB w1 #[.int .i64 tk, .string tt, .int .i64 tn, .int .i64 (tp : Int)] 57))
    go_ret
    refine ⟨?_, (b1.al (Nat.le_refl _) _)⟩
    rw [HK.out]; rfl
  rw [q_while, if_neg (by decide)] at hkd
  cases q_loop : (tt.toList == [108, 111, 111, 112])
  case true =>
    have HK : Hid (kd = 5) := by show _ = _; rw [← hkd, q_loop]; rfl
    clear hkd
    go_enter Tryz.func181, Tryz.ntmps181
    go_wp2_with (go_at_call 62; refine h1.mono ?_; rintro r w1 ⟨rfl, b1⟩; obtain ⟨t0, t1, t2, t3, tf, tl⟩ := four (newB w1 #[.int .i64 tk, .string tt, .int .i64 tn, .int .i64 (tp : Int)] 57))
    go_ret
    refine ⟨?_, (b1.al (Nat.le_refl _) _)⟩
    rw [HK.out]; rfl
  rw [q_loop, if_neg (by decide)] at hkd
  cases q_choose : (tt.toList == [99, 104, 111, 111, 115, 101])
  case true =>
    have HK : Hid (kd = 6) := by show _ = _; rw [← hkd, q_choose]; rfl
    clear hkd
    go_enter Tryz.func181, Tryz.ntmps181
    go_wp2_with (go_at_call 62; refine h1.mono ?_; rintro r w1 ⟨rfl, b1⟩; obtain ⟨t0, t1, t2, t3, tf, tl⟩ := four (newB w1 #[.int .i64 tk, .string tt, .int .i64 tn, .int .i64 (tp : Int)] 57))
    go_ret
    refine ⟨?_, (b1.al (Nat.le_refl _) _)⟩
    rw [HK.out]; rfl
  rw [q_choose, if_neg (by decide)] at hkd
  cases q_sync : (tt.toList == [115, 121, 110, 99])
  case true =>
    have HK : Hid (kd = 7) := by show _ = _; rw [← hkd, q_sync]; rfl
    clear hkd
    go_enter Tryz.func181, Tryz.ntmps181
    go_wp2_with (go_at_call 62; refine h1.mono ?_; rintro r w1 ⟨rfl, b1⟩; obtain ⟨t0, t1, t2, t3, tf, tl⟩ := four (newB w1 #[.int .i64 tk, .string tt, .int .i64 tn, .int .i64 (tp : Int)] 57))
    go_ret
    refine ⟨?_, (b1.al (Nat.le_refl _) _)⟩
    rw [HK.out]; rfl
  rw [q_sync, if_neg (by decide)] at hkd
  cases q_call : (tt.toList == [99, 97, 108, 108])
  case true =>
    have HK : Hid (kd = 8) := by show _ = _; rw [← hkd, q_call]; rfl
    clear hkd
    go_enter Tryz.func181, Tryz.ntmps181
    go_wp2_with (go_at_call 62; refine h1.mono ?_; rintro r w1 ⟨rfl, b1⟩; obtain ⟨t0, t1, t2, t3, tf, tl⟩ := four (newB w1 #[.int .i64 tk, .string tt, .int .i64 tn, .int .i64 (tp : Int)] 57))
    go_ret
    refine ⟨?_, (b1.al (Nat.le_refl _) _)⟩
    rw [HK.out]; rfl
  rw [q_call, if_neg (by decide)] at hkd
  cases q_wait : (tt.toList == [119, 97, 105, 116])
  case true =>
    have HK : Hid (kd = 9) := by show _ = _; rw [← hkd, q_wait]; rfl
    clear hkd
    go_enter Tryz.func181, Tryz.ntmps181
    go_wp2_with (go_at_call 62; refine h1.mono ?_; rintro r w1 ⟨rfl, b1⟩; obtain ⟨t0, t1, t2, t3, tf, tl⟩ := four (newB w1 #[.int .i64 tk, .string tt, .int .i64 tn, .int .i64 (tp : Int)] 57))
    go_ret
    refine ⟨?_, (b1.al (Nat.le_refl _) _)⟩
    rw [HK.out]; rfl
  rw [q_wait, if_neg (by decide)] at hkd
  cases q_notify : (tt.toList == [110, 111, 116, 105, 102, 121])
  case true =>
    have HK : Hid (kd = 10) := by show _ = _; rw [← hkd, q_notify]; rfl
    clear hkd
    go_enter Tryz.func181, Tryz.ntmps181
    go_wp2_with (go_at_call 62; refine h1.mono ?_; rintro r w1 ⟨rfl, b1⟩; obtain ⟨t0, t1, t2, t3, tf, tl⟩ := four (newB w1 #[.int .i64 tk, .string tt, .int .i64 tn, .int .i64 (tp : Int)] 57))
    go_ret
    refine ⟨?_, (b1.al (Nat.le_refl _) _)⟩
    rw [HK.out]; rfl
  rw [q_notify, if_neg (by decide)] at hkd
  cases q_notifyall : (tt.toList == [110, 111, 116, 105, 102, 121, 97, 108, 108])
  case true =>
    have HK : Hid (kd = 11) := by show _ = _; rw [← hkd, q_notifyall]; rfl
    clear hkd
    go_enter Tryz.func181, Tryz.ntmps181
    go_wp2_with (go_at_call 62; refine h1.mono ?_; rintro r w1 ⟨rfl, b1⟩; obtain ⟨t0, t1, t2, t3, tf, tl⟩ := four (newB w1 #[.int .i64 tk, .string tt, .int .i64 tn, .int .i64 (tp : Int)] 57))
    go_ret
    refine ⟨?_, (b1.al (Nat.le_refl _) _)⟩
    rw [HK.out]; rfl
  rw [q_notifyall, if_neg (by decide)] at hkd
  have HK : Hid (kd = 0) := hkd.symm
  clear hkd
  go_enter Tryz.func181, Tryz.ntmps181
  go_wp2_with (go_at_call 62; refine h1.mono ?_; rintro r w1 ⟨rfl, b1⟩; obtain ⟨t0, t1, t2, t3, tf, tl⟩ := four (newB w1 #[.int .i64 tk, .string tt, .int .i64 tn, .int .i64 (tp : Int)] 57))
  go_ret
  refine ⟨?_, (b1.al (Nat.le_refl _) _)⟩
  rw [HK.out]; rfl
end Go.Proofs.YtaekbgljbgmchaaGreatDoor
