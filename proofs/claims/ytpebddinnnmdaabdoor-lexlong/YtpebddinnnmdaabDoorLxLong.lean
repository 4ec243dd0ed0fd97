/-
  For every number and both kinds of bytes the statement LexLong hands back true (its walk): texts that are too long are told so, blanks alone are no token, a byte 0 begins none.
-/
import Derived.Test.YtpebddinnnmdaabDoorLxJ
namespace Go.Proofs.YtpebddinnnmdaabDoor
open Go.RowKit
namespace Lx
def rep (n : Nat) (c : UInt8) : ByteArray := ⟨(List.replicate n c).toArray⟩
theorem rep_size (n : Nat) (c : UInt8) : (rep n c).size = n := by simp [rep, ByteArray.size]
theorem rep_list (n : Nat) (c : UInt8) : (rep n c).data.toList = List.replicate n c := by simp [rep]
theorem skip_rep (n : Nat) : skipC false (List.replicate n 32) = n := by
  induction n with
  | zero => rfl
  | succ n ih => rw [List.replicate_succ]; simp [skipC, blank, ih]
theorem scan_blank (n : Nat) : scan (rep n 32) = .done [] := by
  unfold scan
  have : skip (rep n 32) 0 = n := by unfold skip; rw [rep_list, List.drop_zero, skip_rep]; omega
  rw [this, scanF_over _ _ _ _ (by rw [rep_size]; omega)]
theorem scan_zero (n : Nat) (h : 0 < n) : scan (rep n 0) = .fail 10 0 := by
  obtain ⟨m, rfl⟩ : ∃ m, n = m + 1 := ⟨n - 1, by omega⟩
  have hlt : 0 < (rep (m + 1) 0).size := by rw [rep_size]; omega
  have h0 : (rep (m + 1) 0)[0] = 0 := by
    show (rep (m + 1) 0).data.toList[0]'(by rw [rep_list]; simp) = 0
    simp [rep_list]
  have hsk : skip (rep (m + 1) 0) 0 = 0 := skip_stop _ 0 hlt (by rw [h0]; decide) (by rw [h0]; decide)
  have htok : tokOut (rep (m + 1) 0) 0 = bad 10 := by
    rw [tokOut_sign _ 0 hlt (by rw [h0]; decide) (by rw [h0]; decide)]
    unfold signOut
    rw [if_pos]
    rw [byteAt_lt _ 0 hlt, h0]
    unfold signLen; simp
  unfold scan
  rw [hsk, rep_size, scanF, if_pos (by rw [rep_size]; omega), htok, if_neg (by decide)]
  rfl
end Lx
set_option maxHeartbeats 400000 in
theorem scan_long (s : ByteArray) (w : World) (hs : 20000 < s.size) (hs2 : s.size ≤ 140737488351232) :
    Calls Tryd.prog 5 #[.string s] w fun e w' => e = .returned (.tuple #[.slice none 0 0, .int .i64 1, .int .i64 20000]) ∧ w' = w := by
  go_enter Tryd.func5, Tryd.ntmps5
  go_wp2
  go_ret3
  exact ⟨rfl, rfl⟩
theorem made_rep (n : Nat) : (madeCells #[Value.int .u8 0] n).toList = List.replicate n (Value.int .u8 0) := by
  unfold madeCells
  apply List.ext_getElem
  · simp
  · intro i h1 h2
    simp [Nat.mod_one]
def mix (n k : Nat) : List Value := List.replicate k (Value.int .u8 32) ++ List.replicate (n - k) (Value.int .u8 0)
theorem mix_set (n k : Nat) (h : k < n) : (mix n k).set k (.int .u8 32) = mix n (k + 1) := by
  unfold mix
  obtain ⟨m, hm⟩ : ∃ m, n - k = m + 1 := ⟨n - k - 1, by omega⟩
  rw [hm, show n - (k + 1) = m by omega, List.replicate_succ, List.set_append_right _ _ (by simp)]
  simp [List.replicate_succ']
theorem mix_at (n k : Nat) (h : k < n) : (mix n k)[k]? = some (.int .u8 0) := by
  unfold mix
  obtain ⟨m, hm⟩ : ∃ m, n - k = m + 1 := ⟨n - k - 1, by omega⟩
  rw [List.getElem?_append_right (by simp), hm, List.length_replicate, Nat.sub_self, List.replicate_succ]; rfl
theorem mix_zero (n : Nat) : mix n 0 = List.replicate n (Value.int .u8 0) := by simp [mix]
theorem mix_full (n : Nat) : mix n n = List.replicate n (Value.int .u8 32) := by simp [mix]
theorem Tryd.info5 : (Tryd.prog.info? 5).map (fun i => (i.zero, i.size, i.bytes)) = some (some (.int .u8 0), 1, 1) := by kernel_rfl
theorem conv_rep (w : World) (B g n : Nat) (c : UInt8) (h : w.ownsRow B 5 1 (.slice (some ⟨g, 0, none⟩) n n) n (List.replicate n (.int .u8 (c.toNat : Int)))) :
    (convert 23 9 (.slice (some ⟨g, 0, none⟩) n n)).run Tryd.prog w = .ok (.string (Lx.rep n c)) w := by
  have := run_convert_bytes_back (P := Tryd.prog) w 23 9 5 ⟨g, 0, none⟩ n (List.replicate n c) Tryd.underlying23 Tryd.underlying5 Tryd.underlying9 (fun j hj => by
    have hj' : j < n := by simpa using hj
    rw [Go.WideShapes.add_plain, Nat.zero_add, h.cellAt j (by omega)]
    simp [hj'])
  rw [List.length_replicate] at this
  exact this
set_option maxRecDepth 100000 in
set_option maxHeartbeats 1000000 in
theorem lexLong_walk (n : Int) (bl : Bool) (w : World) (hE : HasErr w) :
    Calls Tryd.prog 3 #[.int .i64 n, .bool bl] w fun e w' => e = .returned (.bool true) ∧ Below w.heap.size w w' := by
  obtain ⟨i0, hi, hz0, hz1, hz2⟩ := info_parts Tryd.info5
  by_cases hneg : n < 0
  · go_enter Tryd.func3, Tryd.ntmps3
    go_wp2_with (go_at_call 4; refine (live_any _ hE).mono ?_; rintro e w1 ⟨rfl, hb⟩)
    go_ret
    exact ⟨rfl, hb⟩
  by_cases hbig : 20100 < n
  · go_enter Tryd.func3, Tryd.ntmps3
    go_wp2_with (go_at_call 4; refine (live_any _ hE).mono ?_; rintro e w1 ⟨rfl, hb⟩)
    go_ret
    exact ⟨rfl, hb⟩
  obtain ⟨N, rfl⟩ := Int.eq_ofNat_of_zero_le (show 0 ≤ n by omega)
  have hN : N ≤ 20100 := by omega
  clear hneg hbig
  cases bl
  · go_enter Tryd.func3, Tryd.ntmps3
    go_wp2_with (at_make; refine wpList_make_full _ rfl _ _ 23 rfl w.heap.size 5 i0 (.int .u8 0) 1 Tryd.underlying23 hi hz0 hz1 .i64 .i64 _ _ N rfl rfl rfl rfl (by rw [hz2]; omega) (by unfold maxLen; omega) (Nat.le_refl _) ?_)
    intro w1 hown1 hgrow1
    rw [made_rep] at hown1
    have hcv := conv_rep w1 _ _ N 0 hown1
    have hb1 : Below w.heap.size w w1 := (Below.refl _ w).grown hgrow1 (Nat.le_refl _) (fun k hk => by cases hk)
    have HB1 := hid hb1
    have HE1 : Hid (HasErr w1) := hE.after hb1
    clear hown1 hgrow1 hb1
    by_cases hlong : 20000 < N
    · go_wp2_with (first
        | (go_at_call 5; refine (scan_long _ _ (by rw [Lx.rep_size]; exact hlong) (by rw [Lx.rep_size]; omega)).mono ?_; rintro e w' ⟨rfl, hw'⟩; have hw2 := hw'.symm; subst hw2)
        | (go_at_call 6; refine (num_any _ _).mono ?_; rintro e w' ⟨rfl, hw'⟩; have hw2 := hw'.symm; subst hw2)
        | (go_at_call 4; refine (live_any _ (by exact HE1.out)).mono ?_; rintro e w9 ⟨rfl, hb9⟩))
      go_ret
      exact ⟨rfl, HB1.out.trans (hb9.mono HB1.out.size)⟩
    · by_cases hN0 : N = 0
      · subst hN0
        have hsc : Lx.scan (Lx.rep 0 0) = .done [] := Lx.scan_blank 0
        obtain ⟨r1, r2, r3⟩ := Lx.of_done (Lx.rep 0 0) [] hsc
        have HR1 := hid r1
        have HR2 := hid r2
        have HR3 := hid r3
        have hEnd : (Lx.endTok (Lx.rep 0 0)).pos = 0 := Lx.rep_size _ _
        have HEND := hid hEnd
        clear r1 r2 r3 hEnd
        go_wp2_with fail
        refine (scan_any (Lx.rep 0 0) _ (by rw [Lx.rep_size]; omega) HE1.out).mono ?_
        rw [HR1.out, HR2.out, HR3.out]
        rintro e w5 ⟨v5, rfl, hown5, hb5⟩
        obtain ⟨g5, cap5, rfl, hB5, hg5, hcap5, hmx5, hcell5⟩ := owns_shape hown5 (by simp)
        have q3 : w5.cell? ⟨g5, 3, none⟩ = some (.int .i64 ((0 : Nat) : Int)) := by
          rw [hcell5 3 (by simp)]
          have e1 : Lx.cellsOf ([] ++ [Lx.endTok (Lx.rep 0 0)]) = Lx.cells1 (Lx.endTok (Lx.rep 0 0)) := by simp [Lx.cellsOf]
          rw [e1]
          show some (Value.int .i64 ((Lx.endTok (Lx.rep 0 0)).pos : Int)) = _
          rw [HEND.out]
        have HE5 : Hid (HasErr w5) := HE1.out.after hb5
        have HB5 : Hid (Below w.heap.size w w5) := HB1.out.trans (hb5.mono HB1.out.size)
        have hl1 : ([] ++ [Lx.endTok (Lx.rep 0 0)]).length = 1 := rfl
        rw [hl1] at hcap5 ⊢
        clear hown5 hcell5 hl1
        go_wp2_with (first
          | (go_at_call 6; refine (num_any _ _).mono ?_; rintro e w' ⟨rfl, hw'⟩; have hw2 := hw'.symm; subst hw2)
          | (go_at_call 4; refine (live_any _ (by exact HE5.out)).mono ?_; rintro e w9 ⟨rfl, hb9⟩))
        go_ret
        exact ⟨rfl, HB5.out.trans (hb9.mono HB5.out.size)⟩
      · obtain ⟨r1, r2, r3⟩ := Lx.of_fail (Lx.rep N 0) 10 0 (Lx.scan_zero N (by omega))
        have hn0 : ((N : Int) == 0) = false := by rw [beq_eq_false_iff_ne]; omega
        have HR2 := hid r2
        have HR3 := hid r3
        clear r1 r2 r3
        go_wp2_with fail
        refine (scan_any (Lx.rep N 0) _ (by rw [Lx.rep_size]; omega) HE1.out).mono ?_
        rw [HR2.out, HR3.out]
        rintro e w5 ⟨v5, rfl, hown5, hb5⟩
        have HE5 : Hid (HasErr w5) := HE1.out.after hb5
        have HB5 : Hid (Below w.heap.size w w5) := HB1.out.trans (hb5.mono HB1.out.size)
        clear hown5
        go_wp2_with (first
          | (go_at_call 6; refine (num_any _ _).mono ?_; rintro e w' ⟨rfl, hw'⟩; have hw2 := hw'.symm; subst hw2)
          | (go_at_call 4; refine (live_any _ (by exact HE5.out)).mono ?_; rintro e w9 ⟨rfl, hb9⟩))
        go_ret
        exact ⟨rfl, HB5.out.trans (hb9.mono HB5.out.size)⟩
  · go_enter Tryd.func3, Tryd.ntmps3
    go_wp2_with (at_make; refine wpList_make_full _ rfl _ _ 23 rfl w.heap.size 5 i0 (.int .u8 0) 1 Tryd.underlying23 hi hz0 hz1 .i64 .i64 _ _ N rfl rfl rfl rfl (by rw [hz2]; omega) (by unfold maxLen; omega) (Nat.le_refl _) ?_)
    intro w1 hown1 hgrow1
    rw [made_rep] at hown1
    have hcv := conv_rep w1 _ _ N 0 hown1
    have hb1 : Below w.heap.size w w1 := (Below.refl _ w).grown hgrow1 (Nat.le_refl _) (fun k hk => by cases hk)
    have hs1 := hb1.size
    clear hown1 hgrow1
    go_wp2_with (at_make; refine wpList_make_full _ rfl _ _ 23 rfl w.heap.size 5 i0 (.int .u8 0) 1 Tryd.underlying23 hi hz0 hz1 .i64 .i64 _ _ N rfl rfl rfl rfl (by rw [hz2]; omega) (by unfold maxLen; omega) hs1 ?_)
    intro w2 hown2 hgrow2
    rw [made_rep, ← mix_zero] at hown2
    have hb2 : Below w.heap.size w w2 := hb1.grown hgrow2 hs1 (fun k hk => by cases hk)
    clear hgrow2 hcv
    go_wp2
    go_loopw [7] (fun i wr => ∃ k : Nat, k ≤ N ∧ i = .int .i64 k ∧ wr.ownsRow w.heap.size 5 1 (.slice (some ⟨w1.heap.size, 0, none⟩) N N) N (mix N k) ∧ Below w.heap.size w wr) (fun i _ => N - (intOf i).toNat)
    case atStart => exact ⟨0, by omega, rfl, hown2, hb2⟩
    case round =>
      obtain ⟨k, hk, rfl, hown, hbw⟩ := hrel
      by_cases hlt : k < N
      · have hc : wr.cell? ⟨w1.heap.size, k, none⟩ = some (.int .u8 0) := by rw [hown.cellAt k (by omega), mix_at N k hlt]
        have hf : wr.frozen? ⟨w1.heap.size, k, none⟩ = false := hown.frozenAt k
        have HO : Hid ((wr.setCell ⟨w1.heap.size, k, none⟩ (.int .u8 32)).ownsRow w.heap.size 5 1 (.slice (some ⟨w1.heap.size, 0, none⟩) N N) N (mix N (k + 1))) := by
          have := (hown.stored k (.int .u8 32)).1
          rw [mix_set N k hlt] at this; exact this
        clear hown
        go_wp2
        go_roundw
        case rel => exact ⟨k + 1, by omega, by go_num, HO.out, hbw.setCell hs1 _⟩
        case measure => simp [intOf]; omega
      · obtain rfl : k = N := by omega
        rw [mix_full] at hown
        have hcv := conv_rep wr _ _ k 32 hown
        have HBW := hid hbw
        have HEW : Hid (HasErr wr) := hE.after hbw
        clear hown hown2
        have hsc := Lx.scan_blank k
        by_cases hlong : 20000 < k
        · go_wp2_with (first
            | (go_at_call 5; refine (scan_long _ _ (by rw [Lx.rep_size]; exact hlong) (by rw [Lx.rep_size]; omega)).mono ?_; rintro e w' ⟨rfl, hw'⟩; have hw2 := hw'.symm; subst hw2)
            | (go_at_call 6; refine (num_any _ _).mono ?_; rintro e w' ⟨rfl, hw'⟩; have hw2 := hw'.symm; subst hw2)
            | (go_at_call 4; refine (live_any _ (by exact HEW.out)).mono ?_; rintro e w9 ⟨rfl, hb9⟩))
          go_ret
          exact ⟨rfl, HBW.out.trans (hb9.mono HBW.out.size)⟩
        · skip
          obtain ⟨r1, r2, r3⟩ := Lx.of_done (Lx.rep k 32) [] hsc
          have HR1 := hid r1
          have HR2 := hid r2
          have HR3 := hid r3
          have hEnd : (Lx.endTok (Lx.rep k 32)).pos = k := Lx.rep_size _ _
          have HEND := hid hEnd
          clear r1 r2 r3 hEnd
          go_wp2_with fail
          refine (scan_any (Lx.rep k 32) _ (by rw [Lx.rep_size]; omega) HEW.out).mono ?_
          rw [HR1.out, HR2.out, HR3.out]
          rintro e w5 ⟨v5, rfl, hown5, hb5⟩
          obtain ⟨g5, cap5, rfl, hB5, hg5, hcap5, hmx5, hcell5⟩ := owns_shape hown5 (by simp)
          have q3 : w5.cell? ⟨g5, 3, none⟩ = some (.int .i64 (k : Int)) := by
            rw [hcell5 3 (by simp)]
            have e1 : Lx.cellsOf ([] ++ [Lx.endTok (Lx.rep k 32)]) = Lx.cells1 (Lx.endTok (Lx.rep k 32)) := by simp [Lx.cellsOf]
            rw [e1]
            show some (Value.int .i64 ((Lx.endTok (Lx.rep k 32)).pos : Int)) = _
            rw [HEND.out]
          have HE5 : Hid (HasErr w5) := HEW.out.after hb5
          have HB5 : Hid (Below w.heap.size w w5) := HBW.out.trans (hb5.mono HBW.out.size)
          have hl1 : ([] ++ [Lx.endTok (Lx.rep k 32)]).length = 1 := rfl
          rw [hl1] at hcap5 ⊢
          clear hown5 hcell5 hl1
          go_wp2_with (first
            | (go_at_call 6; refine (num_any _ _).mono ?_; rintro e w' ⟨rfl, hw'⟩; have hw2 := hw'.symm; subst hw2)
            | (go_at_call 4; refine (live_any _ (by exact HE5.out)).mono ?_; rintro e w9 ⟨rfl, hb9⟩))
          go_ret
          exact ⟨rfl, HB5.out.trans (hb9.mono HB5.out.size)⟩
end Go.Proofs.YtpebddinnnmdaabDoor
