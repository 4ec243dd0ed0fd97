/-
  For every text the statement LexPlaces hands back true: the tokens stand in the text at their places, which rise; between two there is nothing but blanks and notes.
  Condition: the five listed variables of strconv, internal/strconv and math/bits hold at the start what the program's own text lays there (the card ties them to the pruned copy of the project; nothing is said of its other packages).
-/
import Derived.Test.YtpebddinnnmdaaaDoorLxPlacesA
namespace Go.Proofs.YtpebddinnnmdaaaDoor
open Go.ChangeShapes Go.WideShapes Go.ChangeAt Go.RowKit
open Go.ChangeMaps (open_string shut_string)
set_option maxRecDepth 100000 in
set_option maxHeartbeats 4000000 in
theorem lexPlaces_walk (s : ByteArray) (w : World) (hs : s.size ≤ 140737488351232) (hE : HasErr w) :
    Calls Tryd.prog 8 #[.string s] w fun e w' => e = .returned (.bool true) ∧ Below w.heap.size w w' := by
  by_cases hl : 4000 < s.size
  · go_enter Tryd.func8, Tryd.ntmps8
    go_wp2_with (go_at_call 9; refine (live_any _ hE).mono ?_; rintro e w1 ⟨rfl, hb⟩)
    go_ret
    exact ⟨rfl, hb⟩
  · go_enter Tryd.func8, Tryd.ntmps8
    go_wp2_with fail
    refine (scan_any s w (by omega) hE).mono ?_
    rintro e w1 ⟨v1, rfl, hown1, hb1⟩
    have HE1 : Hid (HasErr w1) := hE.after hb1
    cases hsc : Lx.scan s with
    | fail er k =>
      obtain ⟨r1, r2, r3⟩ := Lx.of_fail s er k hsc
      have hf := Lx.scanF_fail s _ _ _ _ _ hsc
      have hneb : (er != 0) = true := by rw [bne_iff_ne]; exact hf.1
      have hk := hf.2
      rw [r2, r3]
      clear hown1 hsc r1 r2 r3 hf
      go_wp2_with (first | (go_at_call 13; refine (num_any _ _).mono ?_; rintro e w' ⟨rfl, hw'⟩; have hw2 := hw'.symm; subst hw2) | (go_at_call 9; refine (live_any _ (by exact HE1.out)).mono ?_; rintro e w9 ⟨rfl, hb9⟩))
      go_ret
      exact ⟨rfl, hb1.trans (hb9.mono hb1.size)⟩
    | done l =>
      obtain ⟨r1, r2, r3⟩ := Lx.of_done s l hsc
      have hz := Lx.scan_sizes s l hsc
      have HP := hid (Lx.places s l hsc)
      rw [r1] at hown1
      rw [r2, r3]
      have hS1 := sliceOf_owns hown1
      have hlen : ((l ++ [Lx.endTok s]).map toTk).length = l.length + 1 := by simp
      rcases hS1 with ⟨rfl, h0⟩ | ⟨g, cap, rfl, hcap, hmx, hg, hA⟩
      · rw [h0] at hlen; simp at hlen
      rw [hlen] at hcap ⊢
      have hnl : l.length ≤ 4000 := by omega
      have hlen2 : (l ++ [Lx.endTok s]).length = l.length + 1 := by simp
      have HA := hid hA
      have HL2 := hid hlen2
      have HLN := hid hlen
      clear hown1 hsc r1 r2 r3 hA hz hlen hlen2
      go_wp2_with (go_at_call 13; refine (num_any _ _).mono ?_; rintro e w' ⟨rfl, hw'⟩; have hw2 := hw'.symm; subst hw2)
      go_loopw [6, 7] (fun fr i wr => ∃ j : Nat, j ≤ l.length + 1 ∧ i = .int .i64 j ∧ fr = .int .i64 (Lx.fromAt (l ++ [Lx.endTok s]) 0 j : Nat) ∧ Below w1.heap.size w1 wr) (fun _ i _ => l.length + 1 - (intOf i).toNat)
      case atStart => exact ⟨0, by omega, rfl, rfl, Below.refl _ _⟩
      case round =>
        obtain ⟨j, hj, rfl, rfl, hbx⟩ := hrel
        have hsx := hbx.size
        by_cases hlt : j < l.length + 1
        · have hjl : j < (l ++ [Lx.endTok s]).length := by rw [HL2.out]; exact hlt
          have hjm : j < ((l ++ [Lx.endTok s]).map toTk).length := by rw [HLN.out]; exact hlt
          obtain ⟨c0, c1, c2, c3⟩ := HA.out j hjm
          rw [← hbx.cell (p := ⟨g, _, none⟩) hg] at c0 c1 c2 c3
          simp only [List.getElem_map, Nat.zero_add] at c0 c1 c2 c3
          obtain ⟨p1, p2, p3, p4, p5, p6, p7⟩ := HP.out j hjl
          have HF := hid (Lx.fromAt_succ (l ++ [Lx.endTok s]) 0 j hjl)
          have hq : ∀ o : Lx.Out, (toTk o).kind = o.kind ∧ (toTk o).text = o.text ∧ (toTk o).n = o.n ∧ (toTk o).pos = (o.pos : Int) := fun _ => ⟨rfl, rfl, rfl, rfl⟩
          rw [(hq _).1] at c0
          rw [(hq _).2.1] at c1
          rw [(hq _).2.2.1] at c2
          rw [(hq _).2.2.2] at c3
          clear hq
          generalize (l ++ [Lx.endTok s])[j] = o at *
          obtain ⟨tk, tx, tn, tp, te⟩ := o
          simp only at c0 c1 c2 c3 p1 p2 p3 p4 p5 p6 p7 HF
          generalize Lx.fromAt (l ++ [Lx.endTok s]) 0 j = F at *
          have P1 := hid p1
          have P5 : Hid (((s.extract tp (tp + tx.size)).toList == tx.toList) = true) := by rw [← p5]; exact beq_string_self tx
          have d1 : decide ((tp : Int) < (F : Int)) = false := by rw [decide_eq_false_iff_not]; omega
          have d2 : decide ((s.size : Int) < (tp : Int) + (tx.size : Int)) = false := by rw [decide_eq_false_iff_not]; omega
          have d3 := P5.out
          have d1n : decide (tp < F) = false := by rw [decide_eq_false_iff_not]; omega
          have d2n : decide (s.size < tp + tx.size) = false := by rw [decide_eq_false_iff_not]; omega
          clear p1 p5
          by_cases hend : j < l.length
          · obtain ⟨k5, t1⟩ := p6 hend
            have d4 : (tk == 5) = false := by rw [beq_eq_false_iff_ne]; exact k5
            have d5 : ((j : Int) == (l.length : Int)) = false := by rw [beq_eq_false_iff_ne]; omega
            have d6 : (tk != 5) = true := by rw [bne_iff_ne]; exact k5
            have d7 : tx.toList.isEmpty = false := by rw [ByteArray.toList_eq]; cases hx : tx.data.toList with
              | nil => exfalso; have : tx.data.toList.length = tx.size := (by rw [Array.length_toList]; rfl); rw [hx] at this; simp at this; omega
              | cons a b => rfl
            clear p6 p7 k5
            go_wp2_with fail
            go_quiet (fail)
            go_wp2
            go_loop [9, 10] (fun nt i => ∃ (k : Nat) (b : Bool), F ≤ k ∧ k ≤ tp ∧ i = .int .i64 k ∧ nt = .bool b ∧ k + Lx.skipC b (s.data.toList.drop k) = tp) (fun _ i => tp - (intOf i).toNat)
            case atStart => exact ⟨F, false, by omega, by omega, rfl, rfl, P1.out.symm⟩
            case round =>
              obtain ⟨k, b, hFk, hkt, rfl, rfl, hinv⟩ := hrel
              have HINV := hid hinv
              clear hinv
              by_cases hkl : k < tp
              · obtain ⟨hks, hst0, hbl0⟩ := Lx.gap_step s b k tp HINV.out hkl (by omega)
                cases b
                · have HST := hid hst0
                  have HBLK := hid hbl0
                  clear hst0 hbl0
                  cases h35 : ((s[k].toNat : Int) == 35)
                  · have HC35 : Hid ((s[k] == 35) = false) := by
                      show _ = _; rw [beq_eq_false_iff_ne]; intro h; rw [h] at h35; simp at h35
                    cases h10 : ((s[k].toNat : Int) != 10)
                    · have HC10 : Hid ((s[k] != 10) = false) := by
                        show _ = _; have h := u8_eq s[k] 10 (by simpa using h10); rw [h]; rfl
                      have HBB : Hid (((false && s[k] != 10) || s[k] == 35) = false) := by
                        show _ = _
                        rw [HC10.out, HC35.out]; rfl
                      have h32 : ((s[k].toNat : Int) != 32) = true := by have h := u8_eq s[k] 10 (by simpa using h10); rw [h]; rfl
                      have h9 : ((s[k].toNat : Int) != 9) = true := by have h := u8_eq s[k] 10 (by simpa using h10); rw [h]; rfl
                      go_wp2
                      go_round
                      case rel => exact ⟨k + 1, false, by omega, by omega, by go_num, rfl, by have h := HST.out; rw [HBB.out] at h; exact h⟩
                      case measure => simp [intOf]; omega
                    · have HC10 : Hid ((s[k] != 10) = true) := by
                        show _ = _; rw [bne_iff_ne]; intro h; rw [h] at h10; simp at h10
                      have HBB : Hid (((false && s[k] != 10) || s[k] == 35) = false) := by
                        show _ = _
                        rw [HC10.out, HC35.out]; rfl
                      have HBL := hid (HBLK.out HBB.out)
                      cases h32 : ((s[k].toNat : Int) != 32)
                      · skip
                        go_wp2
                        go_round
                        case rel => exact ⟨k + 1, false, by omega, by omega, by go_num, rfl, by have h := HST.out; rw [HBB.out] at h; exact h⟩
                        case measure => simp [intOf]; omega
                      · cases h9 : ((s[k].toNat : Int) != 9)
                        · skip
                          go_wp2
                          go_round
                          case rel => exact ⟨k + 1, false, by omega, by omega, by go_num, rfl, by have h := HST.out; rw [HBB.out] at h; exact h⟩
                          case measure => simp [intOf]; omega
                        · cases h13 : ((s[k].toNat : Int) != 13)
                          · skip
                            go_wp2
                            go_round
                            case rel => exact ⟨k + 1, false, by omega, by omega, by go_num, rfl, by have h := HST.out; rw [HBB.out] at h; exact h⟩
                            case measure => simp [intOf]; omega
                          · exfalso
                            have g1 : s[k] ≠ 32 := by intro h; rw [h] at h32; simp at h32
                            have g2 : s[k] ≠ 9 := by intro h; rw [h] at h9; simp at h9
                            have g3 : s[k] ≠ 13 := by intro h; rw [h] at h13; simp at h13
                            have g4 : s[k] ≠ 10 := by intro h; rw [h] at h10; simp at h10
                            have := HBL.out
                            simp [Lx.blank, g1, g2, g3, g4] at this
                  · have HC35 : Hid ((s[k] == 35) = true) := by
                      show _ = _; rw [beq_iff_eq]; exact u8_eq _ 35 (eq_of_beq h35)
                    cases h10 : ((s[k].toNat : Int) != 10)
                    · have HC10 : Hid ((s[k] != 10) = false) := by
                        show _ = _; have h := u8_eq s[k] 10 (by simpa using h10); rw [h]; rfl
                      have HBB : Hid (((false && s[k] != 10) || s[k] == 35) = true) := by
                        show _ = _
                        rw [HC10.out, HC35.out]; rfl
                      go_wp2
                      go_round
                      case rel => exact ⟨k + 1, true, by omega, by omega, by go_num, rfl, by have h := HST.out; rw [HBB.out] at h; exact h⟩
                      case measure => simp [intOf]; omega
                    · have HC10 : Hid ((s[k] != 10) = true) := by
                        show _ = _; rw [bne_iff_ne]; intro h; rw [h] at h10; simp at h10
                      have HBB : Hid (((false && s[k] != 10) || s[k] == 35) = true) := by
                        show _ = _
                        rw [HC10.out, HC35.out]; rfl
                      go_wp2
                      go_round
                      case rel => exact ⟨k + 1, true, by omega, by omega, by go_num, rfl, by have h := HST.out; rw [HBB.out] at h; exact h⟩
                      case measure => simp [intOf]; omega
                · have HST := hid hst0
                  have HBLK := hid hbl0
                  clear hst0 hbl0
                  cases h35 : ((s[k].toNat : Int) == 35)
                  · have HC35 : Hid ((s[k] == 35) = false) := by
                      show _ = _; rw [beq_eq_false_iff_ne]; intro h; rw [h] at h35; simp at h35
                    cases h10 : ((s[k].toNat : Int) != 10)
                    · have HC10 : Hid ((s[k] != 10) = false) := by
                        show _ = _; have h := u8_eq s[k] 10 (by simpa using h10); rw [h]; rfl
                      have HBB : Hid (((true && s[k] != 10) || s[k] == 35) = false) := by
                        show _ = _
                        rw [HC10.out, HC35.out]; rfl
                      have h32 : ((s[k].toNat : Int) != 32) = true := by have h := u8_eq s[k] 10 (by simpa using h10); rw [h]; rfl
                      have h9 : ((s[k].toNat : Int) != 9) = true := by have h := u8_eq s[k] 10 (by simpa using h10); rw [h]; rfl
                      go_wp2
                      go_round
                      case rel => exact ⟨k + 1, false, by omega, by omega, by go_num, rfl, by have h := HST.out; rw [HBB.out] at h; exact h⟩
                      case measure => simp [intOf]; omega
                    · have HC10 : Hid ((s[k] != 10) = true) := by
                        show _ = _; rw [bne_iff_ne]; intro h; rw [h] at h10; simp at h10
                      have HBB : Hid (((true && s[k] != 10) || s[k] == 35) = true) := by
                        show _ = _
                        rw [HC10.out, HC35.out]; rfl
                      go_wp2
                      go_round
                      case rel => exact ⟨k + 1, true, by omega, by omega, by go_num, rfl, by have h := HST.out; rw [HBB.out] at h; exact h⟩
                      case measure => simp [intOf]; omega
                  · have HC35 : Hid ((s[k] == 35) = true) := by
                      show _ = _; rw [beq_iff_eq]; exact u8_eq _ 35 (eq_of_beq h35)
                    cases h10 : ((s[k].toNat : Int) != 10)
                    · have HC10 : Hid ((s[k] != 10) = false) := by
                        show _ = _; have h := u8_eq s[k] 10 (by simpa using h10); rw [h]; rfl
                      have HBB : Hid (((true && s[k] != 10) || s[k] == 35) = true) := by
                        show _ = _
                        rw [HC10.out, HC35.out]; rfl
                      go_wp2
                      go_round
                      case rel => exact ⟨k + 1, true, by omega, by omega, by go_num, rfl, by have h := HST.out; rw [HBB.out] at h; exact h⟩
                      case measure => simp [intOf]; omega
                    · have HC10 : Hid ((s[k] != 10) = true) := by
                        show _ = _; rw [bne_iff_ne]; intro h; rw [h] at h10; simp at h10
                      have HBB : Hid (((true && s[k] != 10) || s[k] == 35) = true) := by
                        show _ = _
                        rw [HC10.out, HC35.out]; rfl
                      go_wp2
                      go_round
                      case rel => exact ⟨k + 1, true, by omega, by omega, by go_num, rfl, by have h := HST.out; rw [HBB.out] at h; exact h⟩
                      case measure => simp [intOf]; omega
              · go_wp2
                go_roundw
                case rel => exact ⟨j + 1, by omega, by go_num, by rw [HF.out]; go_num, below_drewN (hbx.alloc hsx _) _⟩
                case measure => simp [intOf]; omega
          · have hje : j = l.length := by omega
            have hp7 := p7 hje
            have hk5 : tk = 5 := by have := congrArg Lx.Out.kind hp7; exact this
            have d4 : (tk == 5) = true := by rw [hk5]; rfl
            have d5 : ((j : Int) == (l.length : Int)) = true := by rw [beq_iff_eq]; omega
            have d6 : (tk != 5) = false := by rw [hk5]; rfl
            clear p6 p7 hp7 hk5 hje
            go_wp2_with fail
            go_quiet (fail)
            go_wp2
            go_loop [9, 10] (fun nt i => ∃ (k : Nat) (b : Bool), F ≤ k ∧ k ≤ tp ∧ i = .int .i64 k ∧ nt = .bool b ∧ k + Lx.skipC b (s.data.toList.drop k) = tp) (fun _ i => tp - (intOf i).toNat)
            case atStart => exact ⟨F, false, by omega, by omega, rfl, rfl, P1.out.symm⟩
            case round =>
              obtain ⟨k, b, hFk, hkt, rfl, rfl, hinv⟩ := hrel
              have HINV := hid hinv
              clear hinv
              by_cases hkl : k < tp
              · obtain ⟨hks, hst0, hbl0⟩ := Lx.gap_step s b k tp HINV.out hkl (by omega)
                cases b
                · have HST := hid hst0
                  have HBLK := hid hbl0
                  clear hst0 hbl0
                  cases h35 : ((s[k].toNat : Int) == 35)
                  · have HC35 : Hid ((s[k] == 35) = false) := by
                      show _ = _; rw [beq_eq_false_iff_ne]; intro h; rw [h] at h35; simp at h35
                    cases h10 : ((s[k].toNat : Int) != 10)
                    · have HC10 : Hid ((s[k] != 10) = false) := by
                        show _ = _; have h := u8_eq s[k] 10 (by simpa using h10); rw [h]; rfl
                      have HBB : Hid (((false && s[k] != 10) || s[k] == 35) = false) := by
                        show _ = _
                        rw [HC10.out, HC35.out]; rfl
                      have h32 : ((s[k].toNat : Int) != 32) = true := by have h := u8_eq s[k] 10 (by simpa using h10); rw [h]; rfl
                      have h9 : ((s[k].toNat : Int) != 9) = true := by have h := u8_eq s[k] 10 (by simpa using h10); rw [h]; rfl
                      go_wp2
                      go_round
                      case rel => exact ⟨k + 1, false, by omega, by omega, by go_num, rfl, by have h := HST.out; rw [HBB.out] at h; exact h⟩
                      case measure => simp [intOf]; omega
                    · have HC10 : Hid ((s[k] != 10) = true) := by
                        show _ = _; rw [bne_iff_ne]; intro h; rw [h] at h10; simp at h10
                      have HBB : Hid (((false && s[k] != 10) || s[k] == 35) = false) := by
                        show _ = _
                        rw [HC10.out, HC35.out]; rfl
                      have HBL := hid (HBLK.out HBB.out)
                      cases h32 : ((s[k].toNat : Int) != 32)
                      · skip
                        go_wp2
                        go_round
                        case rel => exact ⟨k + 1, false, by omega, by omega, by go_num, rfl, by have h := HST.out; rw [HBB.out] at h; exact h⟩
                        case measure => simp [intOf]; omega
                      · cases h9 : ((s[k].toNat : Int) != 9)
                        · skip
                          go_wp2
                          go_round
                          case rel => exact ⟨k + 1, false, by omega, by omega, by go_num, rfl, by have h := HST.out; rw [HBB.out] at h; exact h⟩
                          case measure => simp [intOf]; omega
                        · cases h13 : ((s[k].toNat : Int) != 13)
                          · skip
                            go_wp2
                            go_round
                            case rel => exact ⟨k + 1, false, by omega, by omega, by go_num, rfl, by have h := HST.out; rw [HBB.out] at h; exact h⟩
                            case measure => simp [intOf]; omega
                          · exfalso
                            have g1 : s[k] ≠ 32 := by intro h; rw [h] at h32; simp at h32
                            have g2 : s[k] ≠ 9 := by intro h; rw [h] at h9; simp at h9
                            have g3 : s[k] ≠ 13 := by intro h; rw [h] at h13; simp at h13
                            have g4 : s[k] ≠ 10 := by intro h; rw [h] at h10; simp at h10
                            have := HBL.out
                            simp [Lx.blank, g1, g2, g3, g4] at this
                  · have HC35 : Hid ((s[k] == 35) = true) := by
                      show _ = _; rw [beq_iff_eq]; exact u8_eq _ 35 (eq_of_beq h35)
                    cases h10 : ((s[k].toNat : Int) != 10)
                    · have HC10 : Hid ((s[k] != 10) = false) := by
                        show _ = _; have h := u8_eq s[k] 10 (by simpa using h10); rw [h]; rfl
                      have HBB : Hid (((false && s[k] != 10) || s[k] == 35) = true) := by
                        show _ = _
                        rw [HC10.out, HC35.out]; rfl
                      go_wp2
                      go_round
                      case rel => exact ⟨k + 1, true, by omega, by omega, by go_num, rfl, by have h := HST.out; rw [HBB.out] at h; exact h⟩
                      case measure => simp [intOf]; omega
                    · have HC10 : Hid ((s[k] != 10) = true) := by
                        show _ = _; rw [bne_iff_ne]; intro h; rw [h] at h10; simp at h10
                      have HBB : Hid (((false && s[k] != 10) || s[k] == 35) = true) := by
                        show _ = _
                        rw [HC10.out, HC35.out]; rfl
                      go_wp2
                      go_round
                      case rel => exact ⟨k + 1, true, by omega, by omega, by go_num, rfl, by have h := HST.out; rw [HBB.out] at h; exact h⟩
                      case measure => simp [intOf]; omega
                · have HST := hid hst0
                  have HBLK := hid hbl0
                  clear hst0 hbl0
                  cases h35 : ((s[k].toNat : Int) == 35)
                  · have HC35 : Hid ((s[k] == 35) = false) := by
                      show _ = _; rw [beq_eq_false_iff_ne]; intro h; rw [h] at h35; simp at h35
                    cases h10 : ((s[k].toNat : Int) != 10)
                    · have HC10 : Hid ((s[k] != 10) = false) := by
                        show _ = _; have h := u8_eq s[k] 10 (by simpa using h10); rw [h]; rfl
                      have HBB : Hid (((true && s[k] != 10) || s[k] == 35) = false) := by
                        show _ = _
                        rw [HC10.out, HC35.out]; rfl
                      have h32 : ((s[k].toNat : Int) != 32) = true := by have h := u8_eq s[k] 10 (by simpa using h10); rw [h]; rfl
                      have h9 : ((s[k].toNat : Int) != 9) = true := by have h := u8_eq s[k] 10 (by simpa using h10); rw [h]; rfl
                      go_wp2
                      go_round
                      case rel => exact ⟨k + 1, false, by omega, by omega, by go_num, rfl, by have h := HST.out; rw [HBB.out] at h; exact h⟩
                      case measure => simp [intOf]; omega
                    · have HC10 : Hid ((s[k] != 10) = true) := by
                        show _ = _; rw [bne_iff_ne]; intro h; rw [h] at h10; simp at h10
                      have HBB : Hid (((true && s[k] != 10) || s[k] == 35) = true) := by
                        show _ = _
                        rw [HC10.out, HC35.out]; rfl
                      go_wp2
                      go_round
                      case rel => exact ⟨k + 1, true, by omega, by omega, by go_num, rfl, by have h := HST.out; rw [HBB.out] at h; exact h⟩
                      case measure => simp [intOf]; omega
                  · have HC35 : Hid ((s[k] == 35) = true) := by
                      show _ = _; rw [beq_iff_eq]; exact u8_eq _ 35 (eq_of_beq h35)
                    cases h10 : ((s[k].toNat : Int) != 10)
                    · have HC10 : Hid ((s[k] != 10) = false) := by
                        show _ = _; have h := u8_eq s[k] 10 (by simpa using h10); rw [h]; rfl
                      have HBB : Hid (((true && s[k] != 10) || s[k] == 35) = true) := by
                        show _ = _
                        rw [HC10.out, HC35.out]; rfl
                      go_wp2
                      go_round
                      case rel => exact ⟨k + 1, true, by omega, by omega, by go_num, rfl, by have h := HST.out; rw [HBB.out] at h; exact h⟩
                      case measure => simp [intOf]; omega
                    · have HC10 : Hid ((s[k] != 10) = true) := by
                        show _ = _; rw [bne_iff_ne]; intro h; rw [h] at h10; simp at h10
                      have HBB : Hid (((true && s[k] != 10) || s[k] == 35) = true) := by
                        show _ = _
                        rw [HC10.out, HC35.out]; rfl
                      go_wp2
                      go_round
                      case rel => exact ⟨k + 1, true, by omega, by omega, by go_num, rfl, by have h := HST.out; rw [HBB.out] at h; exact h⟩
                      case measure => simp [intOf]; omega
              · go_wp2
                go_roundw
                case rel => exact ⟨j + 1, by omega, by go_num, by rw [HF.out]; go_num, below_drewN (hbx.alloc hsx _) _⟩
                case measure => simp [intOf]; omega
        · have hje : l.length + 1 ≤ j := by omega
          have hjm : l.length < ((l ++ [Lx.endTok s]).map toTk).length := by rw [HLN.out]; omega
          obtain ⟨c0, c1, c2, c3⟩ := HA.out l.length hjm
          rw [← hbx.cell (p := ⟨g, _, none⟩) hg] at c0 c1 c2 c3
          have hlast : ((l ++ [Lx.endTok s]).map toTk)[l.length].pos = (s.size : Int) := by simp [toTk, Lx.endTok]
          rw [hlast] at c3
          simp only [Nat.zero_add] at c0 c1 c2 c3
          clear hlast
          go_wp2_with (go_at_call 9; refine (live_any _ (by exact HE1.out.after hbx)).mono ?_; rintro e w9 ⟨rfl, hb9⟩)
          go_ret
          have s1 := hb1.size
          exact ⟨rfl, (hb1.trans (hbx.mono s1)).trans (hb9.mono (by omega))⟩

theorem lexPlaces_contract (H : Type) (enc : TypeId × Value → H) (W : World) (base : Nat) (args : Array Value) (ds gs : List (DataW H)) (before : List MemPlace)
    (hval : ∀ (j : Nat) t v, Tryd.f8.params[j]? = some t → args[j]? = some v → Value.okWide Tryd.prog W .any base t v)
    (hW : DataW.Whole enc Tryd.prog Tryd.f8.params.toList Rows.lexPlacesSpec.vars false W args.toList ds gs before)
    (hsz0 : (DataW.weightsEach Tryd.prog (Tryd.f8.params.toList ++ Rows.lexPlacesSpec.plain.varTypes Tryd.prog) (ds ++ gs)).all (· ≤ reachBytes) = true)
    (hL : laidMetH Tryd.prog Rows.lexNamesRow.laid W) :
    Calls Tryd.prog 8 args W fun e W' => ∃ v, e = .returned v ∧ Rows.lexPlacesSpec.post enc Tryd.prog Tryd.f8 false true false false W args v W' := by
  have hE := hasErr_of hL
  have hW' := hW
  obtain ⟨p, q, hA0, hV, rfl, hfz, hnd⟩ := hW
  have hA : DataW.TrodAll enc Tryd.prog W 0 (fun _ => true) true Tryd.f8.params.toList args.toList ds p := hA0
  have hsz := hsz0
  rw [Tryd.params8] at hA hval hsz
  obtain ⟨v0, d0, rfl, rfl, h0⟩ := trodAll_one hA
  obtain ⟨rfl, rfl⟩ := trodVars_none hV
  obtain ⟨s, rfl, rfl, rfl, hs⟩ := open_string Tryd.underlying9 (hval 0 9 v0 rfl rfl) h0
  clear hA0
  simp only [List.append_nil] at hW'
  have hlim : s.size ≤ 140737488351232 := by
    have h1 := sized_string hsz (j := 0) (t := 9) rfl rfl
    have e1 : s.size = s.data.size := rfl
    have e2 : s.data.toList.length = s.data.size := Array.length_toList
    have e3 : reachBytes = 140737488351232 := by decide
    omega
  refine (lexPlaces_walk s W hlim hE).mono fun e W' ⟨he, hnx⟩ => ?_
  subst he
  refine ⟨_, rfl, _, _, _, [], [], [], hW', ?_, ?_, rfl, hnx.frame _, fun h => by cases h⟩
  · exact trodAll_mk1 (shut_bool Tryd.underlying4 true)
  · exact trodAll_mk1 (shut_string Tryd.underlying9 hs)
theorem lexPlaces_reads (os : Os) {H : Type} (enc : TypeId × Value → H) : ∃ places, DataW.whole enc Tryd.prog ((laidWorld os).forCall (fun _ _ => 0) ⟨#[], #[.string ⟨#[]⟩], []⟩).memory Tryd.f8.params.toList Rows.lexPlacesSpec.vars false #[Value.string ⟨#[]⟩].toList 8 = some ([.lit (.string [])], [], places) :=
  ⟨[], by kernel_rfl⟩
set_option maxRecDepth 100000 in
theorem lexPlaces_lifted (os : Os) (started : os.Started) (H : Type) (enc : TypeId × Value → H) (F : Stop.Interp) :
    ReturnsInHanded {} Tryd.checked os 8 .any ((OpenSpec.ofChange Rows.lexPlacesSpec).preRow enc Tryd.prog Tryd.f8 Rows.lexPlacesRow.domain false Rows.lexPlacesRow.laid) (((OpenSpec.ofChange Rows.lexPlacesSpec).at F).post enc Tryd.prog Tryd.f8 false true false false) := by
  obtain ⟨places, hx⟩ := lexPlaces_reads os enc
  refine returnsInHanded_of_row (C := Tryd.checked) (s := OpenSpec.ofChange Rows.lexPlacesSpec) own started (by kernel_rfl) Tryd.func8
    (witness_row_at (enc := enc) (C := Tryd.checked) false (laidWorld os) #[.string ⟨#[]⟩] rfl (by kernel_rfl) (by kernel_rfl) (by kernel_rfl)
      (OpenSpec.preRow_of_cond 8 hx (by kernel_rfl) (fun k hk => by cases hk) (by kernel_rfl) (laid_met os _))) ?_
  intro W base args ds gs before hval hW _ _ hsz hL _ _
  exact lexPlaces_contract H enc W base args ds gs before hval hW hsz hL
theorem lexPlaces_said : Rows.LexPlacesSaid :=
  OpenClaim.holds_of_cond 8 Tryd.f8 rfl rfl rfl rfl rfl rfl rfl ⟨rfl, rfl, rfl, rfl, rfl⟩ rfl rfl rfl rfl rfl (by kernel_rfl) Tryd.func8 (by kernel_rfl)
    (of_decide_eq_true (by kernel_rfl)) (by unfold Func.isWrapper; first | (rw [if_pos (by decide +kernel)]; kernel_rfl) | (rw [if_neg (by decide +kernel)]; exact ⟨rfl, rfl⟩))
    (fun os started H enc _ F => by rw [OpenClaim.pre_eq_preRow]; exact lexPlaces_lifted os started H enc F)
theorem lexPlaces_plain (f : FuncId) (fn : Func) (hf : Tryd.pinned.checked.prog.funcNamed "vigil/vigillaw01.LexPlaces" = some f) (hfn : Tryd.pinned.checked.prog.funcs[f]? = some fn) :
    true = Tryd.pinned.checked.prog.looks [] ∧ ∀ (j : Nat) t, fn.params[j]? = some t → Tryd.pinned.checked.prog.wantsStandIn t = false := by
  obtain rfl : f = 8 := Option.some.inj ((show Tryd.prog.funcNamed "vigil/vigillaw01.LexPlaces" = some 8 by kernel_rfl).symm.trans hf) |>.symm
  obtain rfl : fn = Tryd.f8 := (Option.some.inj (Tryd.func8.symm.trans hfn)).symm
  refine ⟨by kernel_rfl, fun j t ht => ?_⟩
  rw [Tryd.params8] at ht
  obtain rfl : t = 9 := by simpa using Array.mem_of_getElem? ht
  exact (show Tryd.prog.wantsStandIn 9 = false by kernel_rfl)
theorem lexPlaces_card : Rows.LexPlacesCardSaid :=
  Claim7.holds_tied_plain_at .later [] _ _ _ _ lexPlaces_said (fun _ h => by cases h) (by kernel_rfl) (fun _ h => by cases h) lexPlaces_row_tie rfl ⟨rfl, rfl⟩ (by kernel_rfl) rfl lexPlaces_plain (by kernel_rfl)
end Go.Proofs.YtpebddinnnmdaaaDoor
