/-
  The document's own Scan tells the tokens, or the first error and its place, that the plain Lean function says.
-/
import Derived.Test.YtpebddinnnmdaaaDoorLxX
namespace Go.Proofs.YtpebddinnnmdaaaDoor
open Go.RowKit
set_option maxRecDepth 100000 in
set_option maxHeartbeats 4000000 in
theorem refScan_any (s : ByteArray) (w : World) (hs : s.size ≤ 20000) :
    Calls Tryd.prog 11 #[.string s] w fun e w' => ∃ v, e = .returned (.tuple #[v, .int .i64 (Lx.errOf s), .int .i64 (Lx.atOf s : Nat)]) ∧ w'.ownsRow w.heap.size 33 4 v (Lx.outs s).length (Lx.cellsOf (Lx.outs s)) ∧ Below w.heap.size w w' := by
  obtain ⟨i0, hi, hz0, hz1, hz2⟩ := info_parts Tryd.info33
  go_enter Tryd.func11, Tryd.ntmps11
  go_wp2
  go_loopw [5, 6] (fun v i wr => ∃ (k : Nat) (acc : List Lx.Out) (f : Nat), k ≤ s.size ∧ i = .int .i64 k ∧ wr.ownsRow w.heap.size 33 4 v acc.length (Lx.cellsOf acc) ∧ Below w.heap.size w wr ∧ Lx.scanF s f (Lx.skip s k) acc = Lx.scan s ∧ s.size ≤ Lx.skip s k + f ∧ acc.length ≤ k)
    (fun _ i _ => s.size - (intOf i).toNat)
  case atStart => exact ⟨0, [], s.size, by omega, rfl, World.ownsRow_nil _ _ _ _, Below.refl _ _, rfl, by omega, by simp⟩
  case round =>
    obtain ⟨k, acc, f, hk, rfl, hown, hnx, hq, hf, hal⟩ := hrel
    have HQ := hid hq
    clear hq
    by_cases hlt : k < s.size
    · skip
      cases h32 : ((s[k].toNat : Int) == 32)
      · skip
        cases h9 : ((s[k].toNat : Int) == 9)
        · skip
          cases h13 : ((s[k].toNat : Int) == 13)
          · skip
            cases h10 : ((s[k].toNat : Int) == 10)
            · skip
              have HB : Hid (Lx.blank s[k] = false) := by
                have e1 : s[k] ≠ 32 := by intro h; rw [h] at h32; simp at h32
                have e2 : s[k] ≠ 9 := by intro h; rw [h] at h9; simp at h9
                have e3 : s[k] ≠ 13 := by intro h; rw [h] at h13; simp at h13
                have e4 : s[k] ≠ 10 := by intro h; rw [h] at h10; simp at h10
                show Lx.blank s[k] = false
                simp [Lx.blank, e1, e2, e3, e4]
              cases h35 : ((s[k].toNat : Int) == 35)
              · have HK : Hid (Lx.skip s k = k) := Lx.skip_stop s k hlt HB.out (by intro h; rw [h] at h35; simp at h35)
                have hf2 : s.size ≤ k + f := by have h := hf; rw [HK.out] at h; exact h
                clear hf
                by_cases he : (Lx.tokOut s k).err = 0
                · have hen : ((Lx.tokOut s k).err != 0) = false := by rw [he]; rfl
                  have hto := Lx.tok_ok s k hlt he
                  have HO : Hid (∃ f', f = f' + 1 ∧ Lx.scanF s f' (Lx.skip s (k + (Lx.tokOut s k).text.size)) (acc ++ [Lx.tokOut s k]) = Lx.scan s) := by
                    obtain ⟨f', rfl⟩ : ∃ f', f = f' + 1 := ⟨f - 1, by omega⟩
                    refine ⟨f', rfl, ?_⟩
                    rw [← HQ.out, HK.out, Lx.scanF, if_pos hlt, if_pos he]
                  have HE := hid he
                  clear he
                  go_wp2_with (first
                    | (go_at_call 24; refine (one_any s k _ hs hlt).mono ?_; rintro e w1 ⟨rfl, hb1⟩)
                    | (at_builtin; refine wpList_append_own _ rfl _ _ 23 rfl w.heap.size 33 i0 (.agg #[.int .i64 0, .string ⟨#[]⟩, .int .i64 0, .int .i64 0]) 4 40 Tryd.underlying23 hi hz0 hz1 hz2 rfl (by decide) _ _ _ rfl (((owns_below hown hb1).alloc _).alloc _) ⟨w1.heap.size + 1, 0, none⟩ 1 1 (Lx.cells1 (Lx.tokOut s k)) rfl rfl ?c1 ?c2 ?c3 ?c4 ?c5 ?_))
                  case c1 => exact fun j u h => news4 _ _ _ _ _ _ _ j u h
                  case c2 => exact one4 _
                  case c3 => unfold maxLen; omega
                  case c4 => omega
                  case c5 => have := hnx.size; have := hb1.size; simp; omega
                  intro v' w2 hown' hgrow _
                  have hsw := hnx.size
                  have hcell := grown_cell hown hb1 hgrow
                  have hbw := grown_below hown hnx hsw hb1 hgrow
                  have hsg := Lx.le_skip s (k + (Lx.tokOut s k).text.size)
                  clear hgrow hown hb1 hnx
                  go_wp2
                  go_roundw
                  case rel =>
                    obtain ⟨f', hf', hO⟩ := HO.out
                    exact ⟨k + (Lx.tokOut s k).text.size, acc ++ [Lx.tokOut s k], f', by omega, by go_num, by rw [Lx.cellsOf_snoc, List.length_append]; exact hown', hbw, hO, by omega, by rw [List.length_append]; simp; omega⟩
                  case measure => simp [intOf]; omega
                · have hen : ((Lx.tokOut s k).err != 0) = true := by rw [bne_iff_ne]; exact he
                  have HO : Hid (Lx.scan s = .fail (Lx.tokOut s k).err k) := by
                    show Lx.scan s = .fail (Lx.tokOut s k).err k
                    obtain ⟨f', rfl⟩ : ∃ f', f = f' + 1 := ⟨f - 1, by omega⟩
                    rw [← HQ.out, HK.out, Lx.scanF, if_pos hlt, if_neg he]
                  clear he
                  go_wp2_with (go_at_call 24; refine (one_any s k _ hs hlt).mono ?_; rintro e w1 ⟨rfl, hb1⟩)
                  go_ret3
                  obtain ⟨r1, r2, r3⟩ := Lx.of_fail s _ _ HO.out
                  rw [r1, r2, r3]
                  have hsw := hnx.size
                  have hsz := hb1.size
                  exact ⟨_, rfl, World.ownsRow_nil _ _ _ _, (hnx.trans (hb1.mono hsw)).alloc (by omega) _⟩
              · have HN : Hid (s[k] = 35) := u8_eq _ 35 (eq_of_beq h35)
                have HK := hid (Lx.skip_note s k hlt HN.out)
                have hse : k < Lx.spanEnd Lx.noLf s k := by
                  have h1 := Lx.spanEnd_step Lx.noLf s k hlt (by rw [HN.out]; decide)
                  have h2 := Lx.le_spanEnd Lx.noLf s (k + 1)
                  omega
                have hle := Lx.spanEnd_le Lx.noLf s k (by omega)
                go_wp2
                go_loop [6] (fun i => ∃ j : Nat, k ≤ j ∧ j ≤ s.size ∧ i = .int .i64 j ∧ Lx.spanEnd Lx.noLf s j = Lx.spanEnd Lx.noLf s k) (fun i => s.size - (intOf i).toNat)
                case atStart => exact ⟨k, by omega, by omega, rfl, rfl⟩
                case round =>
                  obtain ⟨j, hkj, hj, rfl, hq2⟩ := hrel
                  have HQ2 := hid hq2
                  clear hq2
                  by_cases hjl : j < s.size
                  · cases hd : Lx.noLf s[j]
                    · have h10b : s[j] = 10 := by simpa [Lx.noLf] using hd
                      have hb : ((s[j].toNat : Int) != 10) = false := by rw [h10b]; decide
                      have HJ : Hid (j = Lx.spanEnd Lx.noLf s k) := by show _ = _; rw [← HQ2.out, Lx.spanEnd_stop _ _ _ hjl hd]
                      clear hd h10b
                      go_wp2
                      go_roundw
                      case rel => exact ⟨j, acc, f, by omega, rfl, hown, hnx, by rw [HJ.out, HK.out]; exact HQ.out, by rw [HJ.out, HK.out]; exact hf, by omega⟩
                      case measure => have := HJ.out; simp [intOf]; omega
                    · have h10b : s[j] ≠ 10 := by simpa [Lx.noLf] using hd
                      have hb : ((s[j].toNat : Int) != 10) = true := by rw [bne_iff_ne]; intro h; apply h10b; exact u8_eq _ 10 h
                      have HD := hid hd
                      clear hd h10b
                      go_wp2
                      go_round
                      case rel => exact ⟨j + 1, by omega, by omega, by go_num, by rw [Lx.spanEnd_step _ _ _ hjl HD.out]; exact HQ2.out⟩
                      case measure => simp [intOf]; omega
                  · have HJ : Hid (j = Lx.spanEnd Lx.noLf s k) := by show _ = _; rw [← HQ2.out, Lx.spanEnd_over _ _ _ (by omega)]
                    go_wp2
                    go_roundw
                    case rel => exact ⟨j, acc, f, by omega, rfl, hown, hnx, by rw [HJ.out, HK.out]; exact HQ.out, by rw [HJ.out, HK.out]; exact hf, by omega⟩
                    case measure => have := HJ.out; simp [intOf]; omega
            · skip
              have HN : Hid (Lx.blank s[k] = true) := by
                have : s[k] = 10 := u8_eq _ 10 (eq_of_beq h10)
                show Lx.blank s[k] = true
                simp [Lx.blank, this]
              have HK := hid (Lx.skip_blank s k hlt HN.out)
              go_wp2
              go_roundw
              case rel => exact ⟨k + 1, acc, f, by omega, by go_num, hown, hnx, by rw [HK.out]; exact HQ.out, by rw [HK.out]; exact hf, by omega⟩
              case measure => simp [intOf]; omega
          · skip
            have HN : Hid (Lx.blank s[k] = true) := by
              have : s[k] = 13 := u8_eq _ 13 (eq_of_beq h13)
              show Lx.blank s[k] = true
              simp [Lx.blank, this]
            have HK := hid (Lx.skip_blank s k hlt HN.out)
            go_wp2
            go_roundw
            case rel => exact ⟨k + 1, acc, f, by omega, by go_num, hown, hnx, by rw [HK.out]; exact HQ.out, by rw [HK.out]; exact hf, by omega⟩
            case measure => simp [intOf]; omega
        · skip
          have HN : Hid (Lx.blank s[k] = true) := by
            have : s[k] = 9 := u8_eq _ 9 (eq_of_beq h9)
            show Lx.blank s[k] = true
            simp [Lx.blank, this]
          have HK := hid (Lx.skip_blank s k hlt HN.out)
          go_wp2
          go_roundw
          case rel => exact ⟨k + 1, acc, f, by omega, by go_num, hown, hnx, by rw [HK.out]; exact HQ.out, by rw [HK.out]; exact hf, by omega⟩
          case measure => simp [intOf]; omega
      · skip
        have HN : Hid (Lx.blank s[k] = true) := by
          have : s[k] = 32 := u8_eq _ 32 (eq_of_beq h32)
          show Lx.blank s[k] = true
          simp [Lx.blank, this]
        have HK := hid (Lx.skip_blank s k hlt HN.out)
        go_wp2
        go_roundw
        case rel => exact ⟨k + 1, acc, f, by omega, by go_num, hown, hnx, by rw [HK.out]; exact HQ.out, by rw [HK.out]; exact hf, by omega⟩
        case measure => simp [intOf]; omega
    · have HO : Hid (Lx.scan s = .done acc) := by
        show Lx.scan s = .done acc
        rw [← HQ.out, Lx.skip_over s k (by omega), Lx.scanF_over s f k acc hlt]
      go_wp2_with (at_builtin; refine wpList_append_own _ rfl _ _ 23 rfl w.heap.size 33 i0 (.agg #[.int .i64 0, .string ⟨#[]⟩, .int .i64 0, .int .i64 0]) 4 40 Tryd.underlying23 hi hz0 hz1 hz2 rfl (by decide) _ _ _ rfl (hown.alloc _) ⟨wr.heap.size, 0, none⟩ 1 1 (Lx.cells1 (Lx.endTok s)) rfl rfl ?d1 ?d2 ?d3 ?d4 ?d5 ?_)
      case d1 => exact fun j u h => news3 _ _ _ _ _ _ j u h
      case d2 => exact one4 _
      case d3 => unfold maxLen; omega
      case d4 => omega
      case d5 => have := hnx.size; simp; omega
      intro v' w2 hown' hgrow _
      have hbw : Below w.heap.size w w2 := (hnx.alloc hnx.size _).grown hgrow (by have := hnx.size; simp; omega) (fun k hk => (hown.lt k hk).1)
      clear hgrow
      go_wp2
      go_ret3
      obtain ⟨r1, r2, r3⟩ := Lx.of_done s _ HO.out
      rw [r1, r2, r3, Lx.cellsOf_snoc, List.length_append]
      exact ⟨v', rfl, hown', hbw⟩
end Go.Proofs.YtpebddinnnmdaaaDoor
