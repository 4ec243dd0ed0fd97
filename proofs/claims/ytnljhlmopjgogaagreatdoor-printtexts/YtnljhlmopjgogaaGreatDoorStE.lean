/-
  monitor of package print lays a monitor.
-/
import Derived.Test.YtnljhlmopjgogaaGreatDoorStD
namespace Go.Proofs.YtnljhlmopjgogaaGreatDoor
open Go.RowKit Px
namespace Px
/-- A method's lines. -/
def meT (o : Nat) (x : Me) : List UInt8 := ind o ++ ([109, 101, 116, 104, 111, 100, 32] ++ x.name.data.toList) ++ (blksT o [] [x.body.txt (o + 1)] 0 ++ [10])
/-- What is in a monitor. -/
def moIn (o : Nat) (m : Mo) : List UInt8 := m.vars.flatMap (vaT o) ++ m.meths.flatMap (meT o)
/-- A monitor's lines. -/
def moT (o : Nat) (m : Mo) : List UInt8 := ind o ++ ([109, 111, 110, 105, 116, 111, 114, 32] ++ m.name.data.toList) ++ ([32, 123, 10] ++ (moIn (o + 1) m ++ (ind o ++ [125]))) ++ [10]
end Px
/-- A method that can be laid. -/
def Me.fine (n₀ : Nat) (W : World) (x : Me) : Prop := x.Is n₀ W ∧ Lx.name x.name = true ∧ x.body.okb ∧ x.body.sz ≤ 900
theorem Me.fine.below {n₀ : Nat} {W W' : World} {x : Me} (h : x.fine n₀ W) (hb : Below n₀ W W') : x.fine n₀ W' := ⟨h.1.below hb, h.2⟩
theorem meT_len (n₀ : Nat) (W : World) (o : Nat) (x : Me) (h : x.fine n₀ W) (ho : o ≤ 10) : (meT o x).length ≤ 30000000 := by
  have h1 := bltxt_len n₀ W x.body h.1.2.2 h.2.2.1 (o + 1) (by have := h.2.2.2; omega)
  have h2 := blksT_len o [] [x.body.txt (o + 1)] 0
  have h3 := name_len h.2.1
  have h4 := h.2.2.2
  unfold meT
  simp only [List.length_append, List.length_cons, List.length_nil, ind_len]
  simp only [List.map_cons, List.map_nil, List.sum_cons, List.sum_nil, List.length_cons, List.length_nil] at h2
  omega
theorem flat_take_len {α : Type} (f : α → List UInt8) (l : List α) (k c : Nat) (h : ∀ a ∈ l, (f a).length ≤ c) : ((l.take k).flatMap f).length ≤ l.length * c := by
  rw [flat_len]
  have h1 : ((l.take k).map fun a => (f a).length).sum ≤ ((l.take k).map fun _ => c).sum := map_sum_le _ _ _ (fun a ha => h a (List.mem_of_mem_take ha))
  have h2' : ∀ l' : List α, (l'.map fun _ => c).sum = l'.length * c := by
    intro l'
    induction l' with
    | nil => simp
    | cons a l' ih => simp only [List.map_cons, List.sum_cons, List.length_cons, ih, Nat.add_mul, Nat.one_mul]; omega
  have h2 := h2' (l.take k)
  have h3 : (l.take k).length ≤ l.length := by rw [List.length_take]; omega
  have h4 := Nat.mul_le_mul_right c h3
  omega
/-- A block that was just put into a slice is laid in braces. -/
theorem blocks_new (x : Bl) (hok : x.okb) (n₀ b m o : Nat) (t : List UInt8) (w : World) (hn : n₀ ≤ b) (hI : x.Is n₀ w) (hs : Sh b m o t w) (ho : o + 1 + x.sz ≤ 1000) (hl : t.length + 100000 * x.sz + 60000 ≤ 999999999999) :
    Calls Tryz.prog 37 #[.pointer (some ⟨b, 0, none⟩), .string ⟨#[]⟩, .slice (some ⟨w.heap.size, 0, none⟩) 1 1] (w.alloc (.cells #[x.slice] 42)) fun r w' => r = .returned (.tuple #[]) ∧ Sh b m o (t ++ (blksT o [] [x.txt (o + 1)] 0 ++ [10])) w' ∧ Kept b w w' := by
  have hbl := hs.bl
  have hK0 : Kept b w (w.alloc (.cells #[x.slice] 42)) := (Kept.refl b w).al (by omega) _
  have h0 : Box1 (w.alloc (.cells #[x.slice] 42)) w.heap.size x.slice 42 := heap_alloc_new w _
  refine (blocks_any [x] ⟨#[]⟩ (fun y hy => by rw [List.mem_singleton.1 hy]; exact block_any x hok) (fun y hy => by rw [List.mem_singleton.1 hy]; exact hok) n₀ b m o w.heap.size 0 1 t (w.alloc (.cells #[x.slice] 42)) hn (fun y hy => by rw [List.mem_singleton.1 hy]; exact hI.below (hK0.1.mono hn)) (hs.al _)
    (fun W hW j hj => ?_) (by simp) (by simp) (by omega) (by simp) (by simpa using ho) (by simpa using hl)).mono ?_
  · have hj0 : j = 0 := by simp at hj; omega
    subst hj0
    exact (show Box1 W w.heap.size x.slice 42 from hW.box h0 (by omega) (by decide)).cell
  · rintro r w' ⟨rfl, h1, h2⟩
    exact ⟨rfl, h1, hK0.trans h2⟩
set_option maxRecDepth 100000 in
set_option maxHeartbeats 1000000 in
theorem closure78 (mo : Mo) (n₀ b m o Bm Bs : Nat) (t : List UInt8) (w : World) (hn : n₀ ≤ b) (hI : mo.Is n₀ w) (hs : Sh b m o t w) (hA : Box1 w Bs (.pointer (some ⟨b, 0, none⟩)) 82) (hB : w.heap[Bm]? = some (.cells mo.cells.toArray 39 (0, 0))) (hAb : Bs ≠ b) (hBb : Bm ≠ b)
    (hv : mo.vars.length ≤ 16) (hm : mo.meths.length ≤ 16) (hvok : ∀ v ∈ mo.vars, v.ok = true) (hmok : ∀ x ∈ mo.meths, x.fine n₀ w) (ho : o ≤ 10) (hl : t.length ≤ 100000000000) :
    Calls Tryz.prog 58 #[.pointer (some ⟨Bm, 0, none⟩), .pointer (some ⟨Bs, 0, none⟩)] w fun r w' => r = .returned (.tuple #[]) ∧ Sh b m o (t ++ moIn o mo) w' ∧ Kept b w w' := by
  rcases mo with ⟨mname, vad, vcap, vars, tad, tcap, meths, pos⟩
  have HT : Hid (moIn o (Mo.mk mname vad vcap vars tad tcap meths pos) = vars.flatMap (vaT o) ++ meths.flatMap (meT o)) := rfl
  have hsv := hI.2.1.1
  have hst := hI.2.2.1
  have hIv := hI.2.1.2
  have hl1 := hsv.1; have hl2 := hsv.2.1; have hl3 := hst.1; have hl4 := hst.2.1
  unfold maxLen at hl2 hl4
  simp only at hl1 hl2 hl3 hl4 hv hm hvok hmok hIv
  simp only [Mo.cells] at hB
  have m1 : w.cell? ⟨Bm, 1, none⟩ = some (.slice vad vars.length vcap) := cell_of' hB 1
  have hbl := hs.bl
  have hvl : ∀ k, ((vars.take k).flatMap (vaT o)).length ≤ 48000 := fun k => by
    have h1 := flat_take_len (vaT o) vars k 3000 (fun v hv' => vaT_len o v (hIv v hv') (hvok v hv') (by omega))
    omega
  have hml : ∀ k, ((meths.take k).flatMap (meT o)).length ≤ 480000000 := fun k => by
    have h1 := flat_take_len (meT o) meths k 30000000 (fun x hx => meT_len n₀ w o x (hmok x hx) ho)
    omega
  go_enter Tryz.func58, Tryz.ntmps58
  go_wp2
  go_loopw [9] (fun i wr => ∃ k : Nat, k ≤ vars.length ∧ i = .int .i64 (k : Int) ∧ Sh b m o (t ++ (vars.take k).flatMap (vaT o)) wr ∧ Kept b w wr) (fun i _ => vars.length - (intOf i).toNat)
  case atStart => exact ⟨0, by omega, rfl, by simpa using hs, Kept.refl _ _⟩
  case round =>
    obtain ⟨k, hk, rfl, hS, hK⟩ := hrel
    have hbr := hS.bl
    have hAr : Box1 wr Bs (.pointer (some ⟨b, 0, none⟩)) 82 := hK.box hA hAb (by decide)
    have cA := hAr.cell
    by_cases hlt : k < vars.length
    · rcases hsv.2.2 with h | ⟨g, off, rfl, hg, hrow⟩
      · subst h; simp at hlt
      have hr := hrow.below (hK.1.mono hn) hg
      have hgl : g < wr.heap.size := by omega
      have HSN := hid (flatMap_snoc (vaT o) vars k hlt)
      have htk := hvl k
      have hq := fun W (h1 : Sh b m o (t ++ (vars.take k).flatMap (vaT o)) W) => variable_any vars[k] b m o _ W (hIv _ (List.getElem_mem hlt)) (hvok _ (List.getElem_mem hlt)) h1 (by omega) (by rw [List.length_append]; omega)
      obtain ⟨tk, htk2⟩ : ∃ tk, t ++ (vars.take k).flatMap (vaT o) = tk := ⟨_, rfl⟩
      rw [htk2] at hS
      simp only [htk2] at hq
      have HTK := hid htk2
      clear htk2
      obtain ⟨sx, hsx⟩ : ∃ sx, vaT o vars[k] = sx := ⟨_, rfl⟩
      simp only [hsx] at hq HSN
      clear hsx
      rcases he' : vars[k] with ⟨name, type, lo, hi, init, vpos⟩
      obtain ⟨c0, c1, c2, c3, c4, c5⟩ := row6 hr k hlt (by rw [he']; rfl)
      simp only [he', Va.val, Va.cells] at hq
      have hs1 := hS.al (.cells #[.string name, .int .i64 type, .int .i64 lo, .int .i64 hi, .int .i64 init, .int .i64 vpos] 41)
      have hK1 : Kept b wr (wr.alloc (.cells #[.string name, .int .i64 type, .int .i64 lo, .int .i64 hi, .int .i64 init, .int .i64 vpos] 41)) := (Kept.refl b wr).al (by omega) _
      have cA1 := (show Box1 _ Bs (.pointer (some ⟨b, 0, none⟩)) 82 from hK1.box hAr hAb (by decide)).cell
      have hq1 := hq _ hs1
      clear he' hq
      go_wp2_with (go_at_call 59; (with_reducible refine hq1.mono ?_); rintro r w2 ⟨rfl, s2, k2⟩)
      go_roundw
      case rel =>
        refine ⟨k + 1, by omega, by go_num, ?_, (hK.trans hK1).trans k2⟩
        rw [HSN.out, ← List.append_assoc, HTK.out]
        exact s2
      case measure => simp [intOf]; omega
    · have hkb : k = vars.length := by omega
      have hkd : decide ((k : Int) < (vars.length : Int)) = false := by simp; omega
      rw [hkb, List.take_length] at hS
      have hvt : (vars.flatMap (vaT o)).length ≤ 48000 := by have := hvl vars.length; rwa [List.take_length] at this
      clear hkb
      obtain ⟨wo, hwo⟩ : ∃ wo : World, wo = wr := ⟨_, rfl⟩
      subst hwo
      have m2 : wo.cell? ⟨Bm, 2, none⟩ = some (.slice tad meths.length tcap) := cell_of' (hK.box hB hBb (by decide)) 2
      obtain ⟨tv, htv⟩ : ∃ tv, t ++ vars.flatMap (vaT o) = tv := ⟨_, rfl⟩
      have htvl : tv.length ≤ t.length + 48000 := by rw [← htv, List.length_append]; omega
      rw [htv] at hS
      have HTV := hid htv
      clear htv
      go_wp2
      go_loopw [20] (fun i wr => ∃ j : Nat, j ≤ meths.length ∧ i = .int .i64 (j : Int) ∧ Sh b m o (tv ++ (meths.take j).flatMap (meT o)) wr ∧ Kept b w wr) (fun i _ => meths.length - (intOf i).toNat)
      case atStart => exact ⟨0, by omega, rfl, by simpa using hS, hK⟩
      case round =>
        obtain ⟨j, hj, rfl, hS2, hK2⟩ := hrel
        have hbr2 := hS2.bl
        have hAr2 : Box1 wr Bs (.pointer (some ⟨b, 0, none⟩)) 82 := hK2.box hA hAb (by decide)
        have cA2 := hAr2.cell
        by_cases hlt2 : j < meths.length
        · rcases hst.2.2 with h | ⟨g, off, rfl, hg, hrow⟩
          · subst h; simp at hlt2
          have hr := hrow.below (hK2.1.mono hn) hg
          have hgl : g < wr.heap.size := by omega
          have HSN := hid (flatMap_snoc (meT o) meths j hlt2)
          have htk := hml j
          have hxf := (hmok _ (List.getElem_mem hlt2)).below (hK2.1.mono hn)
          obtain ⟨tk, htk2⟩ : ∃ tk, tv ++ (meths.take j).flatMap (meT o) = tk := ⟨_, rfl⟩
          have htkl : tk.length ≤ t.length + 481000000 := by rw [← htk2, List.length_append]; omega
          rw [htk2] at hS2
          have HTK := hid htk2
          clear htk2 htk
          rcases he' : meths[j] with ⟨name, body, xpos⟩
          rw [he'] at hxf HSN
          have hnm := name_len hxf.2.1
          have hbs := hxf.2.2.2
          simp only at hnm hbs
          have HX : Hid (meT o (Me.mk name body xpos) = ind o ++ ([109, 101, 116, 104, 111, 100, 32] ++ name.data.toList) ++ (blksT o [] [body.txt (o + 1)] 0 ++ [10])) := rfl
          have hs1 := fun z => hS2.al z
          have hK1 : ∀ z, Kept b wr (wr.alloc z) := fun z => (Kept.refl b wr).al (by omega) z
          have hblk : ∀ W, Sh b m o (tk ++ (ind o ++ ([109, 101, 116, 104, 111, 100, 32] ++ name.data.toList))) W → Kept b wr W → Calls Tryz.prog 37 #[.pointer (some ⟨b, 0, none⟩), .string ⟨#[]⟩, .slice (some ⟨W.heap.size, 0, none⟩) 1 1] (W.alloc (.cells #[body.slice] 42)) fun r w' => r = .returned (.tuple #[]) ∧ Sh b m o (tk ++ (ind o ++ ([109, 101, 116, 104, 111, 100, 32] ++ name.data.toList)) ++ (blksT o [] [body.txt (o + 1)] 0 ++ [10])) w' ∧ Kept b W w' := fun W h1 h2 =>
            blocks_new body hxf.2.2.1 n₀ b m o _ W hn (hxf.1.2.2.below (h2.1.mono hn)) h1 (by omega) (by simp only [List.length_append, List.length_cons, List.length_nil, ind_len]; omega)
          rcases body with ⟨bad, bcap, bbody⟩
          obtain ⟨c0, c1, c2⟩ := row3 hr j hlt2 (by rw [he']; rfl)
          simp only [Bl.slice] at hblk c1
          have hbeg := begin_new [⟨#[109, 101, 116, 104, 111, 100, 32]⟩, name] b m o tk _ (hs1 (.cells #[.string name, .slice bad bbody.length bcap, .int .i64 xpos] 44)) (by simp) (by omega) (by simp only [cat, List.flatMap_cons, List.flatMap_nil, List.append_nil, List.length_append, List.length_cons, List.length_nil]; omega)
          simp only [List.map_cons, List.map_nil, List.length_cons, List.length_nil, Nat.zero_add, Nat.reduceAdd, cat, List.flatMap_cons, List.flatMap_nil, List.append_nil, World.size_alloc] at hbeg
          have hK1b := hK1 (.cells #[.string name, .slice bad bbody.length bcap, .int .i64 xpos] 44)
          have bX : (wr.alloc (.cells #[.string name, .slice bad bbody.length bcap, .int .i64 xpos] 44)).heap[wr.heap.size]? = some (.cells #[.string name, .slice bad bbody.length bcap, .int .i64 xpos] 44 (0, 0)) := heap_alloc_new wr _
          have cA3 := (show Box1 _ Bs (.pointer (some ⟨b, 0, none⟩)) 82 from hK1b.box hAr2 hAb (by decide))
          have cA4 := cA3.cell
          have hwne : wr.heap.size ≠ b := by omega
          clear he' hs1 hK1
          go_wp2_with (first
            | (go_at_call 36; (with_reducible refine hbeg.mono ?_); rintro r w2 ⟨rfl, s2, k2⟩; have cA5 := (show Box1 w2 Bs (.pointer (some ⟨b, 0, none⟩)) 82 from k2.box cA3 hAb (by decide)).cell; have bX1 := cell_of' (k2.box bX hwne (by decide)) 1; have hblk2 := hblk _ s2 (hK1b.trans k2))
            | (go_at_call 37; (with_reducible refine hblk2.mono ?_); rintro r w3 ⟨rfl, s3, k3⟩))
          go_roundw
          case rel =>
            refine ⟨j + 1, by omega, by go_num, ?_, ((hK2.trans hK1b).trans k2).trans k3⟩
            rw [HSN.out, ← List.append_assoc, HTK.out, HX.out]
            simpa using s3
          case measure => simp [intOf]; omega
        · have hjb : j = meths.length := by omega
          have hjd : decide ((j : Int) < (meths.length : Int)) = false := by simp; omega
          rw [hjb, List.take_length] at hS2
          clear hjb
          go_wp2
          go_end0
          refine ⟨rfl, ?_, hK2⟩
          rw [HT.out, ← List.append_assoc, HTV.out]
          exact hS2
end Go.Proofs.YtnljhlmopjgogaaGreatDoor
