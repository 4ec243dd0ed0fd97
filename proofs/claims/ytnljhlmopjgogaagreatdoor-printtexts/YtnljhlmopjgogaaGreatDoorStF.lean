/-
  monitor and program of package print lay monitors, roles, programs.
-/
import Derived.Test.YtnljhlmopjgogaaGreatDoorStE
namespace Go.Proofs.YtnljhlmopjgogaaGreatDoor
open Go.RowKit Px
/-- A monitor that can be laid. -/
structure Mo.fine (n₀ : Nat) (W : World) (mo : Mo) : Prop where
  is : mo.Is n₀ W
  name : Lx.name mo.name = true
  vars : mo.vars.length ≤ 16
  meths : mo.meths.length ≤ 16
  vok : ∀ v ∈ mo.vars, v.ok = true
  mok : ∀ x ∈ mo.meths, x.fine n₀ W
theorem Mo.fine.below {n₀ : Nat} {W W' : World} {mo : Mo} (h : mo.fine n₀ W) (hb : Below n₀ W W') : mo.fine n₀ W' := ⟨h.is.below hb, h.name, h.vars, h.meths, h.vok, fun x hx => (h.mok x hx).below hb⟩
theorem moIn_len {n₀ : Nat} {W : World} {mo : Mo} (h : mo.fine n₀ W) (o : Nat) (ho : o ≤ 10) : (moIn o mo).length ≤ 490000000 := by
  have h1 := flat_take_len (vaT o) mo.vars mo.vars.length 3000 (fun v hv' => vaT_len o v (h.is.2.1.2 v hv') (h.vok v hv') (by omega))
  have h2 := flat_take_len (meT o) mo.meths mo.meths.length 30000000 (fun x hx => meT_len n₀ W o x (h.mok x hx) ho)
  rw [List.take_length] at h1 h2
  have := h.vars; have := h.meths
  unfold moIn
  rw [List.length_append]; omega
theorem moT_len {n₀ : Nat} {W : World} {mo : Mo} (h : mo.fine n₀ W) (o : Nat) (ho : o ≤ 9) : (moT o mo).length ≤ 500000000 := by
  have h1 := moIn_len h (o + 1) (by omega)
  have h2 := name_len h.name
  unfold moT
  simp only [List.length_append, List.length_cons, List.length_nil, ind_len]; omega
set_option maxRecDepth 100000 in
set_option maxHeartbeats 1000000 in
theorem body78 (mo : Mo) (n₀ b m o Bm Bs : Nat) (t : List UInt8) (w : World) (hn : n₀ ≤ b) (hf : mo.fine n₀ w) (hs : Sh b m o t w) (hA : Box1 w Bs (.pointer (some ⟨b, 0, none⟩)) 82) (hB : w.heap[Bm]? = some (.cells mo.cells.toArray 39 (0, 0))) (hAb : Bs ≠ b) (hBb : Bm ≠ b) (ho : o ≤ 9) (hl : t.length ≤ 90000000000) :
    Calls Tryz.prog 57 #[.pointer (some ⟨b, 0, none⟩), .func (.func 58) #[] #[.pointer (some ⟨Bm, 0, none⟩), .pointer (some ⟨Bs, 0, none⟩)]] w fun r w' => r = .returned (.tuple #[]) ∧ Sh b m o (t ++ ([32, 123, 10] ++ (moIn (o + 1) mo ++ (ind o ++ [125])))) w' ∧ Kept b w w' := by
  have hlx := moIn_len hf (o + 1) (by omega)
  have h1 := end_any ⟨#[32, 123]⟩ b m o t w hs (by show _ + 2 + 1 ≤ _; omega)
  have h2 : ∀ W, Sh b m (o + 1) (t ++ [32, 123, 10]) W → Kept b w W → Calls Tryz.prog 58 #[.pointer (some ⟨Bm, 0, none⟩), .pointer (some ⟨Bs, 0, none⟩)] W fun r w' => r = .returned (.tuple #[]) ∧ Sh b m (o + 1) (t ++ [32, 123, 10] ++ moIn (o + 1) mo) w' ∧ Kept b W w' := fun W h k => by
    have hf' := hf.below (k.1.mono hn)
    exact closure78 mo n₀ b m (o + 1) Bm Bs _ W hn hf'.is h (k.box hA hAb (by decide)) (k.box hB hBb (by decide)) hAb hBb hf'.vars hf'.meths hf'.vok hf'.mok (by omega) (by simp; omega)
  have h3 : ∀ W, Sh b m o (t ++ [32, 123, 10] ++ moIn (o + 1) mo) W → Calls Tryz.prog 36 #[.pointer (some ⟨b, 0, none⟩), .slice (some ⟨W.heap.size, 0, none⟩) 1 1] (W.alloc (.cells #[.string ⟨#[125]⟩] 9)) fun e w' => e = .returned (.tuple #[]) ∧ Sh b m o (t ++ [32, 123, 10] ++ moIn (o + 1) mo ++ (ind o ++ [125])) w' ∧ Kept b W w' := fun W h => by
    have := begin_new [⟨#[125]⟩] b m o _ W h (by simp) (by omega) (by simp [cat]; omega)
    simpa [cat] using this
  have hcast : ((o + 1 : Nat) : Int) = (o : Int) + 1 := by omega
  obtain ⟨mx, hmx⟩ : ∃ mx, moIn (o + 1) mo = mx := ⟨_, rfl⟩
  simp only [hmx] at h2 h3
  rw [hmx]
  clear hmx hlx
  go_enter Tryz.func57, Tryz.ntmps57
  go_wp2_with (go_at_call 60; (with_reducible refine h1.mono ?_); rintro r w1 ⟨rfl, s1, k1⟩; have c3 : w1.cell? ⟨b, 3, none⟩ = some (.int .i64 (o : Int)) ∧ w1.frozen? ⟨b, 3, none⟩ = false := (by obtain ⟨c, _, h⟩ := s1.sheet; exact h.cells.2); obtain ⟨c3, f3⟩ := c3)
  have s2 : Sh b m (o + 1) (t ++ [32, 123, 10]) (w1.setCell ⟨b, 3, none⟩ (.int .i64 ((o : Int) + 1))) := by
    have := s1.put (o + 1)
    rw [hcast] at this
    simpa using this
  have k2 := k1.put (.int .i64 ((o : Int) + 1))
  go_wp2_with (go_at_call 58; (with_reducible refine (h2 _ s2 k2).mono ?_); rintro r w3 ⟨rfl, s3, k3⟩; have c4 : w3.cell? ⟨b, 3, none⟩ = some (.int .i64 ((o : Int) + 1)) ∧ w3.frozen? ⟨b, 3, none⟩ = false := (by obtain ⟨c, _, h⟩ := s3.sheet; rw [← hcast]; exact h.cells.2); obtain ⟨c4, f4⟩ := c4; have s4 := s3.put o; have k4 := (k2.trans k3).put (.int .i64 (o : Int)); have h4 := h3 _ s4; rw [show (w3.setCell ⟨b, 3, none⟩ (.int .i64 (o : Int))).heap.size = w3.heap.size by simp [World.setCell]] at h4)
  go_wp2_with (go_at_call 36; (with_reducible refine h4.mono ?_); rintro r w5 ⟨rfl, s5, k5⟩)
  go_end0
  exact ⟨rfl, by simpa using s5, k4.trans k5⟩
set_option maxRecDepth 100000 in
set_option maxHeartbeats 1000000 in
theorem monitor_any (mo : Mo) (n₀ b m o : Nat) (t : List UInt8) (w : World) (hn : n₀ ≤ b) (hf : mo.fine n₀ w) (hs : Sh b m o t w) (ho : o ≤ 9) (hl : t.length ≤ 80000000000) :
    Calls Tryz.prog 34 #[.pointer (some ⟨b, 0, none⟩), mo.val] w fun r w' => r = .returned (.tuple #[]) ∧ Sh b m o (t ++ moT o mo) w' ∧ Kept b w w' := by
  have hbl := hs.bl
  have hnm := name_len hf.name
  have hlx := moIn_len hf (o + 1) (by omega)
  have HT : Hid (moT o mo = ind o ++ ([109, 111, 110, 105, 116, 111, 114, 32] ++ mo.name.data.toList) ++ ([32, 123, 10] ++ (moIn (o + 1) mo ++ (ind o ++ [125]))) ++ [10]) := rfl
  have hbody : ∀ t' W Bm Bs, Sh b m o t' W → Kept b w W → Box1 W Bs (.pointer (some ⟨b, 0, none⟩)) 82 → W.heap[Bm]? = some (.cells mo.cells.toArray 39 (0, 0)) → Bs ≠ b → Bm ≠ b → t'.length ≤ 90000000000 → Calls Tryz.prog 57 #[.pointer (some ⟨b, 0, none⟩), .func (.func 58) #[] #[.pointer (some ⟨Bm, 0, none⟩), .pointer (some ⟨Bs, 0, none⟩)]] W fun r w' => r = .returned (.tuple #[]) ∧ Sh b m o (t' ++ ([32, 123, 10] ++ (moIn (o + 1) mo ++ (ind o ++ [125])))) w' ∧ Kept b W w' := fun t' W Bm Bs h1 h2 h3 h4 h5 h6 h7 =>
    body78 mo n₀ b m o Bm Bs t' W hn (hf.below (h2.1.mono hn)) h1 h3 h4 h5 h6 ho h7
  obtain ⟨mx, hmx⟩ : ∃ mx, [32, 123, 10] ++ (moIn (o + 1) mo ++ (ind o ++ [125])) = mx := ⟨_, rfl⟩
  have hmxl : mx.length ≤ 500000000 := by rw [← hmx]; simp only [List.length_append, List.length_cons, List.length_nil, ind_len]; omega
  rw [hmx] at HT
  simp only [hmx] at hbody
  obtain ⟨res, hres⟩ : ∃ res, moT o mo = res := ⟨_, rfl⟩
  rw [hres] at HT ⊢
  clear hmx hres hlx
  rcases mo with ⟨mname, vad, vcap, vars, tad, tcap, meths, pos⟩
  simp only [Mo.val, Mo.cells] at hbody HT hnm ⊢
  have hK1 : Kept b w ((w.alloc (.cells #[.pointer (some ⟨b, 0, none⟩)] 82)).alloc (.cells #[.string mname, .slice vad vars.length vcap, .slice tad meths.length tcap, .int .i64 pos] 39)) := ((Kept.refl b w).al (by omega) _).al (by omega) _
  have hs1 := (hs.al (.cells #[.pointer (some ⟨b, 0, none⟩)] 82)).al (.cells #[.string mname, .slice vad vars.length vcap, .slice tad meths.length tcap, .int .i64 pos] 39)
  have hA1 : Box1 ((w.alloc (.cells #[.pointer (some ⟨b, 0, none⟩)] 82)).alloc (.cells #[.string mname, .slice vad vars.length vcap, .slice tad meths.length tcap, .int .i64 pos] 39)) w.heap.size (.pointer (some ⟨b, 0, none⟩)) 82 := (Below.heap_alloc _ _ _ (by simp)).trans (heap_alloc_new w _)
  have hB1 : ((w.alloc (.cells #[.pointer (some ⟨b, 0, none⟩)] 82)).alloc (.cells #[.string mname, .slice vad vars.length vcap, .slice tad meths.length tcap, .int .i64 pos] 39)).heap[w.heap.size + 1]? = some (.cells #[.string mname, .slice vad vars.length vcap, .slice tad meths.length tcap, .int .i64 pos] 39 (0, 0)) := by
    have := heap_alloc_new (w.alloc (.cells #[.pointer (some ⟨b, 0, none⟩)] 82)) (.cells #[.string mname, .slice vad vars.length vcap, .slice tad meths.length tcap, .int .i64 pos] 39)
    rwa [World.size_alloc] at this
  have hne : w.heap.size ≠ b := by omega
  have hne1 : w.heap.size + 1 ≠ b := by omega
  go_enter Tryz.func34, Tryz.ntmps34
  go_upto_region 1 with fail
  obtain ⟨W0, hW0⟩ : ∃ W0, (w.alloc (.cells #[.pointer (some ⟨b, 0, none⟩)] 82)).alloc (.cells #[.string mname, .slice vad vars.length vcap, .slice tad meths.length tcap, .int .i64 pos] 39) = W0 := ⟨_, rfl⟩
  rw [hW0] at hK1 hs1 hA1 hB1 ⊢
  clear hW0
  have cA := hA1.cell
  have cB : W0.cell? ⟨w.heap.size + 1, 0, none⟩ = some (.string mname) := cell_of' hB1 0
  have hbeg := begin_new [⟨#[109, 111, 110, 105, 116, 111, 114, 32]⟩, mname] b m o t W0 hs1 (by simp) (by omega) (by simp only [cat, List.flatMap_cons, List.flatMap_nil, List.append_nil, List.length_append, List.length_cons, List.length_nil]; omega)
  simp only [List.map_cons, List.map_nil, List.length_cons, List.length_nil, Nat.zero_add, Nat.reduceAdd, cat, List.flatMap_cons, List.flatMap_nil, List.append_nil] at hbeg
  have hend : ∀ (t' : List UInt8) W, Sh b m o t' W → t'.length ≤ 99000000000 → Calls Tryz.prog 60 #[.pointer (some ⟨b, 0, none⟩), .string ⟨#[]⟩] W fun e w' => e = .returned (.tuple #[]) ∧ Sh b m o (t' ++ [10]) w' ∧ Kept b W w' := fun t' W h h2 =>
    end_any ⟨#[]⟩ b m o t' W h (by show _ + 0 + 1 ≤ _; omega)
  go_wp2_with (first
    | (go_at_call 36; (with_reducible refine hbeg.mono ?_); rintro r w2 ⟨rfl, s2, k2⟩; have hA2 : Box1 w2 w.heap.size (.pointer (some ⟨b, 0, none⟩)) 82 := k2.box hA1 hne (by decide); have cA2 := hA2.cell; have hB2 := k2.box hB1 hne1 (by decide); have hb2 := hbody _ w2 (w.heap.size + 1) w.heap.size s2 (hK1.trans k2) hA2 hB2 hne hne1 (by simp only [List.length_append, List.length_cons, List.length_nil, ind_len]; omega))
    | (go_at_call 57; (with_reducible refine hb2.mono ?_); rintro r w3 ⟨rfl, s3, k3⟩; have hA3 : Box1 w3 w.heap.size (.pointer (some ⟨b, 0, none⟩)) 82 := k3.box hA2 hne (by decide); have cA3 := hA3.cell; have he3 := hend _ w3 s3 (by simp only [List.length_append, List.length_cons, List.length_nil, ind_len]; omega))
    | (go_at_call 60; (with_reducible refine he3.mono ?_); rintro r w4 ⟨rfl, s4, k4⟩))
  go_end0
  refine ⟨rfl, ?_, ((hK1.trans k2).trans k3).trans k4⟩
  rw [HT.out]
  simpa using s4
end Go.Proofs.YtnljhlmopjgogaaGreatDoor
