/-
  block of package print lays the statements of every block; variable lays a variable.
-/
import Derived.Test.YtnljhlmopjgogaaGreatDoorStC
import Derived.Deep.RegionHeld3
namespace Go.Proofs.YtnljhlmopjgogaaGreatDoor
open Go.RowKit Px
set_option maxRecDepth 100000 in
set_option maxHeartbeats 1000000 in
theorem block_step (ad : Option Addr) (cap : Nat) (body : List St) (hok : (Bl.mk ad cap body).okb) (hst : ∀ s ∈ body, StmtLays s) : BlockLays (.mk ad cap body) := by
  intro n₀ b m o t w hn hI hs ho hlen
  have hsl := hI.down.1
  have hIs := hI.down.2
  have hl1 := hsl.1; have hl2 := hsl.2.1
  unfold maxLen at hl2
  have HT := hid (Bl.txt_mk ad cap body o)
  rw [Bl.sz_mk] at ho hlen
  have hbl := hs.bl
  have htl : ∀ k, ((body.take k).flatMap fun s => s.txt o).length ≤ 23000 * ((body.take k).map St.tot).sum := fun k => by
    rw [flat_len]
    have h3 : ((body.take k).map fun x => (x.txt o).length).sum ≤ ((body.take k).map fun x => 23000 * x.tot).sum := map_sum_le _ _ _ (fun x hx' => by
      have hm := List.mem_of_mem_take hx'
      exact sttxt_len n₀ w x (hIs x hm) (Bl.okb_stmt hok x hm).1 (Bl.okb_stmt hok x hm).2 o (by have := sum_ge St.tot body x hm; omega))
    have h4 : ((body.take k).map fun x => 23000 * x.tot).sum = 23000 * ((body.take k).map St.tot).sum := by rw [← sum_mul, List.map_map]; rfl
    omega
  have hsk : ∀ k, ((body.take k).map St.tot).sum ≤ (body.map St.tot).sum := fun k => by
    have e : body.map St.tot = (body.take k).map St.tot ++ (body.drop k).map St.tot := by rw [← List.map_append, List.take_append_drop]
    rw [e, List.sum_append_nat]; omega
  simp only [Bl.slice]
  go_enter Tryz.func64, Tryz.ntmps64
  go_wp2
  go_loopw [8] (fun i wr => ∃ k : Nat, k ≤ body.length ∧ i = .int .i64 (k : Int) ∧ Sh b m o (t ++ (body.take k).flatMap fun s => s.txt o) wr ∧ Kept b w wr) (fun i _ => body.length - (intOf i).toNat)
  case atStart => exact ⟨0, by omega, rfl, by simpa using hs, Kept.refl _ _⟩
  case round =>
    obtain ⟨k, hk, rfl, hS, hK⟩ := hrel
    have hbr := hS.bl
    have htk := htl k
    have hskk := hsk k
    by_cases hlt : k < body.length
    · rcases hsl.2.2 with h | ⟨g, off, rfl, hg, hrow⟩
      · subst h; simp at hlt
      have hr := hrow.below (hK.1.mono hn) hg
      have hgl : g < wr.heap.size := by omega
      have HSN := hid (flatMap_snoc (fun s : St => s.txt o) body k hlt)
      have HDR : Hid (∀ u : List UInt8, body.flatMap (fun s => s.txt o) = (body.take k).flatMap (fun s => s.txt o) ++ (body.drop k).flatMap (fun s => s.txt o)) := fun _ => by rw [← List.flatMap_append, List.take_append_drop]
      have hszk : ((body.take k).map St.tot).sum + body[k].tot ≤ (body.map St.tot).sum := by have := hsk (k + 1); rw [sum_snoc St.tot body k hlt] at this; exact this
      have hq : ∀ W, Sh b m o (t ++ (body.take k).flatMap fun s => s.txt o) W → Kept b w W → Calls Tryz.prog 83 #[.pointer (some ⟨b, 0, none⟩), body[k].val] W fun r w' => r = .returned (.tuple #[]) ∧ Sh b m o (t ++ ((body.take k).flatMap fun s => s.txt o) ++ body[k].txt o) w' ∧ Kept b W w' := fun W h1 h2 =>
        hst _ (List.getElem_mem hlt) n₀ b m o _ W hn ((hIs _ (List.getElem_mem hlt)).below (h2.1.mono hn)) h1 (by omega) (by rw [List.length_append]; omega)
      obtain ⟨tk, htk2⟩ : ∃ tk, t ++ (body.take k).flatMap (fun s => s.txt o) = tk := ⟨_, rfl⟩
      rw [htk2] at hS
      simp only [htk2] at hq
      have HTK := hid htk2
      clear htk2 htk
      obtain ⟨sx, hsx⟩ : ∃ sx, body[k].txt o = sx := ⟨_, rfl⟩
      simp only [hsx] at hq HSN
      clear hsx
      rcases he' : body[k] with ⟨kind, mon, name, n, ⟨eop, emon, ename, en, ead, ecap, ekids, epos⟩, ad', cap', blocks, pos⟩
      obtain ⟨c0, c1, c2, c3, c4, c5, c6, c7, c8, c9, c10, c11⟩ := row12 hr k hlt (by rw [he']; rfl)
      simp only [he', St.val, St.cells, Ex.cells, List.cons_append, List.nil_append] at hq
      have hs1 := hS.al (.cells #[.int .i64 kind, .string mon, .string name, .int .i64 n, .int .i64 eop, .string emon, .string ename, .int .i64 en, .slice ead ekids.length ecap, .int .i64 epos, .slice ad' blocks.length cap', .int .i64 pos] 55)
      have hK1 : Kept b w (wr.alloc (.cells #[.int .i64 kind, .string mon, .string name, .int .i64 n, .int .i64 eop, .string emon, .string ename, .int .i64 en, .slice ead ekids.length ecap, .int .i64 epos, .slice ad' blocks.length cap', .int .i64 pos] 55)) := hK.al (by omega) _
      obtain ⟨c, hO, hSh⟩ := hs1.sheet
      have hf := full_any b _ _ c _ hSh
      have hq1 := hq _ hs1 hK1
      clear he' hq
      cases hd : decide (20000 < c.length)
      · rw [hd] at hf
        clear hd
        go_wp2_with (first
          | (go_at_call 38; (with_reducible refine hf.mono ?_); rintro r w' ⟨rfl, hw'⟩; have hw2 := hw'.symm; subst hw2)
          | (go_at_call 83; (with_reducible refine hq1.mono ?_); rintro r w2 ⟨rfl, s2, k2⟩))
        go_roundw
        case rel =>
          refine ⟨k + 1, by omega, by go_num, ?_, hK1.trans k2⟩
          rw [HSN.out, ← List.append_assoc, HTK.out]
          exact s2
        case measure => simp [intOf]; omega
      · rw [hd] at hf
        have hd2 := of_decide_eq_true hd
        clear hd
        go_wp2_with (go_at_call 38; (with_reducible refine hf.mono ?_); rintro r w' ⟨rfl, hw'⟩; have hw2 := hw'.symm; subst hw2)
        ((try simp only [Exit.inBlock, Exit.then]); refine bodyPost_ret (results_none rfl _ _ _) rfl ?_)
        refine ⟨rfl, ?_, hK1⟩
        rw [HT.out, HDR.out [], ← List.append_assoc, HTK.out]
        exact hs1.next (Below.refl _ _) (hO.full hd2 _) hSh
    · have hkb : k = body.length := by omega
      have hkd : decide ((k : Int) < (body.length : Int)) = false := by simp; omega
      rw [hkb, List.take_length] at hS
      clear hkb
      go_wp2
      go_end0
      exact ⟨rfl, by rw [HT.out]; exact hS, hK⟩
theorem block_any (x : Bl) : x.okb → BlockLays x :=
  Bl.ind (P := fun s => s.ok1 = true → (∀ x ∈ s.blocks, x.okb) → StmtLays s) (Q := fun x => x.okb → BlockLays x)
    (fun _ _ _ _ _ _ _ _ _ ih hok hoks => stmt_of _ hok hoks (fun x hx => ih x hx (hoks x hx)))
    (fun ad cap body ih hok => block_step ad cap body hok (fun s hs => ih s hs (Bl.okb_stmt hok s hs).1 (Bl.okb_stmt hok s hs).2)) x
namespace Px
def vaKind (v : Va) : List UInt8 := if v.type = 1 then [98, 111, 111, 108] else if v.type = 3 then Lib.itoa v.lo ++ ([46, 46] ++ Lib.itoa v.hi) else [105, 110, 116]
def vaInit (v : Va) : List UInt8 := if v.type = 1 then (if v.init = 1 then [116, 114, 117, 101] else [102, 97, 108, 115, 101]) else Lib.itoa v.init
/-- A variable's line. -/
def vaT (o : Nat) (v : Va) : List UInt8 := lin o ([118, 97, 114, 32] ++ (v.name.data.toList ++ ([32, 58, 32] ++ (vaKind v ++ ([32, 61, 32] ++ (vaInit v ++ [59]))))))
end Px
theorem vaT_len (o : Nat) (v : Va) (hv : v.Is) (hok : v.ok = true) (ho : o ≤ 1000) : (vaT o v).length ≤ 3000 := by
  have h1 : v.name.data.toList.length ≤ 32 := by
    unfold Va.ok at hok; simp only [Bool.and_eq_true] at hok; exact name_len hok.1.1
  have h2 := itoa_len v.lo hv.2.2.1
  have h3 := itoa_len v.hi hv.2.2.2.1
  have h4 := itoa_len v.init hv.2.2.2.2.1
  have h5 : (vaKind v).length ≤ 42 := by
    unfold vaKind
    by_cases q1 : v.type = 1
    · rw [if_pos q1]; simp
    · rw [if_neg q1]
      by_cases q3 : v.type = 3
      · rw [if_pos q3]; simp only [List.length_append, List.length_cons, List.length_nil]; omega
      · rw [if_neg q3]; simp
  have h6 : (vaInit v).length ≤ 20 := by
    unfold vaInit
    by_cases q1 : v.type = 1
    · rw [if_pos q1]; split <;> simp
    · rw [if_neg q1]; omega
  unfold vaT lin
  simp only [List.length_append, List.length_cons, List.length_nil, ind_len]; omega
set_option maxRecDepth 100000 in
set_option maxHeartbeats 1000000 in
theorem variable_any (v : Va) (b m o : Nat) (t : List UInt8) (w : World) (hv : v.Is) (hok : v.ok = true) (hs : Sh b m o t w) (ho : o ≤ 1000) (hl : t.length + 10000 ≤ 999999999999) :
    Calls Tryz.prog 59 #[.pointer (some ⟨b, 0, none⟩), v.val] w fun r w' => r = .returned (.tuple #[]) ∧ Sh b m o (t ++ vaT o v) w' ∧ Kept b w w' := by
  have hbl := hs.bl
  have hnl : v.name.data.toList.length ≤ 32 := by unfold Va.ok at hok; simp only [Bool.and_eq_true] at hok; exact name_len hok.1.1
  have hk5 : (vaKind v).length ≤ 42 ∧ (vaInit v).length ≤ 20 := by
    have h2 := itoa_len v.lo hv.2.2.1
    have h3 := itoa_len v.hi hv.2.2.2.1
    have h4 := itoa_len v.init hv.2.2.2.2.1
    constructor
    · unfold vaKind
      by_cases q1 : v.type = 1
      · rw [if_pos q1]; simp
      · rw [if_neg q1]
        by_cases q3 : v.type = 3
        · rw [if_pos q3]; simp only [List.length_append, List.length_cons, List.length_nil]; omega
        · rw [if_neg q3]; simp
    · unfold vaInit
      by_cases q1 : v.type = 1
      · rw [if_pos q1]; split <;> simp
      · rw [if_neg q1]; omega
  have HT : Hid (vaT o v = lin o ([118, 97, 114, 32] ++ (v.name.data.toList ++ ([32, 58, 32] ++ (vaKind v ++ ([32, 61, 32] ++ (vaInit v ++ [59]))))))) := rfl
  have hline : ∀ (W : World) (ki fi : ByteArray), Sh b m o t W → ki.data.toList = vaKind v → fi.data.toList = vaInit v → Calls Tryz.prog 80 #[.pointer (some ⟨b, 0, none⟩), .slice (some ⟨W.heap.size, 0, none⟩) 7 7] (W.alloc (.cells #[.string ⟨#[118, 97, 114, 32]⟩, .string v.name, .string ⟨#[32, 58, 32]⟩, .string ki, .string ⟨#[32, 61, 32]⟩, .string fi, .string ⟨#[59]⟩] 9)) fun e w' => e = .returned (.tuple #[]) ∧ Sh b m o (t ++ vaT o v) w' ∧ Kept b W w' := fun W ki fi h h1 h2 => by
    have := line_new [⟨#[118, 97, 114, 32]⟩, v.name, ⟨#[32, 58, 32]⟩, ki, ⟨#[32, 61, 32]⟩, fi, ⟨#[59]⟩] b m o t W h (by simp) (by omega) (by simp only [cat, List.flatMap_cons, List.flatMap_nil, List.append_nil, List.length_append, List.length_cons, List.length_nil, h1, h2]; omega)
    rw [HT.out, lin]
    simpa [cat, h1, h2] using this
  have hnum : ∀ n, I64 n → ∀ W, Sh b m o t W → Calls Tryz.prog 35 #[.int .i64 n] W fun e w' => e = .returned (.string ⟨(Lib.itoa n).toArray⟩) ∧ Below W.heap.size W w' := fun n hn W h => number_any n W hn h.tab
  have hv1 := hv.2.2.1; have hv2 := hv.2.2.2.1; have hv3 := hv.2.2.2.2.1
  rcases hvv : v with ⟨name, type, lo, hi, init, pos⟩
  have HKI : Hid (vaKind v = if type = 1 then [98, 111, 111, 108] else if type = 3 then Lib.itoa lo ++ ([46, 46] ++ Lib.itoa hi) else [105, 110, 116]) := by show _ = _; rw [hvv]; rfl
  have HFI : Hid (vaInit v = if type = 1 then (if init = 1 then [116, 114, 117, 101] else [102, 97, 108, 115, 101]) else Lib.itoa init) := by show _ = _; rw [hvv]; rfl
  rw [show v.name = name by rw [hvv]] at hline
  rw [show v.lo = lo by rw [hvv]] at hv1
  rw [show v.hi = hi by rw [hvv]] at hv2
  rw [show v.init = init by rw [hvv]] at hv3
  rw [← hvv]
  rw [show v.val = Value.agg #[.string name, .int .i64 type, .int .i64 lo, .int .i64 hi, .int .i64 init, .int .i64 pos] by rw [hvv]; rfl]
  obtain ⟨res, hres⟩ : ∃ res, vaT o v = res := ⟨_, rfl⟩
  rw [hres]
  simp only [hres] at hline
  obtain ⟨kx, hkx⟩ : ∃ kx, vaKind v = kx := ⟨_, rfl⟩
  obtain ⟨ix, hix⟩ : ∃ ix, vaInit v = ix := ⟨_, rfl⟩
  rw [hkx] at HKI
  rw [hix] at HFI
  simp only [hkx, hix] at hline
  clear hkx hix hres HT hok hv hk5 hnl hvv
  have bS : (w.alloc (.cells #[.string name, .int .i64 type, .int .i64 lo, .int .i64 hi, .int .i64 init, .int .i64 pos] 41)).heap[w.heap.size]? = some (.cells #[.string name, .int .i64 type, .int .i64 lo, .int .i64 hi, .int .i64 init, .int .i64 pos] 41 (0, 0)) := heap_alloc_new w _
  have hK0 : Kept b w (w.alloc (.cells #[.string name, .int .i64 type, .int .i64 lo, .int .i64 hi, .int .i64 init, .int .i64 pos] 41)) := (Kept.refl b w).al (by omega) _
  have hs0 := hs.al (.cells #[.string name, .int .i64 type, .int .i64 lo, .int .i64 hi, .int .i64 init, .int .i64 pos] 41)
  have hzz : w.heap.size < (w.alloc (.cells #[.string name, .int .i64 type, .int .i64 lo, .int .i64 hi, .int .i64 init, .int .i64 pos] 41)).heap.size := by simp
  go_enter Tryz.func59, Tryz.ntmps59
  go_upto_region 1 with fail
  obtain ⟨W0, hW0⟩ : ∃ W0, w.alloc (.cells #[.string name, .int .i64 type, .int .i64 lo, .int .i64 hi, .int .i64 init, .int .i64 pos] 41) = W0 := ⟨_, rfl⟩
  rw [hW0] at bS hK0 hs0 hzz ⊢
  clear hW0
  have hbW := hs0.bl
  have d4 : W0.cell? ⟨w.heap.size, 4, none⟩ = some (.int .i64 init) := cell_of' bS 4
  have hn1 := hnum init hv3 W0 hs0
  have HBX : Hid (∀ W, Below W0.heap.size W0 W → W.cell? ⟨w.heap.size, 0, none⟩ = some (.string name) ∧ W.cell? ⟨w.heap.size, 1, none⟩ = some (.int .i64 type) ∧ W.cell? ⟨w.heap.size, 2, none⟩ = some (.int .i64 lo) ∧ W.cell? ⟨w.heap.size, 3, none⟩ = some (.int .i64 hi) ∧ W.cell? ⟨w.heap.size, 4, none⟩ = some (.int .i64 init)) := fun W hW => by
    have g := (hW.block _ hzz).trans bS
    exact ⟨cell_of' g 0, cell_of' g 1, cell_of' g 2, cell_of' g 3, cell_of' g 4⟩
  by_cases q1 : type = 1
  · subst q1
    by_cases qi : init = 1
    · subst qi
      have e1 : Hid (((⟨#[98, 111, 111, 108]⟩ : ByteArray)).data.toList = kx) := by show _ = _; rw [HKI.out]; rfl
      have e2 : Hid (((⟨#[116, 114, 117, 101]⟩ : ByteArray)).data.toList = ix) := by show _ = _; rw [HFI.out]; rfl
      go_wp2_with (first
        | (go_at_call 35; (with_reducible refine hn1.mono ?_); rintro r w1 ⟨rfl, b1⟩; have s1 := hs0.below b1; obtain ⟨f0, f1, f2, f3, f4⟩ := HBX.out _ b1)
        | (go_at_call 80; (with_reducible refine (hline _ ⟨#[98, 111, 111, 108]⟩ ⟨#[116, 114, 117, 101]⟩ s1 e1.out e2.out).mono ?_); rintro r w2 ⟨rfl, s2, k2⟩))
      go_end0
      exact ⟨rfl, s2, (hK0.of (by omega) b1).trans k2⟩
    · have qib : (init == 1) = false := by rw [beq_eq_false_iff_ne]; exact qi
      have e1 : Hid (((⟨#[98, 111, 111, 108]⟩ : ByteArray)).data.toList = kx) := by show _ = _; rw [HKI.out]; rfl
      have e2 : Hid (((⟨#[102, 97, 108, 115, 101]⟩ : ByteArray)).data.toList = ix) := by show _ = _; rw [HFI.out, if_pos rfl, if_neg qi]
      go_wp2_with (first
        | (go_at_call 35; (with_reducible refine hn1.mono ?_); rintro r w1 ⟨rfl, b1⟩; have s1 := hs0.below b1; obtain ⟨f0, f1, f2, f3, f4⟩ := HBX.out _ b1)
        | (go_at_call 80; (with_reducible refine (hline _ ⟨#[98, 111, 111, 108]⟩ ⟨#[102, 97, 108, 115, 101]⟩ s1 e1.out e2.out).mono ?_); rintro r w2 ⟨rfl, s2, k2⟩))
      go_end0
      exact ⟨rfl, s2, (hK0.of (by omega) b1).trans k2⟩
  have q1b : (type == 1) = false := by rw [beq_eq_false_iff_ne]; exact q1
  have e2 : Hid (((⟨(Lib.itoa init).toArray⟩ : ByteArray)).data.toList = ix) := by show _ = _; rw [HFI.out, if_neg q1]
  by_cases q3 : type = 3
  · have q3b : (type == 3) = true := by rw [beq_iff_eq]; exact q3
    have HK3 : Hid (kx = Lib.itoa lo ++ ([46, 46] ++ Lib.itoa hi)) := by show _ = _; rw [HKI.out, if_neg q1, if_pos q3]
    clear q3 q1
    go_wp2_with (go_at_call 35; (with_reducible refine hn1.mono ?_); rintro r w1 ⟨rfl, b1⟩; have s1 := hs0.below b1; obtain ⟨f0, f1, f2, f3, f4⟩ := HBX.out _ b1)
    have HJ : Hid (∀ W, Below w1.heap.size w1 W → W.cell? ⟨w.heap.size, 2, none⟩ = some (.int .i64 lo) ∧ W.cell? ⟨w.heap.size, 3, none⟩ = some (.int .i64 hi)) := fun W hW => by
      obtain ⟨g0, g1, g2, g3, g4⟩ := HBX.out W (b1.trans (hW.mono b1.size))
      exact ⟨g2, g3⟩
    obtain ⟨nlo, hnlo⟩ : ∃ nlo : ByteArray, (⟨(Lib.itoa lo).toArray⟩ : ByteArray) = nlo := ⟨_, rfl⟩
    obtain ⟨nhi, hnhi⟩ : ∃ nhi : ByteArray, (⟨(Lib.itoa hi).toArray⟩ : ByteArray) = nhi := ⟨_, rfl⟩
    have hlo : ∀ W, Below w1.heap.size w1 W → Calls Tryz.prog 35 #[.int .i64 lo] W fun e w' => e = .returned (.string nlo) ∧ Below W.heap.size W w' := fun W h => by rw [← hnlo]; exact hnum lo hv1 W (s1.below h)
    have hhi : ∀ W, Below w1.heap.size w1 W → Calls Tryz.prog 35 #[.int .i64 hi] W fun e w' => e = .returned (.string nhi) ∧ Below W.heap.size W w' := fun W h => by rw [← hnhi]; exact hnum hi hv2 W (s1.below h)
    have hsl : nlo.size ≤ 20 := by rw [← hnlo]; have := itoa_len lo hv1; show (Lib.itoa lo).toArray.size ≤ 20; simpa using this
    have hsh : nhi.size ≤ 20 := by rw [← hnhi]; have := itoa_len hi hv2; show (Lib.itoa hi).toArray.size ≤ 20; simpa using this
    have HLO : Hid (nlo.data.toList = Lib.itoa lo) := by show _ = _; rw [← hnlo]
    have HHI : Hid (nhi.data.toList = Lib.itoa hi) := by show _ = _; rw [← hnhi]
    have g1 : ¬ (9223372036854775807 < nlo.size + 2) := by omega
    have g2 : ¬ (9223372036854775807 < nlo.size + 2 + nhi.size) := by omega
    clear hnlo hnhi
    have B := below_drewE (Below.refl w1.heap.size w1)
    go_region_held3 (fun W => W.cell? ⟨w.heap.size, 2, none⟩ = some (.int .i64 lo) ∧ W.cell? ⟨w.heap.size, 3, none⟩ = some (.int .i64 hi)) (exact HJ.out _ B)
      (first
        | (go_at_call 35; (with_reducible refine (hlo _ B).mono ?_); rintro r u1 ⟨rfl, bb⟩; have B := B.tr le_rfl' bb)
        | (go_at_call 35; (with_reducible refine (hhi _ B).mono ?_); rintro r u2 ⟨rfl, bb⟩; have B := B.tr le_rfl' bb))
    all_goals have e1 : Hid (((nlo ++ ⟨#[46, 46]⟩ ++ nhi : ByteArray)).data.toList = kx) := by show _ = _; rw [HK3.out]; simp [ByteArray.data_append, HLO.out, HHI.out]
    all_goals have s2 := s1.below B
    all_goals obtain ⟨f0, f1, f2, f3, f4⟩ := HBX.out _ (b1.trans (B.mono b1.size))
    all_goals have hl2 := hline _ (nlo ++ ⟨#[46, 46]⟩ ++ nhi) ⟨(Lib.itoa init).toArray⟩ s2 e1.out e2.out
    all_goals go_wp2_with (go_at_call 80; (with_reducible refine hl2.mono ?_); rintro r w2 ⟨rfl, s3, k3⟩)
    all_goals go_end0
    all_goals exact ⟨rfl, s3, (hK0.of (by omega) (b1.trans (B.mono b1.size))).trans k3⟩
  · have q3b : (type == 3) = false := by rw [beq_eq_false_iff_ne]; exact q3
    have e1 : Hid (((⟨#[105, 110, 116]⟩ : ByteArray)).data.toList = kx) := by show _ = _; rw [HKI.out, if_neg q1, if_neg q3]
    clear q3 q1
    go_wp2_with (first
      | (go_at_call 35; (with_reducible refine hn1.mono ?_); rintro r w1 ⟨rfl, b1⟩; have s1 := hs0.below b1; obtain ⟨f0, f1, f2, f3, f4⟩ := HBX.out _ b1)
      | (go_at_call 80; (with_reducible refine (hline _ ⟨#[105, 110, 116]⟩ ⟨(Lib.itoa init).toArray⟩ s1 e1.out e2.out).mono ?_); rintro r w2 ⟨rfl, s2, k2⟩))
    go_end0
    exact ⟨rfl, s2, (hK0.of (by omega) b1).trans k2⟩
end Go.Proofs.YtnljhlmopjgogaaGreatDoor
