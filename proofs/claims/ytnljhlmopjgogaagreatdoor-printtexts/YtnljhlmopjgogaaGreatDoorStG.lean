/-
  program of package print lays a program.
-/
import Derived.Test.YtnljhlmopjgogaaGreatDoorStF
import Derived.Test.YtnljhlmopjgogaaGreatDoorNsC
namespace Go.Proofs.YtnljhlmopjgogaaGreatDoor
open Go.RowKit Px
namespace Px
def roCount (r : Ro) : List UInt8 := if r.star then [42] else Lib.itoa r.count
/-- A role's lines. -/
def roT (o : Nat) (r : Ro) : List UInt8 := ind o ++ ([116, 104, 114, 101, 97, 100, 32] ++ (r.name.data.toList ++ ([32] ++ roCount r))) ++ (blksT o [] [r.body.txt (o + 1)] 0 ++ [10])
end Px
/-- A program's text. -/
def Pr.txt (p : Pr) : List UInt8 := p.mons.flatMap (moT 0) ++ p.roles.flatMap (roT 0)
/-- A role that can be laid. -/
def Ro.fine (n₀ : Nat) (W : World) (r : Ro) : Prop := r.Is n₀ W ∧ Lx.name r.name = true ∧ r.body.okb ∧ r.body.sz ≤ 900
theorem Ro.fine.below {n₀ : Nat} {W W' : World} {x : Ro} (h : x.fine n₀ W) (hb : Below n₀ W W') : x.fine n₀ W' := ⟨h.1.below hb, h.2⟩
theorem roCount_len (n₀ : Nat) (W : World) (r : Ro) (h : r.fine n₀ W) : (roCount r).length ≤ 20 := by
  have := itoa_len r.count h.1.2.1
  unfold roCount; split <;> simp <;> omega
theorem roT_len (n₀ : Nat) (W : World) (o : Nat) (x : Ro) (h : x.fine n₀ W) (ho : o ≤ 10) : (roT o x).length ≤ 30000000 := by
  have h1 := bltxt_len n₀ W x.body h.1.2.2.2 h.2.2.1 (o + 1) (by have := h.2.2.2; omega)
  have h2 := blksT_len o [] [x.body.txt (o + 1)] 0
  have h3 := name_len h.2.1
  have h4 := h.2.2.2
  have h5 := roCount_len n₀ W x h
  unfold roT
  simp only [List.length_append, List.length_cons, List.length_nil, ind_len]
  simp only [List.map_cons, List.map_nil, List.sum_cons, List.sum_nil, List.length_cons, List.length_nil] at h2
  omega
/-- A program that can be laid. -/
structure Pr.fine (n₀ : Nat) (W : World) (p : Pr) : Prop where
  is : p.Is n₀ W
  mlen : p.mons.length ≤ 8
  rlen : p.roles.length ≤ 8
  mons : ∀ m ∈ p.mons, m.fine n₀ W
  roles : ∀ r ∈ p.roles, r.fine n₀ W
theorem Pr.fine_of {n₀ : Nat} {W : World} {p : Pr} (hI : p.Is n₀ W) (hok : p.ok = true) (hsz : p.size ≤ 900) : p.fine n₀ W := by
  unfold Pr.ok at hok
  rw [Bool.and_eq_true] at hok
  obtain ⟨hd, hs⟩ := hok
  unfold Pr.decl at hd
  simp only [Bool.and_eq_true, decide_eq_true_iff, List.all_eq_true] at hd hs
  refine ⟨hI, hd.1.1.1, hd.1.1.2, fun m hm => ?_, fun r hr => ?_⟩
  · have h1 := hd.1.2 m hm
    unfold Mo.ok at h1
    simp only [Bool.and_eq_true, decide_eq_true_iff, List.all_eq_true] at h1
    refine ⟨hI.1.2 m hm, h1.1.1.1.1, h1.1.1.1.2, h1.1.1.2, h1.1.2, fun x hx => ⟨(hI.1.2 m hm).2.2.2 x hx, h1.2 x hx, fun s hs' => hs s ?_, ?_⟩⟩
    · exact List.mem_append.2 (.inl (List.mem_flatMap.2 ⟨m, hm, List.mem_flatMap.2 ⟨x, hx, hs'⟩⟩))
    · have := meth_sz hm hx; omega
  · have h1 := hd.2 r hr
    unfold Ro.ok at h1
    simp only [Bool.and_eq_true] at h1
    refine ⟨hI.2.2 r hr, h1.1, fun s hs' => hs s ?_, ?_⟩
    · exact List.mem_append.2 (.inr (List.mem_flatMap.2 ⟨r, hr, hs'⟩))
    · have := role_sz hr; omega
theorem Pr.fine.below {n₀ : Nat} {W W' : World} {p : Pr} (h : p.fine n₀ W) (hb : Below n₀ W W') : p.fine n₀ W' := ⟨h.is.below hb, h.mlen, h.rlen, fun m hm => (h.mons m hm).below hb, fun r hr => (h.roles r hr).below hb⟩
set_option maxRecDepth 100000 in
set_option maxHeartbeats 1000000 in
theorem program_any (p : Pr) (n₀ b m : Nat) (w : World) (hn : n₀ ≤ b) (hf : p.fine n₀ w) (hs : Sh b m 0 [] w) :
    Calls Tryz.prog 18 #[.pointer (some ⟨b, 0, none⟩), p.val] w fun r w' => r = .returned (.tuple #[]) ∧ Sh b m 0 p.txt w' ∧ Kept b w w' := by
  have hbl := hs.bl
  rcases p with ⟨mad, mcap, mons, rad, rcap, roles⟩
  have HT : Hid ((Pr.mk mad mcap mons rad rcap roles).txt = mons.flatMap (moT 0) ++ roles.flatMap (roT 0)) := rfl
  have hsm := hf.is.1.1
  have hsr := hf.is.2.1
  have hl1 := hsm.1; have hl2 := hsm.2.1; have hl3 := hsr.1; have hl4 := hsr.2.1
  unfold maxLen at hl2 hl4
  have hmn := hf.mlen; have hrn := hf.rlen; have hfm := hf.mons; have hfr := hf.roles
  simp only at hl1 hl2 hl3 hl4 hmn hrn hfm hfr
  have hmt : ∀ k, ((mons.take k).flatMap (moT 0)).length ≤ 4000000000 := fun k => by
    have := flat_take_len (moT 0) mons k 500000000 (fun x hx => moT_len (hfm x hx) 0 (by omega))
    omega
  have hrt : ∀ k, ((roles.take k).flatMap (roT 0)).length ≤ 240000000 := fun k => by
    have := flat_take_len (roT 0) roles k 30000000 (fun x hx => roT_len n₀ w 0 x (hfr x hx) (by omega))
    omega
  have hK0 : Kept b w (w.alloc (.cells #[.slice mad mons.length mcap, .slice rad roles.length rcap] 25)) := (Kept.refl b w).al (by omega) _
  have bP : (w.alloc (.cells #[.slice mad mons.length mcap, .slice rad roles.length rcap] 25)).heap[w.heap.size]? = some (.cells #[.slice mad mons.length mcap, .slice rad roles.length rcap] 25 (0, 0)) := heap_alloc_new w _
  have hs0 := hs.al (.cells #[.slice mad mons.length mcap, .slice rad roles.length rcap] 25)
  have hne : w.heap.size ≠ b := by omega
  simp only [Pr.val]
  go_enter Tryz.func18, Tryz.ntmps18
  go_wp2
  obtain ⟨W0, hW0⟩ : ∃ W0, w.alloc (.cells #[.slice mad mons.length mcap, .slice rad roles.length rcap] 25) = W0 := ⟨_, rfl⟩
  rw [hW0] at hK0 bP hs0 ⊢
  clear hW0
  go_loopw [12] (fun i wr => ∃ k : Nat, k ≤ mons.length ∧ i = .int .i64 (k : Int) ∧ Sh b m 0 ((mons.take k).flatMap (moT 0)) wr ∧ Kept b W0 wr) (fun i _ => mons.length - (intOf i).toNat)
  case atStart => exact ⟨0, by omega, rfl, by simpa using hs0, Kept.refl _ _⟩
  case round =>
    obtain ⟨k, hk, rfl, hS, hK⟩ := hrel
    have hbr := hS.bl
    have hKw := hK0.trans hK
    by_cases hlt : k < mons.length
    · rcases hsm.2.2 with h | ⟨g, off, rfl, hg, hrow⟩
      · subst h; simp at hlt
      have hr := hrow.below (hKw.1.mono hn) hg
      have hgl : g < wr.heap.size := by omega
      have HSN := hid (flatMap_snoc (moT 0) mons k hlt)
      have htk := hmt k
      have hq := fun W (h1 : Sh b m 0 ((mons.take k).flatMap (moT 0)) W) (h2 : Kept b w W) => monitor_any mons[k] n₀ b m 0 _ W hn ((hfm _ (List.getElem_mem hlt)).below (h2.1.mono hn)) h1 (by omega) (by omega)
      obtain ⟨tk, htk2⟩ : ∃ tk, (mons.take k).flatMap (moT 0) = tk := ⟨_, rfl⟩
      rw [htk2] at hS HSN
      simp only [htk2] at hq
      clear htk2
      obtain ⟨sx, hsx⟩ : ∃ sx, moT 0 mons[k] = sx := ⟨_, rfl⟩
      simp only [hsx] at hq HSN
      clear hsx
      rcases he' : mons[k] with ⟨mname, vad, vcap, vars, tad, tcap, meths, pos⟩
      obtain ⟨c0, c1, c2, c3⟩ := row4 hr k hlt (by rw [he']; rfl)
      simp only [he', Mo.val, Mo.cells] at hq
      have hs1 := hS.al (.cells #[.string mname, .slice vad vars.length vcap, .slice tad meths.length tcap, .int .i64 pos] 39)
      have hK1 : Kept b wr (wr.alloc (.cells #[.string mname, .slice vad vars.length vcap, .slice tad meths.length tcap, .int .i64 pos] 39)) := (Kept.refl b wr).al (by omega) _
      have hq1 := hq _ hs1 (hKw.trans hK1)
      clear he' hq
      go_wp2_with (go_at_call 34; (with_reducible refine hq1.mono ?_); rintro r w2 ⟨rfl, s2, k2⟩)
      go_roundw
      case rel =>
        refine ⟨k + 1, by omega, by go_num, ?_, (hK.trans hK1).trans k2⟩
        rw [HSN.out]
        exact s2
      case measure => simp [intOf]; omega
    · have hkb : k = mons.length := by omega
      have hkd : decide ((k : Int) < (mons.length : Int)) = false := by simp; omega
      rw [hkb, List.take_length] at hS
      have hvt : (mons.flatMap (moT 0)).length ≤ 4000000000 := by have := hmt mons.length; rwa [List.take_length] at this
      clear hkb
      obtain ⟨wo, hwo⟩ : ∃ wo : World, wo = wr := ⟨_, rfl⟩
      subst hwo
      have p1 : wo.cell? ⟨w.heap.size, 1, none⟩ = some (.slice rad roles.length rcap) := cell_of' (hK.box bP hne (by decide)) 1
      obtain ⟨tv, htv⟩ : ∃ tv, mons.flatMap (moT 0) = tv := ⟨_, rfl⟩
      rw [htv] at hS HT hvt
      clear htv
      go_wp2
      go_loopw [23] (fun i wr => ∃ j : Nat, j ≤ roles.length ∧ i = .int .i64 (j : Int) ∧ Sh b m 0 (tv ++ (roles.take j).flatMap (roT 0)) wr ∧ Kept b w wr) (fun i _ => roles.length - (intOf i).toNat)
      case atStart => exact ⟨0, by omega, rfl, by simpa using hS, hKw⟩
      case round =>
        obtain ⟨j, hj, rfl, hS2, hK2⟩ := hrel
        have hbr2 := hS2.bl
        by_cases hlt2 : j < roles.length
        · rcases hsr.2.2 with h | ⟨g, off, rfl, hg, hrow⟩
          · subst h; simp at hlt2
          have hr := hrow.below (hK2.1.mono hn) hg
          have hgl : g < wr.heap.size := by omega
          have HSN := hid (flatMap_snoc (roT 0) roles j hlt2)
          have htk := hrt j
          have hxf := (hfr _ (List.getElem_mem hlt2)).below (hK2.1.mono hn)
          obtain ⟨tk, htk2⟩ : ∃ tk, tv ++ (roles.take j).flatMap (roT 0) = tk := ⟨_, rfl⟩
          have htkl : tk.length ≤ 4240000000 := by rw [← htk2, List.length_append]; omega
          rw [htk2] at hS2
          have HTK := hid htk2
          clear htk2 htk
          have hrc := roCount_len n₀ wr _ hxf
          rcases he' : roles[j] with ⟨name, star, count, body, xpos⟩
          rw [he'] at hxf HSN hrc
          have hnm := name_len hxf.2.1
          have hbs := hxf.2.2.2
          have hcnt := hxf.1.2.1
          simp only at hnm hbs hcnt
          obtain ⟨rc, hrcE⟩ : ∃ rc, roCount (Ro.mk name star count body xpos) = rc := ⟨_, rfl⟩
          have HRC : Hid (rc = if star then [42] else Lib.itoa count) := hrcE.symm
          have HX : Hid (roT 0 (Ro.mk name star count body xpos) = ind 0 ++ ([116, 104, 114, 101, 97, 100, 32] ++ (name.data.toList ++ ([32] ++ rc))) ++ (blksT 0 [] [body.txt (0 + 1)] 0 ++ [10])) := by show _ = _; rw [← hrcE]; rfl
          rw [hrcE] at hrc
          clear hrcE
          have hblk : ∀ W, Sh b m 0 (tk ++ (ind 0 ++ ([116, 104, 114, 101, 97, 100, 32] ++ (name.data.toList ++ ([32] ++ rc))))) W → Kept b wr W → Calls Tryz.prog 37 #[.pointer (some ⟨b, 0, none⟩), .string ⟨#[]⟩, .slice (some ⟨W.heap.size, 0, none⟩) 1 1] (W.alloc (.cells #[body.slice] 42)) fun r w' => r = .returned (.tuple #[]) ∧ Sh b m 0 (tk ++ (ind 0 ++ ([116, 104, 114, 101, 97, 100, 32] ++ (name.data.toList ++ ([32] ++ rc)))) ++ (blksT 0 [] [body.txt (0 + 1)] 0 ++ [10])) w' ∧ Kept b W w' := fun W h1 h2 =>
            blocks_new body hxf.2.2.1 n₀ b m 0 _ W hn (hxf.1.2.2.2.below (h2.1.mono hn)) h1 (by omega) (by simp only [List.length_append, List.length_cons, List.length_nil, ind_len]; omega)
          rcases body with ⟨bad, bcap, bbody⟩
          obtain ⟨c0, c1, c2, c3, c4⟩ := row5 hr j hlt2 (by rw [he']; rfl)
          simp only [Bl.slice] at hblk c3
          have hs1 := hS2.al (.cells #[.string name, .bool star, .int .i64 count, .slice bad bbody.length bcap, .int .i64 xpos] 47)
          have hK1 : Kept b wr (wr.alloc (.cells #[.string name, .bool star, .int .i64 count, .slice bad bbody.length bcap, .int .i64 xpos] 47)) := (Kept.refl b wr).al (by omega) _
          have bX : (wr.alloc (.cells #[.string name, .bool star, .int .i64 count, .slice bad bbody.length bcap, .int .i64 xpos] 47)).heap[wr.heap.size]? = some (.cells #[.string name, .bool star, .int .i64 count, .slice bad bbody.length bcap, .int .i64 xpos] 47 (0, 0)) := heap_alloc_new wr _
          have hwne : wr.heap.size ≠ b := by omega
          have hbeg : ∀ W (cn : ByteArray), Sh b m 0 tk W → cn.data.toList = rc → Calls Tryz.prog 36 #[.pointer (some ⟨b, 0, none⟩), .slice (some ⟨W.heap.size, 0, none⟩) 4 4] (W.alloc (.cells #[.string ⟨#[116, 104, 114, 101, 97, 100, 32]⟩, .string name, .string ⟨#[32]⟩, .string cn] 9)) fun e w' => e = .returned (.tuple #[]) ∧ Sh b m 0 (tk ++ (ind 0 ++ ([116, 104, 114, 101, 97, 100, 32] ++ (name.data.toList ++ ([32] ++ rc))))) w' ∧ Kept b W w' := fun W cn h1 h2 => by
            have := begin_new [⟨#[116, 104, 114, 101, 97, 100, 32]⟩, name, ⟨#[32]⟩, cn] b m 0 tk W h1 (by simp) (by omega) (by simp only [cat, List.flatMap_cons, List.flatMap_nil, List.append_nil, List.length_append, List.length_cons, List.length_nil, h2]; omega)
            simpa [cat, h2] using this
          clear he'
          cases star
          · have HRC2 : Hid (((⟨(Lib.itoa count).toArray⟩ : ByteArray)).data.toList = rc) := by show _ = _; rw [HRC.out]; rfl
            have hnumc := number_any count _ hcnt hs1.tab
            go_wp2_with (first
              | (go_at_call 35; (with_reducible refine hnumc.mono ?_); rintro r w1 ⟨rfl, b1⟩; have s1 := hs1.below b1; have k1 := hK1.of (by omega) b1; have bX1 := (b1.block _ (by simp)).trans bX; have x0 := cell_of' bX1 0; have x3 := cell_of' bX1 3; have hbeg2 := hbeg _ ⟨(Lib.itoa count).toArray⟩ s1 HRC2.out)
              | (go_at_call 36; (with_reducible refine hbeg2.mono ?_); rintro r w2 ⟨rfl, s2, k2⟩; have y3 := cell_of' (k2.box bX1 hwne (by decide)) 3; have hblk2 := hblk _ s2 (k1.trans k2))
              | (go_at_call 37; (with_reducible refine hblk2.mono ?_); rintro r w3 ⟨rfl, s3, k3⟩))
            go_roundw
            case rel =>
              refine ⟨j + 1, by omega, by go_num, ?_, ((hK2.trans k1).trans k2).trans k3⟩
              rw [HSN.out, ← List.append_assoc, HTK.out, HX.out]
              simpa using s3
            case measure => simp [intOf]; omega
          · have HRC2 : Hid (((⟨#[42]⟩ : ByteArray)).data.toList = rc) := by show _ = _; rw [HRC.out]; rfl
            have hbeg2 := hbeg _ ⟨#[42]⟩ hs1 HRC2.out
            rw [World.size_alloc] at hbeg2
            go_wp2_with (first
              | (go_at_call 36; (with_reducible refine hbeg2.mono ?_); rintro r w2 ⟨rfl, s2, k2⟩; have y3 := cell_of' (k2.box bX hwne (by decide)) 3; have hblk2 := hblk _ s2 (hK1.trans k2))
              | (go_at_call 37; (with_reducible refine hblk2.mono ?_); rintro r w3 ⟨rfl, s3, k3⟩))
            go_roundw
            case rel =>
              refine ⟨j + 1, by omega, by go_num, ?_, ((hK2.trans hK1).trans k2).trans k3⟩
              rw [HSN.out, ← List.append_assoc, HTK.out, HX.out]
              simpa using s3
            case measure => simp [intOf]; omega
        · have hjb : j = roles.length := by omega
          have hjd : decide ((j : Int) < (roles.length : Int)) = false := by simp; omega
          rw [hjb, List.take_length] at hS2
          clear hjb
          go_wp2
          go_end0
          refine ⟨rfl, ?_, hK2⟩
          rw [HT.out]
          exact hS2
end Go.Proofs.YtnljhlmopjgogaaGreatDoor
