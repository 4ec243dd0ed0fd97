/-
  declare of package names: the first name of a monitor, variable or method that is there already; else the scope of all.
-/
import Derived.Test.YtfkabkbnfeiggaaDoorNxG
namespace Go.Proofs.YtfkabkbnfeiggaaDoor
open Go.RowKit
theorem Scope.snoc {W : World} {b c : Nat} {S : List (ByteArray × List (ByteArray × Int))} {B : List Nat} {x : ByteArray × List (ByteArray × Int)} (hl : B.length = S.length) (hm : SMap W b (outer S B ++ [(x.1, .map (some c))])) (hB : ∀ (i : Nat) (h : i < S.length) (h' : i < B.length), B[i] ≠ b ∧ SMap W B[i] (ints S[i].2)) (hc : c ≠ b) (hcm : SMap W c (ints x.2)) : Scope W b (S ++ [x]) (B ++ [c]) := by
  refine ⟨by simp [hl], ?_, fun i h h' => ?_⟩
  · rw [outer_snoc _ _ hl]; exact hm
  · by_cases hi : i < S.length
    · rw [List.getElem_append_left (by omega), List.getElem_append_left hi]
      exact hB i hi (by omega)
    · have e1 : i = S.length := by simp at h; omega
      subst e1
      rw [List.getElem_append_right (by omega), List.getElem_append_right (by omega)]
      simp [hl]
      exact ⟨hc, hcm⟩
theorem scOf_snoc (l : List Mo) (k : Nat) (h : k < l.length) : scOf (l.take (k + 1)) = scOf (l.take k) ++ [(l[k].name, l[k].nms)] := by
  rw [scOf, List.take_succ_eq_append_getElem h, List.map_append]; rfl
theorem scOf_fst (l : List Mo) : (scOf l).map Prod.fst = l.map Mo.name := by simp [scOf, Function.comp_def]
theorem declM_nil (seen : List ByteArray) : declM seen [] = none := rfl
def vps (l : List Va) : List (ByteArray × Int) := l.map fun v => (v.name, v.pos)
def fps (l : List Me) : List (ByteArray × Int) := l.map fun v => (v.name, v.pos)
def vks (l : List Va) : List (ByteArray × Int) := l.map fun v => (v.name, 1)
def fks (l : List Me) : List (ByteArray × Int) := l.map fun v => (v.name, 2)
theorem vks_fst (l : List Va) : (vks l).map Prod.fst = l.map Va.name := by simp [vks]
theorem fks_fst (l : List Me) : (fks l).map Prod.fst = l.map Me.name := by simp [fks]
theorem vks_snoc (l : List Va) (k : Nat) (h : k < l.length) : vks (l.take (k + 1)) = vks (l.take k) ++ [(l[k].name, 1)] := by rw [vks, List.take_succ_eq_append_getElem h, List.map_append]; rfl
theorem fks_snoc (l : List Me) (k : Nat) (h : k < l.length) : fks (l.take (k + 1)) = fks (l.take k) ++ [(l[k].name, 2)] := by rw [fks, List.take_succ_eq_append_getElem h, List.map_append]; rfl
theorem dupN_var (seen : List ByteArray) (l : List Va) (k : Nat) (h : k < l.length) (r : List (ByteArray × Int)) : dupN seen (vps (l.drop k) ++ r) = if hasN seen l[k].name then some l[k].pos else dupN (seen ++ [l[k].name]) (vps (l.drop (k + 1)) ++ r) := by
  rw [List.drop_eq_getElem_cons h]; rfl
theorem dupN_meth (seen : List ByteArray) (l : List Me) (k : Nat) (h : k < l.length) : dupN seen (fps (l.drop k)) = if hasN seen l[k].name then some l[k].pos else dupN (seen ++ [l[k].name]) (fps (l.drop (k + 1))) := by
  rw [List.drop_eq_getElem_cons h]; rfl
theorem vks_pos (l : List Va) : ∀ x ∈ vks l, x.2 ≠ 0 := by intro x hx; obtain ⟨y, _, rfl⟩ := List.mem_map.1 hx; simp
theorem fks_pos (l : List Me) : ∀ x ∈ fks l, x.2 ≠ 0 := by intro x hx; obtain ⟨y, _, rfl⟩ := List.mem_map.1 hx; simp
/-- What declare tells, and leaves. -/
def DeclBack (bs : Nat) (mons : List Mo) (w w' : World) (r : Ending) : Prop := ((declM [] mons = none ∧ r = .returned (.tuple #[.int .i64 0, .int .i64 0]) ∧ ∃ B, Scope w' bs (scOf mons) B) ∨ (∃ a, declM [] mons = some a ∧ r = .returned (.tuple #[.int .i64 60, .int .i64 a]))) ∧ Below bs w w'
set_option maxRecDepth 100000 in
set_option maxHeartbeats 16000000 in
theorem declare_any (n₀ bs : Nat) (mad : Option Addr) (mcap : Nat) (mons : List Mo) (w : World) (hn : n₀ ≤ bs) (hS0 : SMap w bs []) (h3 : SlAt 4 Mo.cells n₀ w mad mcap mons) (h4 : ∀ m ∈ mons, m.Is n₀ w) :
    Calls Tryd.prog 59 #[.map (some bs), .slice mad mons.length mcap] w fun r w' => DeclBack bs mons w w' r := by
  have hmm := @run_makeMap Tryd.prog
  have hn1 := mapNeq
  have hn2 := mapNeq0
  have hbsl := hS0.lt
  have hl1 := h3.1; have hl2 := h3.2.1
  unfold maxLen at hl2
  go_enter Tryd.func59, Tryd.ntmps59
  go_wp2
  go_loopw [15] (fun i wr => ∃ j : Nat, j ≤ mons.length ∧ i = .int .i64 j ∧ Hid (declM [] mons = declM ((mons.take j).map Mo.name) (mons.drop j)) ∧ (∃ B, Scope wr bs (scOf (mons.take j)) B) ∧ Below bs w wr)
    (fun i _ => mons.length - (intOf i).toNat)
  case atStart => exact ⟨0, by omega, rfl, rfl, ⟨[], rfl, hS0, fun i h => by cases h⟩, Below.refl _ _⟩
  case round =>
    obtain ⟨j, hj, rfl, HQ, ⟨B, hSc⟩, hbF⟩ := hrel
    have hz1 := hbF.size
    have hb0 : Below n₀ w wr := hbF.mono hn
    by_cases hlt : j < mons.length
    · rcases h3.2.2 with h | ⟨kb, koff, rfl, hbn, hrow⟩
      · subst h; simp at hlt
      have hbn2 : kb < wr.heap.size := by omega
      have HD := hid (declM_drop mons j hlt ((mons.take j).map Mo.name))
      have HS := hid (names_snoc Mo.name mons j hlt)
      have HSC := hid (scOf_snoc mons j hlt)
      have hrj := hrow.below hb0 hbn
      have hIm := h4 _ (List.getElem_mem hlt)
      have HFST := hid (scOf_fst (mons.take j))
      obtain ⟨S, hS⟩ : ∃ S, scOf (mons.take j) = S := ⟨_, rfl⟩
      rw [hS] at hSc
      rw [hS] at HSC
      rw [hS] at HFST
      clear hS
      have HNPS : Hid (mons[j].nps = vps mons[j].vars ++ fps mons[j].meths) := rfl
      have HNMS : Hid (mons[j].nms = vks mons[j].vars ++ fks mons[j].meths) := rfl
      rcases he' : mons[j] with ⟨mname, mvad, mvcap, mvars, mmad, mmcap, mmeths, mpos⟩
      obtain ⟨c0, c1, c2, c3⟩ := row4 hrj j hlt (by rw [he']; rfl)
      rw [he'] at HD
      rw [he'] at HS
      rw [he'] at HSC
      rw [he'] at HNPS
      rw [he'] at HNMS
      rw [he'] at hIm
      obtain ⟨⟨-, -⟩, ⟨hv1, -⟩, hf1, hf2⟩ := hIm
      simp only at HD HS HSC HNPS HNMS hv1 hf1 hf2
      clear he'
      have hvl1 := hv1.1; have hvl2 := hv1.2.1; have hfl1 := hf1.1; have hfl2 := hf1.2.1
      unfold maxLen at hvl2 hfl2
      have hSc1 := hSc.below ((Below.refl wr.heap.size wr).al le_rfl' (.cells #[.string mname, .slice mvad mvars.length mvcap, .slice mmad mmeths.length mmcap, .int .i64 mpos] 62)) (Nat.le_refl _)
      rcases scope_look hSc1 mname with ⟨c, l, -, -, hlook, -, hin⟩ | ⟨-, -, hlook, hin⟩
      · have HR : Hid (declM [] mons = some mpos) := by
          show _ = _
          rw [HQ.out, HD.out, if_pos]
          rw [← HFST.out]
          exact hasN_iff.2 hin
        clear hin hSc1 hSc
        go_wp2
        go_quiet (fail)
        go_wp2
        go_ret2
        exact ⟨.inr ⟨mpos, HR.out, rfl⟩, below_drewN (hbF.al (by omega) _) _⟩
      · have HR : Hid (declM [] mons = (dupN [] (vps mvars ++ fps mmeths)).or (declM ((mons.take (j + 1)).map Mo.name) (mons.drop (j + 1)))) := by
          show _ = _
          rw [HQ.out, HD.out, if_neg (by rw [← HFST.out]; exact fun h => hin (hasN_iff.1 h)), HS.out, HNPS.out]
        have hSc2 := hSc1.below ((Below.refl (wr.alloc (.cells #[.string mname, .slice mvad mvars.length mvcap, .slice mmad mmeths.length mmcap, .int .i64 mpos] 62)).heap.size (wr.alloc (.cells #[.string mname, .slice mvad mvars.length mvcap, .slice mmad mmeths.length mmcap, .int .i64 mpos] 62))).al le_rfl' (.map #[] 0)) (Nat.le_refl _)
        have hMk := SMap.new (wr.alloc (.cells #[.string mname, .slice mvad mvars.length mvcap, .slice mmad mmeths.length mmcap, .int .i64 mpos] 62))
        have hin2 : mname ∉ (outer S B).map Prod.fst := by rw [outer_fst _ _ hSc.1]; exact hin
        have e1 : (wr.alloc (.cells #[.string mname, .slice mvad mvars.length mvcap, .slice mmad mmeths.length mmcap, .int .i64 mpos] 62)).heap.size = wr.heap.size + 1 := by simp
        rw [e1] at hMk
        have hput := put_sm hSc2.2.1 (T := 115) (E := 54) Tryd.underlying115 hin2 (.map (some (wr.heap.size + 1)))
        have hM2 := smPut_map hSc2.2.1 hin2 (.map (some (wr.heap.size + 1)))
        have hg := smPut_grown ((wr.alloc (.cells #[.string mname, .slice mvad mvars.length mvcap, .slice mmad mmeths.length mmcap, .int .i64 mpos] 62)).alloc (.map #[] 0)) bs (outer S B) mname (.map (some (wr.heap.size + 1)))
        have hMk2 := hMk.grown hg (by simp; omega)
        have hIn : ∀ (i : Nat) (h : i < S.length) (h' : i < B.length), B[i] ≠ bs ∧ B[i] < wr.heap.size ∧ SMap (smPut ((wr.alloc (.cells #[.string mname, .slice mvad mvars.length mvcap, .slice mmad mmeths.length mmcap, .int .i64 mpos] 62)).alloc (.map #[] 0)) bs (outer S B) mname (.map (some (wr.heap.size + 1)))) B[i] (ints S[i].2) := fun i h h' =>
          ⟨(hSc2.2.2 i h h').1, (hSc.2.2 i h h').2.lt, (hSc2.2.2 i h h').2.grown hg (by simpa using (hSc2.2.2 i h h').1)⟩
        have bX : (smPut ((wr.alloc (.cells #[.string mname, .slice mvad mvars.length mvcap, .slice mmad mmeths.length mmcap, .int .i64 mpos] 62)).alloc (.map #[] 0)) bs (outer S B) mname (.map (some (wr.heap.size + 1)))).heap[wr.heap.size]? = some (.cells #[.string mname, .slice mvad mvars.length mvcap, .slice mmad mmeths.length mmcap, .int .i64 mpos] 62 (0, 0)) := (hg.block _ (by simp; omega) (by simp; omega)).trans ((Below.heap_alloc _ _ _ (by simp)).trans (heapNew wr _))
        have hB2 : Below bs w (smPut ((wr.alloc (.cells #[.string mname, .slice mvad mvars.length mvcap, .slice mmad mmeths.length mmcap, .int .i64 mpos] 62)).alloc (.map #[] 0)) bs (outer S B) mname (.map (some (wr.heap.size + 1)))) := ((hbF.al (by omega) _).al (by omega) _).grown hg (by simp; omega) (fun k e => by cases e; exact Nat.le_refl _)
        have hz2 : wr.heap.size + 2 ≤ (smPut ((wr.alloc (.cells #[.string mname, .slice mvad mvars.length mvcap, .slice mmad mmeths.length mmcap, .int .i64 mpos] 62)).alloc (.map #[] 0)) bs (outer S B) mname (.map (some (wr.heap.size + 1)))).heap.size := by have := hg.size; simp at this; omega
        obtain ⟨W2, hW2⟩ : ∃ W2, smPut ((wr.alloc (.cells #[.string mname, .slice mvad mvars.length mvcap, .slice mmad mmeths.length mmcap, .int .i64 mpos] 62)).alloc (.map #[] 0)) bs (outer S B) mname (.map (some (wr.heap.size + 1))) = W2 := ⟨_, rfl⟩
        rw [hW2] at hput hM2 hMk2 bX hB2 hz2
        simp only [hW2] at hIn
        have HSL := hid hSc.1
        clear hg hW2 hin hin2 hSc1 hSc2 hSc e1 hMk
        have y1 := cellOf bX 1
        have y2 := cellOf bX 2
        simp at y1 y2
        obtain ⟨wo, hwo⟩ : ∃ wo : World, wo = wr := ⟨_, rfl⟩
        subst hwo
        have HZ2 := hid hz2
        clear hz2
        go_wp2
        go_loopw [34] (fun i wr => ∃ l : Nat, l ≤ mvars.length ∧ i = .int .i64 l ∧ Hid (dupN [] (vps mvars ++ fps mmeths) = dupN ((vks (mvars.take l)).map Prod.fst) (vps (mvars.drop l) ++ fps mmeths)) ∧ SMap wr (wo.heap.size + 1) (ints (vks (mvars.take l))) ∧ W2.grownBy wr (some (wo.heap.size + 1)))
          (fun i _ => mvars.length - (intOf i).toNat)
        case atStart => exact ⟨0, by omega, rfl, rfl, hMk2, World.grownBy.refl _ _⟩
        case round =>
          obtain ⟨l, hl, rfl, HQ2, hMv, hgv⟩ := hrel
          have hzv := hgv.size
          have hz2 := HZ2.out
          have hBv : Below bs w wr := hB2.grown hgv (by omega) (fun k e => by cases e; omega)
          have hv0 : Below n₀ w wr := hBv.mono hn
          by_cases hlt2 : l < mvars.length
          · rcases hv1.2.2 with h | ⟨mb, moff, rfl, hmn, hmrow⟩
            · subst h; simp at hlt2
            have hmn2 : mb < wr.heap.size := by omega
            have HD2 := hid (dupN_var ((vks (mvars.take l)).map Prod.fst) mvars l hlt2 (fps mmeths))
            have HV2 := hid (vks_snoc mvars l hlt2)
            have hmr := hmrow.below hv0 hmn
            have hLp := vks_pos (mvars.take l)
            obtain ⟨L, hL⟩ : ∃ L, vks (mvars.take l) = L := ⟨_, rfl⟩
            rw [hL] at hMv hLp
            rw [hL] at HD2
            rw [hL] at HV2
            rw [hL] at HQ2
            clear hL
            rcases he' : mvars[l] with ⟨vname, vtype, vlo, vhi, vinit, vpos⟩
            obtain ⟨d0, d1, d2, d3, d4, d5⟩ := row6 hmr l hlt2 (by rw [he']; rfl)
            rw [he'] at HD2
            rw [he'] at HV2
            simp only at HD2 HV2
            clear he'
            have hM1 := hMv.al (.cells #[.string vname, .int .i64 vtype, .int .i64 vlo, .int .i64 vhi, .int .i64 vinit, .int .i64 vpos] 64)
            have hlook2 := look_in hM1 vname
            obtain ⟨kk, hkk⟩ : ∃ kk, kindAt L vname = kk := ⟨_, rfl⟩
            rw [hkk] at hlook2
            by_cases hin : vname ∈ L.map Prod.fst
            · have hk0 : (kk != 0) = true := by rw [bne_iff_ne, ← hkk]; exact kindAt_pos L vname hin hLp
              have HE : Hid (declM [] mons = some vpos) := by
                show _ = _
                rw [HR.out, HQ2.out, HD2.out, if_pos (hasN_iff.2 hin)]; rfl
              clear hkk hin hIn
              go_wp2
              go_quiet (fail)
              go_wp2
              go_ret2
              exact ⟨.inr ⟨vpos, HE.out, rfl⟩, below_drewN (hBv.al (by omega) _) _⟩
            · have hk0 : kk = 0 := by rw [← hkk]; exact kindAt_zero L vname hin
              subst hk0
              have hin2 : vname ∉ (ints L).map Prod.fst := by rw [ints_fst]; exact hin
              have hput2 := put_sm hM1 (T := 54) (E := 3) Tryd.underlying54 hin2 (.int .i64 1)
              have hM3 := smPut_map hM1 hin2 (.int .i64 1)
              have hg2 := smPut_grown (wr.alloc (.cells #[.string vname, .int .i64 vtype, .int .i64 vlo, .int .i64 vhi, .int .i64 vinit, .int .i64 vpos] 64)) (wo.heap.size + 1) (ints L) vname (.int .i64 1)
              rw [ints_snoc] at hM3
              obtain ⟨W3, hW3⟩ : ∃ W3, smPut (wr.alloc (.cells #[.string vname, .int .i64 vtype, .int .i64 vlo, .int .i64 vhi, .int .i64 vinit, .int .i64 vpos] 64)) (wo.heap.size + 1) (ints L) vname (.int .i64 1) = W3 := ⟨_, rfl⟩
              rw [hW3] at hput2 hM3 hg2
              have HE : Hid (dupN [] (vps mvars ++ fps mmeths) = dupN ((vks (mvars.take (l + 1))).map Prod.fst) (vps (mvars.drop (l + 1)) ++ fps mmeths)) := by
                show _ = _
                rw [HQ2.out, HD2.out, if_neg (fun h => hin (hasN_iff.1 h)), HV2.out, List.map_append]; rfl
              have HM3 : Hid (SMap W3 (wo.heap.size + 1) (ints (vks (mvars.take (l + 1))))) := by show SMap _ _ _; rw [HV2.out]; exact hM3
              have HG3 := hid (hgv.trans ((World.grownBy_alloc wr (.cells #[.string vname, .int .i64 vtype, .int .i64 vlo, .int .i64 vhi, .int .i64 vinit, .int .i64 vpos] 64) _).trans hg2))
              clear hkk hin hin2 hW3 hM3 hg2 hIn
              go_wp2
              go_roundw
              case rel => exact ⟨l + 1, by omega, by go_num, HE, HM3.out, HG3.out⟩
              case measure => simp [intOf]; omega
          · have hjd2 : decide ((l : Int) < (mvars.length : Int)) = false := by simp; omega
            obtain rfl : l = mvars.length := by omega
            have HQ3 : Hid (dupN [] (vps mvars ++ fps mmeths) = dupN ((vks mvars).map Prod.fst) (fps mmeths)) := by
              show _ = _
              rw [HQ2.out, List.drop_of_length_le (Nat.le_refl _), List.take_of_length_le (Nat.le_refl _)]; rfl
            rw [List.take_of_length_le (Nat.le_refl _)] at hMv
            have z2 := hgv.cell y2 (by simp)
            clear hlook hput y1 y2
            go_wp2
            obtain ⟨wv, hwv⟩ : ∃ wv : World, wv = wr := ⟨_, rfl⟩
            subst hwv
            go_loopw [52] (fun i wr => ∃ l : Nat, l ≤ mmeths.length ∧ i = .int .i64 l ∧ Hid (dupN [] (vps mvars ++ fps mmeths) = dupN ((vks mvars ++ fks (mmeths.take l)).map Prod.fst) (fps (mmeths.drop l))) ∧ SMap wr (wo.heap.size + 1) (ints (vks mvars ++ fks (mmeths.take l))) ∧ W2.grownBy wr (some (wo.heap.size + 1)))
              (fun i _ => mmeths.length - (intOf i).toNat)
            case atStart => exact ⟨0, by omega, rfl, by show _ = _; rw [HQ3.out]; simp [fks], by simpa [fks] using hMv, hgv⟩
            case round =>
              clear hMv
              obtain ⟨l, hl, rfl, HQ4, hMv, hgv2⟩ := hrel
              have hzv2 := hgv2.size
              have hBv2 : Below bs w wr := hB2.grown hgv2 (by omega) (fun k e => by cases e; omega)
              have hv02 : Below n₀ w wr := hBv2.mono hn
              by_cases hlt3 : l < mmeths.length
              · rcases hf1.2.2 with h | ⟨fb, foff, rfl, hfn, hfrow⟩
                · subst h; simp at hlt3
                have hfn2 : fb < wr.heap.size := by omega
                have HD2 := hid (dupN_meth ((vks mvars ++ fks (mmeths.take l)).map Prod.fst) mmeths l hlt3)
                have HV2 : Hid (vks mvars ++ fks (mmeths.take (l + 1)) = (vks mvars ++ fks (mmeths.take l)) ++ [(mmeths[l].name, 2)]) := by show _ = _; rw [fks_snoc mmeths l hlt3, List.append_assoc]
                have hfr := hfrow.below hv02 hfn
                have hLp : ∀ x ∈ vks mvars ++ fks (mmeths.take l), x.2 ≠ 0 := fun x hx => (List.mem_append.1 hx).elim (vks_pos _ x) (fks_pos _ x)
                obtain ⟨L, hL⟩ : ∃ L, vks mvars ++ fks (mmeths.take l) = L := ⟨_, rfl⟩
                rw [hL] at hMv hLp
                rw [hL] at HD2
                rw [hL] at HV2
                rw [hL] at HQ4
                clear hL
                rcases he' : mmeths[l] with ⟨fname, ⟨fad, fcap, fbody⟩, fpos⟩
                obtain ⟨d0, d1, d2⟩ := row3 hfr l hlt3 (by rw [he']; rfl)
                simp only [Bl.slice] at d1
                rw [he'] at HD2
                rw [he'] at HV2
                simp only at HD2 HV2
                clear he'
                have hM1 := hMv.al (.cells #[.string fname, .slice fad fbody.length fcap, .int .i64 fpos] 66)
                have hlook2 := look_in hM1 fname
                obtain ⟨kk, hkk⟩ : ∃ kk, kindAt L fname = kk := ⟨_, rfl⟩
                rw [hkk] at hlook2
                by_cases hin : fname ∈ L.map Prod.fst
                · have hk0 : (kk != 0) = true := by rw [bne_iff_ne, ← hkk]; exact kindAt_pos L fname hin hLp
                  have HE : Hid (declM [] mons = some fpos) := by
                    show _ = _
                    rw [HR.out, HQ4.out, HD2.out, if_pos (hasN_iff.2 hin)]; rfl
                  clear hkk hin hIn
                  go_wp2
                  go_quiet (fail)
                  go_wp2
                  go_ret2
                  exact ⟨.inr ⟨fpos, HE.out, rfl⟩, below_drewN (hBv2.al (by omega) _) _⟩
                · have hk0 : kk = 0 := by rw [← hkk]; exact kindAt_zero L fname hin
                  subst hk0
                  have hin2 : fname ∉ (ints L).map Prod.fst := by rw [ints_fst]; exact hin
                  have hput2 := put_sm hM1 (T := 54) (E := 3) Tryd.underlying54 hin2 (.int .i64 2)
                  have hM3 := smPut_map hM1 hin2 (.int .i64 2)
                  have hg2 := smPut_grown (wr.alloc (.cells #[.string fname, .slice fad fbody.length fcap, .int .i64 fpos] 66)) (wo.heap.size + 1) (ints L) fname (.int .i64 2)
                  rw [ints_snoc] at hM3
                  obtain ⟨W3, hW3⟩ : ∃ W3, smPut (wr.alloc (.cells #[.string fname, .slice fad fbody.length fcap, .int .i64 fpos] 66)) (wo.heap.size + 1) (ints L) fname (.int .i64 2) = W3 := ⟨_, rfl⟩
                  rw [hW3] at hput2 hM3 hg2
                  have HE : Hid (dupN [] (vps mvars ++ fps mmeths) = dupN ((vks mvars ++ fks (mmeths.take (l + 1))).map Prod.fst) (fps (mmeths.drop (l + 1)))) := by
                    show _ = _
                    rw [HQ4.out, HD2.out, if_neg (fun h => hin (hasN_iff.1 h)), HV2.out, List.map_append]; rfl
                  have HM3 : Hid (SMap W3 (wo.heap.size + 1) (ints (vks mvars ++ fks (mmeths.take (l + 1))))) := by show SMap _ _ _; rw [HV2.out]; exact hM3
                  have HG3 := hid (hgv2.trans ((World.grownBy_alloc wr (.cells #[.string fname, .slice fad fbody.length fcap, .int .i64 fpos] 66) _).trans hg2))
                  clear hkk hin hin2 hW3 hM3 hg2 hIn
                  go_wp2
                  go_roundw
                  case rel => exact ⟨l + 1, by omega, by go_num, HE, HM3.out, HG3.out⟩
                  case measure => simp [intOf]; omega
              · have hjd3 : decide ((l : Int) < (mmeths.length : Int)) = false := by simp; omega
                have HE : Hid (declM [] mons = declM ((mons.take (j + 1)).map Mo.name) (mons.drop (j + 1))) := by
                  show _ = _
                  rw [HR.out, HQ4.out, List.drop_of_length_le (by omega)]; rfl
                have HSF : Hid (Scope wr bs (scOf (mons.take (j + 1))) (B ++ [wo.heap.size + 1])) := by
                  show Scope _ _ _ _
                  rw [HSC.out]
                  refine Scope.snoc HSL.out (hM2.grown hgv2 (by simp; omega)) (fun i h h' => ⟨(hIn i h h').1, (hIn i h h').2.2.grown hgv2 (by have := (hIn i h h').2.1; simp; omega)⟩) (by omega) ?_
                  show SMap _ _ (ints _)
                  rw [HNMS.out]
                  rw [List.take_of_length_le (by omega)] at hMv
                  exact hMv
                clear hMv hIn hM2
                go_wp2
                go_roundw
                case rel => exact ⟨j + 1, by omega, by go_num, HE, ⟨_, HSF.out⟩, hBv2⟩
                case measure => simp [intOf]; omega
    · have hjd : decide ((j : Int) < (mons.length : Int)) = false := by simp; omega
      have HE : Hid (declM [] mons = none) := by show _ = _; rw [HQ.out, List.drop_of_length_le (by omega), declM_nil]
      have HSF : Hid (Scope wr bs (scOf mons) B) := by
        show Scope _ _ _ _
        rw [List.take_of_length_le (by omega)] at hSc
        exact hSc
      clear hSc
      go_wp2
      go_ret2
      exact ⟨.inl ⟨HE.out, rfl, _, HSF.out⟩, hbF⟩
end Go.Proofs.YtfkabkbnfeiggaaDoor
