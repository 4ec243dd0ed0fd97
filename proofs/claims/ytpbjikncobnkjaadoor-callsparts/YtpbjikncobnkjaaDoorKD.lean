/-
  live of stage 8's statements is true: a method, called twice.
-/
import Derived.Test.YtpbjikncobnkjaaDoorKC
import Derived.Test.YtpbjikncobnkjaaDoorJT
namespace Go.Proofs.YtpbjikncobnkjaaDoor
open Go.RowKit
theorem eqKey {r s : Ref} (hr : VLen r) (hs : VLen s) (W : World) : (Op.equal 71 (vkey r) (vkey s)).run Tryd.prog W = .ok (decide (s = r)) W := by
  have h := keyLaw.find W (keyOf_v hr) [⟨vkey s, .bool true, 0⟩] (fun e he => by rw [List.mem_singleton.1 he]; exact ⟨_, keyOf_v hs⟩)
  have hf : ∀ o W', (Instr.findKey 71 (vkey r) [⟨vkey s, .bool true, 0⟩]).run Tryd.prog W = .ok o W' → (Op.equal 71 (vkey r) (vkey s)).run Tryd.prog W = .ok o.isSome W' := by
    intro o W' ho
    simp only [Instr.findKey, Sem.run_bind, run_underlying Tryd.underlying71, Result.andThen, Instr.findNow, Instr.sameNow, vkey, Instr.findAsking] at ho ⊢
    cases hE : (Op.equal 71 (.agg #[.string r.1, .string r.2]) (.agg #[.string s.1, .string s.2])).run Tryd.prog W with
    | ok b w' =>
      rw [hE] at ho
      cases b
      · simp at ho
        obtain ⟨h1, h2⟩ := ho
        subst h1 h2; rfl
      · simp at ho
        obtain ⟨h1, h2⟩ := ho
        subst h1 h2; rfl
    | halt h w' => rw [hE] at ho; simp at ho
  rcases h with ⟨h1, h2⟩ | ⟨j, e, h1, h2, h3⟩
  · have hne : ¬ s = r := fun e => h2 ⟨vkey s, .bool true, 0⟩ (List.mem_singleton.2 rfl) (by show vkey s = vkey r; rw [e])
    rw [hf _ _ h1]; simp [hne]
  · have he : e = ⟨vkey s, .bool true, 0⟩ := by simpa using List.mem_of_getElem? h2
    rw [he] at h3
    have hse : s = r := vkey_inj h3
    rw [hf _ _ h1]; simp [hse]
theorem eqRef {a b c d : ByteArray} (hr : VLen (a, b)) (hs : VLen (c, d)) (W : World) : (binOp .eql 71 (.agg #[.string a, .string b]) (.agg #[.string c, .string d])).run Tryd.prog W = .ok (.bool (decide ((c, d) = (a, b)))) W := by
  have h : (Op.equal 71 (.agg #[.string a, .string b]) (.agg #[.string c, .string d])).run Tryd.prog W = .ok (decide ((c, d) = (a, b))) W := eqKey hr hs W
  simp [binOp, go_sem, h]
def IxBack (l : List Ref) (r : Ref) (w w' : World) (e : Ending) : Prop := ((r ∉ l ∧ e = .returned (.int .i64 (-1))) ∨ (r ∈ l ∧ ∃ i : Nat, i < l.length ∧ e = .returned (.int .i64 (i : Int)))) ∧ Below w.heap.size w w'
set_option maxRecDepth 100000 in
set_option maxHeartbeats 4000000 in
theorem index_any (l : List Ref) (ad : Option Addr) (cap n₀ : Nat) (a c : ByteArray) (w : World) (hn : n₀ ≤ w.heap.size) (hsl : SlAt 2 rcells n₀ w ad cap l) (hr : VLen (a, c)) (hV : ∀ r ∈ l, VLen r) :
    Calls Tryd.prog 52 #[.slice ad l.length cap, .agg #[.string a, .string c]] w fun e w' => IxBack l (a, c) w w' e := by
  have hl1 := hsl.1; have hl2 := hsl.2.1
  unfold maxLen at hl2
  go_enter Tryd.func52, Tryd.ntmps52
  go_upto_region 1 with fail
  obtain ⟨bX, hBX, hzX⟩ := one_box w #[.string a, .string c] 71
  obtain ⟨W1, hW1⟩ : ∃ W1, w.alloc (.cells #[.string a, .string c] 71) = W1 := ⟨_, rfl⟩
  rw [hW1] at bX hBX hzX ⊢
  clear hW1
  have HZ := hid hzX
  clear hzX
  go_wp2
  go_loopw [8] (fun i wr => ∃ k : Nat, k ≤ l.length ∧ i = .int .i64 k ∧ Hid ((a, c) ∉ l.take k) ∧ Below W1.heap.size W1 wr)
    (fun i _ => l.length - (intOf i).toNat)
  case atStart => exact ⟨0, by omega, rfl, (by show _ ∉ _; simp), Below.refl _ _⟩
  case round =>
    obtain ⟨k, hk, rfl, HK, hbx⟩ := hrel
    have hzx := hbx.size
    have hz0 := HZ.out
    have hbF : Below w.heap.size w wr := hBX.tr (by omega) hbx
    by_cases hlk : k < l.length
    · rcases hsl.2.2 with h | ⟨tb, toff, rfl, htn, htrow⟩
      · subst h; simp at hlk
      have htrow2 := htrow.below (hbF.mono hn) htn
      have d0 := htrow2 k hlk 0 (by omega)
      have d1 := htrow2 k hlk 1 (by omega)
      have htw : tb < wr.heap.size := by omega
      have hvx := hV _ (List.getElem_mem hlk)
      have HX1 : Hid (l[k] = (a, c) → (a, c) ∈ l) := fun h => h ▸ List.getElem_mem hlk
      have HX2 : Hid (l[k] ≠ (a, c) → (a, c) ∉ l.take (k + 1)) := by
        intro h hx
        rw [List.take_succ_eq_append_getElem hlk] at hx
        rcases List.mem_append.1 hx with hx | hx
        · exact HK.out hx
        · exact h (List.mem_singleton.1 hx).symm
      simp only [rcells] at d0 d1
      simp at d0 d1
      obtain ⟨g1, hg1⟩ : ∃ g1, l[k] = g1 := ⟨_, rfl⟩
      rw [hg1] at d0 d1 hvx HX1 HX2
      clear hg1
      obtain ⟨gm, gn⟩ := g1
      simp only at d0 d1
      have heq := fun W => eqRef hr hvx W
      have bXr := (hbx.block w.heap.size (by omega)).trans bX
      have y0 := cellOf bXr 0
      have y1 := cellOf bXr 1
      simp at y0 y1
      have hww : w.heap.size < wr.heap.size := by omega
      by_cases he : (gm, gn) = (a, c)
      · have hd : decide ((gm, gn) = (a, c)) = true := by simp [he]
        simp only [hd] at heq
        have HI := hid (HX1.out he)
        clear HX1 HX2 he hd
        go_wp2_with fail
        go_quiet (fail)
        go_wp2
        go_ret
        exact ⟨.inr ⟨HI.out, k, hlk, rfl⟩, below_drewN hbF _⟩
      · have hd : decide ((gm, gn) = (a, c)) = false := by simp only [he, decide_false]
        simp only [hd] at heq
        have HI := hid (HX2.out he)
        clear HX1 HX2 he hd
        go_wp2_with fail
        go_quiet (fail)
        go_wp2
        go_roundw
        case rel => exact ⟨k + 1, by omega, by go_num, HI, below_drewN hbx _⟩
        case measure => simp [intOf]; omega
    · have hkd : decide ((k : Int) < (l.length : Int)) = false := by simp; omega
      have HE : Hid ((a, c) ∉ l) := by
        have := HK.out
        rwa [List.take_of_length_le (by omega)] at this
      go_wp2
      go_ret
      exact ⟨.inl ⟨HE.out, rfl⟩, hbF⟩
set_option maxRecDepth 100000 in
set_option maxHeartbeats 4000000 in
theorem contains_any (l : List Ref) (ad : Option Addr) (cap n₀ : Nat) (a c : ByteArray) (w : World) (hn : n₀ ≤ w.heap.size) (hsl : SlAt 2 rcells n₀ w ad cap l) (hr : VLen (a, c)) (hV : ∀ r ∈ l, VLen r) :
    Calls Tryd.prog 37 #[.slice ad l.length cap, .agg #[.string a, .string c]] w fun e w' => e = .returned (.bool (decide ((a, c) ∈ l))) ∧ Below w.heap.size w w' := by
  have hq := fun (W : World) (hW : Below w.heap.size w W) => index_any l ad cap n₀ a c W (by have := hW.size; omega) (hsl.below (hW.mono hn)) hr hV
  by_cases hm : (a, c) ∈ l
  · have hd : decide ((a, c) ∈ l) = true := by simp [hm]
    have hq2 : ∀ (W : World) (hW : Below w.heap.size w W), Calls Tryd.prog 52 #[.slice ad l.length cap, .agg #[.string a, .string c]] W fun e w' => ∃ i : Nat, e = .returned (.int .i64 (i : Int)) ∧ Below W.heap.size W w' := fun W hW => (hq W hW).mono (by
      rintro e w' ⟨⟨h, _⟩ | ⟨_, i, _, h⟩, hb⟩
      · exact absurd hm h
      · exact ⟨i, h, hb⟩)
    rw [hd]
    clear hq hd hm
    have hB0 := (Below.refl w.heap.size w).al le_rfl' (.cells #[.string a, .string c] 71)
    go_enter Tryd.func37, Tryd.ntmps37
    go_wp2_with (go_at_call 52; (with_reducible refine (hq2 _ hB0).mono ?_); rintro r u1 ⟨i, rfl, bb1⟩; have hi0 : (0 : Int) ≤ (i : Int) := by omega)
    go_ret
    exact ⟨rfl, hB0.tr le_rfl' bb1⟩
  · have hd : decide ((a, c) ∈ l) = false := by simp only [hm, decide_false]
    have hq2 : ∀ (W : World) (hW : Below w.heap.size w W), Calls Tryd.prog 52 #[.slice ad l.length cap, .agg #[.string a, .string c]] W fun e w' => e = .returned (.int .i64 (-1)) ∧ Below W.heap.size W w' := fun W hW => (hq W hW).mono (by
      rintro e w' ⟨⟨_, h⟩ | ⟨h, _⟩, hb⟩
      · exact ⟨h, hb⟩
      · exact absurd h hm)
    rw [hd]
    clear hq hd hm
    have hB0 := (Below.refl w.heap.size w).al le_rfl' (.cells #[.string a, .string c] 71)
    go_enter Tryd.func37, Tryd.ntmps37
    go_wp2_with (go_at_call 52; (with_reducible refine (hq2 _ hB0).mono ?_); rintro r u1 ⟨rfl, bb1⟩)
    go_ret
    exact ⟨rfl, hB0.tr le_rfl' bb1⟩
/-- A method leads to itself. -/
def goesR (p : Pr) (r : Ref) : Bool := decide (r ∈ reachedOf p (leadsOf p r))
set_option maxRecDepth 100000 in
set_option maxHeartbeats 4000000 in
theorem goesRound_any (p : Pr) (a c : ByteArray) (n₀ b : Nat) (w : World) (hn : n₀ ≤ w.heap.size) (hBk : Book w n₀ b p) (hr : VLen (a, c)) (hV : ∀ r ∈ allRefs p, VLen r) (hF : Fine p) :
    Calls Tryd.prog 26 #[.map (some b), .agg #[.string a, .string c]] w fun e w' => e = .returned (.bool (goesR p (a, c))) ∧ Below w.heap.size w w' := by
  have HG := hid (show goesR p (a, c) = decide ((a, c) ∈ reachedOf p (leadsOf p (a, c))) from rfl)
  have hV2 : ∀ r ∈ leadsOf p (a, c) ++ allRefs p, VLen r := fun r hr => by
    rcases List.mem_append.1 hr with h | h
    · exact hV r (leads_all p _ r h)
    · exact hV r h
  have hV3 : ∀ r ∈ reachedOf p (leadsOf p (a, c)), VLen r := fun r hr => hV2 r (reached_sub p _ r hr)
  have hra := fun (ad : Option Addr) (cap : Nat) (W : World) (hW : Below w.heap.size w W) (hs : SlAt 2 rcells n₀ W ad cap (leadsOf p (a, c))) => reached_any p (leadsOf p (a, c)) ad cap n₀ b W (by have := hW.size; omega) (hBk.below (hW.mono hn)) hs hV2 (by have := hF.refs; have := hF.lds (a, c); omega)
  have hco := fun (ad : Option Addr) (cap : Nat) (W : World) (hs : SlAt 2 rcells W.heap.size W ad cap (reachedOf p (leadsOf p (a, c)))) => contains_any (reachedOf p (leadsOf p (a, c))) ad cap W.heap.size a c W (Nat.le_refl _) hs hr hV3
  simp only [← HG.out] at hco
  obtain ⟨G, hG⟩ : ∃ G, goesR p (a, c) = G := ⟨_, rfl⟩
  rw [hG]
  simp only [hG] at hco
  obtain ⟨bX, hBX, hzX⟩ := one_box w #[.string a, .string c] 71
  go_enter Tryd.func26, Tryd.ntmps26
  go_upto_region 1 with fail
  obtain ⟨W1, hW1⟩ : ∃ W1, w.alloc (.cells #[.string a, .string c] 71) = W1 := ⟨_, rfl⟩
  obtain ⟨Bs, hBs⟩ : ∃ Bs, w.heap.size = Bs := ⟨_, rfl⟩
  have HBX : Hid (Below w.heap.size w W1) := by rw [← hW1]; exact hBX
  rw [hW1] at bX ⊢
  rw [hBs] at bX ⊢
  have hBkd : Book W1.drew n₀ b p := hBk.below (below_drewV (HBX.out.mono hn))
  obtain ⟨gad, gcap, cad, ccap, hlook, -, hcl⟩ := hBkd.look hr
  simp only at hlook
  obtain ⟨gb, hgb⟩ : ∃ gb, (bodyOf p (a, c)).body.length = gb := ⟨_, rfl⟩
  rw [hgb] at hlook
  have hf80 := fld80
  have hB1 : Below w.heap.size w W1.drew := below_drewV HBX.out
  have hrac := hra cad ccap _ hB1 hcl
  obtain ⟨gs, hgs⟩ : ∃ gs, leadsOf p (a, c) = gs := ⟨_, rfl⟩
  obtain ⟨R, hR⟩ : ∃ R, reachedOf p (leadsOf p (a, c)) = R := ⟨_, rfl⟩
  simp only [hR] at hrac hco
  rw [hgs] at hlook hrac
  clear hgs hR hgb hW1 hBs hBX hzX hra hBkd hcl
  have HK : Hid (∀ W, Below W1.heap.size W1 W → W.cell? ⟨Bs, 0, none⟩ = some (.string a) ∧ W.cell? ⟨Bs, 1, none⟩ = some (.string c)) := by
    intro W hW
    have hl := (Array.getElem?_eq_some_iff.1 bX).1
    refine ⟨(hW.cell (p := ⟨Bs, 0, none⟩) hl).trans ?_, (hW.cell (p := ⟨Bs, 1, none⟩) hl).trans ?_⟩
    · rw [cellOf bX]; simp
    · rw [cellOf bX]; simp
  have B : Below W1.heap.size W1 W1.drew := ⟨rfl, rfl, rfl, Nat.le_refl _, fun _ _ => rfl⟩
  go_region_held3 (fun W => W.cell? ⟨Bs, 0, none⟩ = some (.string a) ∧ W.cell? ⟨Bs, 1, none⟩ = some (.string c)) (exact HK.out _ B)
    (first
      | (go_at_call 29; (with_reducible refine hrac.mono ?_); rintro r u ⟨v, rfl, hown, bb⟩; obtain ⟨rad, rcp, rfl, hrs⟩ := slOwn rcells_len hown; have B := B.trans (bb.mono B.size))
      | (go_at_call 37; (with_reducible refine (hco rad rcp _ hrs).mono ?_); rintro r u2 ⟨rfl, bb2⟩; have B := B.trans (bb2.mono B.size)))
  have HB := hid (HBX.out.trans (B.mono HBX.out.size))
  go_wp2
  go_ret
  exact ⟨rfl, HB.out⟩
/-- The first method in a cycle, the first role that is too big. -/
def Me.cyc (p : Pr) (mon : ByteArray) (f : Me) : Option (Int × Int) := if goesR p (mon, f.name) = true then some (80, f.pos) else none
def Mo.cyc (p : Pr) (m : Mo) : Option (Int × Int) := fstOf (Me.cyc p m.name) m.meths
def Ro.big (p : Pr) (r : Ro) : Option (Int × Int) := if (cntOf p r.body).2 = 81 then some (81, r.pos) else none
def Pr.cchk (p : Pr) : Int × Int := if p.tchk.1 = 0 then ((fstOf (Mo.cyc p) p.mons).or (fstOf (Ro.big p) p.roles)).getD (0, 0) else p.tchk
set_option maxRecDepth 100000 in
set_option maxHeartbeats 16000000 in
theorem Check_any (p : Pr) (n₀ : Nat) (w : World) (hn : n₀ ≤ w.heap.size) (hp : p.Is n₀ w) (hS : Shapes w) (hS3 : 3 ≤ w.heap.size) (hvs : vsum p.mons ≤ 1000000) (hF : Fine p) (hRo : ∀ r ∈ p.roles, FineB r.body) :
    Calls Tryd.prog 16 #[p.val] w fun r w' => ChkBack p.cchk w w' r := by
  have hc1 := fun (W : World) (hW : Below w.heap.size w W) => typesCheck_any p hvs n₀ W (by have := hW.size; omega) (hp.below (hW.mono hn)) (hS.below hW hS3)
  have hc2 := fun (W : World) (hW : Below w.heap.size w W) => newBook_any p n₀ W (by have := hW.size; omega) (hp.below (hW.mono hn)) hF.subs hF.lens
  have hV := vlen_all hp
  have hc3 := fun (b n : Nat) (W : World) (hnW : n ≤ W.heap.size) (hB : Book W n b p) (a c : ByteArray) (hr : VLen (a, c)) => goesRound_any p a c n b W hnW hB hr hV hF
  have hc4 := fun (b n : Nat) (W : World) (hnW : n ≤ W.heap.size) (hB : Book W n b p) (r : Ro) (hr : r ∈ p.roles) (hI : r.body.Is n W) => count_any p r.body n b W hnW hB hI hV hF (hRo r hr)
  have HCC := hid (show p.cchk = if p.tchk.1 = 0 then ((fstOf (Mo.cyc p) p.mons).or (fstOf (Ro.big p) p.roles)).getD (0, 0) else p.tchk from rfl)
  obtain ⟨P, hP⟩ : ∃ P : Pr, P = p := ⟨_, rfl⟩
  have HPP := hid hP
  obtain ⟨tc, htc⟩ : ∃ tc, p.tchk = tc := ⟨_, rfl⟩
  obtain ⟨cc, hcc⟩ : ∃ cc, p.cchk = cc := ⟨_, rfl⟩
  rw [htc, hcc] at HCC
  simp only [htc] at hc1
  rw [hcc]
  rw [← hP] at HCC hc3 hc4
  have hc2 : ∀ (W : World), Below w.heap.size w W → Calls Tryd.prog 18 #[p.val] W fun r w' => BookBack P W w' r := by rw [hP]; exact hc2
  have hPm : P.mons = p.mons := by rw [hP]
  have hPr : P.roles = p.roles := by rw [hP]
  rw [hPm, hPr] at HCC
  simp only [hPr] at hc4
  clear htc hcc hP hRo hvs hV hS hPm hPr
  rcases p with ⟨mad, mcap, mons, rad, rcap, roles⟩
  obtain ⟨⟨h3, h4⟩, h5, h6⟩ := hp
  obtain ⟨tc1, tc2⟩ := tc
  simp only [Pr.val] at hc1 hc2 hc4 h3 h4 h5 h6 HCC ⊢
  simp only [ChkBack] at hc1
  have hl1 := h3.1; have hl2 := h3.2.1
  unfold maxLen at hl2
  have hr1 := h5.1; have hr2 := h5.2.1
  unfold maxLen at hr2
  have hB := (Below.refl w.heap.size w).al le_rfl' (.cells #[.slice mad mons.length mcap, .slice rad roles.length rcap] 25)
  have b1 := heapNew w (.cells #[.slice mad mons.length mcap, .slice rad roles.length rcap] 25)
  cases hte : (tc1 != 0 : Bool)
  · have ht0 : tc1 = 0 := by simpa using hte
    subst ht0
    rw [if_pos rfl] at HCC
    go_enter Tryd.func16, Tryd.ntmps16
    go_upto_region 5 with (first
      | (go_at_call 25; (with_reducible refine (hc1 _ hB).mono ?_); rintro r wA ⟨rfl, bb1⟩; have b2 := (bb1.block w.heap.size (by simp)).trans b1; have p0 := cellOf b2 0; have p1 := cellOf b2 1; simp at p0 p1)
      | (go_at_call 18; (with_reducible refine (hc2 _ (hB.tr le_rfl' bb1)).mono ?_); rintro r wB ⟨b, rfl, hbk, bb2⟩))
    have hB1 := hB.tr le_rfl' bb1
    have hB2 := hB1.tr le_rfl' bb2
    have b3 := (bb2.block w.heap.size (by have := hB1.size; have := (Array.getElem?_eq_some_iff.1 b2).1; omega)).trans b2
    have q0 := cellOf b3 0
    have q1 := cellOf b3 1
    simp at q0 q1
    clear hc1 hc2 p0 p1 b1 b2 bb1 bb2 hte
    have hz2 := hB2.size
    go_wp2
    go_loopw [29] (fun i wr => ∃ j : Nat, j ≤ mons.length ∧ i = .int .i64 j ∧ Hid (fstOf (Mo.cyc P) mons = fstOf (Mo.cyc P) (mons.drop j)) ∧ Below wB.heap.size wB wr)
      (fun i _ => mons.length - (intOf i).toNat)
    case atStart => exact ⟨0, by omega, rfl, rfl, Below.refl _ _⟩
    case round =>
      obtain ⟨j, hj, rfl, HQ, hbw⟩ := hrel
      have hz1 := hbw.size
      have hbF : Below w.heap.size w wr := hB2.tr le_rfl' hbw
      by_cases hlt : j < mons.length
      · rcases h3.2.2 with h | ⟨kb, koff, rfl, hbn, hrow⟩
        · subst h; simp at hlt
        have HD := hid (fstOf_drop (Mo.cyc P) mons j hlt)
        have HMU : Hid (Mo.cyc P mons[j] = fstOf (Me.cyc P mons[j].name) mons[j].meths) := rfl
        have hmj := h4 _ (List.getElem_mem hlt)
        have hmm2 := hrow.below (hbF.mono hn) hbn
        rcases he' : mons[j] with ⟨mname, vad, vcap, vars, fad, fcap, meths, mpos⟩
        have hc4r := row4 hmm2 j hlt (by rw [he']; rfl)
        rw [he'] at hmj HMU
        rw [he'] at HD
        simp only at hc4r HMU
        obtain ⟨c0, c1, c2, c3⟩ := hc4r
        have hkw : kb < wr.heap.size := by omega
        obtain ⟨⟨hml, -⟩, -, hfs, hfI⟩ := hmj
        simp only at hfs hfI hml
        have hf1 := hfs.1; have hf2 := hfs.2.1
        unfold maxLen at hf2
        clear he' hmm2
        go_upto_region 8 with fail
        obtain ⟨bX, hBX, hzX⟩ := one_box wr #[.string mname, .slice vad vars.length vcap, .slice fad meths.length fcap, .int .i64 mpos] 46
        obtain ⟨Bm, hBm⟩ : ∃ Bm, wr.heap.size = Bm := ⟨_, rfl⟩
        obtain ⟨W1, hW1⟩ : ∃ W1, wr.alloc (.cells #[.string mname, .slice vad vars.length vcap, .slice fad meths.length fcap, .int .i64 mpos] 46) = W1 := ⟨_, rfl⟩
        have hbw1 : Below wB.heap.size wB W1 := by rw [← hW1]; exact hbw.tr le_rfl' hBX
        rw [hW1] at bX ⊢
        rw [hBm] at bX ⊢
        have x2 := cellOf bX 2
        simp at x2
        clear hBX hzX hW1 hBm c0 c1 c2 c3
        obtain ⟨wo, hwo⟩ : ∃ wo : World, wo = wr := ⟨_, rfl⟩
        subst hwo
        go_wp2
        clear x2
        go_loopw [36] (fun i wx => ∃ k : Nat, k ≤ meths.length ∧ i = .int .i64 k ∧ Hid (fstOf (Me.cyc P mname) meths = fstOf (Me.cyc P mname) (meths.drop k)) ∧ Below W1.heap.size W1 wx)
          (fun i _ => meths.length - (intOf i).toNat)
        case atStart => exact ⟨0, by omega, rfl, rfl, Below.refl _ _⟩
        case round =>
          obtain ⟨k, hk, rfl, HQ2, hbx⟩ := hrel
          have hzx := hbx.size
          have hbx2 : Below wB.heap.size wB wr := hbw1.tr le_rfl' hbx
          have hbF2 : Below w.heap.size w wr := hB2.tr le_rfl' hbx2
          have bXi := (hbx.block Bm (Array.getElem?_eq_some_iff.1 bX).1).trans bX
          by_cases hlk : k < meths.length
          · rcases hfs.2.2 with h | ⟨qb, qoff, rfl, hqn, hqrow⟩
            · subst h; simp at hlk
            have HD2 := hid (fstOf_drop (Me.cyc P mname) meths k hlk)
            have HMe : Hid (Me.cyc P mname meths[k] = if goesR P (mname, meths[k].name) = true then some (80, meths[k].pos) else none) := rfl
            have hIf := hfI _ (List.getElem_mem hlk)
            have hqrow2 := hqrow.below (hbF2.mono hn) hqn
            rcases he2 : meths[k] with ⟨fname, ⟨bad, bcap, bbody⟩, fpos⟩
            have hc3r := row3 hqrow2 k hlk (by rw [he2]; rfl)
            rw [he2] at HMe hIf
            rw [he2] at HD2
            simp only [Bl.slice] at hc3r
            simp only at HMe
            obtain ⟨d0, d1, d2⟩ := hc3r
            have hfl := hIf.1
            simp only at hfl
            have hvl : VLen (mname, fname) := by unfold VLen maxLen; unfold Len at hml hfl; exact ⟨by simp; omega, by simp; omega⟩
            have hqw : qb < wr.heap.size := by have := hbF2.size; omega
            obtain ⟨bF, hBF, hzF⟩ := one_box wr #[.string fname, .slice bad bbody.length bcap, .int .i64 fpos] 54
            have hcg := hc3 b wB.heap.size (wr.alloc (.cells #[.string fname, .slice bad bbody.length bcap, .int .i64 fpos] 54)) (by have := hbx2.size; simp; omega) (hbk.below (hbx2.tr le_rfl' hBF)) mname fname hvl
            have m0 := (hBF.cell (p := ⟨Bm, 0, none⟩) (by show Bm < _; exact (Array.getElem?_eq_some_iff.1 bXi).1)).trans (cellOf bXi 0)
            simp at m0
            obtain ⟨G, hG⟩ : ∃ G, goesR P (mname, fname) = G := ⟨_, rfl⟩
            rw [hG] at hcg HMe
            clear he2 hG hqrow2 hIf
            cases G
            · simp only [Bool.false_eq_true, if_false] at HMe
              go_wp2_with (go_at_call 26; (with_reducible refine hcg.mono ?_); rintro r wE ⟨rfl, bb5⟩)
              go_roundw
              case rel => exact ⟨k + 1, by omega, by go_num, by show _ = _; rw [HQ2.out, HD2.out, HMe.out]; rfl, (hbx.tr le_rfl' hBF).tr le_rfl' bb5⟩
              case measure => simp [intOf]; omega
            · simp only [if_true] at HMe
              have HE : Hid (cc = (80, fpos)) := by
                show _ = _
                rw [HCC.out, HQ.out, HD.out, HMU.out, HQ2.out, HD2.out, HMe.out]; rfl
              go_wp2_with (go_at_call 26; (with_reducible refine hcg.mono ?_); rintro r wE ⟨rfl, bb5⟩; have f2 := (bb5.cell (p := ⟨wr.heap.size, 2, none⟩) (by show wr.heap.size < _; simp)).trans (cellOf bF 2); simp at f2)
              go_quiet (fail)
              go_wp2
              go_ret2
              exact chkBack_mk HE.out (below_drewN ((hbF2.tr le_rfl' hBF).tr le_rfl' bb5) _)
          · have hkd : decide ((k : Int) < (meths.length : Int)) = false := by simp; omega
            have HE : Hid (fstOf (Mo.cyc P) mons = fstOf (Mo.cyc P) (mons.drop (j + 1))) := by
              show _ = _
              rw [HQ.out, HD.out, HMU.out, HQ2.out, fstOf_end _ _ _ (by omega)]; rfl
            go_wp2
            go_roundw
            case rel => exact ⟨j + 1, by omega, by go_num, HE, hbx2⟩
            case measure => simp [intOf]; omega
      · have hjd : decide ((j : Int) < (mons.length : Int)) = false := by simp; omega
        have HC2 : Hid (cc = (fstOf (Ro.big P) roles).getD (0, 0)) := by
          show _ = _
          rw [HCC.out, HQ.out, fstOf_end _ _ _ (by omega)]; rfl
        clear HCC HQ
        have b4 := (hbw.block w.heap.size (Array.getElem?_eq_some_iff.1 b3).1).trans b3
        have q0 := cellOf b4 0
        have q1 := cellOf b4 1
        simp at q0 q1
        obtain ⟨wC, hu3⟩ : ∃ wC : World, wC = wr := ⟨_, rfl⟩
        subst hu3
        go_wp2
        clear q0 q1
        go_loopw [54] (fun i wx => ∃ k : Nat, k ≤ roles.length ∧ i = .int .i64 k ∧ Hid (fstOf (Ro.big P) roles = fstOf (Ro.big P) (roles.drop k)) ∧ Below wB.heap.size wB wx)
          (fun i _ => roles.length - (intOf i).toNat)
        case atStart => exact ⟨0, by omega, rfl, rfl, hbw⟩
        case round =>
          obtain ⟨k, hk, rfl, HQ2, hbx⟩ := hrel
          have hzx := hbx.size
          have hbF2 : Below w.heap.size w wr := hB2.tr le_rfl' hbx
          by_cases hlk : k < roles.length
          · rcases h5.2.2 with h | ⟨qb, qoff, rfl, hqn, hqrow⟩
            · subst h; simp at hlk
            have HD2 := hid (fstOf_drop (Ro.big P) roles k hlk)
            have HMe : Hid (Ro.big P roles[k] = if (cntOf P roles[k].body).2 = 81 then some (81, roles[k].pos) else none) := rfl
            have hIr := h6 _ (List.getElem_mem hlk)
            have hcr := fun (W : World) (hW : Below wr.heap.size wr W) => hc4 b wB.heap.size W (by have := hW.size; omega) (hbk.below (hbx.tr le_rfl' hW)) roles[k] (List.getElem_mem hlk) ((hIr.2.2.2.below ((hbF2.tr le_rfl' hW).mono hn)).mono (by omega))
            have hqrow2 := hqrow.below (hbF2.mono hn) hqn
            rcases he2 : roles[k] with ⟨rname, rstar, rcount, ⟨bad, bcap, bbody⟩, rpos⟩
            have hc5r := row5 hqrow2 k hlk (by rw [he2]; rfl)
            rw [he2] at HMe
            rw [he2] at HD2
            simp only [he2] at hcr
            simp only [Bl.slice] at hc5r hcr
            simp only at HMe
            obtain ⟨d0, d1, d2, d3, d4⟩ := hc5r
            have hqw : qb < wr.heap.size := by have := hbF2.size; omega
            obtain ⟨bF, hBF, hzF⟩ := one_box wr #[.string rname, .bool rstar, .int .i64 rcount, .slice bad bbody.length bcap, .int .i64 rpos] 59
            have hcg := hcr _ hBF
            obtain ⟨cn, hcn⟩ : ∃ cn, cntOf P (.mk bad bcap bbody) = cn := ⟨_, rfl⟩
            rw [hcn] at hcg HMe
            obtain ⟨c1, c2⟩ := cn
            simp only [CntBack] at hcg
            simp only at HMe
            clear he2 hcn hcr hqrow2 hIr
            cases hc81 : (c2 == 81 : Bool)
            · have hne : ¬ c2 = 81 := by simpa using hc81
              rw [if_neg hne] at HMe
              go_wp2_with (go_at_call 19; (with_reducible refine hcg.mono ?_); rintro r wE ⟨rfl, bb5⟩)
              go_roundw
              case rel => exact ⟨k + 1, by omega, by go_num, by show _ = _; rw [HQ2.out, HD2.out, HMe.out]; rfl, (hbx.tr le_rfl' hBF).tr le_rfl' bb5⟩
              case measure => simp [intOf]; omega
            · have he : c2 = 81 := by simpa using hc81
              subst he
              rw [if_pos rfl] at HMe
              have HE : Hid (cc = (81, rpos)) := by
                show _ = _
                rw [HC2.out, HQ2.out, HD2.out, HMe.out]; rfl
              go_wp2_with (go_at_call 19; (with_reducible refine hcg.mono ?_); rintro r wE ⟨rfl, bb5⟩; have f2 := (bb5.cell (p := ⟨wr.heap.size, 4, none⟩) (by show wr.heap.size < _; simp)).trans (cellOf bF 4); simp at f2)
              go_quiet (fail)
              go_wp2
              go_ret2
              exact chkBack_mk HE.out (below_drewN ((hbF2.tr le_rfl' hBF).tr le_rfl' bb5) _)
          · have hkd : decide ((k : Int) < (roles.length : Int)) = false := by simp; omega
            have HE : Hid (cc = (0, 0)) := by
              show _ = _
              rw [HC2.out, HQ2.out, fstOf_end _ _ _ (by omega)]; rfl
            go_wp2
            go_ret2
            exact chkBack_mk HE.out hbF2
  · have hne : ¬ tc1 = 0 := by simpa using hte
    rw [if_neg hne] at HCC
    go_enter Tryd.func16, Tryd.ntmps16
    go_wp2_with (go_at_call 25; (with_reducible refine (hc1 _ hB).mono ?_); rintro r wA ⟨rfl, bb1⟩)
    go_ret2
    exact chkBack_mk HCC.out (hB.tr le_rfl' bb1)
end Go.Proofs.YtpbjikncobnkjaaDoor
namespace Go.Proofs.YtpbjikncobnkjaaDoor
open Go.RowKit
theorem num_any (x : Int) (w : World) : Calls Tryd.prog 11 #[.int .i64 x] w fun r w' => r = .returned (.int .i64 x) ∧ w' = w := by
  go_enter Tryd.func11, Tryd.ntmps11
  go_wp2
  go_ret
  exact ⟨rfl, rfl⟩
def lvC : St := .mk 8 ⟨#[77]⟩ ⟨#[102]⟩ 0 zeroEx none 0 [] 3
def lvS : St := .mk 1 ⟨#[]⟩ ⟨#[]⟩ 0 zeroEx none 0 [] 0
def lvX (g : Nat) : Bl := .mk (some ⟨g, 0, none⟩) 2 [lvC, lvC]
/-- A program of one method that does s. -/
def lvP (g1 g2 g3 : Nat) (s : St) (pos : Int) : Pr where
  mad := some ⟨g3, 0, none⟩
  mcap := 1
  mons := [⟨⟨#[77]⟩, none, 0, [], some ⟨g2, 0, none⟩, 1, [⟨⟨#[102]⟩, .mk (some ⟨g1, 0, none⟩) 1 [s], pos⟩], 0⟩]
  rad := none
  rcap := 0
  roles := []
theorem lv1 (g1 g2 g3 g : Nat) : countOf (lvP g1 g2 g3 lvS 0) (lvX g) = (4, 0) := by kernel_rfl
theorem lv2 (g : Nat) : callsOf (lvX g) = [(⟨#[77]⟩, ⟨#[102]⟩)] := by kernel_rfl
theorem lv3 (g1 g2 g3 g : Nat) : (lvX g).inl (inlR (lvP g1 g2 g3 lvS 0) (reachedOf (lvP g1 g2 g3 lvS 0) (callsOf (lvX g))).length) = .mk none 0 [.mk 7 ⟨#[77]⟩ ⟨#[]⟩ 0 zeroEx none 0 [.mk none 0 [lvS]] 3, .mk 7 ⟨#[77]⟩ ⟨#[]⟩ 0 zeroEx none 0 [.mk none 0 [lvS]] 3] := by kernel_rfl
theorem lv4 (g1 g2 g3 : Nat) : (lvP g1 g2 g3 lvC 9).cchk = (80, 9) := by kernel_rfl
theorem lvC_is (n : Nat) (W : World) : lvC.Is n W := St.Is.up ⟨⟨⟨by decide, by decide⟩, ⟨by decide, by decide⟩, ⟨by decide, by decide⟩, by unfold Len; decide, by unfold Len; decide⟩, zeroEx_is _ _, ⟨by simp, by unfold maxLen; simp, .inl rfl⟩, fun x hx => by cases hx⟩
theorem lvS_is (n : Nat) (W : World) : lvS.Is n W := St.Is.up ⟨⟨⟨by decide, by decide⟩, ⟨by decide, by decide⟩, ⟨by decide, by decide⟩, by unfold Len; decide, by unfold Len; decide⟩, zeroEx_is _ _, ⟨by simp, by unfold maxLen; simp, .inl rfl⟩, fun x hx => by cases hx⟩
theorem lvX_is {W : World} {g n : Nat} (hg : W.heap[g]? = some (.cells (lvC.cells ++ lvC.cells).toArray 52 (0, 0))) (hn : g < n) : (lvX g).Is n W := by
  refine Bl.Is.up ⟨⟨by simp, by unfold maxLen; simp, .inr ⟨g, 0, rfl, hn, fun j hj i hi => ?_⟩⟩, fun s hs => ?_⟩
  · rw [Nat.zero_add, cellOf hg]
    have hj2 : j < 2 := by simpa using hj
    rcases j with _ | _ | j
    · rcases i with _ | _ | _ | _ | _ | _ | _ | _ | _ | _ | _ | _ | i <;> first | rfl | omega
    · rcases i with _ | _ | _ | _ | _ | _ | _ | _ | _ | _ | _ | _ | i <;> first | rfl | omega
    · omega
  · have : s = lvC := by simpa using hs
    rw [this]; exact lvC_is _ _
theorem lvP_is {W : World} {g1 g2 g3 n : Nat} {s : St} {pos : Int} (h1 : W.heap[g1]? = some (.cells s.cells.toArray 52 (0, 0))) (h2 : W.heap[g2]? = some (.cells #[.string ⟨#[102]⟩, .slice (some ⟨g1, 0, none⟩) 1 1, .int .i64 pos] 54 (0, 0))) (h3 : W.heap[g3]? = some (.cells #[.string ⟨#[77]⟩, .slice none 0 0, .slice (some ⟨g2, 0, none⟩) 1 1, .int .i64 0] 46 (0, 0)))
    (hn : g1 < n ∧ g2 < n ∧ g3 < n) (hs : s.Is n W) (hp : I64 pos) : (lvP g1 g2 g3 s pos).Is n W := by
  refine ⟨⟨⟨by simp [lvP], by unfold maxLen; simp [lvP], .inr ⟨g3, 0, rfl, hn.2.2, fun j hj i hi => ?_⟩⟩, fun m hm => ?_⟩, ⟨by simp [lvP], by unfold maxLen; simp [lvP], .inl rfl⟩, fun r hr => by simp [lvP] at hr⟩
  · rw [Nat.zero_add, cellOf h3]
    have hj2 : j = 0 := by simp [lvP] at hj; omega
    subst hj2
    rcases i with _ | _ | _ | _ | i <;> first | rfl | omega
  · simp only [lvP, List.mem_cons, List.not_mem_nil, or_false] at hm
    subst hm
    refine ⟨⟨by show (ByteArray.mk #[77]).size ≤ 140737488351232; decide, ⟨by show (-9223372036854775808 : Int) ≤ 0; decide, by show (0 : Int) ≤ 9223372036854775807; decide⟩⟩, ⟨⟨by simp, by unfold maxLen; simp, .inl rfl⟩, fun v hv => by simp at hv⟩, ⟨by simp, by unfold maxLen; simp, .inr ⟨g2, 0, rfl, hn.2.1, fun j hj i hi => ?_⟩⟩, fun x hx => ?_⟩
    · rw [Nat.zero_add, cellOf h2]
      have hj2 : j = 0 := by simp at hj; omega
      subst hj2
      rcases i with _ | _ | _ | i <;> first | rfl | omega
    · have : x = ⟨⟨#[102]⟩, .mk (some ⟨g1, 0, none⟩) 1 [s], pos⟩ := by simpa using hx
      subst this
      refine ⟨by show (ByteArray.mk #[102]).size ≤ 140737488351232; decide, hp, Bl.Is.up ⟨⟨by simp, by unfold maxLen; simp, .inr ⟨g1, 0, rfl, hn.1, fun j hj i hi => ?_⟩⟩, fun t ht => ?_⟩⟩
      · rw [Nat.zero_add, cellOf h1]
        have hj2 : j = 0 := by simp at hj; omega
        subst hj2
        rw [Nat.zero_mul, Nat.zero_add]; simp
      · have : t = s := by simpa using ht
        rw [this]; exact hs
theorem lv_leads (g1 g2 g3 : Nat) (s : St) (pos : Int) (r : Ref) : bodyOf (lvP g1 g2 g3 s pos) r = .mk (some ⟨g1, 0, none⟩) 1 [s] ∨ bodyOf (lvP g1 g2 g3 s pos) r = .mk none 0 [] := by
  unfold bodyOf
  cases h : methIx (lvP g1 g2 g3 s pos).mons r.1 r.2 with
  | none => exact .inr rfl
  | some f =>
    obtain ⟨m, hm, hf⟩ := methIx_mem h
    simp only [lvP, List.mem_cons, List.not_mem_nil, or_false] at hm
    subst hm
    have : f = ⟨⟨#[102]⟩, .mk (some ⟨g1, 0, none⟩) 1 [s], pos⟩ := by simpa using hf
    subst this
    exact .inl rfl
theorem lv_fine (g1 g2 g3 : Nat) (s : St) (pos : Int) (hs : s.subs = [s]) (hb : s.blocks = []) : Fine (lvP g1 g2 g3 s pos) := by
  have hsub : (Bl.mk (some ⟨g1, 0, none⟩) 1 [s]).subs = [s] := by rw [Bl.subs_mk]; simp [hs]
  have hlen : (callsOf (Bl.mk (some ⟨g1, 0, none⟩) 1 [s])).length ≤ 1 := by
    have := callsA_len (Bl.mk (some ⟨g1, 0, none⟩) 1 [s]).subs []
    rw [hsub] at this
    unfold callsOf
    rw [hsub]; simpa using this
  have hm : ∀ m ∈ (lvP g1 g2 g3 s pos).mons, ∀ f ∈ m.meths, f.body = .mk (some ⟨g1, 0, none⟩) 1 [s] := by
    intro m hm f hf
    simp only [lvP, List.mem_cons, List.not_mem_nil, or_false] at hm
    subst hm
    have : f = ⟨⟨#[102]⟩, .mk (some ⟨g1, 0, none⟩) 1 [s], pos⟩ := by simpa using hf
    subst this; rfl
  refine ⟨fun m h f h2 => ?_, fun m h f h2 => ?_, fun m h f h2 t ht => ?_, ?_, fun r => ?_⟩
  · rw [hm m h f h2, hsub]; simp
  · rw [hm m h f h2]; simp [Bl.body]
  · rw [hm m h f h2, hsub] at ht
    have : t = s := by simpa using ht
    rw [this, hb]; simp
  · simp only [allRefs, lvP, List.flatMap_cons, List.flatMap_nil, List.append_nil]
    omega
  · unfold leadsOf
    rcases lv_leads g1 g2 g3 s pos r with h | h
    · rw [h]; omega
    · rw [h, callsOf, Bl.subs_mk]; simp [callsA]
theorem lvX_fine (g : Nat) : FineB (lvX g) := by
  have h : (lvX g).subs = [lvC, lvC] := by kernel_rfl
  refine ⟨by rw [h]; simp, fun s hs => ?_⟩
  rw [h] at hs
  have : s = lvC := by simpa using hs
  rw [this]; simp [lvC, St.blocks]
theorem five_box (w : World) (a b c d e : Array Value) (s t u v x : TypeId) : let W := ((((w.alloc (.cells a s)).alloc (.cells b t)).alloc (.cells c u)).alloc (.cells d v)).alloc (.cells e x)
    W.heap[w.heap.size]? = some (.cells a s (0, 0)) ∧ W.heap[w.heap.size + 1]? = some (.cells b t (0, 0)) ∧ W.heap[w.heap.size + 1 + 1]? = some (.cells c u (0, 0)) ∧ W.heap[w.heap.size + 1 + 1 + 1]? = some (.cells d v (0, 0)) ∧ W.heap[w.heap.size + 1 + 1 + 1 + 1]? = some (.cells e x (0, 0)) ∧ Below w.heap.size w W ∧ W.heap.size = w.heap.size + 5 := by
  obtain ⟨h1, h2, h3, h4, h5⟩ := three_box w a b c s t u
  have h6 : ∀ o, (((w.alloc (.cells a s)).alloc (.cells b t)).alloc (.cells c u)).alloc o = (((w.alloc (.cells a s)).alloc (.cells b t)).alloc (.cells c u)).alloc o := fun _ => rfl
  obtain ⟨k1, k2, k3, k4⟩ := two_box (((w.alloc (.cells a s)).alloc (.cells b t)).alloc (.cells c u)) d e v x
  rw [h5] at k1 k2 k3 k4
  exact ⟨(k3.block _ (by omega)).trans h1, (k3.block _ (by omega)).trans h2, (k3.block _ (by omega)).trans h3, k1, k2, h4.trans (k3.mono (by omega)), by rw [k4]⟩
theorem clr_two {ad : Option Addr} {cap : Nat} {body : List St} {A B : St} (h : (Bl.mk ad cap body).clr = .mk none 0 [A, B]) : ∃ s t, body = [s, t] ∧ s.clr = A ∧ t.clr = B := by
  rw [Bl.clr_mk] at h
  have h : body.map St.clr = [A, B] := by injection h
  match body, h with
  | [s, t], h => simp at h; exact ⟨s, t, rfl, h.1, h.2⟩
theorem clr_st {s : St} {kind : Int} {mon name : ByteArray} {n : Int} {e : Ex} {X : Bl} {pos : Int} (h : s.clr = .mk kind mon name n e none 0 [X] pos) : ∃ ad cap y, s = .mk kind mon name n e ad cap [y] pos ∧ y.clr = X := by
  rcases s with ⟨k, m, nm, nn, ee, ad, cap, blocks, ps⟩
  rw [St.clr_mk] at h
  injection h with h1 h2 h3 h4 h5 _ _ h6 h7
  subst h1 h2 h3 h4 h5 h7
  match blocks, h6 with
  | [y], h6 => simp at h6; exact ⟨ad, cap, y, rfl, h6⟩
theorem clr_one {y : Bl} {A : St} (h : y.clr = .mk none 0 [A]) : ∃ ad cap t, y = .mk ad cap [t] := by
  rcases y with ⟨ad, cap, body⟩
  rw [Bl.clr_mk] at h
  have h : body.map St.clr = [A] := by injection h
  match body, h with
  | [t], _ => exact ⟨ad, cap, t, rfl⟩
set_option maxRecDepth 100000 in
set_option maxHeartbeats 16000000 in
theorem live_any (w : World) (hS : Shapes w) (hS3 : 3 ≤ w.heap.size) : Calls Tryd.prog 8 #[] w fun r w' => r = .returned (.bool true) ∧ Below w.heap.size w w' := by
  go_enter Tryd.func8, Tryd.ntmps8
  go_upto_region 3 with fail
  obtain ⟨b0, b1, b2, b3, b4, hB0, hz0⟩ := five_box w #[.int .i64 8, .string ⟨#[77]⟩, .string ⟨#[102]⟩, .int .i64 0, .int .i64 0, .string ⟨#[]⟩, .string ⟨#[]⟩, .int .i64 0, .slice none 0 0, .int .i64 0, .slice none 0 0, .int .i64 3] #[.int .i64 1, .string ⟨#[]⟩, .string ⟨#[]⟩, .int .i64 0, .int .i64 0, .string ⟨#[]⟩, .string ⟨#[]⟩, .int .i64 0, .slice none 0 0, .int .i64 0, .slice none 0 0, .int .i64 0] #[.string ⟨#[102]⟩, .slice (some ⟨w.heap.size + 1, 0, none⟩) 1 1, .int .i64 0] #[.string ⟨#[77]⟩, .slice none 0 0, .slice (some ⟨w.heap.size + 1 + 1, 0, none⟩) 1 1, .int .i64 0] #[.slice (some ⟨w.heap.size + 1 + 1 + 1, 0, none⟩) 1 1, .slice none 0 0] 52 52 54 46 25
  obtain ⟨W0, hW0⟩ : ∃ W0, (((((w.alloc (.cells #[.int .i64 8, .string ⟨#[77]⟩, .string ⟨#[102]⟩, .int .i64 0, .int .i64 0, .string ⟨#[]⟩, .string ⟨#[]⟩, .int .i64 0, .slice none 0 0, .int .i64 0, .slice none 0 0, .int .i64 3] 52)).alloc (.cells #[.int .i64 1, .string ⟨#[]⟩, .string ⟨#[]⟩, .int .i64 0, .int .i64 0, .string ⟨#[]⟩, .string ⟨#[]⟩, .int .i64 0, .slice none 0 0, .int .i64 0, .slice none 0 0, .int .i64 0] 52)).alloc (.cells #[.string ⟨#[102]⟩, .slice (some ⟨w.heap.size + 1, 0, none⟩) 1 1, .int .i64 0] 54)).alloc (.cells #[.string ⟨#[77]⟩, .slice none 0 0, .slice (some ⟨w.heap.size + 1 + 1, 0, none⟩) 1 1, .int .i64 0] 46)).alloc (.cells #[.slice (some ⟨w.heap.size + 1 + 1 + 1, 0, none⟩) 1 1, .slice none 0 0] 25)) = W0 := ⟨_, rfl⟩
  rw [hW0] at b0 b1 b2 b3 b4 hB0 hz0 ⊢
  obtain ⟨g1, hg1⟩ : ∃ g1, w.heap.size + 1 = g1 := ⟨_, rfl⟩
  obtain ⟨g2, hg2⟩ : ∃ g2, g1 + 1 = g2 := ⟨_, rfl⟩
  obtain ⟨g3, hg3⟩ : ∃ g3, g2 + 1 = g3 := ⟨_, rfl⟩
  obtain ⟨g4, hg4⟩ : ∃ g4, g3 + 1 = g4 := ⟨_, rfl⟩
  obtain ⟨q0, hq0⟩ : ∃ q0, w.heap.size = q0 := ⟨_, rfl⟩
  rw [hg1] at b1 b2 b3 b4 ⊢
  rw [hg2] at b2 b3 b4 ⊢
  rw [hg3] at b3 b4 ⊢
  rw [hg4] at b4 ⊢
  rw [hq0] at b0 ⊢
  have HLT : Hid (q0 < W0.heap.size ∧ g1 < W0.heap.size ∧ g2 < W0.heap.size ∧ g3 < W0.heap.size ∧ g4 < W0.heap.size) := ⟨by omega, by omega, by omega, by omega, by omega⟩
  clear hg1 hg2 hg3 hg4 hq0 hW0 hz0
  have hcells : ∀ W, Below W0.heap.size W0 W → (W.cell? ⟨g4, 0, none⟩ = some (.slice (some ⟨g3, 0, none⟩) 1 1) ∧ W.cell? ⟨g4, 1, none⟩ = some (.slice none 0 0)) ∧ ∀ i, i < 12 → W.cell? ⟨q0, i, none⟩ = (#[.int .i64 8, .string ⟨#[77]⟩, .string ⟨#[102]⟩, .int .i64 0, .int .i64 0, .string ⟨#[]⟩, .string ⟨#[]⟩, .int .i64 0, .slice none 0 0, .int .i64 0, .slice none 0 0, .int .i64 3] : Array Value)[i]? := by
    intro W hW
    refine ⟨⟨(hW.cell (p := ⟨g4, 0, none⟩) HLT.out.2.2.2.2).trans (by rw [cellOf b4]; rfl), (hW.cell (p := ⟨g4, 1, none⟩) HLT.out.2.2.2.2).trans (by rw [cellOf b4]; rfl)⟩, fun i hi => (hW.cell (p := ⟨q0, i, none⟩) HLT.out.1).trans (by rw [cellOf b0])⟩
  have hPi : ∀ W, Below W0.heap.size W0 W → (lvP g1 g2 g3 lvS 0).Is W0.heap.size W := fun W hW => lvP_is ((hW.block _ HLT.out.2.1).trans b1) ((hW.block _ HLT.out.2.2.1).trans b2) ((hW.block _ HLT.out.2.2.2.1).trans b3) ⟨HLT.out.2.1, HLT.out.2.2.1, HLT.out.2.2.2.1⟩ (lvS_is _ _) ⟨by decide, by decide⟩
  have hFin := lv_fine g1 g2 g3 lvS 0 (by kernel_rfl) (by simp [lvS, St.blocks])
  have hz0 := hB0.size
  have hcnt : ∀ W, Below W0.heap.size W0 W → Calls Tryd.prog 9 #[.agg #[.slice (some ⟨g3, 0, none⟩) 1 1, .slice none 0 0], .slice (some ⟨W.heap.size, 0, none⟩) 2 2] (W.alloc (.cells #[.int .i64 8, .string ⟨#[77]⟩, .string ⟨#[102]⟩, .int .i64 0, .int .i64 0, .string ⟨#[]⟩, .string ⟨#[]⟩, .int .i64 0, .slice none 0 0, .int .i64 0, .slice none 0 0, .int .i64 3, .int .i64 8, .string ⟨#[77]⟩, .string ⟨#[102]⟩, .int .i64 0, .int .i64 0, .string ⟨#[]⟩, .string ⟨#[]⟩, .int .i64 0, .slice none 0 0, .int .i64 0, .slice none 0 0, .int .i64 3] 52)) fun r w' => r = .returned (.tuple #[.int .i64 4, .int .i64 0]) ∧ Below (W.alloc (.cells #[.int .i64 8, .string ⟨#[77]⟩, .string ⟨#[102]⟩, .int .i64 0, .int .i64 0, .string ⟨#[]⟩, .string ⟨#[]⟩, .int .i64 0, .slice none 0 0, .int .i64 0, .slice none 0 0, .int .i64 3, .int .i64 8, .string ⟨#[77]⟩, .string ⟨#[102]⟩, .int .i64 0, .int .i64 0, .string ⟨#[]⟩, .string ⟨#[]⟩, .int .i64 0, .slice none 0 0, .int .i64 0, .slice none 0 0, .int .i64 3] 52)).heap.size (W.alloc (.cells #[.int .i64 8, .string ⟨#[77]⟩, .string ⟨#[102]⟩, .int .i64 0, .int .i64 0, .string ⟨#[]⟩, .string ⟨#[]⟩, .int .i64 0, .slice none 0 0, .int .i64 0, .slice none 0 0, .int .i64 3, .int .i64 8, .string ⟨#[77]⟩, .string ⟨#[102]⟩, .int .i64 0, .int .i64 0, .string ⟨#[]⟩, .string ⟨#[]⟩, .int .i64 0, .slice none 0 0, .int .i64 0, .slice none 0 0, .int .i64 3] 52)) w' := by
    intro W hW
    have hWs := hW.size
    have hWa := hW.al le_rfl' (.cells #[.int .i64 8, .string ⟨#[77]⟩, .string ⟨#[102]⟩, .int .i64 0, .int .i64 0, .string ⟨#[]⟩, .string ⟨#[]⟩, .int .i64 0, .slice none 0 0, .int .i64 0, .slice none 0 0, .int .i64 3, .int .i64 8, .string ⟨#[77]⟩, .string ⟨#[102]⟩, .int .i64 0, .int .i64 0, .string ⟨#[]⟩, .string ⟨#[]⟩, .int .i64 0, .slice none 0 0, .int .i64 0, .slice none 0 0, .int .i64 3] 52)
    have h := Count_any (lvP g1 g2 g3 lvS 0) (lvX W.heap.size) (W.heap.size + 1) (W.alloc (.cells #[.int .i64 8, .string ⟨#[77]⟩, .string ⟨#[102]⟩, .int .i64 0, .int .i64 0, .string ⟨#[]⟩, .string ⟨#[]⟩, .int .i64 0, .slice none 0 0, .int .i64 0, .slice none 0 0, .int .i64 3, .int .i64 8, .string ⟨#[77]⟩, .string ⟨#[102]⟩, .int .i64 0, .int .i64 0, .string ⟨#[]⟩, .string ⟨#[]⟩, .int .i64 0, .slice none 0 0, .int .i64 0, .slice none 0 0, .int .i64 3] 52)) (by simp) ((hPi _ hWa).mono (by omega)) (lvX_is (heapNew W _) (by omega)) (hS.below (hB0.trans (hWa.mono hz0)) hS3) (by simp; omega) hFin.zero (lvX_fine _).subs
    rw [lv1] at h
    exact h
  have hinl : ∀ W, Below W0.heap.size W0 W → Calls Tryd.prog 10 #[.agg #[.slice (some ⟨g3, 0, none⟩) 1 1, .slice none 0 0], .slice (some ⟨W.heap.size, 0, none⟩) 2 2] (W.alloc (.cells #[.int .i64 8, .string ⟨#[77]⟩, .string ⟨#[102]⟩, .int .i64 0, .int .i64 0, .string ⟨#[]⟩, .string ⟨#[]⟩, .int .i64 0, .slice none 0 0, .int .i64 0, .slice none 0 0, .int .i64 3, .int .i64 8, .string ⟨#[77]⟩, .string ⟨#[102]⟩, .int .i64 0, .int .i64 0, .string ⟨#[]⟩, .string ⟨#[]⟩, .int .i64 0, .slice none 0 0, .int .i64 0, .slice none 0 0, .int .i64 3] 52)) fun r w' => (∃ kb koff cap bb boff bcap yad ycap, r = .returned (.tuple #[.slice (some ⟨kb, koff, none⟩) 2 cap, .int .i64 0]) ∧ 2 ≤ cap ∧ cap ≤ maxLen ∧ 1 ≤ bcap ∧ bcap ≤ maxLen ∧ kb < w'.heap.size ∧ bb < w'.heap.size ∧ w'.cell? ⟨kb, koff + 12, none⟩ = some (.int .i64 7) ∧ w'.cell? ⟨kb, koff + 12 + 1, none⟩ = some (.string ⟨#[77]⟩) ∧ w'.cell? ⟨kb, koff + 12 + 10, none⟩ = some (.slice (some ⟨bb, boff, none⟩) 1 bcap) ∧ w'.cell? ⟨kb, koff + 12 + 11, none⟩ = some (.int .i64 3) ∧ w'.cell? ⟨bb, boff, none⟩ = some (.slice yad 1 ycap)) ∧ Below (W.alloc (.cells #[.int .i64 8, .string ⟨#[77]⟩, .string ⟨#[102]⟩, .int .i64 0, .int .i64 0, .string ⟨#[]⟩, .string ⟨#[]⟩, .int .i64 0, .slice none 0 0, .int .i64 0, .slice none 0 0, .int .i64 3, .int .i64 8, .string ⟨#[77]⟩, .string ⟨#[102]⟩, .int .i64 0, .int .i64 0, .string ⟨#[]⟩, .string ⟨#[]⟩, .int .i64 0, .slice none 0 0, .int .i64 0, .slice none 0 0, .int .i64 3] 52)).heap.size (W.alloc (.cells #[.int .i64 8, .string ⟨#[77]⟩, .string ⟨#[102]⟩, .int .i64 0, .int .i64 0, .string ⟨#[]⟩, .string ⟨#[]⟩, .int .i64 0, .slice none 0 0, .int .i64 0, .slice none 0 0, .int .i64 3, .int .i64 8, .string ⟨#[77]⟩, .string ⟨#[102]⟩, .int .i64 0, .int .i64 0, .string ⟨#[]⟩, .string ⟨#[]⟩, .int .i64 0, .slice none 0 0, .int .i64 0, .slice none 0 0, .int .i64 3] 52)) w' := by
    intro W hW
    have hWs := hW.size
    have hWa := hW.al le_rfl' (.cells #[.int .i64 8, .string ⟨#[77]⟩, .string ⟨#[102]⟩, .int .i64 0, .int .i64 0, .string ⟨#[]⟩, .string ⟨#[]⟩, .int .i64 0, .slice none 0 0, .int .i64 0, .slice none 0 0, .int .i64 3, .int .i64 8, .string ⟨#[77]⟩, .string ⟨#[102]⟩, .int .i64 0, .int .i64 0, .string ⟨#[]⟩, .string ⟨#[]⟩, .int .i64 0, .slice none 0 0, .int .i64 0, .slice none 0 0, .int .i64 3] 52)
    have h := Inline_any (lvP g1 g2 g3 lvS 0) (lvX W.heap.size) (W.heap.size + 1) (W.alloc (.cells #[.int .i64 8, .string ⟨#[77]⟩, .string ⟨#[102]⟩, .int .i64 0, .int .i64 0, .string ⟨#[]⟩, .string ⟨#[]⟩, .int .i64 0, .slice none 0 0, .int .i64 0, .slice none 0 0, .int .i64 3, .int .i64 8, .string ⟨#[77]⟩, .string ⟨#[102]⟩, .int .i64 0, .int .i64 0, .string ⟨#[]⟩, .string ⟨#[]⟩, .int .i64 0, .slice none 0 0, .int .i64 0, .slice none 0 0, .int .i64 3] 52)) (by simp) ((hPi _ hWa).mono (by omega)) (lvX_is (heapNew W _) (by omega)) (hS.below (hB0.trans (hWa.mono hz0)) hS3) (by simp; omega) hFin.zero (lvX_fine _).subs
    refine h.mono ?_
    rintro r w' ⟨⟨h1, _⟩ | ⟨_, ad, cap, body, rfl, hI, hc⟩, hb⟩
    · rw [lv1] at h1; exact absurd rfl h1
    · rw [lv3] at hc
      obtain ⟨s, t, rfl, -, ht⟩ := clr_two hc
      obtain ⟨bad, bcap, y, rfl, hy⟩ := clr_st ht
      obtain ⟨yad, ycap, t2, rfl⟩ := clr_one hy
      obtain ⟨hsl, hIs⟩ := hI.down
      have hIt := hIs (St.mk 7 ⟨#[77]⟩ ⟨#[]⟩ 0 zeroEx bad bcap [Bl.mk yad ycap [t2]] 3) (by simp)
      have hbs := hIt.down.2.2.1
      rcases hsl.2.2 with h | ⟨kb, koff, rfl, hkb, hrow⟩
      · simp at h
      rcases hbs.2.2 with h | ⟨bb, boff, rfl, hbb, hbrow⟩
      · simp at h
      have c0 := hrow 1 (by simp) 0 (by omega)
      have c1 := hrow 1 (by simp) 1 (by omega)
      have c10 := hrow 1 (by simp) 10 (by omega)
      have c11 := hrow 1 (by simp) 11 (by omega)
      have d0 := hbrow 0 (by simp) 0 (by omega)
      simp [St.cells, Ex.cells, zeroEx, Bl.cells, Bl.slice] at c0 c1 c10 c11 d0
      exact ⟨⟨kb, koff, cap, bb, boff, bcap, yad, ycap, rfl, by simpa using hsl.1, hsl.2.1, by simpa using hbs.1, hbs.2.1, hkb, hbb, c0, c1, c10, c11, d0⟩, hb⟩
  have hcal : ∀ W, Below W0.heap.size W0 W → Calls Tryd.prog 12 #[.slice (some ⟨W.heap.size, 0, none⟩) 2 2] (W.alloc (.cells #[.int .i64 8, .string ⟨#[77]⟩, .string ⟨#[102]⟩, .int .i64 0, .int .i64 0, .string ⟨#[]⟩, .string ⟨#[]⟩, .int .i64 0, .slice none 0 0, .int .i64 0, .slice none 0 0, .int .i64 3, .int .i64 8, .string ⟨#[77]⟩, .string ⟨#[102]⟩, .int .i64 0, .int .i64 0, .string ⟨#[]⟩, .string ⟨#[]⟩, .int .i64 0, .slice none 0 0, .int .i64 0, .slice none 0 0, .int .i64 3] 52)) fun r w' => (∃ ad cap, r = .returned (.slice ad 1 cap)) ∧ Below (W.alloc (.cells #[.int .i64 8, .string ⟨#[77]⟩, .string ⟨#[102]⟩, .int .i64 0, .int .i64 0, .string ⟨#[]⟩, .string ⟨#[]⟩, .int .i64 0, .slice none 0 0, .int .i64 0, .slice none 0 0, .int .i64 3, .int .i64 8, .string ⟨#[77]⟩, .string ⟨#[102]⟩, .int .i64 0, .int .i64 0, .string ⟨#[]⟩, .string ⟨#[]⟩, .int .i64 0, .slice none 0 0, .int .i64 0, .slice none 0 0, .int .i64 3] 52)).heap.size (W.alloc (.cells #[.int .i64 8, .string ⟨#[77]⟩, .string ⟨#[102]⟩, .int .i64 0, .int .i64 0, .string ⟨#[]⟩, .string ⟨#[]⟩, .int .i64 0, .slice none 0 0, .int .i64 0, .slice none 0 0, .int .i64 3, .int .i64 8, .string ⟨#[77]⟩, .string ⟨#[102]⟩, .int .i64 0, .int .i64 0, .string ⟨#[]⟩, .string ⟨#[]⟩, .int .i64 0, .slice none 0 0, .int .i64 0, .slice none 0 0, .int .i64 3] 52)) w' := by
    intro W hW
    have h := calls_any (lvX W.heap.size) (W.heap.size + 1) (W.alloc (.cells #[.int .i64 8, .string ⟨#[77]⟩, .string ⟨#[102]⟩, .int .i64 0, .int .i64 0, .string ⟨#[]⟩, .string ⟨#[]⟩, .int .i64 0, .slice none 0 0, .int .i64 0, .slice none 0 0, .int .i64 3, .int .i64 8, .string ⟨#[77]⟩, .string ⟨#[102]⟩, .int .i64 0, .int .i64 0, .string ⟨#[]⟩, .string ⟨#[]⟩, .int .i64 0, .slice none 0 0, .int .i64 0, .slice none 0 0, .int .i64 3] 52)) (by simp) (lvX_is (heapNew W _) (by omega)) (by have := (lvX_fine W.heap.size).subs; omega)
    rw [lv2] at h
    refine h.mono ?_
    rintro r w' ⟨v, rfl, ho, hb⟩
    obtain ⟨ad, cp, rfl, -⟩ := slOwn rcells_len (l := [(⟨#[77]⟩, ⟨#[102]⟩)]) ho
    exact ⟨⟨ad, cp, rfl⟩, hb⟩
  have hnum := num_any
  clear hPi hFin b0 b1 b2 b3 b4
  obtain ⟨⟨ap0, ap1⟩, ahc⟩ := hcells W0 (Below.refl _ _)
  have ac0 := ahc 0 (by omega)
  have ac1 := ahc 1 (by omega)
  have ac2 := ahc 2 (by omega)
  have ac3 := ahc 3 (by omega)
  have ac4 := ahc 4 (by omega)
  have ac5 := ahc 5 (by omega)
  have ac6 := ahc 6 (by omega)
  have ac7 := ahc 7 (by omega)
  have ac8 := ahc 8 (by omega)
  have ac9 := ahc 9 (by omega)
  have ac10 := ahc 10 (by omega)
  have ac11 := ahc 11 (by omega)
  simp at ac0 ac1 ac2 ac3 ac4 ac5 ac6 ac7 ac8 ac9 ac10 ac11
  go_upto_region 4 with (go_at_call 9; (with_reducible refine (hcnt _ (Below.refl _ _)).mono ?_); rintro r v1 ⟨rfl, bb1⟩)
  have hb1 : Below W0.heap.size W0 v1 := ((Below.refl _ W0).al le_rfl' (.cells #[.int .i64 8, .string ⟨#[77]⟩, .string ⟨#[102]⟩, .int .i64 0, .int .i64 0, .string ⟨#[]⟩, .string ⟨#[]⟩, .int .i64 0, .slice none 0 0, .int .i64 0, .slice none 0 0, .int .i64 3, .int .i64 8, .string ⟨#[77]⟩, .string ⟨#[102]⟩, .int .i64 0, .int .i64 0, .string ⟨#[]⟩, .string ⟨#[]⟩, .int .i64 0, .slice none 0 0, .int .i64 0, .slice none 0 0, .int .i64 3] 52)).tr le_rfl' bb1
  clear bb1 hcnt
  clear ap0 ap1 ahc ac0 ac1 ac2 ac3 ac4 ac5 ac6 ac7 ac8 ac9 ac10 ac11
  obtain ⟨⟨ap0, ap1⟩, ahc⟩ := hcells v1 hb1
  have ac0 := ahc 0 (by omega)
  have ac1 := ahc 1 (by omega)
  have ac2 := ahc 2 (by omega)
  have ac3 := ahc 3 (by omega)
  have ac4 := ahc 4 (by omega)
  have ac5 := ahc 5 (by omega)
  have ac6 := ahc 6 (by omega)
  have ac7 := ahc 7 (by omega)
  have ac8 := ahc 8 (by omega)
  have ac9 := ahc 9 (by omega)
  have ac10 := ahc 10 (by omega)
  have ac11 := ahc 11 (by omega)
  simp at ac0 ac1 ac2 ac3 ac4 ac5 ac6 ac7 ac8 ac9 ac10 ac11
  go_upto_region 5 with (go_at_call 10; (with_reducible refine (hinl _ hb1).mono ?_); rintro r v2 ⟨⟨kb, koff, cap, bb, boff, bcap, yad, ycap, rfl, k1, k2, k3, k4, k5, k6, y0, y1, y10, y11, z0⟩, bb2⟩)
  have hb2 : Below W0.heap.size W0 v2 := (hb1.al le_rfl' (.cells #[.int .i64 8, .string ⟨#[77]⟩, .string ⟨#[102]⟩, .int .i64 0, .int .i64 0, .string ⟨#[]⟩, .string ⟨#[]⟩, .int .i64 0, .slice none 0 0, .int .i64 0, .slice none 0 0, .int .i64 3, .int .i64 8, .string ⟨#[77]⟩, .string ⟨#[102]⟩, .int .i64 0, .int .i64 0, .string ⟨#[]⟩, .string ⟨#[]⟩, .int .i64 0, .slice none 0 0, .int .i64 0, .slice none 0 0, .int .i64 3] 52)).tr le_rfl' bb2
  clear bb2 hinl
  clear ap0 ap1 ahc ac0 ac1 ac2 ac3 ac4 ac5 ac6 ac7 ac8 ac9 ac10 ac11
  obtain ⟨⟨ap0, ap1⟩, ahc⟩ := hcells v2 hb2
  have ac0 := ahc 0 (by omega)
  have ac1 := ahc 1 (by omega)
  have ac2 := ahc 2 (by omega)
  have ac3 := ahc 3 (by omega)
  have ac4 := ahc 4 (by omega)
  have ac5 := ahc 5 (by omega)
  have ac6 := ahc 6 (by omega)
  have ac7 := ahc 7 (by omega)
  have ac8 := ahc 8 (by omega)
  have ac9 := ahc 9 (by omega)
  have ac10 := ahc 10 (by omega)
  have ac11 := ahc 11 (by omega)
  simp at ac0 ac1 ac2 ac3 ac4 ac5 ac6 ac7 ac8 ac9 ac10 ac11
  go_upto_region 6 with (go_at_call 12; (with_reducible refine (hcal _ hb2).mono ?_); rintro r v3 ⟨⟨rad, rcap, rfl⟩, bb3⟩)
  have hb23 : Below v2.heap.size v2 v3 := ((Below.refl _ v2).al le_rfl' (.cells #[.int .i64 8, .string ⟨#[77]⟩, .string ⟨#[102]⟩, .int .i64 0, .int .i64 0, .string ⟨#[]⟩, .string ⟨#[]⟩, .int .i64 0, .slice none 0 0, .int .i64 0, .slice none 0 0, .int .i64 3, .int .i64 8, .string ⟨#[77]⟩, .string ⟨#[102]⟩, .int .i64 0, .int .i64 0, .string ⟨#[]⟩, .string ⟨#[]⟩, .int .i64 0, .slice none 0 0, .int .i64 0, .slice none 0 0, .int .i64 3] 52)).tr le_rfl' bb3
  have hb3 : Below W0.heap.size W0 v3 := hb2.tr le_rfl' hb23
  clear bb3 hcal
  clear ap0 ap1 ahc ac0 ac1 ac2 ac3 ac4 ac5 ac6 ac7 ac8 ac9 ac10 ac11
  obtain ⟨⟨ap0, ap1⟩, ahc⟩ := hcells v3 hb3
  have ac0 := ahc 0 (by omega)
  have ac1 := ahc 1 (by omega)
  have ac2 := ahc 2 (by omega)
  have ac3 := ahc 3 (by omega)
  have ac4 := ahc 4 (by omega)
  have ac5 := ahc 5 (by omega)
  have ac6 := ahc 6 (by omega)
  have ac7 := ahc 7 (by omega)
  have ac8 := ahc 8 (by omega)
  have ac9 := ahc 9 (by omega)
  have ac10 := ahc 10 (by omega)
  have ac11 := ahc 11 (by omega)
  simp at ac0 ac1 ac2 ac3 ac4 ac5 ac6 ac7 ac8 ac9 ac10 ac11
  go_upto_region 7 with fail
  obtain ⟨e1, e2, e3, hB3, hz3⟩ := three_box v3 #[.int .i64 8, .string ⟨#[77]⟩, .string ⟨#[102]⟩, .int .i64 0, .int .i64 0, .string ⟨#[]⟩, .string ⟨#[]⟩, .int .i64 0, .slice none 0 0, .int .i64 0, .slice none 0 0, .int .i64 3] #[.string ⟨#[102]⟩, .slice (some ⟨v3.heap.size, 0, none⟩) 1 1, .int .i64 9] #[.string ⟨#[77]⟩, .slice none 0 0, .slice (some ⟨v3.heap.size + 1, 0, none⟩) 1 1, .int .i64 0] 52 54 46
  obtain ⟨f1, hB4, hz4⟩ := one_box (((v3.alloc (.cells #[.int .i64 8, .string ⟨#[77]⟩, .string ⟨#[102]⟩, .int .i64 0, .int .i64 0, .string ⟨#[]⟩, .string ⟨#[]⟩, .int .i64 0, .slice none 0 0, .int .i64 0, .slice none 0 0, .int .i64 3] 52)).alloc (.cells #[.string ⟨#[102]⟩, .slice (some ⟨v3.heap.size, 0, none⟩) 1 1, .int .i64 9] 54)).alloc (.cells #[.string ⟨#[77]⟩, .slice none 0 0, .slice (some ⟨v3.heap.size + 1, 0, none⟩) 1 1, .int .i64 0] 46)) #[.slice (some ⟨v3.heap.size + 1 + 1, 0, none⟩) 1 1, .slice none 0 0] 25
  rw [hz3] at f1 hB4 hz4
  have hB34 : Below v3.heap.size v3 ((((v3.alloc (.cells #[.int .i64 8, .string ⟨#[77]⟩, .string ⟨#[102]⟩, .int .i64 0, .int .i64 0, .string ⟨#[]⟩, .string ⟨#[]⟩, .int .i64 0, .slice none 0 0, .int .i64 0, .slice none 0 0, .int .i64 3] 52)).alloc (.cells #[.string ⟨#[102]⟩, .slice (some ⟨v3.heap.size, 0, none⟩) 1 1, .int .i64 9] 54)).alloc (.cells #[.string ⟨#[77]⟩, .slice none 0 0, .slice (some ⟨v3.heap.size + 1, 0, none⟩) 1 1, .int .i64 0] 46)).alloc (.cells #[.slice (some ⟨v3.heap.size + 1 + 1, 0, none⟩) 1 1, .slice none 0 0] 25)) := hB3.trans (hB4.mono (by omega))
  have e1 := (hB4.block _ (by omega)).trans e1
  have e2 := (hB4.block _ (by omega)).trans e2
  have e3 := (hB4.block _ (by omega)).trans e3
  obtain ⟨V, hV⟩ : ∃ V, ((((v3.alloc (.cells #[.int .i64 8, .string ⟨#[77]⟩, .string ⟨#[102]⟩, .int .i64 0, .int .i64 0, .string ⟨#[]⟩, .string ⟨#[]⟩, .int .i64 0, .slice none 0 0, .int .i64 0, .slice none 0 0, .int .i64 3] 52)).alloc (.cells #[.string ⟨#[102]⟩, .slice (some ⟨v3.heap.size, 0, none⟩) 1 1, .int .i64 9] 54)).alloc (.cells #[.string ⟨#[77]⟩, .slice none 0 0, .slice (some ⟨v3.heap.size + 1, 0, none⟩) 1 1, .int .i64 0] 46)).alloc (.cells #[.slice (some ⟨v3.heap.size + 1 + 1, 0, none⟩) 1 1, .slice none 0 0] 25)) = V := ⟨_, rfl⟩
  rw [hV] at e1 e2 e3 f1 hB34 hz4 ⊢
  have hb3s := hb3.size
  have hchk : Calls Tryd.prog 16 #[.agg #[.slice (some ⟨v3.heap.size + 1 + 1, 0, none⟩) 1 1, .slice none 0 0]] V fun r w' => r = .returned (.tuple #[.int .i64 80, .int .i64 9]) ∧ Below V.heap.size V w' := by
    have h := Check_any (lvP v3.heap.size (v3.heap.size + 1) (v3.heap.size + 1 + 1) lvC 9) V.heap.size V (Nat.le_refl _) (lvP_is e1 e2 e3 ⟨by omega, by omega, by omega⟩ (lvC_is _ _) ⟨by decide, by decide⟩) (hS.below (hB0.trans ((hb3.tr le_rfl' hB34).mono hz0)) hS3) (by omega) (by simp [lvP, vsum]) (lv_fine _ _ _ lvC 9 (by kernel_rfl) (by simp [lvC, St.blocks])) (fun r hr => by simp [lvP] at hr)
    rw [lv4] at h
    exact h
  have hb24 : Below v2.heap.size v2 V := hb23.tr le_rfl' hB34
  have p0 := cellOf f1 0
  have p1 := cellOf f1 1
  simp at p0 p1
  clear hV e1 e2 e3 f1 hB3 hB4 hz3 hz4
  unfold maxLen at k2 k4
  go_upto_region 8 with (go_at_call 16; (with_reducible refine hchk.mono ?_); rintro r v4 ⟨rfl, bb4⟩)
  have hbF : Below v2.heap.size v2 v4 := hb24.tr le_rfl' bb4
  have y0 := (hbF.cell (p := ⟨kb, koff + 12, none⟩) k5).trans y0
  have y1 := (hbF.cell (p := ⟨kb, koff + 12 + 1, none⟩) k5).trans y1
  have y10 := (hbF.cell (p := ⟨kb, koff + 12 + 10, none⟩) k5).trans y10
  have y11 := (hbF.cell (p := ⟨kb, koff + 12 + 11, none⟩) k5).trans y11
  have z0 := (hbF.cell (p := ⟨bb, boff, none⟩) k6).trans z0
  have HEND : Hid (Below w.heap.size w v4) := hB0.trans ((hb3.tr le_rfl' (hB34.tr le_rfl' bb4)).mono hz0)
  clear hbF hb24 hb23 hb3 hb2 hb1 hB34 bb4 hchk
  go_wp2_with (go_at_call 11; (with_reducible refine (hnum _ _).mono ?_); rintro r v5 ⟨rfl, rfl⟩)
  go_ret
  exact ⟨rfl, HEND.out⟩
end Go.Proofs.YtpbjikncobnkjaaDoor
