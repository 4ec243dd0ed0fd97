/-
  num, short and live of stage 9's statements.
-/
import Derived.Test.YtfkabkbnfeiggaaDoorKC
import Derived.Test.YtfkabkbnfeiggaaDoorJT
import Derived.Test.YtfkabkbnfeiggaaDoorWB
namespace Go.Proofs.YtfkabkbnfeiggaaDoor
open Go.RowKit
theorem eqKey {r s : Ref} (hr : VLen r) (hs : VLen s) (W : World) : (Op.equal 81 (vkey r) (vkey s)).run Tryd.prog W = .ok (decide (s = r)) W := by
  have h := keyLaw.find W (keyOf_v hr) [⟨vkey s, .bool true, 0⟩] (fun e he => by rw [List.mem_singleton.1 he]; exact ⟨_, keyOf_v hs⟩)
  have hf : ∀ o W', (Instr.findKey 81 (vkey r) [⟨vkey s, .bool true, 0⟩]).run Tryd.prog W = .ok o W' → (Op.equal 81 (vkey r) (vkey s)).run Tryd.prog W = .ok o.isSome W' := by
    intro o W' ho
    simp only [Instr.findKey, Sem.run_bind, run_underlying Tryd.underlying81, Result.andThen, Instr.findNow, Instr.sameNow, vkey, Instr.findAsking] at ho ⊢
    cases hE : (Op.equal 81 (.agg #[.string r.1, .string r.2]) (.agg #[.string s.1, .string s.2])).run Tryd.prog W with
    | ok b w' =>
      rw [hE] at ho
      cases b
      · simp at ho
        obtain ⟨h1, h2⟩ := ho
        subst h1 h2; rfl
      · simp at ho
        obtain ⟨h1, h2⟩ := ho
        subst h1 h2; rfl
    | halt h w' => rw [hE] at ho; simp at ho
  rcases h with ⟨h1, h2⟩ | ⟨j, e, h1, h2, h3⟩
  · have hne : ¬ s = r := fun e => h2 ⟨vkey s, .bool true, 0⟩ (List.mem_singleton.2 rfl) (by show vkey s = vkey r; rw [e])
    rw [hf _ _ h1]; simp [hne]
  · have he : e = ⟨vkey s, .bool true, 0⟩ := by simpa using List.mem_of_getElem? h2
    rw [he] at h3
    have hse : s = r := vkey_inj h3
    rw [hf _ _ h1]; simp [hse]
theorem eqRef {a b c d : ByteArray} (hr : VLen (a, b)) (hs : VLen (c, d)) (W : World) : (binOp .eql 81 (.agg #[.string a, .string b]) (.agg #[.string c, .string d])).run Tryd.prog W = .ok (.bool (decide ((c, d) = (a, b)))) W := by
  have h : (Op.equal 81 (.agg #[.string a, .string b]) (.agg #[.string c, .string d])).run Tryd.prog W = .ok (decide ((c, d) = (a, b))) W := eqKey hr hs W
  simp [binOp, go_sem, h]
def IxBack (l : List Ref) (r : Ref) (w w' : World) (e : Ending) : Prop := ((r ∉ l ∧ e = .returned (.int .i64 (-1))) ∨ (r ∈ l ∧ ∃ i : Nat, i < l.length ∧ e = .returned (.int .i64 (i : Int)))) ∧ Below w.heap.size w w'
set_option maxRecDepth 100000 in
set_option maxHeartbeats 4000000 in
theorem index_any (l : List Ref) (ad : Option Addr) (cap n₀ : Nat) (a c : ByteArray) (w : World) (hn : n₀ ≤ w.heap.size) (hsl : SlAt 2 rcells n₀ w ad cap l) (hr : VLen (a, c)) (hV : ∀ r ∈ l, VLen r) :
    Calls Tryd.prog 64 #[.slice ad l.length cap, .agg #[.string a, .string c]] w fun e w' => IxBack l (a, c) w w' e := by
  have hl1 := hsl.1; have hl2 := hsl.2.1
  unfold maxLen at hl2
  go_enter Tryd.func64, Tryd.ntmps64
  go_upto_region 1 with fail
  obtain ⟨bX, hBX, hzX⟩ := one_box w #[.string a, .string c] 81
  obtain ⟨W1, hW1⟩ : ∃ W1, w.alloc (.cells #[.string a, .string c] 81) = W1 := ⟨_, rfl⟩
  rw [hW1] at bX hBX hzX ⊢
  clear hW1
  have HZ := hid hzX
  clear hzX
  go_wp2
  go_loopw [8] (fun i wr => ∃ k : Nat, k ≤ l.length ∧ i = .int .i64 k ∧ Hid ((a, c) ∉ l.take k) ∧ Below W1.heap.size W1 wr)
    (fun i _ => l.length - (intOf i).toNat)
  case atStart => exact ⟨0, by omega, rfl, (by show _ ∉ _; simp), Below.refl _ _⟩
  case round =>
    obtain ⟨k, hk, rfl, HK, hbx⟩ := hrel
    have hzx := hbx.size
    have hz0 := HZ.out
    have hbF : Below w.heap.size w wr := hBX.tr (by omega) hbx
    by_cases hlk : k < l.length
    · rcases hsl.2.2 with h | ⟨tb, toff, rfl, htn, htrow⟩
      · subst h; simp at hlk
      have htrow2 := htrow.below (hbF.mono hn) htn
      have d0 := htrow2 k hlk 0 (by omega)
      have d1 := htrow2 k hlk 1 (by omega)
      have htw : tb < wr.heap.size := by omega
      have hvx := hV _ (List.getElem_mem hlk)
      have HX1 : Hid (l[k] = (a, c) → (a, c) ∈ l) := fun h => h ▸ List.getElem_mem hlk
      have HX2 : Hid (l[k] ≠ (a, c) → (a, c) ∉ l.take (k + 1)) := by
        intro h hx
        rw [List.take_succ_eq_append_getElem hlk] at hx
        rcases List.mem_append.1 hx with hx | hx
        · exact HK.out hx
        · exact h (List.mem_singleton.1 hx).symm
      simp only [rcells] at d0 d1
      simp at d0 d1
      obtain ⟨g1, hg1⟩ : ∃ g1, l[k] = g1 := ⟨_, rfl⟩
      rw [hg1] at d0 d1 hvx HX1 HX2
      clear hg1
      obtain ⟨gm, gn⟩ := g1
      simp only at d0 d1
      have heq := fun W => eqRef hr hvx W
      have bXr := (hbx.block w.heap.size (by omega)).trans bX
      have y0 := cellOf bXr 0
      have y1 := cellOf bXr 1
      simp at y0 y1
      have hww : w.heap.size < wr.heap.size := by omega
      by_cases he : (gm, gn) = (a, c)
      · have hd : decide ((gm, gn) = (a, c)) = true := by simp [he]
        simp only [hd] at heq
        have HI := hid (HX1.out he)
        clear HX1 HX2 he hd
        go_wp2_with fail
        go_quiet (fail)
        go_wp2
        go_ret
        exact ⟨.inr ⟨HI.out, k, hlk, rfl⟩, below_drewN hbF _⟩
      · have hd : decide ((gm, gn) = (a, c)) = false := by simp only [he, decide_false]
        simp only [hd] at heq
        have HI := hid (HX2.out he)
        clear HX1 HX2 he hd
        go_wp2_with fail
        go_quiet (fail)
        go_wp2
        go_roundw
        case rel => exact ⟨k + 1, by omega, by go_num, HI, below_drewN hbx _⟩
        case measure => simp [intOf]; omega
    · have hkd : decide ((k : Int) < (l.length : Int)) = false := by simp; omega
      have HE : Hid ((a, c) ∉ l) := by
        have := HK.out
        rwa [List.take_of_length_le (by omega)] at this
      go_wp2
      go_ret
      exact ⟨.inl ⟨HE.out, rfl⟩, hbF⟩
set_option maxRecDepth 100000 in
set_option maxHeartbeats 4000000 in
theorem contains_any (l : List Ref) (ad : Option Addr) (cap n₀ : Nat) (a c : ByteArray) (w : World) (hn : n₀ ≤ w.heap.size) (hsl : SlAt 2 rcells n₀ w ad cap l) (hr : VLen (a, c)) (hV : ∀ r ∈ l, VLen r) :
    Calls Tryd.prog 45 #[.slice ad l.length cap, .agg #[.string a, .string c]] w fun e w' => e = .returned (.bool (decide ((a, c) ∈ l))) ∧ Below w.heap.size w w' := by
  have hq := fun (W : World) (hW : Below w.heap.size w W) => index_any l ad cap n₀ a c W (by have := hW.size; omega) (hsl.below (hW.mono hn)) hr hV
  by_cases hm : (a, c) ∈ l
  · have hd : decide ((a, c) ∈ l) = true := by simp [hm]
    have hq2 : ∀ (W : World) (hW : Below w.heap.size w W), Calls Tryd.prog 64 #[.slice ad l.length cap, .agg #[.string a, .string c]] W fun e w' => ∃ i : Nat, e = .returned (.int .i64 (i : Int)) ∧ Below W.heap.size W w' := fun W hW => (hq W hW).mono (by
      rintro e w' ⟨⟨h, _⟩ | ⟨_, i, _, h⟩, hb⟩
      · exact absurd hm h
      · exact ⟨i, h, hb⟩)
    rw [hd]
    clear hq hd hm
    have hB0 := (Below.refl w.heap.size w).al le_rfl' (.cells #[.string a, .string c] 81)
    go_enter Tryd.func45, Tryd.ntmps45
    go_wp2_with (go_at_call 64; (with_reducible refine (hq2 _ hB0).mono ?_); rintro r u1 ⟨i, rfl, bb1⟩; have hi0 : (0 : Int) ≤ (i : Int) := by omega)
    go_ret
    exact ⟨rfl, hB0.tr le_rfl' bb1⟩
  · have hd : decide ((a, c) ∈ l) = false := by simp only [hm, decide_false]
    have hq2 : ∀ (W : World) (hW : Below w.heap.size w W), Calls Tryd.prog 64 #[.slice ad l.length cap, .agg #[.string a, .string c]] W fun e w' => e = .returned (.int .i64 (-1)) ∧ Below W.heap.size W w' := fun W hW => (hq W hW).mono (by
      rintro e w' ⟨⟨_, h⟩ | ⟨h, _⟩, hb⟩
      · exact ⟨h, hb⟩
      · exact absurd h hm)
    rw [hd]
    clear hq hd hm
    have hB0 := (Below.refl w.heap.size w).al le_rfl' (.cells #[.string a, .string c] 81)
    go_enter Tryd.func45, Tryd.ntmps45
    go_wp2_with (go_at_call 64; (with_reducible refine (hq2 _ hB0).mono ?_); rintro r u1 ⟨rfl, bb1⟩)
    go_ret
    exact ⟨rfl, hB0.tr le_rfl' bb1⟩
/-- A method leads to itself. -/
def goesR (p : Pr) (r : Ref) : Bool := decide (r ∈ reachedOf p (leadsOf p r))
set_option maxRecDepth 100000 in
set_option maxHeartbeats 4000000 in
theorem goesRound_any (p : Pr) (a c : ByteArray) (n₀ b : Nat) (w : World) (hn : n₀ ≤ w.heap.size) (hBk : Book w n₀ b p) (hr : VLen (a, c)) (hV : ∀ r ∈ allRefs p, VLen r) (hF : Fine p) :
    Calls Tryd.prog 30 #[.map (some b), .agg #[.string a, .string c]] w fun e w' => e = .returned (.bool (goesR p (a, c))) ∧ Below w.heap.size w w' := by
  have HG := hid (show goesR p (a, c) = decide ((a, c) ∈ reachedOf p (leadsOf p (a, c))) from rfl)
  have hV2 : ∀ r ∈ leadsOf p (a, c) ++ allRefs p, VLen r := fun r hr => by
    rcases List.mem_append.1 hr with h | h
    · exact hV r (leads_all p _ r h)
    · exact hV r h
  have hV3 : ∀ r ∈ reachedOf p (leadsOf p (a, c)), VLen r := fun r hr => hV2 r (reached_sub p _ r hr)
  have hra := fun (ad : Option Addr) (cap : Nat) (W : World) (hW : Below w.heap.size w W) (hs : SlAt 2 rcells n₀ W ad cap (leadsOf p (a, c))) => reached_any p (leadsOf p (a, c)) ad cap n₀ b W (by have := hW.size; omega) (hBk.below (hW.mono hn)) hs hV2 (by have := hF.refs; have := hF.lds (a, c); omega)
  have hco := fun (ad : Option Addr) (cap : Nat) (W : World) (hs : SlAt 2 rcells W.heap.size W ad cap (reachedOf p (leadsOf p (a, c)))) => contains_any (reachedOf p (leadsOf p (a, c))) ad cap W.heap.size a c W (Nat.le_refl _) hs hr hV3
  simp only [← HG.out] at hco
  obtain ⟨G, hG⟩ : ∃ G, goesR p (a, c) = G := ⟨_, rfl⟩
  rw [hG]
  simp only [hG] at hco
  obtain ⟨bX, hBX, hzX⟩ := one_box w #[.string a, .string c] 81
  go_enter Tryd.func30, Tryd.ntmps30
  go_upto_region 1 with fail
  obtain ⟨W1, hW1⟩ : ∃ W1, w.alloc (.cells #[.string a, .string c] 81) = W1 := ⟨_, rfl⟩
  obtain ⟨Bs, hBs⟩ : ∃ Bs, w.heap.size = Bs := ⟨_, rfl⟩
  have HBX : Hid (Below w.heap.size w W1) := by rw [← hW1]; exact hBX
  rw [hW1] at bX ⊢
  rw [hBs] at bX ⊢
  have hBkd : Book W1.drew n₀ b p := hBk.below (below_drewV (HBX.out.mono hn))
  obtain ⟨gad, gcap, cad, ccap, hlook, -, hcl⟩ := hBkd.look hr
  simp only at hlook
  obtain ⟨gb, hgb⟩ : ∃ gb, (bodyOf p (a, c)).body.length = gb := ⟨_, rfl⟩
  rw [hgb] at hlook
  have hf80 := fld80
  have hB1 : Below w.heap.size w W1.drew := below_drewV HBX.out
  have hrac := hra cad ccap _ hB1 hcl
  obtain ⟨gs, hgs⟩ : ∃ gs, leadsOf p (a, c) = gs := ⟨_, rfl⟩
  obtain ⟨R, hR⟩ : ∃ R, reachedOf p (leadsOf p (a, c)) = R := ⟨_, rfl⟩
  simp only [hR] at hrac hco
  rw [hgs] at hlook hrac
  clear hgs hR hgb hW1 hBs hBX hzX hra hBkd hcl
  have HK : Hid (∀ W, Below W1.heap.size W1 W → W.cell? ⟨Bs, 0, none⟩ = some (.string a) ∧ W.cell? ⟨Bs, 1, none⟩ = some (.string c)) := by
    intro W hW
    have hl := (Array.getElem?_eq_some_iff.1 bX).1
    refine ⟨(hW.cell (p := ⟨Bs, 0, none⟩) hl).trans ?_, (hW.cell (p := ⟨Bs, 1, none⟩) hl).trans ?_⟩
    · rw [cellOf bX]; simp
    · rw [cellOf bX]; simp
  have B : Below W1.heap.size W1 W1.drew := ⟨rfl, rfl, rfl, Nat.le_refl _, fun _ _ => rfl⟩
  go_region_held3 (fun W => W.cell? ⟨Bs, 0, none⟩ = some (.string a) ∧ W.cell? ⟨Bs, 1, none⟩ = some (.string c)) (exact HK.out _ B)
    (first
      | (go_at_call 34; (with_reducible refine hrac.mono ?_); rintro r u ⟨v, rfl, hown, bb⟩; obtain ⟨rad, rcp, rfl, hrs⟩ := slOwn rcells_len hown; have B := B.trans (bb.mono B.size))
      | (go_at_call 45; (with_reducible refine (hco rad rcp _ hrs).mono ?_); rintro r u2 ⟨rfl, bb2⟩; have B := B.trans (bb2.mono B.size)))
  have HB := hid (HBX.out.trans (B.mono HBX.out.size))
  go_wp2
  go_ret
  exact ⟨rfl, HB.out⟩
/-- The first method in a cycle, the first role that is too big. -/
def Me.cyc (p : Pr) (mon : ByteArray) (f : Me) : Option (Int × Int) := if goesR p (mon, f.name) = true then some (80, f.pos) else none
def Mo.cyc (p : Pr) (m : Mo) : Option (Int × Int) := fstOf (Me.cyc p m.name) m.meths
def Ro.big (p : Pr) (r : Ro) : Option (Int × Int) := if (cntOf p r.body).2 = 81 then some (81, r.pos) else none
def Pr.cchk (p : Pr) : Int × Int := if p.tchk.1 = 0 then ((fstOf (Mo.cyc p) p.mons).or (fstOf (Ro.big p) p.roles)).getD (0, 0) else p.tchk
set_option maxRecDepth 100000 in
set_option maxHeartbeats 16000000 in
theorem Check_any (p : Pr) (n₀ : Nat) (w : World) (hn : n₀ ≤ w.heap.size) (hp : p.Is n₀ w) (hS : Shapes w) (hS3 : 3 ≤ w.heap.size) (hvs : vsum p.mons ≤ 1000000) (hF : Fine p) (hRo : ∀ r ∈ p.roles, FineB r.body) :
    Calls Tryd.prog 20 #[p.val] w fun r w' => ChkBack p.cchk w w' r := by
  have hc1 := fun (W : World) (hW : Below w.heap.size w W) => typesCheck_any p hvs n₀ W (by have := hW.size; omega) (hp.below (hW.mono hn)) (hS.below hW hS3)
  have hc2 := fun (W : World) (hW : Below w.heap.size w W) => newBook_any p n₀ W (by have := hW.size; omega) (hp.below (hW.mono hn)) hF.subs hF.lens
  have hV := vlen_all hp
  have hc3 := fun (b n : Nat) (W : World) (hnW : n ≤ W.heap.size) (hB : Book W n b p) (a c : ByteArray) (hr : VLen (a, c)) => goesRound_any p a c n b W hnW hB hr hV hF
  have hc4 := fun (b n : Nat) (W : World) (hnW : n ≤ W.heap.size) (hB : Book W n b p) (r : Ro) (hr : r ∈ p.roles) (hI : r.body.Is n W) => count_any p r.body n b W hnW hB hI hV hF (hRo r hr)
  have HCC := hid (show p.cchk = if p.tchk.1 = 0 then ((fstOf (Mo.cyc p) p.mons).or (fstOf (Ro.big p) p.roles)).getD (0, 0) else p.tchk from rfl)
  obtain ⟨P, hP⟩ : ∃ P : Pr, P = p := ⟨_, rfl⟩
  have HPP := hid hP
  obtain ⟨tc, htc⟩ : ∃ tc, p.tchk = tc := ⟨_, rfl⟩
  obtain ⟨cc, hcc⟩ : ∃ cc, p.cchk = cc := ⟨_, rfl⟩
  rw [htc, hcc] at HCC
  simp only [htc] at hc1
  rw [hcc]
  rw [← hP] at HCC hc3 hc4
  have hc2 : ∀ (W : World), Below w.heap.size w W → Calls Tryd.prog 22 #[p.val] W fun r w' => BookBack P W w' r := by rw [hP]; exact hc2
  have hPm : P.mons = p.mons := by rw [hP]
  have hPr : P.roles = p.roles := by rw [hP]
  rw [hPm, hPr] at HCC
  simp only [hPr] at hc4
  clear htc hcc hP hRo hvs hV hS hPm hPr
  rcases p with ⟨mad, mcap, mons, rad, rcap, roles⟩
  obtain ⟨⟨h3, h4⟩, h5, h6⟩ := hp
  obtain ⟨tc1, tc2⟩ := tc
  simp only [Pr.val] at hc1 hc2 hc4 h3 h4 h5 h6 HCC ⊢
  simp only [ChkBack] at hc1
  have hl1 := h3.1; have hl2 := h3.2.1
  unfold maxLen at hl2
  have hr1 := h5.1; have hr2 := h5.2.1
  unfold maxLen at hr2
  have hB := (Below.refl w.heap.size w).al le_rfl' (.cells #[.slice mad mons.length mcap, .slice rad roles.length rcap] 45)
  have b1 := heapNew w (.cells #[.slice mad mons.length mcap, .slice rad roles.length rcap] 45)
  cases hte : (tc1 != 0 : Bool)
  · have ht0 : tc1 = 0 := by simpa using hte
    subst ht0
    rw [if_pos rfl] at HCC
    go_enter Tryd.func20, Tryd.ntmps20
    go_upto_region 5 with (first
      | (go_at_call 29; (with_reducible refine (hc1 _ hB).mono ?_); rintro r wA ⟨rfl, bb1⟩; have b2 := (bb1.block w.heap.size (by simp)).trans b1; have p0 := cellOf b2 0; have p1 := cellOf b2 1; simp at p0 p1)
      | (go_at_call 22; (with_reducible refine (hc2 _ (hB.tr le_rfl' bb1)).mono ?_); rintro r wB ⟨b, rfl, hbk, bb2⟩))
    have hB1 := hB.tr le_rfl' bb1
    have hB2 := hB1.tr le_rfl' bb2
    have b3 := (bb2.block w.heap.size (by have := hB1.size; have := (Array.getElem?_eq_some_iff.1 b2).1; omega)).trans b2
    have q0 := cellOf b3 0
    have q1 := cellOf b3 1
    simp at q0 q1
    clear hc1 hc2 p0 p1 b1 b2 bb1 bb2 hte
    have hz2 := hB2.size
    go_wp2
    go_loopw [29] (fun i wr => ∃ j : Nat, j ≤ mons.length ∧ i = .int .i64 j ∧ Hid (fstOf (Mo.cyc P) mons = fstOf (Mo.cyc P) (mons.drop j)) ∧ Below wB.heap.size wB wr)
      (fun i _ => mons.length - (intOf i).toNat)
    case atStart => exact ⟨0, by omega, rfl, rfl, Below.refl _ _⟩
    case round =>
      obtain ⟨j, hj, rfl, HQ, hbw⟩ := hrel
      have hz1 := hbw.size
      have hbF : Below w.heap.size w wr := hB2.tr le_rfl' hbw
      by_cases hlt : j < mons.length
      · rcases h3.2.2 with h | ⟨kb, koff, rfl, hbn, hrow⟩
        · subst h; simp at hlt
        have HD := hid (fstOf_drop (Mo.cyc P) mons j hlt)
        have HMU : Hid (Mo.cyc P mons[j] = fstOf (Me.cyc P mons[j].name) mons[j].meths) := rfl
        have hmj := h4 _ (List.getElem_mem hlt)
        have hmm2 := hrow.below (hbF.mono hn) hbn
        rcases he' : mons[j] with ⟨mname, vad, vcap, vars, fad, fcap, meths, mpos⟩
        have hc4r := row4 hmm2 j hlt (by rw [he']; rfl)
        rw [he'] at hmj HMU
        rw [he'] at HD
        simp only at hc4r HMU
        obtain ⟨c0, c1, c2, c3⟩ := hc4r
        have hkw : kb < wr.heap.size := by omega
        obtain ⟨⟨hml, -⟩, -, hfs, hfI⟩ := hmj
        simp only at hfs hfI hml
        have hf1 := hfs.1; have hf2 := hfs.2.1
        unfold maxLen at hf2
        clear he' hmm2
        go_upto_region 8 with fail
        obtain ⟨bX, hBX, hzX⟩ := one_box wr #[.string mname, .slice vad vars.length vcap, .slice fad meths.length fcap, .int .i64 mpos] 62
        obtain ⟨Bm, hBm⟩ : ∃ Bm, wr.heap.size = Bm := ⟨_, rfl⟩
        obtain ⟨W1, hW1⟩ : ∃ W1, wr.alloc (.cells #[.string mname, .slice vad vars.length vcap, .slice fad meths.length fcap, .int .i64 mpos] 62) = W1 := ⟨_, rfl⟩
        have hbw1 : Below wB.heap.size wB W1 := by rw [← hW1]; exact hbw.tr le_rfl' hBX
        rw [hW1] at bX ⊢
        rw [hBm] at bX ⊢
        have x2 := cellOf bX 2
        simp at x2
        clear hBX hzX hW1 hBm c0 c1 c2 c3
        obtain ⟨wo, hwo⟩ : ∃ wo : World, wo = wr := ⟨_, rfl⟩
        subst hwo
        go_wp2
        clear x2
        go_loopw [36] (fun i wx => ∃ k : Nat, k ≤ meths.length ∧ i = .int .i64 k ∧ Hid (fstOf (Me.cyc P mname) meths = fstOf (Me.cyc P mname) (meths.drop k)) ∧ Below W1.heap.size W1 wx)
          (fun i _ => meths.length - (intOf i).toNat)
        case atStart => exact ⟨0, by omega, rfl, rfl, Below.refl _ _⟩
        case round =>
          obtain ⟨k, hk, rfl, HQ2, hbx⟩ := hrel
          have hzx := hbx.size
          have hbx2 : Below wB.heap.size wB wr := hbw1.tr le_rfl' hbx
          have hbF2 : Below w.heap.size w wr := hB2.tr le_rfl' hbx2
          have bXi := (hbx.block Bm (Array.getElem?_eq_some_iff.1 bX).1).trans bX
          by_cases hlk : k < meths.length
          · rcases hfs.2.2 with h | ⟨qb, qoff, rfl, hqn, hqrow⟩
            · subst h; simp at hlk
            have HD2 := hid (fstOf_drop (Me.cyc P mname) meths k hlk)
            have HMe : Hid (Me.cyc P mname meths[k] = if goesR P (mname, meths[k].name) = true then some (80, meths[k].pos) else none) := rfl
            have hIf := hfI _ (List.getElem_mem hlk)
            have hqrow2 := hqrow.below (hbF2.mono hn) hqn
            rcases he2 : meths[k] with ⟨fname, ⟨bad, bcap, bbody⟩, fpos⟩
            have hc3r := row3 hqrow2 k hlk (by rw [he2]; rfl)
            rw [he2] at HMe hIf
            rw [he2] at HD2
            simp only [Bl.slice] at hc3r
            simp only at HMe
            obtain ⟨d0, d1, d2⟩ := hc3r
            have hfl := hIf.1
            simp only at hfl
            have hvl : VLen (mname, fname) := by unfold VLen maxLen; unfold Len at hml hfl; exact ⟨by simp; omega, by simp; omega⟩
            have hqw : qb < wr.heap.size := by have := hbF2.size; omega
            obtain ⟨bF, hBF, hzF⟩ := one_box wr #[.string fname, .slice bad bbody.length bcap, .int .i64 fpos] 66
            have hcg := hc3 b wB.heap.size (wr.alloc (.cells #[.string fname, .slice bad bbody.length bcap, .int .i64 fpos] 66)) (by have := hbx2.size; simp; omega) (hbk.below (hbx2.tr le_rfl' hBF)) mname fname hvl
            have m0 := (hBF.cell (p := ⟨Bm, 0, none⟩) (by show Bm < _; exact (Array.getElem?_eq_some_iff.1 bXi).1)).trans (cellOf bXi 0)
            simp at m0
            obtain ⟨G, hG⟩ : ∃ G, goesR P (mname, fname) = G := ⟨_, rfl⟩
            rw [hG] at hcg HMe
            clear he2 hG hqrow2 hIf
            cases G
            · simp only [Bool.false_eq_true, if_false] at HMe
              go_wp2_with (go_at_call 30; (with_reducible refine hcg.mono ?_); rintro r wE ⟨rfl, bb5⟩)
              go_roundw
              case rel => exact ⟨k + 1, by omega, by go_num, by show _ = _; rw [HQ2.out, HD2.out, HMe.out]; rfl, (hbx.tr le_rfl' hBF).tr le_rfl' bb5⟩
              case measure => simp [intOf]; omega
            · simp only [if_true] at HMe
              have HE : Hid (cc = (80, fpos)) := by
                show _ = _
                rw [HCC.out, HQ.out, HD.out, HMU.out, HQ2.out, HD2.out, HMe.out]; rfl
              go_wp2_with (go_at_call 30; (with_reducible refine hcg.mono ?_); rintro r wE ⟨rfl, bb5⟩; have f2 := (bb5.cell (p := ⟨wr.heap.size, 2, none⟩) (by show wr.heap.size < _; simp)).trans (cellOf bF 2); simp at f2)
              go_quiet (fail)
              go_wp2
              go_ret2
              exact chkBack_mk HE.out (below_drewN ((hbF2.tr le_rfl' hBF).tr le_rfl' bb5) _)
          · have hkd : decide ((k : Int) < (meths.length : Int)) = false := by simp; omega
            have HE : Hid (fstOf (Mo.cyc P) mons = fstOf (Mo.cyc P) (mons.drop (j + 1))) := by
              show _ = _
              rw [HQ.out, HD.out, HMU.out, HQ2.out, fstOf_end _ _ _ (by omega)]; rfl
            go_wp2
            go_roundw
            case rel => exact ⟨j + 1, by omega, by go_num, HE, hbx2⟩
            case measure => simp [intOf]; omega
      · have hjd : decide ((j : Int) < (mons.length : Int)) = false := by simp; omega
        have HC2 : Hid (cc = (fstOf (Ro.big P) roles).getD (0, 0)) := by
          show _ = _
          rw [HCC.out, HQ.out, fstOf_end _ _ _ (by omega)]; rfl
        clear HCC HQ
        have b4 := (hbw.block w.heap.size (Array.getElem?_eq_some_iff.1 b3).1).trans b3
        have q0 := cellOf b4 0
        have q1 := cellOf b4 1
        simp at q0 q1
        obtain ⟨wC, hu3⟩ : ∃ wC : World, wC = wr := ⟨_, rfl⟩
        subst hu3
        go_wp2
        clear q0 q1
        go_loopw [54] (fun i wx => ∃ k : Nat, k ≤ roles.length ∧ i = .int .i64 k ∧ Hid (fstOf (Ro.big P) roles = fstOf (Ro.big P) (roles.drop k)) ∧ Below wB.heap.size wB wx)
          (fun i _ => roles.length - (intOf i).toNat)
        case atStart => exact ⟨0, by omega, rfl, rfl, hbw⟩
        case round =>
          obtain ⟨k, hk, rfl, HQ2, hbx⟩ := hrel
          have hzx := hbx.size
          have hbF2 : Below w.heap.size w wr := hB2.tr le_rfl' hbx
          by_cases hlk : k < roles.length
          · rcases h5.2.2 with h | ⟨qb, qoff, rfl, hqn, hqrow⟩
            · subst h; simp at hlk
            have HD2 := hid (fstOf_drop (Ro.big P) roles k hlk)
            have HMe : Hid (Ro.big P roles[k] = if (cntOf P roles[k].body).2 = 81 then some (81, roles[k].pos) else none) := rfl
            have hIr := h6 _ (List.getElem_mem hlk)
            have hcr := fun (W : World) (hW : Below wr.heap.size wr W) => hc4 b wB.heap.size W (by have := hW.size; omega) (hbk.below (hbx.tr le_rfl' hW)) roles[k] (List.getElem_mem hlk) ((hIr.2.2.2.below ((hbF2.tr le_rfl' hW).mono hn)).mono (by omega))
            have hqrow2 := hqrow.below (hbF2.mono hn) hqn
            rcases he2 : roles[k] with ⟨rname, rstar, rcount, ⟨bad, bcap, bbody⟩, rpos⟩
            have hc5r := row5 hqrow2 k hlk (by rw [he2]; rfl)
            rw [he2] at HMe
            rw [he2] at HD2
            simp only [he2] at hcr
            simp only [Bl.slice] at hc5r hcr
            simp only at HMe
            obtain ⟨d0, d1, d2, d3, d4⟩ := hc5r
            have hqw : qb < wr.heap.size := by have := hbF2.size; omega
            obtain ⟨bF, hBF, hzF⟩ := one_box wr #[.string rname, .bool rstar, .int .i64 rcount, .slice bad bbody.length bcap, .int .i64 rpos] 51
            have hcg := hcr _ hBF
            obtain ⟨cn, hcn⟩ : ∃ cn, cntOf P (.mk bad bcap bbody) = cn := ⟨_, rfl⟩
            rw [hcn] at hcg HMe
            obtain ⟨c1, c2⟩ := cn
            simp only [CntBack] at hcg
            simp only at HMe
            clear he2 hcn hcr hqrow2 hIr
            cases hc81 : (c2 == 81 : Bool)
            · have hne : ¬ c2 = 81 := by simpa using hc81
              rw [if_neg hne] at HMe
              go_wp2_with (go_at_call 23; (with_reducible refine hcg.mono ?_); rintro r wE ⟨rfl, bb5⟩)
              go_roundw
              case rel => exact ⟨k + 1, by omega, by go_num, by show _ = _; rw [HQ2.out, HD2.out, HMe.out]; rfl, (hbx.tr le_rfl' hBF).tr le_rfl' bb5⟩
              case measure => simp [intOf]; omega
            · have he : c2 = 81 := by simpa using hc81
              subst he
              rw [if_pos rfl] at HMe
              have HE : Hid (cc = (81, rpos)) := by
                show _ = _
                rw [HC2.out, HQ2.out, HD2.out, HMe.out]; rfl
              go_wp2_with (go_at_call 23; (with_reducible refine hcg.mono ?_); rintro r wE ⟨rfl, bb5⟩; have f2 := (bb5.cell (p := ⟨wr.heap.size, 4, none⟩) (by show wr.heap.size < _; simp)).trans (cellOf bF 4); simp at f2)
              go_quiet (fail)
              go_wp2
              go_ret2
              exact chkBack_mk HE.out (below_drewN ((hbF2.tr le_rfl' hBF).tr le_rfl' bb5) _)
          · have hkd : decide ((k : Int) < (roles.length : Int)) = false := by simp; omega
            have HE : Hid (cc = (0, 0)) := by
              show _ = _
              rw [HC2.out, HQ2.out, fstOf_end _ _ _ (by omega)]; rfl
            go_wp2
            go_ret2
            exact chkBack_mk HE.out hbF2
  · have hne : ¬ tc1 = 0 := by simpa using hte
    rw [if_neg hne] at HCC
    go_enter Tryd.func20, Tryd.ntmps20
    go_wp2_with (go_at_call 29; (with_reducible refine (hc1 _ hB).mono ?_); rintro r wA ⟨rfl, bb1⟩)
    go_ret2
    exact chkBack_mk HCC.out (hB.tr le_rfl' bb1)
end Go.Proofs.YtfkabkbnfeiggaaDoor
namespace Go.Proofs.YtfkabkbnfeiggaaDoor
open Go.RowKit
/-- The first error of a list. -/
def firE {α : Type} (f : α → Int × Int) : List α → Int × Int
  | [] => (0, 0)
  | x :: l => fstE (f x) (firE f l)
theorem firE_drop {α : Type} (f : α → Int × Int) (l : List α) (j : Nat) (h : j < l.length) : firE f (l.drop j) = fstE (f l[j]) (firE f (l.drop (j + 1))) := by
  rw [List.drop_eq_getElem_cons h, firE]
theorem firE_end {α : Type} (f : α → Int × Int) (l : List α) (j : Nat) (h : l.length ≤ j) : firE f (l.drop j) = (0, 0) := by
  rw [List.drop_of_length_le h, firE]
def Me.osc (name : ByteArray) (f : Me) : Int × Int := f.body.sco (ownF [name])
def Mo.osc (m : Mo) : Int × Int := firE (Me.osc m.name) m.meths
def Ro.osc (r : Ro) : Int × Int := r.body.sco (ownF [])
/-- P9.2. -/
def Pr.ochk (p : Pr) : Int × Int := if p.cchk.1 = 0 then fstE (firE Mo.osc p.mons) (firE Ro.osc p.roles) else p.cchk
theorem sl_one {W : World} {s : ByteArray} (w : World) (hW : W = w.alloc (.cells #[.string s] 9)) : SlAt 1 ncells W.heap.size W (some ⟨w.heap.size, 0, none⟩) 1 [s] := by
  subst hW
  refine ⟨by simp, by unfold maxLen; omega, .inr ⟨w.heap.size, 0, rfl, by simp, fun j hj i hi => ?_⟩⟩
  obtain rfl : j = 0 := by simpa using hj
  obtain rfl : i = 0 := by omega
  rw [cellOf (heapNew w _)]; rfl
set_option maxRecDepth 100000 in
set_option maxHeartbeats 16000000 in
theorem ownCheck_any (p : Pr) (n₀ : Nat) (w : World) (hn : n₀ ≤ w.heap.size) (hp : p.Is n₀ w) (hS : Shapes w) (hS3 : 3 ≤ w.heap.size) (hvs : vsum p.mons ≤ 1000000) (hF : Fine p) (hRo : ∀ r ∈ p.roles, FineB r.body) (hM : ∀ m ∈ p.mons, ∀ f ∈ m.meths, f.body.subs.length ≤ 400000) :
    Calls Tryd.prog 14 #[p.val] w fun r w' => ChkBack p.ochk w w' r := by
  have hc1 := fun (W : World) (hW : Below w.heap.size w W) => Check_any p n₀ W (by have := hW.size; omega) (hp.below (hW.mono hn)) (hS.below hW hS3) (by have := hW.size; omega) hvs hF hRo
  have HCC := hid (show p.ochk = if p.cchk.1 = 0 then fstE (firE Mo.osc p.mons) (firE Ro.osc p.roles) else p.cchk from rfl)
  obtain ⟨tc, htc⟩ : ∃ tc, p.cchk = tc := ⟨_, rfl⟩
  obtain ⟨cc, hcc⟩ : ∃ cc, p.ochk = cc := ⟨_, rfl⟩
  rw [htc, hcc] at HCC
  simp only [htc] at hc1
  rw [hcc]
  have hR2 : ∀ r ∈ p.roles, r.body.subs.length ≤ 400000 := fun r hr => (hRo r hr).subs
  clear htc hcc hRo hvs hS hF
  rcases p with ⟨mad, mcap, mons, rad, rcap, roles⟩
  obtain ⟨⟨h3, h4⟩, h5, h6⟩ := hp
  obtain ⟨tc1, tc2⟩ := tc
  simp only [Pr.val] at hc1 hM hR2 h3 h4 h5 h6 HCC ⊢
  simp only [ChkBack] at hc1
  have hl1 := h3.1; have hl2 := h3.2.1
  unfold maxLen at hl2
  have hr1 := h5.1; have hr2 := h5.2.1
  unfold maxLen at hr2
  have hB := (Below.refl w.heap.size w).al le_rfl' (.cells #[.slice mad mons.length mcap, .slice rad roles.length rcap] 45)
  have b1 := heapNew w (.cells #[.slice mad mons.length mcap, .slice rad roles.length rcap] 45)
  cases hte : (tc1 != 0 : Bool)
  · have ht0 : tc1 = 0 := by simpa using hte
    subst ht0
    rw [if_pos rfl] at HCC
    go_enter Tryd.func14, Tryd.ntmps14
    go_upto_region 4 with (go_at_call 20; (with_reducible refine (hc1 _ hB).mono ?_); rintro r wB ⟨rfl, bb1⟩)
    have hB2 := hB.tr le_rfl' bb1
    have b3 := (bb1.block w.heap.size (by simp)).trans b1
    have q0 := cellOf b3 0
    have q1 := cellOf b3 1
    simp at q0 q1
    clear hc1 b1 bb1 hte
    have hz2 := hB2.size
    go_wp2
    go_loopw [28] (fun i wr => ∃ j : Nat, j ≤ mons.length ∧ i = .int .i64 j ∧ Hid (firE Mo.osc mons = firE Mo.osc (mons.drop j)) ∧ Below wB.heap.size wB wr)
      (fun i _ => mons.length - (intOf i).toNat)
    case atStart => exact ⟨0, by omega, rfl, rfl, Below.refl _ _⟩
    case round =>
      obtain ⟨j, hj, rfl, HQ, hbw⟩ := hrel
      have hz1 := hbw.size
      have hbF : Below w.heap.size w wr := hB2.tr le_rfl' hbw
      by_cases hlt : j < mons.length
      · rcases h3.2.2 with h | ⟨kb, koff, rfl, hbn, hrow⟩
        · subst h; simp at hlt
        have HD := hid (firE_drop Mo.osc mons j hlt)
        have HMU : Hid (Mo.osc mons[j] = firE (Me.osc mons[j].name) mons[j].meths) := rfl
        have hmj := h4 _ (List.getElem_mem hlt)
        have hMj := hM _ (List.getElem_mem hlt)
        have hmm2 := hrow.below (hbF.mono hn) hbn
        rcases he' : mons[j] with ⟨mname, vad, vcap, vars, fad, fcap, meths, mpos⟩
        have hc4r := row4 hmm2 j hlt (by rw [he']; rfl)
        rw [he'] at hmj HMU hMj
        rw [he'] at HD
        simp only at hc4r HMU hMj
        obtain ⟨c0, c1, c2, c3⟩ := hc4r
        have hkw : kb < wr.heap.size := by omega
        obtain ⟨⟨hml, -⟩, -, hfs, hfI⟩ := hmj
        simp only at hfs hfI hml
        have hf1 := hfs.1; have hf2 := hfs.2.1
        unfold maxLen at hf2
        clear he' hmm2
        go_upto_region 7 with fail
        obtain ⟨bX, hBX, hzX⟩ := one_box wr #[.string mname, .slice vad vars.length vcap, .slice fad meths.length fcap, .int .i64 mpos] 62
        obtain ⟨Bm, hBm⟩ : ∃ Bm, wr.heap.size = Bm := ⟨_, rfl⟩
        obtain ⟨W1, hW1⟩ : ∃ W1, wr.alloc (.cells #[.string mname, .slice vad vars.length vcap, .slice fad meths.length fcap, .int .i64 mpos] 62) = W1 := ⟨_, rfl⟩
        have hbw1 : Below wB.heap.size wB W1 := by rw [← hW1]; exact hbw.tr le_rfl' hBX
        rw [hW1] at bX ⊢
        rw [hBm] at bX ⊢
        have x2 := cellOf bX 2
        simp at x2
        clear hBX hzX hW1 hBm c0 c1 c2 c3
        obtain ⟨wo, hwo⟩ : ∃ wo : World, wo = wr := ⟨_, rfl⟩
        subst hwo
        go_wp2
        clear x2
        go_loopw [35] (fun i wx => ∃ k : Nat, k ≤ meths.length ∧ i = .int .i64 k ∧ Hid (firE (Me.osc mname) meths = firE (Me.osc mname) (meths.drop k)) ∧ Below W1.heap.size W1 wx)
          (fun i _ => meths.length - (intOf i).toNat)
        case atStart => exact ⟨0, by omega, rfl, rfl, Below.refl _ _⟩
        case round =>
          obtain ⟨k, hk, rfl, HQ2, hbx⟩ := hrel
          have hzx := hbx.size
          have hbx2 : Below wB.heap.size wB wr := hbw1.tr le_rfl' hbx
          have hbF2 : Below w.heap.size w wr := hB2.tr le_rfl' hbx2
          have bXi := (hbx.block Bm (Array.getElem?_eq_some_iff.1 bX).1).trans bX
          by_cases hlk : k < meths.length
          · rcases hfs.2.2 with h | ⟨qb, qoff, rfl, hqn, hqrow⟩
            · subst h; simp at hlk
            have HD2 := hid (firE_drop (Me.osc mname) meths k hlk)
            have HMe : Hid (Me.osc mname meths[k] = meths[k].body.sco (ownF [mname])) := rfl
            have hIf := hfI _ (List.getElem_mem hlk)
            have hMf := hMj _ (List.getElem_mem hlk)
            have hqrow2 := hqrow.below (hbF2.mono hn) hqn
            rcases he2 : meths[k] with ⟨fname, ⟨bad, bcap, bbody⟩, fpos⟩
            have hc3r := row3 hqrow2 k hlk (by rw [he2]; rfl)
            rw [he2] at HMe hIf hMf
            rw [he2] at HD2
            simp only [Bl.slice] at hc3r
            simp only at HMe hMf
            obtain ⟨d0, d1, d2⟩ := hc3r
            have hqw : qb < wr.heap.size := by have := hbF2.size; omega
            obtain ⟨bF, hBF, hzF⟩ := one_box wr #[.string fname, .slice bad bbody.length bcap, .int .i64 fpos] 66
            obtain ⟨W2, hW2⟩ : ∃ W2, wr.alloc (.cells #[.string fname, .slice bad bbody.length bcap, .int .i64 fpos] 66) = W2 := ⟨_, rfl⟩
            rw [hW2] at bF hBF hzF
            have hBN : Below W2.heap.size W2 (W2.alloc (.cells #[.string mname] 9)) := (Below.refl _ _).al le_rfl' _
            have hcg := scope_any (.mk bad bcap bbody) [mname] (some ⟨W2.heap.size, 0, none⟩) 1 (W2.alloc (.cells #[.string mname] 9)).heap.size (W2.alloc (.cells #[.string mname] 9)) (Nat.le_refl _) ((hIf.2.2.below (((hbF2.tr le_rfl' hBF).tr le_rfl' hBN).mono hn)).mono (by have := ((hbF2.tr le_rfl' hBF).tr le_rfl' hBN).size; omega)) (sl_one W2 rfl) (by simp; omega)
            have m0 := (hBF.cell (p := ⟨Bm, 0, none⟩) (by show Bm < _; exact (Array.getElem?_eq_some_iff.1 bXi).1)).trans (cellOf bXi 0)
            simp at m0
            obtain ⟨G, hG⟩ : ∃ G, (Bl.mk bad bcap bbody).sco (ownF [mname]) = G := ⟨_, rfl⟩
            have hG0 := Bl.sco_zero (f := ownF [mname]) (Bl.mk bad bcap bbody)
            rw [hG] at hcg HMe hG0
            simp only [Bl.slice, ScBack, List.length_cons, List.length_nil] at hcg
            have f1 := cellOf bF 1
            simp at f1
            clear he2 hG hqrow2 hIf bF hMf hzF
            obtain ⟨ge, ga⟩ := G
            by_cases hge : ge = 0
            · subst hge
              have hgz := hG0 rfl
              have hga : ga = 0 := congrArg Prod.snd hgz
              subst hga
              rw [HMe.out, fstE_zero] at HD2
              go_wp2_with (go_at_call 10; (with_reducible refine hcg.mono ?_); rintro r wE ⟨rfl, bb5⟩)
              go_roundw
              case rel => exact ⟨k + 1, by omega, by go_num, by show _ = _; rw [HQ2.out, HD2.out], ((hbx.tr le_rfl' hBF).tr le_rfl' hBN).tr le_rfl' bb5⟩
              case measure => simp [intOf]; omega
            · rw [HMe.out, fstE_err (by exact hge)] at HD2
              have hgb : (ge == 0) = false := by rw [beq_eq_false_iff_ne]; exact hge
              have hgb2 : (ge != 0) = true := by rw [bne, hgb]; rfl
              have HE : Hid (cc = (ge, ga)) := by
                show _ = _
                have h1 : Mo.osc { name := mname, vad := vad, vcap := vcap, vars := vars, mad := some ⟨qb, qoff, none⟩, mcap := fcap, meths := meths, pos := mpos } = (ge, ga) := by rw [HMU.out, HQ2.out, HD2.out]
                have h2 : firE Mo.osc mons = (ge, ga) := by rw [HQ.out, HD.out, h1, fstE_err (by exact hge)]
                rw [HCC.out, h2, fstE_err (by exact hge)]
              go_wp2_with (go_at_call 10; (with_reducible refine hcg.mono ?_); rintro r wE ⟨rfl, bb5⟩)
              go_ret2
              exact chkBack_mk HE.out (((hbF2.tr le_rfl' hBF).tr le_rfl' hBN).tr le_rfl' bb5)
          · have hkd : decide ((k : Int) < (meths.length : Int)) = false := by simp; omega
            have HE : Hid (firE Mo.osc mons = firE Mo.osc (mons.drop (j + 1))) := by
              show _ = _
              rw [HQ.out, HD.out, HMU.out, HQ2.out, firE_end _ _ _ (by omega), fstE_zero]
            go_wp2
            go_roundw
            case rel => exact ⟨j + 1, by omega, by go_num, HE, hbx2⟩
            case measure => simp [intOf]; omega
      · have hjd : decide ((j : Int) < (mons.length : Int)) = false := by simp; omega
        have HC2 : Hid (cc = firE Ro.osc roles) := by
          show _ = _
          rw [HCC.out, HQ.out, firE_end _ _ _ (by omega), fstE_zero]
        clear HCC HQ
        have b4 := (hbw.block w.heap.size (Array.getElem?_eq_some_iff.1 b3).1).trans b3
        have q0 := cellOf b4 0
        have q1 := cellOf b4 1
        simp at q0 q1
        obtain ⟨wC, hu3⟩ : ∃ wC : World, wC = wr := ⟨_, rfl⟩
        subst hu3
        go_wp2
        clear q0 q1
        go_loopw [57] (fun i wx => ∃ k : Nat, k ≤ roles.length ∧ i = .int .i64 k ∧ Hid (firE Ro.osc roles = firE Ro.osc (roles.drop k)) ∧ Below wB.heap.size wB wx)
          (fun i _ => roles.length - (intOf i).toNat)
        case atStart => exact ⟨0, by omega, rfl, rfl, hbw⟩
        case round =>
          obtain ⟨k, hk, rfl, HQ2, hbx⟩ := hrel
          have hzx := hbx.size
          have hbF2 : Below w.heap.size w wr := hB2.tr le_rfl' hbx
          by_cases hlk : k < roles.length
          · rcases h5.2.2 with h | ⟨qb, qoff, rfl, hqn, hqrow⟩
            · subst h; simp at hlk
            have HD2 := hid (firE_drop Ro.osc roles k hlk)
            have HMe : Hid (Ro.osc roles[k] = roles[k].body.sco (ownF [])) := rfl
            have hIr := h6 _ (List.getElem_mem hlk)
            have hMr := hR2 _ (List.getElem_mem hlk)
            have hqrow2 := hqrow.below (hbF2.mono hn) hqn
            rcases he2 : roles[k] with ⟨rname, rstar, rcount, ⟨bad, bcap, bbody⟩, rpos⟩
            have hc5r := row5 hqrow2 k hlk (by rw [he2]; rfl)
            rw [he2] at HMe hIr hMr
            rw [he2] at HD2
            simp only [Bl.slice] at hc5r
            simp only at HMe hMr
            obtain ⟨d0, d1, d2, d3, d4⟩ := hc5r
            have hqw : qb < wr.heap.size := by have := hbF2.size; omega
            obtain ⟨bF, hBF, hzF⟩ := one_box wr #[.string rname, .bool rstar, .int .i64 rcount, .slice bad bbody.length bcap, .int .i64 rpos] 51
            have hcg := scope_any (.mk bad bcap bbody) [] none 0 n₀ (wr.alloc (.cells #[.string rname, .bool rstar, .int .i64 rcount, .slice bad bbody.length bcap, .int .i64 rpos] 51)) (by have := (hbF2.tr le_rfl' hBF).size; omega) (hIr.2.2.2.below ((hbF2.tr le_rfl' hBF).mono hn)) ⟨by simp, by unfold maxLen; omega, .inl rfl⟩ (by simp; omega)
            obtain ⟨G, hG⟩ : ∃ G, (Bl.mk bad bcap bbody).sco (ownF []) = G := ⟨_, rfl⟩
            have hG0 := Bl.sco_zero (f := ownF []) (Bl.mk bad bcap bbody)
            rw [hG] at hcg HMe hG0
            simp only [Bl.slice, ScBack, List.length_nil] at hcg
            clear he2 hG hqrow2 hIr hMr hzF
            obtain ⟨ge, ga⟩ := G
            by_cases hge : ge = 0
            · subst hge
              have hgz := hG0 rfl
              have hga : ga = 0 := congrArg Prod.snd hgz
              subst hga
              rw [HMe.out, fstE_zero] at HD2
              go_wp2_with (go_at_call 10; (with_reducible refine hcg.mono ?_); rintro r wE ⟨rfl, bb5⟩)
              go_roundw
              case rel => exact ⟨k + 1, by omega, by go_num, by show _ = _; rw [HQ2.out, HD2.out], (hbx.tr le_rfl' hBF).tr le_rfl' bb5⟩
              case measure => simp [intOf]; omega
            · rw [HMe.out, fstE_err (by exact hge)] at HD2
              have hgb : (ge == 0) = false := by rw [beq_eq_false_iff_ne]; exact hge
              have hgb2 : (ge != 0) = true := by rw [bne, hgb]; rfl
              have HE : Hid (cc = (ge, ga)) := by
                show _ = _
                rw [HC2.out, HQ2.out, HD2.out]
              go_wp2_with (go_at_call 10; (with_reducible refine hcg.mono ?_); rintro r wE ⟨rfl, bb5⟩)
              go_ret2
              exact chkBack_mk HE.out ((hbF2.tr le_rfl' hBF).tr le_rfl' bb5)
          · have hkd : decide ((k : Int) < (roles.length : Int)) = false := by simp; omega
            have HE : Hid (cc = (0, 0)) := by
              show _ = _
              rw [HC2.out, HQ2.out, firE_end _ _ _ (by omega)]
            go_wp2
            go_ret2
            exact chkBack_mk HE.out hbF2
  · have htn : ¬ tc1 = 0 := by simpa using hte
    rw [if_neg htn] at HCC
    go_enter Tryd.func14, Tryd.ntmps14
    go_wp2_with (go_at_call 20; (with_reducible refine (hc1 _ hB).mono ?_); rintro r wB ⟨rfl, bb1⟩)
    go_ret2
    exact chkBack_mk HCC.out (hB.tr le_rfl' bb1)
end Go.Proofs.YtfkabkbnfeiggaaDoor
namespace Go.Proofs.YtfkabkbnfeiggaaDoor
open Go.RowKit
theorem num_own (x : Int) (w : World) : Calls Tryd.prog 12 #[.int .i64 x] w fun r w' => r = .returned (.int .i64 x) ∧ w' = w := by
  go_enter Tryd.func12, Tryd.ntmps12
  go_wp2
  go_ret
  exact ⟨rfl, rfl⟩
def ShBack (l : List ByteArray) (w : World) (r : Ending) (w' : World) : Prop := ∃ c : Bool, r = .returned (.bool c) ∧ (c = true → l.length ≤ 20) ∧ w' = w
set_option maxRecDepth 100000 in
set_option maxHeartbeats 4000000 in
theorem short_any (l : List ByteArray) (ad : Option Addr) (cap n₀ : Nat) (w : World) (hn : n₀ ≤ w.heap.size) (hsl : SlAt 1 ncells n₀ w ad cap l) :
    Calls Tryd.prog 8 #[.slice ad l.length cap] w fun r w' => ShBack l w r w' := by
  have hl1 := hsl.1; have hl2 := hsl.2.1
  unfold maxLen at hl2
  go_enter Tryd.func8, Tryd.ntmps8
  go_wp2
  go_loopw [3] (fun i wr => ∃ j : Nat, j ≤ l.length ∧ i = .int .i64 j ∧ j ≤ 21 ∧ Hid (wr = w))
    (fun i _ => 22 - (intOf i).toNat)
  case atStart => exact ⟨0, by omega, rfl, by omega, rfl⟩
  case round =>
    obtain ⟨j, hj, rfl, hj2, HW⟩ := hrel
    obtain rfl : w = wr := HW.out.symm
    by_cases hlt : j < l.length
    · have hd1 : decide ((j : Int) < (l.length : Int)) = true := by simp; omega
      by_cases h20 : j ≤ 20
      · have hd2 : decide ((j : Int) ≤ 20) = true := by simp; omega
        rcases hsl.2.2 with h | ⟨kb, koff, rfl, hbn, hrow⟩
        · subst h; simp at hlt
        have hkb : kb < w.heap.size := by omega
        have c0 := hrow j hlt 0 (by omega)
        obtain ⟨y, hy⟩ : ∃ y, l[j] = y := ⟨_, rfl⟩
        simp only [ncells, hy, Nat.mul_one, Nat.add_zero, List.getElem?_cons_zero] at c0
        clear hy
        by_cases hbig : 200 < y.size
        · have hd3 : decide ((200 : Int) < (y.size : Int)) = true := by simp; omega
          go_wp2
          go_ret
          exact ⟨false, rfl, (fun h => by cases h), rfl⟩
        · have hd3 : decide ((200 : Int) < (y.size : Int)) = false := by simp; omega
          go_wp2
          go_roundw
          case rel => exact ⟨j + 1, by omega, by go_num, by omega, by show True; trivial⟩
          case measure => simp [intOf]; omega
      · have hd2 : decide ((j : Int) ≤ 20) = false := by simp; omega
        have hd4 : decide ((l.length : Int) ≤ 20) = false := by simp; omega
        go_wp2
        go_ret
        exact ⟨false, rfl, (fun h => by cases h), rfl⟩
    · have hd1 : decide ((j : Int) < (l.length : Int)) = false := by simp; omega
      by_cases h20 : l.length ≤ 20
      · have hd4 : decide ((l.length : Int) ≤ 20) = true := by simp; omega
        go_wp2
        go_ret
        exact ⟨true, rfl, fun _ => h20, rfl⟩
      · have hd4 : decide ((l.length : Int) ≤ 20) = false := by simp; omega
        go_wp2
        go_ret
        exact ⟨false, rfl, (fun h => by cases h), rfl⟩
def zE : Ex := .mk 0 ⟨#[]⟩ ⟨#[]⟩ 0 none 0 [] 0
def xE : Ex := .mk 4 ⟨#[78]⟩ ⟨#[120]⟩ 0 none 0 [] 6
def wS : St := .mk 9 ⟨#[77]⟩ ⟨#[]⟩ 0 zE none 0 [] 2
def oneB (g : Nat) (s : St) : Bl := .mk (some ⟨g, 0, none⟩) 1 [s]
def whS (h g : Nat) : St := .mk 4 ⟨#[]⟩ ⟨#[]⟩ 0 xE (some ⟨h, 0, none⟩) 1 [oneB g wS] 0
def syS (h g : Nat) : St := .mk 7 ⟨#[77]⟩ ⟨#[]⟩ 0 zE (some ⟨h, 0, none⟩) 1 [oneB g wS] 0
def lvR : Ro := ⟨⟨#[114]⟩, true, 0, .mk none 0 [], 0⟩
def lvQ (g : Nat) : Pr := ⟨none, 0, [], some ⟨g, 0, none⟩, 1, [lvR]⟩
theorem lw1 (g : Nat) : (oneB g wS).sco (ownF []) = (90, 2) := by kernel_rfl
theorem lw2 (f h g : Nat) : (oneB f (whS h g)).sco (ownF [⟨#[77]⟩, ⟨#[78]⟩]) = (91, 6) := by kernel_rfl
theorem lw3 (f h g : Nat) : (oneB f (syS h g)).sco (ownF []) = (0, 0) := by kernel_rfl
theorem lw4 (g : Nat) : (lvQ g).ochk = (0, 0) := by kernel_rfl
theorem zE_is (n : Nat) (W : World) : zE.Is n W := Ex.Is.up ⟨⟨⟨by decide, by decide⟩, ⟨by decide, by decide⟩, ⟨by decide, by decide⟩, by unfold Len; decide, by unfold Len; decide⟩, ⟨by simp, by unfold maxLen; simp, .inl rfl⟩, fun x hx => by cases hx⟩
theorem xE_is (n : Nat) (W : World) : xE.Is n W := Ex.Is.up ⟨⟨⟨by decide, by decide⟩, ⟨by decide, by decide⟩, ⟨by decide, by decide⟩, by unfold Len; decide, by unfold Len; decide⟩, ⟨by simp, by unfold maxLen; simp, .inl rfl⟩, fun x hx => by cases hx⟩
theorem wS_is (n : Nat) (W : World) : wS.Is n W := St.Is.up ⟨⟨⟨by decide, by decide⟩, ⟨by decide, by decide⟩, ⟨by decide, by decide⟩, by unfold Len; decide, by unfold Len; decide⟩, zE_is _ _, ⟨by simp, by unfold maxLen; simp, .inl rfl⟩, fun x hx => by cases hx⟩
theorem oneB_is {W : World} {g n : Nat} {s : St} (hg : W.heap[g]? = some (.cells s.cells.toArray 39 (0, 0))) (hn : g < n) (hs : s.Is n W) : (oneB g s).Is n W := by
  refine Bl.Is.up ⟨⟨by simp, by unfold maxLen; simp, .inr ⟨g, 0, rfl, hn, fun j hj i hi => ?_⟩⟩, fun t ht => ?_⟩
  · rw [Nat.zero_add, cellOf hg]
    have hj2 : j = 0 := by simpa using hj
    subst hj2
    rw [Nat.zero_mul, Nat.zero_add]; simp
  · have : t = s := by simpa using ht
    rw [this]; exact hs
theorem bls_is {W : World} {h n : Nat} {b : Bl} (hg : W.heap[h]? = some (.cells #[b.slice] 22 (0, 0))) (hn : h < n) : SlAt 1 Bl.cells n W (some ⟨h, 0, none⟩) 1 [b] := by
  refine ⟨by simp, by unfold maxLen; simp, .inr ⟨h, 0, rfl, hn, fun j hj i hi => ?_⟩⟩
  obtain rfl : j = 0 := by simpa using hj
  obtain rfl : i = 0 := by omega
  rw [cellOf hg]; rfl
theorem whS_is {W : World} {h g n : Nat} (hg : W.heap[g]? = some (.cells wS.cells.toArray 39 (0, 0))) (hh : W.heap[h]? = some (.cells #[(oneB g wS).slice] 22 (0, 0))) (hn : g < n ∧ h < n) : (whS h g).Is n W :=
  St.Is.up ⟨⟨⟨by decide, by decide⟩, ⟨by decide, by decide⟩, ⟨by decide, by decide⟩, by unfold Len; decide, by unfold Len; decide⟩, xE_is _ _, bls_is hh hn.2, fun x hx => by
    obtain rfl : x = oneB g wS := by simpa using hx
    exact oneB_is hg hn.1 (wS_is _ _)⟩
theorem syS_is {W : World} {h g n : Nat} (hg : W.heap[g]? = some (.cells wS.cells.toArray 39 (0, 0))) (hh : W.heap[h]? = some (.cells #[(oneB g wS).slice] 22 (0, 0))) (hn : g < n ∧ h < n) : (syS h g).Is n W :=
  St.Is.up ⟨⟨⟨by decide, by decide⟩, ⟨by decide, by decide⟩, ⟨by decide, by decide⟩, by unfold Len; decide, by unfold Len; decide⟩, zE_is _ _, bls_is hh hn.2, fun x hx => by
    obtain rfl : x = oneB g wS := by simpa using hx
    exact oneB_is hg hn.1 (wS_is _ _)⟩
theorem lvQ_is {W : World} {g n : Nat} (hg : W.heap[g]? = some (.cells lvR.cells.toArray 51 (0, 0))) (hn : g < n) : (lvQ g).Is n W := by
  refine ⟨⟨⟨by simp [lvQ], by unfold maxLen; simp [lvQ], .inl rfl⟩, fun m hm => by simp [lvQ] at hm⟩, ⟨by simp [lvQ], by unfold maxLen; simp [lvQ], .inr ⟨g, 0, rfl, hn, fun j hj i hi => ?_⟩⟩, fun r hr => ?_⟩
  · rw [Nat.zero_add, cellOf hg]
    have hj2 : j = 0 := by simpa [lvQ] using hj
    subst hj2
    rw [Nat.zero_mul, Nat.zero_add]; simp [lvQ]
  · have : r = lvR := by simpa [lvQ] using hr
    subst this
    exact ⟨by unfold Len; decide, ⟨by decide, by decide⟩, ⟨by decide, by decide⟩, Bl.Is.up ⟨⟨by simp, by unfold maxLen; simp, .inl rfl⟩, fun s hs => by cases hs⟩⟩
theorem lvQ_fine (g : Nat) : Fine (lvQ g) := ⟨fun m hm => by simp [lvQ] at hm, fun m hm => by simp [lvQ] at hm, fun m hm => by simp [lvQ] at hm, by simp [allRefs, lvQ], fun r => by
  have : leadsOf (lvQ g) r = [] := by
    unfold leadsOf bodyOf
    have : methIx (lvQ g).mons r.1 r.2 = none := by
      cases h : methIx (lvQ g).mons r.1 r.2 with
      | none => rfl
      | some f =>
        obtain ⟨m, hm, _⟩ := methIx_mem h
        simp [lvQ] at hm
    rw [this]; rfl
  rw [this]; simp⟩
set_option maxRecDepth 100000 in
set_option maxHeartbeats 16000000 in
theorem live_own (w : World) (hS : Shapes w) (hS3 : 3 ≤ w.heap.size) : Calls Tryd.prog 9 #[] w fun r w' => r = .returned (.bool true) ∧ Below w.heap.size w w' := by
  go_enter Tryd.func9, Tryd.ntmps9
  go_upto_region 3 with fail
  obtain ⟨b0, b1, hB0, hz0⟩ := two_box w #[.int .i64 4, .string ⟨#[78]⟩, .string ⟨#[120]⟩, .int .i64 0, .slice none 0 0, .int .i64 6] #[.int .i64 9, .string ⟨#[77]⟩, .string ⟨#[]⟩, .int .i64 0, .int .i64 0, .string ⟨#[]⟩, .string ⟨#[]⟩, .int .i64 0, .slice none 0 0, .int .i64 0, .slice none 0 0, .int .i64 2] 37 39
  obtain ⟨W0, hW0⟩ : ∃ W0, (w.alloc (.cells #[.int .i64 4, .string ⟨#[78]⟩, .string ⟨#[120]⟩, .int .i64 0, .slice none 0 0, .int .i64 6] 37)).alloc (.cells #[.int .i64 9, .string ⟨#[77]⟩, .string ⟨#[]⟩, .int .i64 0, .int .i64 0, .string ⟨#[]⟩, .string ⟨#[]⟩, .int .i64 0, .slice none 0 0, .int .i64 0, .slice none 0 0, .int .i64 2] 39) = W0 := ⟨_, rfl⟩
  rw [hW0] at b0 b1 hB0 hz0 ⊢
  obtain ⟨g0, hg0⟩ : ∃ g0, w.heap.size = g0 := ⟨_, rfl⟩
  obtain ⟨g1, hg1⟩ : ∃ g1, g0 + 1 = g1 := ⟨_, rfl⟩
  have HLT : Hid (g0 < W0.heap.size ∧ g1 < W0.heap.size) := ⟨by omega, by omega⟩
  rw [hg0] at b0 b1 ⊢
  rw [hg1] at b1 ⊢
  have HB0 : Hid (Below w.heap.size w W0) := hB0
  clear hg0 hg1 hW0 hz0 hB0
  have hc1 : ∀ W, Calls Tryd.prog 10 #[.slice (some ⟨W.heap.size, 0, none⟩) 1 1, .slice none 0 0] (W.alloc (.cells #[.int .i64 9, .string ⟨#[77]⟩, .string ⟨#[]⟩, .int .i64 0, .int .i64 0, .string ⟨#[]⟩, .string ⟨#[]⟩, .int .i64 0, .slice none 0 0, .int .i64 0, .slice none 0 0, .int .i64 2] 39)) fun e w' => e = .returned (.tuple #[.int .i64 90, .int .i64 2]) ∧ Below W.heap.size W w' := by
    intro W
    have hb : Below W.heap.size W (W.alloc (.cells #[.int .i64 9, .string ⟨#[77]⟩, .string ⟨#[]⟩, .int .i64 0, .int .i64 0, .string ⟨#[]⟩, .string ⟨#[]⟩, .int .i64 0, .slice none 0 0, .int .i64 0, .slice none 0 0, .int .i64 2] 39)) := (Below.refl _ _).al le_rfl' _
    have h := scope_any (oneB W.heap.size wS) [] none 0 (W.heap.size + 1) (W.alloc (.cells #[.int .i64 9, .string ⟨#[77]⟩, .string ⟨#[]⟩, .int .i64 0, .int .i64 0, .string ⟨#[]⟩, .string ⟨#[]⟩, .int .i64 0, .slice none 0 0, .int .i64 0, .slice none 0 0, .int .i64 2] 39)) (by simp) (oneB_is (heapNew W _) (by omega) (wS_is _ _)) ⟨by simp, by unfold maxLen; simp, .inl rfl⟩ (by simp [oneB, wS, Bl.subs_mk, St.subs_mk])
    rw [lw1] at h
    exact h.mono fun r w' hh => ⟨hh.1, hb.tr le_rfl' hh.2⟩
  have hc2 : ∀ W, Calls Tryd.prog 10 #[.slice (some ⟨W.heap.size + 1 + 1, 0, none⟩) 1 1, .slice (some ⟨W.heap.size + 1 + 1 + 1, 0, none⟩) 2 2] ((((W.alloc (.cells #[.int .i64 9, .string ⟨#[77]⟩, .string ⟨#[]⟩, .int .i64 0, .int .i64 0, .string ⟨#[]⟩, .string ⟨#[]⟩, .int .i64 0, .slice none 0 0, .int .i64 0, .slice none 0 0, .int .i64 2] 39)).alloc (.cells #[.slice (some ⟨W.heap.size, 0, none⟩) 1 1] 22)).alloc (.cells #[.int .i64 4, .string ⟨#[]⟩, .string ⟨#[]⟩, .int .i64 0, .int .i64 4, .string ⟨#[78]⟩, .string ⟨#[120]⟩, .int .i64 0, .slice none 0 0, .int .i64 6, .slice (some ⟨W.heap.size + 1, 0, none⟩) 1 1, .int .i64 0] 39)).alloc (.cells #[.string ⟨#[77]⟩, .string ⟨#[78]⟩] 9)) fun e w' => e = .returned (.tuple #[.int .i64 91, .int .i64 6]) ∧ Below W.heap.size W w' := by
    intro W
    obtain ⟨k0, k1, kB, kz⟩ := two_box W #[.int .i64 9, .string ⟨#[77]⟩, .string ⟨#[]⟩, .int .i64 0, .int .i64 0, .string ⟨#[]⟩, .string ⟨#[]⟩, .int .i64 0, .slice none 0 0, .int .i64 0, .slice none 0 0, .int .i64 2] #[.slice (some ⟨W.heap.size, 0, none⟩) 1 1] 39 22
    obtain ⟨V, hV⟩ : ∃ V, (W.alloc (.cells #[.int .i64 9, .string ⟨#[77]⟩, .string ⟨#[]⟩, .int .i64 0, .int .i64 0, .string ⟨#[]⟩, .string ⟨#[]⟩, .int .i64 0, .slice none 0 0, .int .i64 0, .slice none 0 0, .int .i64 2] 39)).alloc (.cells #[.slice (some ⟨W.heap.size, 0, none⟩) 1 1] 22) = V := ⟨_, rfl⟩
    rw [hV] at k0 k1 kB kz ⊢
    obtain ⟨m0, m1, mB, mz⟩ := two_box V #[.int .i64 4, .string ⟨#[]⟩, .string ⟨#[]⟩, .int .i64 0, .int .i64 4, .string ⟨#[78]⟩, .string ⟨#[120]⟩, .int .i64 0, .slice none 0 0, .int .i64 6, .slice (some ⟨W.heap.size + 1, 0, none⟩) 1 1, .int .i64 0] #[.string ⟨#[77]⟩, .string ⟨#[78]⟩] 39 9
    rw [kz] at m0 m1 mB mz
    have h := scope_any (oneB (W.heap.size + 1 + 1) (whS (W.heap.size + 1) W.heap.size)) [⟨#[77]⟩, ⟨#[78]⟩] (some ⟨W.heap.size + 1 + 1 + 1, 0, none⟩) 2 (W.heap.size + 4) ((V.alloc (.cells #[.int .i64 4, .string ⟨#[]⟩, .string ⟨#[]⟩, .int .i64 0, .int .i64 4, .string ⟨#[78]⟩, .string ⟨#[120]⟩, .int .i64 0, .slice none 0 0, .int .i64 6, .slice (some ⟨W.heap.size + 1, 0, none⟩) 1 1, .int .i64 0] 39)).alloc (.cells #[.string ⟨#[77]⟩, .string ⟨#[78]⟩] 9)) (by rw [mz]; omega) (oneB_is m0 (by omega) (whS_is ((mB.block _ (by omega)).trans k0) ((mB.block _ (by omega)).trans k1) ⟨by omega, by omega⟩)) ⟨by simp, by unfold maxLen; simp, .inr ⟨W.heap.size + 1 + 1 + 1, 0, rfl, by omega, fun j hj i hi => by
      have hj2 : j < 2 := by simpa using hj
      obtain rfl : i = 0 := by omega
      rw [Nat.zero_add, cellOf m1]
      rcases j with _ | _ | j
      · rfl
      · rfl
      · omega⟩⟩ (by simp [oneB, whS, wS, Bl.subs_mk, St.subs_mk])
    rw [lw2] at h
    exact h.mono fun r w' hh => ⟨hh.1, kB.trans ((mB.mono (by omega)).trans (hh.2.mono (by rw [mz]; omega)))⟩
  have hc3 : ∀ W, Calls Tryd.prog 10 #[.slice (some ⟨W.heap.size + 1 + 1, 0, none⟩) 1 1, .slice none 0 0] (((W.alloc (.cells #[.int .i64 9, .string ⟨#[77]⟩, .string ⟨#[]⟩, .int .i64 0, .int .i64 0, .string ⟨#[]⟩, .string ⟨#[]⟩, .int .i64 0, .slice none 0 0, .int .i64 0, .slice none 0 0, .int .i64 2] 39)).alloc (.cells #[.slice (some ⟨W.heap.size, 0, none⟩) 1 1] 22)).alloc (.cells #[.int .i64 7, .string ⟨#[77]⟩, .string ⟨#[]⟩, .int .i64 0, .int .i64 0, .string ⟨#[]⟩, .string ⟨#[]⟩, .int .i64 0, .slice none 0 0, .int .i64 0, .slice (some ⟨W.heap.size + 1, 0, none⟩) 1 1, .int .i64 0] 39)) fun e w' => e = .returned (.tuple #[.int .i64 0, .int .i64 0]) ∧ Below W.heap.size W w' := by
    intro W
    obtain ⟨k0, k1, kB, kz⟩ := two_box W #[.int .i64 9, .string ⟨#[77]⟩, .string ⟨#[]⟩, .int .i64 0, .int .i64 0, .string ⟨#[]⟩, .string ⟨#[]⟩, .int .i64 0, .slice none 0 0, .int .i64 0, .slice none 0 0, .int .i64 2] #[.slice (some ⟨W.heap.size, 0, none⟩) 1 1] 39 22
    obtain ⟨V, hV⟩ : ∃ V, (W.alloc (.cells #[.int .i64 9, .string ⟨#[77]⟩, .string ⟨#[]⟩, .int .i64 0, .int .i64 0, .string ⟨#[]⟩, .string ⟨#[]⟩, .int .i64 0, .slice none 0 0, .int .i64 0, .slice none 0 0, .int .i64 2] 39)).alloc (.cells #[.slice (some ⟨W.heap.size, 0, none⟩) 1 1] 22) = V := ⟨_, rfl⟩
    rw [hV] at k0 k1 kB kz ⊢
    obtain ⟨m0, mB, mz⟩ := one_box V #[.int .i64 7, .string ⟨#[77]⟩, .string ⟨#[]⟩, .int .i64 0, .int .i64 0, .string ⟨#[]⟩, .string ⟨#[]⟩, .int .i64 0, .slice none 0 0, .int .i64 0, .slice (some ⟨W.heap.size + 1, 0, none⟩) 1 1, .int .i64 0] 39
    rw [kz] at m0 mB mz
    have h := scope_any (oneB (W.heap.size + 1 + 1) (syS (W.heap.size + 1) W.heap.size)) [] none 0 (W.heap.size + 3) (V.alloc (.cells #[.int .i64 7, .string ⟨#[77]⟩, .string ⟨#[]⟩, .int .i64 0, .int .i64 0, .string ⟨#[]⟩, .string ⟨#[]⟩, .int .i64 0, .slice none 0 0, .int .i64 0, .slice (some ⟨W.heap.size + 1, 0, none⟩) 1 1, .int .i64 0] 39)) (by rw [mz]; omega) (oneB_is m0 (by omega) (syS_is ((mB.block _ (by omega)).trans k0) ((mB.block _ (by omega)).trans k1) ⟨by omega, by omega⟩)) ⟨by simp, by unfold maxLen; simp, .inl rfl⟩ (by simp [oneB, syS, wS, Bl.subs_mk, St.subs_mk])
    rw [lw3] at h
    exact h.mono fun r w' hh => ⟨hh.1, kB.trans ((mB.mono (by omega)).trans (hh.2.mono (by rw [mz]; omega)))⟩
  have hc4 : ∀ W, Below w.heap.size w W → Calls Tryd.prog 14 #[.agg #[.slice none 0 0, .slice (some ⟨W.heap.size, 0, none⟩) 1 1]] (W.alloc (.cells #[.string ⟨#[114]⟩, .bool true, .int .i64 0, .slice none 0 0, .int .i64 0] 51)) fun e w' => e = .returned (.tuple #[.int .i64 0, .int .i64 0]) ∧ Below W.heap.size W w' := by
    intro W hW
    have hb : Below W.heap.size W (W.alloc (.cells #[.string ⟨#[114]⟩, .bool true, .int .i64 0, .slice none 0 0, .int .i64 0] 51)) := (Below.refl _ _).al le_rfl' _
    have h := ownCheck_any (lvQ W.heap.size) (W.heap.size + 1) (W.alloc (.cells #[.string ⟨#[114]⟩, .bool true, .int .i64 0, .slice none 0 0, .int .i64 0] 51)) (by simp) (lvQ_is (heapNew W _) (by omega)) (hS.below (hW.tr le_rfl' hb) hS3) (by have := (hW.tr le_rfl' hb).size; omega) (by simp [vsum, lvQ]) (lvQ_fine _) (fun r hr => by
      have : r = lvR := by simpa [lvQ] using hr
      subst this
      exact ⟨by decide, fun s hs => by cases hs⟩) (fun m hm => by simp [lvQ] at hm)
    rw [lw4] at h
    exact h.mono fun r w' hh => ⟨hh.1, hb.tr le_rfl' hh.2⟩
  have hnum := num_own
  have hcell : ∀ W, Below W0.heap.size W0 W → W.heap[g0]? = some (.cells #[.int .i64 4, .string ⟨#[78]⟩, .string ⟨#[120]⟩, .int .i64 0, .slice none 0 0, .int .i64 6] 37 (0, 0)) ∧ W.heap[g1]? = some (.cells #[.int .i64 9, .string ⟨#[77]⟩, .string ⟨#[]⟩, .int .i64 0, .int .i64 0, .string ⟨#[]⟩, .string ⟨#[]⟩, .int .i64 0, .slice none 0 0, .int .i64 0, .slice none 0 0, .int .i64 2] 39 (0, 0)) := fun W hW => ⟨(hW.block _ HLT.out.1).trans b0, (hW.block _ HLT.out.2).trans b1⟩
  obtain ⟨e0, e1⟩ := hcell W0 (Below.refl _ _)
  have p0 := cellOf e0 0
  have p1 := cellOf e0 1
  have p2 := cellOf e0 2
  have p3 := cellOf e0 3
  have p4 := cellOf e0 4
  have p5 := cellOf e0 5
  obtain ⟨y0, y1, y2, y3, y4, y5, y6, y7, y8, y9, y10, y11⟩ := cells12 e1
  simp at p0 p1 p2 p3 p4 p5
  clear b0 b1
  go_upto_region 4 with (go_at_call 10; (with_reducible refine (hc1 _).mono ?_); rintro r v1 ⟨rfl, bb1⟩)
  clear p0 p1 p2 p3 p4 p5 y0 y1 y2 y3 y4 y5 y6 y7 y8 y9 y10 y11 e0 e1
  obtain ⟨e0, e1⟩ := hcell v1 bb1
  have p0 := cellOf e0 0
  have p1 := cellOf e0 1
  have p2 := cellOf e0 2
  have p3 := cellOf e0 3
  have p4 := cellOf e0 4
  have p5 := cellOf e0 5
  obtain ⟨y0, y1, y2, y3, y4, y5, y6, y7, y8, y9, y10, y11⟩ := cells12 e1
  simp at p0 p1 p2 p3 p4 p5
  go_upto_region 5 with (go_at_call 10; (with_reducible refine (hc2 _).mono ?_); rintro r v2 ⟨rfl, bb2⟩)
  have hb2 := bb1.tr le_rfl' bb2
  clear p0 p1 p2 p3 p4 p5 y0 y1 y2 y3 y4 y5 y6 y7 y8 y9 y10 y11 e0 e1
  obtain ⟨e0, e1⟩ := hcell v2 hb2
  have p0 := cellOf e0 0
  have p1 := cellOf e0 1
  have p2 := cellOf e0 2
  have p3 := cellOf e0 3
  have p4 := cellOf e0 4
  have p5 := cellOf e0 5
  obtain ⟨y0, y1, y2, y3, y4, y5, y6, y7, y8, y9, y10, y11⟩ := cells12 e1
  simp at p0 p1 p2 p3 p4 p5
  go_upto_region 6 with (go_at_call 10; (with_reducible refine (hc3 _).mono ?_); rintro r v3 ⟨rfl, bb3⟩)
  have hb3 := hb2.tr le_rfl' bb3
  clear p0 p1 p2 p3 p4 p5 y0 y1 y2 y3 y4 y5 y6 y7 y8 y9 y10 y11 e0 e1
  have HW3 := hid (HB0.out.tr le_rfl' hb3)
  go_upto_region 7 with (go_at_call 14; (with_reducible refine (hc4 _ HW3.out).mono ?_); rintro r v4 ⟨rfl, bb4⟩)
  go_wp2_with (go_at_call 12; (with_reducible refine (hnum _ _).mono ?_); rintro rr ww ⟨rfl, hw'⟩; have hw2 := hw'.symm; subst hw2)
  go_ret
  exact ⟨rfl, HW3.out.tr le_rfl' bb4⟩
end Go.Proofs.YtfkabkbnfeiggaaDoor
