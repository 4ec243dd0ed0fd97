/-
  For every text the statement LexAgain hands back true: the tokens of a text, put one behind the other with blanks, are told again, but for places.
  Condition: the five listed variables of strconv, internal/strconv and math/bits hold at the start what the program's own text lays there (the card ties them to the pruned copy of the project; nothing is said of its other packages).
-/
import Derived.Test.YtpebddinnnmdaaaDoorLxP
import Derived.Test.YtpebddinnnmdaaaDoorLxZ
import Derived.Test.YtpebddinnnmdaaaDoorLxPureB
namespace Go.Proofs.YtpebddinnnmdaaaDoor
open Go.ChangeShapes Go.WideShapes Go.ChangeAt Go.RowKit
open Go.ChangeMaps (open_string shut_string)
namespace Lx
theorem scanF_fail (s : ByteArray) : ∀ (f k : Nat) (acc : List Out) (e : Int) (j : Nat), scanF s f k acc = .fail e j → e ≠ 0 ∧ j < s.size := by
  intro f
  induction f with
  | zero => intro k acc e j h; simp [scanF] at h
  | succ f ih =>
    intro k acc e j h
    simp only [scanF] at h
    split at h
    · rename_i hlt
      split at h
      · exact ih _ _ _ _ h
      · rename_i he; injection h with h1 h2; exact ⟨by rw [← h1]; exact he, by omega⟩
    · cases h
theorem scanF_sizes (s : ByteArray) : ∀ (f k : Nat) (acc l : List Out), sizes (acc.map toTk) ≤ k → acc.length ≤ k → k ≤ s.size → scanF s f k acc = .done l → sizes (l.map toTk) ≤ s.size ∧ l.length ≤ s.size := by
  intro f
  induction f with
  | zero => intro k acc l h1 h1' h2 h; simp only [scanF] at h; injection h with h; rw [← h]; exact ⟨by omega, by omega⟩
  | succ f ih =>
    intro k acc l h1 h1' h2 h
    simp only [scanF] at h
    split at h
    · rename_i hlt
      split at h
      · rename_i he
        have hto := tok_ok s k hlt he
        have hsk := skip_le s (k + (tokOut s k).text.size) (by omega)
        have hle := le_skip s (k + (tokOut s k).text.size)
        refine ih _ _ _ ?_ (by rw [List.length_append]; simp; omega) hsk h
        have e : sizes ((acc ++ [tokOut s k]).map toTk) = sizes (acc.map toTk) + (tokOut s k).text.size := by
          unfold sizes; rw [List.map_append, List.map_append, List.sum_append]; simp [toTk]
        rw [e]; omega
      · cases h
    · injection h with h; rw [← h]; exact ⟨by omega, by omega⟩
theorem scan_sizes (s : ByteArray) (l : List Out) (h : scan s = .done l) : sizes (l.map toTk) ≤ s.size ∧ l.length ≤ s.size :=
  scanF_sizes s s.size (skip s 0) [] l (by simp [sizes]) (by simp) (skip_le s 0 (by omega)) h
theorem join_flat (l : List ByteArray) : joinB (l ++ [⟨#[]⟩]) = l.flatMap fun x => x.data.toList ++ [32] := by
  have h : ∀ r : List ByteArray, (r ++ [(⟨#[]⟩ : ByteArray)]).flatMap (fun y => 32 :: y.data.toList) = 32 :: (r.flatMap fun x => x.data.toList ++ [32]) := by
    intro r
    induction r with
    | nil => simp
    | cons x r ih => rw [List.cons_append, List.flatMap_cons, ih, List.flatMap_cons]; simp
  cases l with
  | nil => simp [joinB]
  | cons x r => rw [List.cons_append]; simp only [joinB]; rw [h, List.flatMap_cons]; simp
/-- Told again. -/
theorem again_outs (s : ByteArray) (l : List Out) (h : scan s = .done l) : ∃ l', scan ⟨(joinB (((l ++ [endTok s]).map toTk).map Tk.text)).toArray⟩ = .done l' ∧ l'.map ofOut = l.map ofOut := by
  obtain ⟨R, h1, h2⟩ := scan_told s
  rw [h] at h2
  cases R with
  | fail e k => exact h2.elim
  | done ts =>
    obtain ⟨o, h3, h4⟩ := h2
    rw [List.nil_append] at h3
    subst h3
    have hg := good_of h1 ts rfl
    have ha := again ts hg
    have e : (ByteArray.mk (joinB (((l ++ [endTok s]).map toTk).map Tk.text)).toArray).data.toList = ts.flatMap fun t => t.text ++ [32] := by
      have e1 : ((l ++ [endTok s]).map toTk).map Tk.text = (l.map fun o => o.text) ++ [⟨#[]⟩] := by simp [toTk, endTok, Function.comp_def]
      rw [e1, join_flat, ← h4]
      simp [List.flatMap_map, ofOut]
    rw [← e] at ha
    have hf := scan_of _ _ ha
    generalize scan ⟨(joinB (((l ++ [endTok s]).map toTk).map Tk.text)).toArray⟩ = S at hf
    cases S with
    | fail e k => exact hf.elim
    | done l' =>
      obtain ⟨o, h5, h6⟩ := hf
      rw [List.nil_append] at h5
      exact ⟨l', rfl, by rw [h5, h6, h4]⟩
theorem ofOut_tk (o o' : Out) (h : ofOut o = ofOut o') : (toTk o).kind = (toTk o').kind ∧ (toTk o).text = (toTk o').text ∧ (toTk o).n = (toTk o').n := by
  unfold ofOut at h
  injection h with h1 h2 h3 h4
  exact ⟨h1, ByteArray.ext (Array.toList_inj.1 h2), h3⟩
theorem alike_of (l l' : List Out) (h : l'.map ofOut = l.map ofOut) : AlikeTk (l.map toTk) (l'.map toTk) := by
  have hlen : l'.length = l.length := by have := congrArg List.length h; simpa using this
  refine ⟨by simp [hlen], fun j h1 h2 => ?_⟩
  have e : (l'.map ofOut)[j]'(by simpa using h2) = (l.map ofOut)[j]'(by simpa using h1) := by simp only [h]
  simp only [List.getElem_map] at e ⊢
  exact ofOut_tk _ _ e.symm
end Lx
set_option maxHeartbeats 1000000 in
theorem lexAgain_walk (s : ByteArray) (w : World) (hs : s.size ≤ 140737488351232) (hE : HasErr w) :
    Calls Tryd.prog 6 #[.string s] w fun e w' => e = .returned (.bool true) ∧ Below w.heap.size w w' := by
  by_cases hl : 4000 < s.size
  · go_enter Tryd.func6, Tryd.ntmps6
    go_wp2_with (go_at_call 9; refine (live_any _ hE).mono ?_; rintro e w1 ⟨rfl, hb⟩)
    go_ret
    exact ⟨rfl, hb⟩
  · go_enter Tryd.func6, Tryd.ntmps6
    go_wp2_with fail
    refine (scan_any s w (by omega) hE).mono ?_
    rintro e w1 ⟨v1, rfl, hown1, hb1⟩
    have HE1 : Hid (HasErr w1) := hE.after hb1
    cases hsc : Lx.scan s with
    | fail er k =>
      obtain ⟨r1, r2, r3⟩ := Lx.of_fail s er k hsc
      have hne := (Lx.scanF_fail s _ _ _ _ _ hsc).1
      have hneb : (er != 0) = true := by rw [bne_iff_ne]; exact hne
      rw [r1] at hown1
      rw [r2, r3]
      have hv : v1 = .slice none 0 0 ∨ ∃ a c, v1 = .slice (some a) 0 c := by
        obtain ⟨_, ⟨h, _⟩ | ⟨g, cap, cur, h, _⟩⟩ := hown1
        · exact Or.inl h
        · exact Or.inr ⟨_, _, h⟩
      clear hown1 hsc r1 r2 r3 hne
      rcases hv with rfl | ⟨a, c, rfl⟩
      all_goals
        go_wp2_with (first
          | (go_at_call 13; refine (num_any _ _).mono ?_; rintro e w' ⟨rfl, hw'⟩; have hw2 := hw'.symm; subst hw2)
          | (go_at_call 9; refine (live_any _ (by exact HE1.out)).mono ?_; rintro e w3 ⟨rfl, hb3⟩))
        go_ret
        exact ⟨rfl, hb1.trans (hb3.mono hb1.size)⟩
    | done l =>
      obtain ⟨r1, r2, r3⟩ := Lx.of_done s l hsc
      obtain ⟨hz1, hz2⟩ := Lx.scan_sizes s l hsc
      obtain ⟨l', h1, h2⟩ := Lx.again_outs s l hsc
      rw [r1] at hown1
      rw [r2, r3]
      have hS1 := sliceOf_owns hown1
      have hjs := joinB_size ((l ++ [Lx.endTok s]).map toTk)
      have hsz : sizes ((l ++ [Lx.endTok s]).map toTk) = sizes (l.map toTk) := by
        unfold sizes; rw [List.map_append, List.map_append, List.sum_append]; rfl
      rw [hsz] at hjs
      simp only [List.length_map, List.length_append, List.length_cons, List.length_nil] at hjs
      have hlen : ((l ++ [Lx.endTok s]).map toTk).length = l.length + 1 := by simp
      generalize hT : (l ++ [Lx.endTok s]).map toTk = tks at *
      have hJ2 := Lx.of_done _ _ h1
      have HAL : Hid (AlikeTk tks ((l' ++ [Lx.endTok ⟨(Lx.joinB (tks.map Tk.text)).toArray⟩]).map toTk)) := by
        have := Lx.alike_of l l' h2
        rw [← hT]
        obtain ⟨a1, a2⟩ := this
        have hll : l.length = l'.length := by simpa using a1
        refine ⟨by simp [hll], fun j h1 h2 => ?_⟩
        simp only [List.getElem_map]
        by_cases hj : j < l.length
        · rw [List.getElem_append_left hj, List.getElem_append_left (by omega)]
          have := a2 j (by simpa using hj) (by simp; omega)
          simpa using this
        · have hj2 : j = l.length := by simp at h1; omega
          subst hj2
          rw [List.getElem_append_right (by omega), List.getElem_append_right (by omega)]
          simp [hll, toTk, Lx.endTok]
      clear h2 h1 hsc r1 r2 r3 hown1 hsz
      obtain ⟨hJ2a, hJ2b, hJ2c⟩ := hJ2
      rcases hS1 with ⟨rfl, h0⟩ | ⟨g, cap, rfl, hcap, hmx, hg, hA⟩
      · rw [h0] at hlen; simp at hlen
      · have HJ := hid (join_any (tks.map Tk.text) g 0 cap w1 hg (by rw [List.length_map]; omega) hA.texts (by omega))
        have hsJ : (⟨(Lx.joinB (tks.map Tk.text)).toArray⟩ : ByteArray).size ≤ 20000 := by simp [ByteArray.size]; omega
        have HC := hid (fun w2 hE2 => scan_any ⟨(Lx.joinB (tks.map Tk.text)).toArray⟩ w2 hsJ hE2)
        generalize (⟨(Lx.joinB (tks.map Tk.text)).toArray⟩ : ByteArray) = J at *
        rw [List.length_map] at HJ
        have HSL : Hid (SliceOf w1 (.slice (some ⟨g, 0, none⟩) tks.length cap) tks) := Or.inr ⟨g, cap, rfl, hcap, hmx, hg, hA⟩
        have hlb : tks.length ≤ 1000000 := by omega
        have hJa := hid hJ2a
        have hJb := hid hJ2b
        clear hJ2a hJ2b hJ2c hA hT hlen hjs
        go_wp2_with (first
          | (go_at_call 13; refine (num_any _ _).mono ?_; rintro e w' ⟨rfl, hw'⟩; have hw2 := hw'.symm; subst hw2)
          | (go_at_call 18; refine HJ.out.mono ?_; rintro e w2 ⟨rfl, hb2⟩)
          | (go_at_call 10; refine (HC.out _ (by exact HE1.out.after hb2)).mono ?_; rw [hJb.out]; rintro e w3 ⟨v3, rfl, hown3, hb3⟩; rw [hJa.out] at hown3)
          | (go_at_call 20; refine (alike_any _ _ _ v3 _ hlb (by exact (HSL.out.below hb2).below hb3) (sliceOf_owns hown3) HAL.out).mono ?_; rintro e w' ⟨rfl, n, rfl⟩)
          | (go_at_call 9; refine (live_any _ (by have h := (HE1.out.after hb2).after hb3; exact h)).mono ?_; rintro e w4 ⟨rfl, hb4⟩))
        go_ret
        have s1 := hb1.size
        have s2 := hb2.size
        have s3 := hb3.size
        exact ⟨rfl, (below_drewN ((hb1.trans (hb2.mono s1)).trans (hb3.mono (by omega))) n).trans (hb4.mono (by simp; omega))⟩

theorem lexAgain_contract (H : Type) (enc : TypeId × Value → H) (W : World) (base : Nat) (args : Array Value) (ds gs : List (DataW H)) (before : List MemPlace)
    (hval : ∀ (j : Nat) t v, Tryd.f6.params[j]? = some t → args[j]? = some v → Value.okWide Tryd.prog W .any base t v)
    (hW : DataW.Whole enc Tryd.prog Tryd.f6.params.toList Rows.lexAgainSpec.vars false W args.toList ds gs before)
    (hsz0 : (DataW.weightsEach Tryd.prog (Tryd.f6.params.toList ++ Rows.lexAgainSpec.plain.varTypes Tryd.prog) (ds ++ gs)).all (· ≤ reachBytes) = true)
    (hL : laidMetH Tryd.prog Rows.lexNamesRow.laid W) :
    Calls Tryd.prog 6 args W fun e W' => ∃ v, e = .returned v ∧ Rows.lexAgainSpec.post enc Tryd.prog Tryd.f6 false true false false W args v W' := by
  have hE := hasErr_of hL
  have hW' := hW
  obtain ⟨p, q, hA0, hV, rfl, hfz, hnd⟩ := hW
  have hA : DataW.TrodAll enc Tryd.prog W 0 (fun _ => true) true Tryd.f6.params.toList args.toList ds p := hA0
  have hsz := hsz0
  rw [Tryd.params6] at hA hval hsz
  obtain ⟨v0, d0, rfl, rfl, h0⟩ := trodAll_one hA
  obtain ⟨rfl, rfl⟩ := trodVars_none hV
  obtain ⟨s, rfl, rfl, rfl, hs⟩ := open_string Tryd.underlying9 (hval 0 9 v0 rfl rfl) h0
  clear hA0
  simp only [List.append_nil] at hW'
  have hlim : s.size ≤ 140737488351232 := by
    have h1 := sized_string hsz (j := 0) (t := 9) rfl rfl
    have e1 : s.size = s.data.size := rfl
    have e2 : s.data.toList.length = s.data.size := Array.length_toList
    have e3 : reachBytes = 140737488351232 := by decide
    omega
  refine (lexAgain_walk s W hlim hE).mono fun e W' ⟨he, hnx⟩ => ?_
  subst he
  refine ⟨_, rfl, _, _, _, [], [], [], hW', ?_, ?_, rfl, hnx.frame _, fun h => by cases h⟩
  · exact trodAll_mk1 (shut_bool Tryd.underlying4 true)
  · exact trodAll_mk1 (shut_string Tryd.underlying9 hs)
theorem lexAgain_reads (os : Os) {H : Type} (enc : TypeId × Value → H) : ∃ places, DataW.whole enc Tryd.prog ((laidWorld os).forCall (fun _ _ => 0) ⟨#[], #[.string ⟨#[]⟩], []⟩).memory Tryd.f6.params.toList Rows.lexAgainSpec.vars false #[Value.string ⟨#[]⟩].toList 8 = some ([.lit (.string [])], [], places) :=
  ⟨[], by kernel_rfl⟩
set_option maxRecDepth 100000 in
theorem lexAgain_lifted (os : Os) (started : os.Started) (H : Type) (enc : TypeId × Value → H) (F : Stop.Interp) :
    ReturnsInHanded {} Tryd.checked os 6 .any ((OpenSpec.ofChange Rows.lexAgainSpec).preRow enc Tryd.prog Tryd.f6 Rows.lexAgainRow.domain false Rows.lexAgainRow.laid) (((OpenSpec.ofChange Rows.lexAgainSpec).at F).post enc Tryd.prog Tryd.f6 false true false false) := by
  obtain ⟨places, hx⟩ := lexAgain_reads os enc
  refine returnsInHanded_of_row (C := Tryd.checked) (s := OpenSpec.ofChange Rows.lexAgainSpec) own started (by kernel_rfl) Tryd.func6
    (witness_row_at (enc := enc) (C := Tryd.checked) false (laidWorld os) #[.string ⟨#[]⟩] rfl (by kernel_rfl) (by kernel_rfl) (by kernel_rfl)
      (OpenSpec.preRow_of_cond 8 hx (by kernel_rfl) (fun k hk => by cases hk) (by kernel_rfl) (laid_met os _))) ?_
  intro W base args ds gs before hval hW _ _ hsz hL _ _
  exact lexAgain_contract H enc W base args ds gs before hval hW hsz hL
theorem lexAgain_said : Rows.LexAgainSaid :=
  OpenClaim.holds_of_cond 6 Tryd.f6 rfl rfl rfl rfl rfl rfl rfl ⟨rfl, rfl, rfl, rfl, rfl⟩ rfl rfl rfl rfl rfl (by kernel_rfl) Tryd.func6 (by kernel_rfl)
    (of_decide_eq_true (by kernel_rfl)) (by unfold Func.isWrapper; first | (rw [if_pos (by decide +kernel)]; kernel_rfl) | (rw [if_neg (by decide +kernel)]; exact ⟨rfl, rfl⟩))
    (fun os started H enc _ F => by rw [OpenClaim.pre_eq_preRow]; exact lexAgain_lifted os started H enc F)
theorem lexAgain_plain (f : FuncId) (fn : Func) (hf : Tryd.pinned.checked.prog.funcNamed "vigil/vigillaw01.LexAgain" = some f) (hfn : Tryd.pinned.checked.prog.funcs[f]? = some fn) :
    true = Tryd.pinned.checked.prog.looks [] ∧ ∀ (j : Nat) t, fn.params[j]? = some t → Tryd.pinned.checked.prog.wantsStandIn t = false := by
  obtain rfl : f = 6 := Option.some.inj ((show Tryd.prog.funcNamed "vigil/vigillaw01.LexAgain" = some 6 by kernel_rfl).symm.trans hf) |>.symm
  obtain rfl : fn = Tryd.f6 := (Option.some.inj (Tryd.func6.symm.trans hfn)).symm
  refine ⟨by kernel_rfl, fun j t ht => ?_⟩
  rw [Tryd.params6] at ht
  obtain rfl : t = 9 := by simpa using Array.mem_of_getElem? ht
  exact (show Tryd.prog.wantsStandIn 9 = false by kernel_rfl)
theorem lexAgain_card : Rows.LexAgainCardSaid :=
  Claim7.holds_tied_plain_at .later [] _ _ _ _ lexAgain_said (fun _ h => by cases h) (by kernel_rfl) (fun _ h => by cases h) lexAgain_row_tie rfl ⟨rfl, rfl⟩ (by kernel_rfl) rfl lexAgain_plain (by kernel_rfl)
end Go.Proofs.YtpebddinnnmdaaaDoor
