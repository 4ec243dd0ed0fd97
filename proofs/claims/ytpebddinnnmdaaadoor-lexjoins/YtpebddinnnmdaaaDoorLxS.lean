/-
  For every list of tokens the statement LexJoins hands back true: Join of package lex answers as the document's own Join does.
  Condition: the five listed variables of strconv, internal/strconv and math/bits hold at the start what the program's own text lays there (the card ties them to the pruned copy of the project; nothing is said of its other packages).
-/
import Derived.Test.YtpebddinnnmdaaaDoorLxP
import Derived.Test.YtpebddinnnmdaaaDoorLxR
import Derived.Lib.SmallJoins
import Derived.Deep.Slices
namespace Go.Proofs.YtpebddinnnmdaaaDoor
open Go.ChangeShapes Go.WideShapes Go.ChangeAt Go.RowKit Go.Deep Go.Joins
theorem laidOut : laidOutB Tryd.prog = true := by kernel_rfl
theorem cells33 : Tryd.prog.cellsOf 33 = 4 := by kernel_rfl
theorem cells3 : Tryd.prog.cellsOf 3 = 1 := by kernel_rfl
theorem cells2 : Tryd.prog.cellsOf 2 = 1 := by kernel_rfl
theorem bytes33 : Tryd.prog.bytesOf 33 = 40 := by kernel_rfl
theorem open_tok {H : Type} {enc : TypeId × Value → H} {W : World} {a : Addr} {fuel : Nat} {cs : List Value} {x : DataW H × List MemPlace} (hc : W.cells? 0 a (Tryd.prog.cellsOf 33) = some cs) (h : DataW.trod enc Tryd.prog W 0 (fun _ => true) true fuel 33 cs = some x) :
    ∃ t : Tk, a.block < W.heap.size ∧ W.cell? (a.add 0) = some (.int .i64 t.kind) ∧ W.cell? (a.add 1) = some (.string t.text) ∧ W.cell? (a.add 2) = some (.int .i64 t.n) ∧ W.cell? (a.add 3) = some (.int .i64 t.pos) := by
  rw [cells33] at hc
  have hbl := World.cells?_block hc (by decide)
  obtain ⟨_, hlen, hcell⟩ := World.cells?_some hc
  obtain ⟨y0, y1, y2, y3, n, _, _, g0, g1, g2, g3⟩ := trod_struct4 Tryd.underlying33 h
  match cs, hlen with
  | [v0, v1, v2, v3], _ =>
    rw [show Tryd.prog.cellsOf 3 = 1 from cells3] at g0 g3
    rw [show Tryd.prog.cellsOf 9 = 1 from cells9] at g1
    rw [show Tryd.prog.cellsOf 2 = 1 from cells2] at g2
    obtain ⟨k, e0, _, _⟩ := DataW.trod_int Tryd.underlying3 g0
    obtain ⟨s, e1, _, _⟩ := DataW.trod_string Tryd.underlying9 g1
    obtain ⟨m, e2, _, _⟩ := DataW.trod_int Tryd.underlying2 g2
    obtain ⟨p, e3, _, _⟩ := DataW.trod_int Tryd.underlying3 g3
    simp at e0 e1 e2 e3
    subst e0 e1 e2 e3
    exact ⟨⟨k, s, m, p⟩, hbl, hcell 0 (by decide), hcell 1 (by decide), hcell 2 (by decide), hcell 3 (by decide)⟩
theorem open_toks {H : Type} {enc : TypeId × Value → H} {W : World} {v : Value} {d : DataW H} {ps : List MemPlace} (hv : ∃ a len cap, v = .slice a len cap) (h : DataW.Trod enc Tryd.prog W 0 (fun _ => true) true 23 v d ps) :
    v = .slice none 0 0 ∨ ∃ (a : Addr) (cap : Nat) (l : List Tk), v = .slice (some a) l.length cap ∧ l.length ≤ cap ∧ (∃ es sp, d = .slice es sp ∧ es.length = l.length) ∧ (l ≠ [] → ∃ b off, a = ⟨b, off, none⟩ ∧ b < W.heap.size ∧ ArgAt W b off l) := by
  obtain ⟨ao, len0, cap0, rfl⟩ := hv
  obtain ⟨fuel, hf⟩ := h
  rcases open_slice Tryd.underlying23 hf with ⟨hcs, _⟩ | ⟨a, len, cap, m, n, D, Pl, hcs, _, hlc, _, hm, hx, hel⟩
  · left
    simpa [Value.cells] using hcs
  right
  simp only [Value.cells, List.cons.injEq, Value.slice.injEq, and_true] at hcs
  obtain ⟨rfl, rfl, rfl⟩ := hcs
  have hlm : len0 ≤ m := by rw [hm]; simp; omega
  have each : ∀ i, i < len0 → ∃ t : Tk, (a.add (i * 4)).block < W.heap.size ∧ W.cell? ((a.add (i * 4)).add 0) = some (.int .i64 t.kind) ∧ W.cell? ((a.add (i * 4)).add 1) = some (.string t.text) ∧ W.cell? ((a.add (i * 4)).add 2) = some (.int .i64 t.n) ∧ W.cell? ((a.add (i * 4)).add 3) = some (.int .i64 t.pos) := by
    intro i hi
    obtain ⟨cs', h1, h2⟩ := hel i (by omega)
    have h1' := h1
    rw [cells33] at h1'
    rw [show a.add (i * Tryd.prog.cellsOf 33) = a.add (i * 4) by rw [cells33]] at h1
    exact open_tok h1 h2
  haveI : Inhabited Tk := ⟨⟨0, ⟨#[]⟩, 0, 0⟩⟩
  obtain ⟨q, hq⟩ := choose_lt each
  refine ⟨a, cap0, (List.range len0).map q, by simp, by simpa using hlc, ⟨_, _, (Prod.mk.injEq _ _ _ _ ▸ hx).1, by simp⟩, fun hne => ?_⟩
  have hpos : 0 < len0 := by
    rcases Nat.eq_zero_or_pos len0 with h | h
    · subst h; simp at hne
    · exact h
  obtain ⟨b, off, spot⟩ := a
  have hspot : spot = none := by
    have := World.cell?_spot (hq 0 hpos).2.1
    simpa [Addr.add] using this
  subst hspot
  refine ⟨b, off, rfl, by have h := (hq 0 hpos).1; rw [add_plain] at h; exact h, ?_⟩
  intro j hj
  have hj' : j < len0 := by simpa using hj
  obtain ⟨_, h0, h1, h2, h3⟩ := hq j hj'
  rw [add_plain, add_plain] at h0 h1 h2 h3
  simp only [List.getElem_map, List.getElem_range]
  exact ⟨h0, h1, h2, h3⟩
theorem lexJoins_contract (H : Type) (enc : TypeId × Value → H) (W : World) (base : Nat) (args : Array Value) (ds gs : List (DataW H)) (before : List MemPlace)
    (hval : ∀ (j : Nat) t v, Tryd.f5.params[j]? = some t → args[j]? = some v → Value.okWide Tryd.prog W .any base t v)
    (hW : DataW.Whole enc Tryd.prog Tryd.f5.params.toList Rows.lexJoinsSpec.vars false W args.toList ds gs before)
    (hsz0 : (DataW.weightsEach Tryd.prog (Tryd.f5.params.toList ++ Rows.lexJoinsSpec.plain.varTypes Tryd.prog) (ds ++ gs)).all (· ≤ reachBytes) = true)
    (hL : laidMetH Tryd.prog Rows.lexNamesRow.laid W) :
    Calls Tryd.prog 5 args W fun e W' => ∃ v, e = .returned v ∧ Rows.lexJoinsSpec.post enc Tryd.prog Tryd.f5 false true false false W args v W' := by
  have hE := hasErr_of hL
  have hW' := hW
  obtain ⟨p, q, hA0, hV, rfl, hfz, hnd⟩ := hW
  have hA : DataW.TrodAll enc Tryd.prog W 0 (fun _ => true) true Tryd.f5.params.toList args.toList ds p := hA0
  have hsz := hsz0
  rw [Tryd.params5] at hA hval hsz
  obtain ⟨v0, d0, rfl, rfl, h0⟩ := trodAll_one hA
  obtain ⟨rfl, rfl⟩ := trodVars_none hV
  clear hA0
  simp only [List.append_nil] at hW'
  have hlt : ∀ x ∈ p, x.block < W.heap.size := fun x hx => by simpa using hW'.lt x hx
  have fin : Calls Tryd.prog 5 #[v0] W (fun e w' => e = .returned (.bool true) ∧ Below W.heap.size W w') →
      Calls Tryd.prog 5 #[v0] W fun e W' => ∃ v, e = .returned v ∧ Rows.lexJoinsSpec.post enc Tryd.prog Tryd.f5 false true false false W #[v0] v W' := by
    intro hc
    refine hc.mono fun e W' ⟨he, hnx⟩ => ?_
    subst he
    refine ⟨_, rfl, _, _, _, [], p, [], hW', ?_, ?_, rfl, hnx.frame _, fun h => by cases h⟩
    · exact trodAll_mk1 (shut_bool Tryd.underlying4 true)
    · exact trodAll_mk1 (Below.trod laidOut (by kernel_rfl) (of_decide_eq_true (by kernel_rfl)) h0 hnx hlt)
  apply fin
  rcases open_toks (okWide_slice Tryd.underlying23 (hval 0 23 v0 rfl rfl)) h0 with rfl | ⟨a, cap, l, rfl, hcap, ⟨es, sp, hd, hel⟩, hne⟩
  · exact lexJoins_nil W hE
  · by_cases hl : l = []
    · subst hl
      exact lexJoins_bare a cap W hE
    · obtain ⟨b, off, rfl, hb, hArg⟩ := hne hl
      subst hd
      have hreach := sized_slice hsz (j := 0) (t := 23) (e := 33) rfl rfl Tryd.underlying23
      rw [bytes33] at hreach
      have e3 : reachBytes = 140737488351232 := by decide
      exact lexJoins_walk l b off cap W hb hE hArg (by omega)
theorem lexJoins_reads (os : Os) {H : Type} (enc : TypeId × Value → H) : ∃ places, DataW.whole enc Tryd.prog ((laidWorld os).forCall (fun _ _ => 0) ⟨#[], #[.slice none 0 0], []⟩).memory Tryd.f5.params.toList Rows.lexJoinsSpec.vars false #[Value.slice none 0 0].toList 8 = some ([.nil], [], places) :=
  ⟨[], by kernel_rfl⟩
set_option maxRecDepth 100000 in
theorem lexJoins_lifted (os : Os) (started : os.Started) (H : Type) (enc : TypeId × Value → H) (F : Stop.Interp) :
    ReturnsInHanded {} Tryd.checked os 5 .any ((OpenSpec.ofChange Rows.lexJoinsSpec).preRow enc Tryd.prog Tryd.f5 Rows.lexJoinsRow.domain false Rows.lexJoinsRow.laid) (((OpenSpec.ofChange Rows.lexJoinsSpec).at F).post enc Tryd.prog Tryd.f5 false true false false) := by
  obtain ⟨places, hx⟩ := lexJoins_reads os enc
  refine returnsInHanded_of_row (C := Tryd.checked) (s := OpenSpec.ofChange Rows.lexJoinsSpec) own started (by kernel_rfl) Tryd.func5
    (witness_row_at (enc := enc) (C := Tryd.checked) false (laidWorld os) #[.slice none 0 0] rfl (by kernel_rfl) (by kernel_rfl) (by kernel_rfl)
      (OpenSpec.preRow_of_cond 8 hx (by kernel_rfl) (fun k hk => by cases hk) (by kernel_rfl) (laid_met os _))) ?_
  intro W base args ds gs before hval hW _ _ hsz hL _ _
  exact lexJoins_contract H enc W base args ds gs before hval hW hsz hL
theorem lexJoins_said : Rows.LexJoinsSaid :=
  OpenClaim.holds_of_cond 5 Tryd.f5 rfl rfl rfl rfl rfl rfl rfl ⟨rfl, rfl, rfl, rfl, rfl⟩ rfl rfl rfl rfl rfl (by kernel_rfl) Tryd.func5 (by kernel_rfl)
    (of_decide_eq_true (by kernel_rfl)) (by unfold Func.isWrapper; first | (rw [if_pos (by decide +kernel)]; kernel_rfl) | (rw [if_neg (by decide +kernel)]; exact ⟨rfl, rfl⟩))
    (fun os started H enc _ F => by rw [OpenClaim.pre_eq_preRow]; exact lexJoins_lifted os started H enc F)
theorem lexJoins_plain (f : FuncId) (fn : Func) (hf : Tryd.pinned.checked.prog.funcNamed "vigil/vigillaw01.LexJoins" = some f) (hfn : Tryd.pinned.checked.prog.funcs[f]? = some fn) :
    true = Tryd.pinned.checked.prog.looks [] ∧ ∀ (j : Nat) t, fn.params[j]? = some t → Tryd.pinned.checked.prog.wantsStandIn t = false := by
  obtain rfl : f = 5 := Option.some.inj ((show Tryd.prog.funcNamed "vigil/vigillaw01.LexJoins" = some 5 by kernel_rfl).symm.trans hf) |>.symm
  obtain rfl : fn = Tryd.f5 := (Option.some.inj (Tryd.func5.symm.trans hfn)).symm
  refine ⟨by kernel_rfl, fun j t ht => ?_⟩
  rw [Tryd.params5] at ht
  obtain rfl : t = 23 := by simpa using Array.mem_of_getElem? ht
  exact (show Tryd.prog.wantsStandIn 23 = false by kernel_rfl)
theorem lexJoins_card : Rows.LexJoinsCardSaid :=
  Claim7.holds_tied_plain_at .later [] _ _ _ _ lexJoins_said (fun _ h => by cases h) (by kernel_rfl) (fun _ h => by cases h) lexJoins_row_tie rfl ⟨rfl, rfl⟩ (by kernel_rfl) rfl lexJoins_plain (by kernel_rfl)
end Go.Proofs.YtpebddinnnmdaaaDoor
