/-
  The map of variables that Reads of package tree keeps: what a look-up and an increment do where each variable is put in once.
-/
import Derived.Test.YtopiceoofdlkbaaDoorTrA
import Derived.DeepKeys4
import Derived.MapKept
import Derived.ChangeMaps4
namespace Go.Proofs.YtopiceoofdlkbaaDoor
open Go.RowKit
theorem laidOut : laidOutB Tryd.prog = true := by kernel_rfl
theorem keyLaw : WideMaps.KeyLaw Tryd.prog 85 := deep_law_laid (m := 2) laidOut (by omega) (of_decide_eq_true (by kernel_rfl)) (by kernel_rfl) (by kernel_rfl)
/-- A variable as a key. -/
def vkey (p : ByteArray × ByteArray) : Value := .agg #[.string p.1, .string p.2]
theorem vkey_inj {p q : ByteArray × ByteArray} (h : vkey p = vkey q) : p = q := by
  have : p.1 = q.1 ∧ p.2 = q.2 := by simpa [vkey] using h
  exact Prod.ext this.1 this.2
def VLen (p : ByteArray × ByteArray) : Prop := p.1.size ≤ maxLen ∧ p.2.size ≤ maxLen
theorem keyType76 : Tryd.prog.keyType 85 = true := by kernel_rfl
theorem typesSize : ∃ n, Tryd.prog.types.size = n + 1 := ⟨133, by kernel_rfl⟩
theorem cells76 : Tryd.prog.cellsOf 85 = 2 := by kernel_rfl
theorem cells9 : Tryd.prog.cellsOf 9 = 1 := by kernel_rfl
theorem keyOf_gen {P : Program} {k s : TypeId} {f0 f1 : Field} (hu : P.underlying k = some (.struct #[f0, f1])) (t0 : f0.type = s) (t1 : f1.type = s) (o0 : f0.offset = 0) (o1 : f1.offset = 1) (n0 : (f0.name != "_") = true) (n1 : (f1.name != "_") = true)
    (hs : P.underlying s = some .string) (hc : P.cellsOf k = 2) (hcs : P.cellsOf s = 1) (hk : P.keyType k = true) (hsz : ∃ n, P.types.size = n + 1) {p : ByteArray × ByteArray} (h : VLen p) :
    keyOf P k (vkey p) = some (.string (keyBytes [.string p.1.data.toList, .string p.2.data.toList])) := by
  obtain ⟨n, hn⟩ := hsz
  obtain ⟨h1, h2⟩ := h
  unfold keyOf
  simp [hu, hk, hn, vkey, Value.formed, hc, Value.cells, Program.keyLits, hs, hcs, h1, h2, t0, t1, o0, o1, n0, n1]
theorem keyOf_v {p : ByteArray × ByteArray} (h : VLen p) : keyOf Tryd.prog 85 (vkey p) = some (.string (keyBytes [.string p.1.data.toList, .string p.2.data.toList])) :=
  keyOf_gen Tryd.underlying85 rfl rfl rfl rfl rfl rfl Tryd.underlying9 cells76 cells9 keyType76 typesSize h
/-- The variables, each put in once. -/
def seenEs (S : List (ByteArray × ByteArray)) : List MapEntry := S.mapIdx fun i p => { key := vkey p, val := .int .i64 1, born := i }
theorem seenEs_snoc (S : List (ByteArray × ByteArray)) (p : ByteArray × ByteArray) : seenEs (S ++ [p]) = seenEs S ++ [(⟨vkey p, .int .i64 1, S.length⟩ : MapEntry)] := by
  simp [seenEs, List.mapIdx_append]
theorem seenEs_mem {S : List (ByteArray × ByteArray)} {x : MapEntry} (h : x ∈ seenEs S) : ∃ p ∈ S, x.key = vkey p ∧ x.val = .int .i64 1 ∧ x.born < S.length := by
  obtain ⟨i, hi, rfl⟩ := List.mem_mapIdx.1 h
  exact ⟨S[i], List.getElem_mem hi, rfl, rfl, hi⟩
theorem seenEs_has {S : List (ByteArray × ByteArray)} {p : ByteArray × ByteArray} (h : p ∈ S) : ∃ x ∈ seenEs S, x.key = vkey p := by
  obtain ⟨i, hi, rfl⟩ := List.getElem_of_mem h
  exact ⟨_, List.mem_mapIdx.2 ⟨i, hi, rfl⟩, rfl⟩
/-- Block b is the map of the variables S. -/
def SeenMap (W : World) (b : Nat) (S : List (ByteArray × ByteArray)) : Prop := W.heap[b]? = some (.map (seenEs S).toArray S.length) ∧ ∀ p ∈ S, VLen p
theorem SeenMap.keys {W : World} {b : Nat} {S : List (ByteArray × ByteArray)} (h : SeenMap W b S) : ∀ e ∈ seenEs S, ∃ l, keyOf Tryd.prog 85 e.key = some l := by
  intro e he
  obtain ⟨p, hp, hk, _⟩ := seenEs_mem he
  exact ⟨_, by rw [hk]; exact keyOf_v (h.2 p hp)⟩
theorem lookup_seen {W : World} {b : Nat} {S : List (ByteArray × ByteArray)} (h : SeenMap W b S) {p : ByteArray × ByteArray} (hp : VLen p) (hm : p ∈ S) :
    (Instr.lookup 80 (.map (some b)) (vkey p) false).run Tryd.prog W = .ok (.int .i64 1) W := by
  rcases keyLaw.find W (keyOf_v hp) (seenEs S) h.keys with ⟨_, h2⟩ | ⟨j, e, h1, h2, h3⟩
  · obtain ⟨x, hx, hk⟩ := seenEs_has hm
    exact absurd hk (h2 x hx)
  · obtain ⟨q, _, _, hv, _⟩ := seenEs_mem (List.mem_of_getElem? h2)
    simp [Instr.lookup, run_underlying Tryd.underlying80, MapKept.run_getObj_map h.1, keyLaw.check W _ (keyOf_v hp), h1, hv, Result.andThen]
theorem lookup_new {W : World} {b : Nat} {S : List (ByteArray × ByteArray)} (h : SeenMap W b S) {p : ByteArray × ByteArray} (hp : VLen p) (hm : p ∉ S) :
    (Instr.lookup 80 (.map (some b)) (vkey p) false).run Tryd.prog W = .ok (.int .i64 0) W := by
  rcases keyLaw.find W (keyOf_v hp) (seenEs S) h.keys with ⟨h1, _⟩ | ⟨j, e, h1, h2, h3⟩
  · simp [Instr.lookup, run_underlying Tryd.underlying80, MapKept.run_getObj_map h.1, keyLaw.check W _ (keyOf_v hp), h1, Tryd.zeroValue3, Result.andThen]
  · obtain ⟨q, hq, hk, _⟩ := seenEs_mem (List.mem_of_getElem? h2)
    rw [hk] at h3
    exact absurd (vkey_inj h3 ▸ hq) hm
/-- The world behind the making of the entry. -/
def entryW (W : World) (b : Nat) (S : List (ByteArray × ByteArray)) (p : ByteArray × ByteArray) (v : Int) : World := ChangeMaps.setBlock W b (.map (seenEs S ++ [(⟨vkey p, .int .i64 v, S.length⟩ : MapEntry)]).toArray (S.length + 1))
theorem entryW_heap {W : World} {b : Nat} {S : List (ByteArray × ByteArray)} (h : SeenMap W b S) (p : ByteArray × ByteArray) (v : Int) :
    (entryW W b S p v).heap[b]? = some (.map (seenEs S ++ [(⟨vkey p, .int .i64 v, S.length⟩ : MapEntry)]).toArray (S.length + 1)) := by
  have hlt := (Array.getElem?_eq_some_iff.1 h.1).1
  simp [entryW, ChangeMaps.setBlock, hlt]
theorem mapEntry_new {W : World} {b : Nat} {S : List (ByteArray × ByteArray)} (h : SeenMap W b S) {p : ByteArray × ByteArray} (hp : VLen p) (hm : p ∉ S) :
    (Instr.mapEntry 80 (.map (some b)) (vkey p)).run Tryd.prog W = .ok (.tuple #[.int .i64 0, .int .i64 (S.length : Int)]) (entryW W b S p 0) := by
  rcases keyLaw.find W (keyOf_v hp) (seenEs S) h.keys with ⟨h1, _⟩ | ⟨j, e, h1, h2, h3⟩
  · simp [Instr.mapEntry, run_underlying Tryd.underlying80, MapKept.run_getObj_map h.1, keyLaw.check W false (keyOf_v hp), h1, Tryd.zeroValue3, MapKept.run_setObj_map _ h.1, Result.andThen, entryW, ChangeMaps.setBlock, goInt]
  · obtain ⟨q, hq, hk, _⟩ := seenEs_mem (List.mem_of_getElem? h2)
    rw [hk] at h3
    exact absurd (vkey_inj h3 ▸ hq) hm
theorem lookup_entry {W : World} {b : Nat} {S : List (ByteArray × ByteArray)} (h : SeenMap W b S) {p : ByteArray × ByteArray} (hp : VLen p) (hm : p ∉ S) :
    (Instr.lookup 80 (.map (some b)) (vkey p) false).run Tryd.prog (entryW W b S p 0) = .ok (.int .i64 0) (entryW W b S p 0) := by
  have hb := entryW_heap h p 0
  rcases keyLaw.find (entryW W b S p 0) (keyOf_v hp) (seenEs S ++ [(⟨vkey p, .int .i64 0, S.length⟩ : MapEntry)]) (by
      intro e he
      rcases List.mem_append.1 he with he | he
      · exact h.keys e he
      · rw [List.mem_singleton.1 he]; exact ⟨_, keyOf_v hp⟩) with ⟨_, h2⟩ | ⟨j, e, h1, h2, h3⟩
  · exact absurd rfl (h2 _ (List.mem_append.2 (.inr (List.mem_singleton.2 rfl))))
  · have hv : e.val = .int .i64 0 := by
      rcases List.mem_append.1 (List.mem_of_getElem? h2) with he | he
      · obtain ⟨q, hq, hk, _⟩ := seenEs_mem he
        rw [hk] at h3
        exact absurd (vkey_inj h3 ▸ hq) hm
      · rw [List.mem_singleton.1 he]
    simp [Instr.lookup, run_underlying Tryd.underlying80, MapKept.run_getObj_map hb, keyLaw.check _ _ (keyOf_v hp), h1, hv, Result.andThen]
theorem findIdx_last (S : List (ByteArray × ByteArray)) (x : MapEntry) (hx : x.born = S.length) : (seenEs S ++ [x]).findIdx? (fun e => ((e.born : Nat) : Int) == ((S.length : Nat) : Int)) = some S.length := by
  have hlen : (seenEs S).length = S.length := by simp [seenEs]
  have h0 : (seenEs S).findIdx? (fun e => ((e.born : Nat) : Int) == ((S.length : Nat) : Int)) = none := by
    rw [List.findIdx?_eq_none_iff]
    intro e he
    obtain ⟨_, _, _, _, hb⟩ := seenEs_mem he
    rw [beq_eq_false_iff_ne]; omega
  rw [List.findIdx?_append, h0]
  simp [hx, hlen]
theorem modify_end {α : Type} (f : α → α) (a : α) (l : List α) : (l ++ [a]).modify l.length f = l ++ [f a] := by
  induction l with
  | nil => rfl
  | cons b r ih => rw [List.cons_append, List.length_cons, List.modify_succ_cons, ih]; rfl
theorem entryStore_new {W : World} {b : Nat} {S : List (ByteArray × ByteArray)} (h : SeenMap W b S) (p : ByteArray × ByteArray) :
    (Instr.entryStore 80 (.map (some b)) (.int .i64 (S.length : Int)) (.int .i64 1)).run Tryd.prog (entryW W b S p 0) = .ok () (entryW W b S p 1) := by
  have hb := entryW_heap h p 0
  have hlen : (seenEs S).length = S.length := by simp [seenEs]
  have hi := findIdx_last S ⟨vkey p, .int .i64 0, S.length⟩ rfl
  have hm : ((seenEs S ++ [(⟨vkey p, .int .i64 0, S.length⟩ : MapEntry)]).toArray.modify S.length (fun e => { e with val := .int .i64 1 })) = (seenEs S ++ [(⟨vkey p, .int .i64 1, S.length⟩ : MapEntry)]).toArray := by
    apply Array.ext'
    rw [Array.toList_modify, ← hlen]
    exact modify_end _ _ _
  have hf : (seenEs S ++ [(⟨vkey p, .int .i64 0, S.length⟩ : MapEntry)]).toArray.findIdx? (fun e => ((e.born : Nat) : Int) == ((S.length : Nat) : Int)) = some S.length := by rw [List.findIdx?_toArray]; exact hi
  have hw : ChangeMaps.setBlock (entryW W b S p 0) b (.map (seenEs S ++ [(⟨vkey p, .int .i64 1, S.length⟩ : MapEntry)]).toArray (S.length + 1)) = entryW W b S p 1 := by
    simp [entryW, ChangeMaps.setBlock]
  have hs := MapKept.run_setObj_map (P := Tryd.prog) (.map (seenEs S ++ [(⟨vkey p, .int .i64 1, S.length⟩ : MapEntry)]).toArray (S.length + 1)) hb
  rw [show ({ entryW W b S p 0 with heap := (entryW W b S p 0).heap.setIfInBounds b (.map (seenEs S ++ [(⟨vkey p, .int .i64 1, S.length⟩ : MapEntry)]).toArray (S.length + 1)) } : World) = entryW W b S p 1 from hw] at hs
  simp only [Instr.entryStore, Sem.run_bind, Sem.run_pure, MapKept.run_getObj_map hb, Result.andThen, asInt, asIntOf, hf, hm, hs]
theorem seen_next {W : World} {b : Nat} {S : List (ByteArray × ByteArray)} (h : SeenMap W b S) {p : ByteArray × ByteArray} (hp : VLen p) : SeenMap (entryW W b S p 1) b (S ++ [p]) := by
  refine ⟨?_, ?_⟩
  · rw [entryW_heap h p 1, seenEs_snoc, List.length_append]; rfl
  · intro q hq
    rcases List.mem_append.1 hq with hq | hq
    · exact h.2 q hq
    · rw [List.mem_singleton.1 hq]; exact hp
end Go.Proofs.YtopiceoofdlkbaaDoor
