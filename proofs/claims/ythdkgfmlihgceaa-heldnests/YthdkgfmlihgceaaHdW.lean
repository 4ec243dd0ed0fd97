/-
  The document's Reached: the places to which a way leads.
-/
import Derived.Test.YthdkgfmlihgceaaHdV
namespace Go.Proofs.Ythdkgfmlihgceaa
open Go.RowKit
/-- Of the first i edges none leads out of what is marked. -/
def Shut (es : List Eg) (ss : List Bool) (i : Nat) : Prop := ∀ (q : Nat) (x : Eg), q < i → es[q]? = some x → ss.getD x.src.toNat false = true → ss.getD x.dst.toNat false = true
structure Rc (es : List Eg) (L : Nat) (ss : List Bool) : Prop where
  len : ss.length = L
  zero : ss.getD 0 false = true
  sound : ∀ k : Nat, ss.getD k false = true → Reach es (k : Int)
def Ro (es : List Eg) (L n : Nat) (ss : List Bool) : Prop := Rc es L ss ∧ (Shut es ss es.length ∨ n + 1 ≤ ss.count true)
def Ri (es : List Eg) (L n i : Nat) (ss : List Bool) : Prop := Rc es L ss ∧ (Shut es ss es.length ∨ n + 2 ≤ ss.count true ∨ (n + 1 ≤ ss.count true ∧ Shut es ss i))
variable {es : List Eg} {L n i : Nat} {ss : List Bool}
theorem Ro.into (h : Ro es L n ss) : Ri es L n 0 ss := by
  refine ⟨h.1, ?_⟩
  rcases h.2 with h | h
  · exact .inl h
  · exact .inr (.inr ⟨h, fun q x hq => by omega⟩)
theorem Ri.next (h : Ri es L n i ss) (hi : es.length ≤ i) : Ro es L (n + 1) ss := by
  refine ⟨h.1, ?_⟩
  rcases h.2 with h | h | ⟨_, h⟩
  · exact .inl h
  · exact .inr (by omega)
  · exact .inl (fun q x hq => h q x (by omega))
theorem Ri.skip (h : Ri es L n i ss) {x : Eg} (hx : es[i]? = some x) (hs : ss.getD x.src.toNat false = false) : Ri es L n (i + 1) ss := by
  refine ⟨h.1, ?_⟩
  rcases h.2 with h | h | ⟨h1, h⟩
  · exact .inl h
  · exact .inr (.inl h)
  · refine .inr (.inr ⟨h1, fun q y hq hy hys => ?_⟩)
    by_cases e : q = i
    · subst e
      rw [hx] at hy
      obtain rfl := Option.some.inj hy
      rw [hs] at hys; cases hys
    · exact h q y (by omega) hy hys
theorem setTrue {m : Nat} (h : m < ss.length) (ht : ss[m] = true) : ss.set m true = ss := by
  apply List.ext_getElem
  · simp
  · intro k h1 h2
    rw [List.getElem_set]
    by_cases e : m = k
    · subst e; rw [if_pos rfl, ht]
    · rw [if_neg e]
theorem getN {m : Nat} (h : ss.length ≤ m) : ss.getD m false = false := by
  rw [List.getD_eq_getElem?_getD, List.getElem?_eq_none h]; rfl
theorem getB {m : Nat} (h : m < ss.length) : ss.getD m false = ss[m] := by simp [h]
theorem Ri.put (h : Ri es L n i ss) {x : Eg} (hx : es[i]? = some x) (hs : ss.getD x.src.toNat false = true) (hs0 : 0 ≤ x.src) (ht0 : 0 ≤ x.dst) (ht : x.dst.toNat < L) : Ri es L n (i + 1) (ss.set x.dst.toNat true) := by
  obtain ⟨hr, h⟩ := h
  have htl : x.dst.toNat < ss.length := by rw [hr.len]; exact ht
  have hil : i < es.length := (List.getElem?_eq_some_iff.1 hx).1
  have hxm : x ∈ es := List.mem_of_getElem? hx
  cases hd : ss[x.dst.toNat]
  · have hc : (ss.set x.dst.toNat true).count true = ss.count true + 1 := by
      rw [List.count_set htl, hd]; simp
    refine ⟨⟨by rw [List.length_set]; exact hr.len, ?_, fun k hk => ?_⟩, ?_⟩
    · have := hr.zero
      have h0 : 0 < ss.length := by omega
      rw [getB h0] at this
      rw [getB (by rw [List.length_set]; exact h0), List.getElem_set]
      split
      · rfl
      · exact this
    · by_cases e : k = x.dst.toNat
      · subst e
        have e2 : ((x.dst.toNat : Nat) : Int) = x.dst := by omega
        rw [e2]
        have := hr.sound _ hs
        rw [show ((x.src.toNat : Nat) : Int) = x.src by omega] at this
        exact .next x hxm this
      · refine hr.sound k ?_
        by_cases hk2 : k < ss.length
        · rw [getB (by rw [List.length_set]; exact hk2), List.getElem_set, if_neg (fun h => e h.symm)] at hk
          rw [getB hk2]; exact hk
        · rw [getN (by rw [List.length_set]; omega)] at hk; cases hk
    · rcases h with h | h | ⟨h1, h⟩
      · have := h i x hil hx hs
        rw [getB htl, hd] at this; cases this
      · exact .inr (.inl (by omega))
      · exact .inr (.inl (by omega))
  · rw [setTrue htl hd]
    refine ⟨hr, ?_⟩
    rcases h with h | h | ⟨h1, h⟩
    · exact .inl h
    · exact .inr (.inl h)
    · refine .inr (.inr ⟨h1, fun q y hq hy hys => ?_⟩)
      by_cases e : q = i
      · subst e
        rw [hx] at hy
        obtain rfl := Option.some.inj hy
        rw [getB htl]; exact hd
      · exact h q y (by omega) hy hys
theorem Ro.first (hL : 1 ≤ L) : Ro es L 0 ((List.replicate L false).set 0 true) := by
  have h0 : 0 < (List.replicate L false).length := by rw [List.length_replicate]; omega
  refine ⟨⟨by simp, ?_, fun k hk => ?_⟩, .inr ?_⟩
  · rw [getB (by rw [List.length_set]; exact h0), List.getElem_set, if_pos rfl]
  · by_cases e : k = 0
    · subst e; exact .zero
    · by_cases hk2 : k < L
      · rw [getB (by simpa using hk2), List.getElem_set, if_neg (fun h => e h.symm)] at hk
        simp at hk
      · rw [getN (by simpa using hk2)] at hk; cases hk
  · rw [List.count_set h0]; simp
/-- What is marked in the end is what a way leads to. -/
theorem Ro.end (h : Ro es L n ss) (hn : L ≤ n) (k : Nat) : ss.getD k false = true ↔ Reach es (k : Int) := by
  refine ⟨h.1.sound k, fun hr => ?_⟩
  have hsh : Shut es ss es.length := by
    rcases h.2 with h2 | h2
    · exact h2
    · have := List.count_le_length (a := true) (l := ss)
      rw [h.1.len] at this
      omega
  have key : ∀ z : Int, Reach es z → ss.getD z.toNat false = true := by
    intro z hz
    induction hz with
    | zero => exact h.1.zero
    | next x hx _ ih =>
      obtain ⟨q, hq, he⟩ := List.getElem_of_mem hx
      exact hsh q x hq (by rw [List.getElem?_eq_getElem hq, he]) ih
  exact key _ hr
/-- Which places are reached. -/
def ReachBack (es : List Eg) (L : Nat) (w w' : World) (r : Ending) : Prop := ∃ (b : Nat) (ss : List Bool), r = .returned (.slice (some ⟨b, 0, none⟩) L L) ∧ w.heap.size ≤ b ∧ w'.heap[b]? = some (.cells (ss.map Value.bool).toArray 4 (0, 0)) ∧ ss.length = L ∧ (∀ k : Nat, ss.getD k false = true ↔ Reach es (k : Int)) ∧ Below w.heap.size w w'
set_option maxRecDepth 100000 in
set_option maxHeartbeats 16000000 in
theorem reached_any (f : Fl) (N L : Nat) (n₀ : Nat) (w : World) (hn : n₀ ≤ w.heap.size) (hf : f.Is n₀ w) (hes : f.es.length ≤ 1000000) (hS : Sound f N) (hL : f.locs = (L : Int)) :
    Calls Try.prog 25 #[f.val] w fun r w' => ReachBack f.es L w w' r := by
  rcases f with ⟨name, star, locs, ead, ecap, es, gad, gl, gc⟩
  obtain ⟨hsl, hlo, hfi⟩ := hf
  obtain ⟨⟨hlo1, hlo6⟩, hN8, hat⟩ := hS
  simp only at hsl hlo hes hlo1 hlo6 hat hL
  subst hL
  simp only [Fl.val, Fl.cells]
  have HAT := hid hat
  clear hat hlo hfi
  have hel1 := hsl.1; have hel2 := hsl.2.1
  unfold maxLen at hel2
  have hL1 : 1 ≤ L := by omega
  have hL6 : L ≤ 600 := by omega
  clear hlo1 hlo6
  obtain ⟨bF, hBF, hzF⟩ := one_box w #[.string name, .bool star, .int .i64 (L : Int), .slice ead es.length ecap, .slice gad gl gc] 25
  have hmk52 := make_run (T := 52) (e := 4) (b := 1) Try.underlying52 info4 rfl L (by omega) (by omega)
  go_enter Try.func25, Try.ntmps25
  go_upto_region 2 with fail
  clear hmk52
  obtain ⟨W1, hW1⟩ : ∃ W1, (w.alloc (.cells #[.string name, .bool star, .int .i64 (L : Int), .slice ead es.length ecap, .slice gad gl gc] 25)).alloc (.cells (Array.replicate L (.bool false)) 4) = W1 := ⟨_, rfl⟩
  have bS : W1.heap[w.heap.size + 1]? = some (.cells (Array.replicate L (.bool false)) 4 (0, 0)) := by
    have := heapNew (w.alloc (.cells #[.string name, .bool star, .int .i64 (L : Int), .slice ead es.length ecap, .slice gad gl gc] 25)) (.cells (Array.replicate L (.bool false)) 4)
    rw [World.size_alloc] at this
    rw [← hW1]; exact this
  have bF1 : W1.heap[w.heap.size]? = some (.cells #[.string name, .bool star, .int .i64 (L : Int), .slice ead es.length ecap, .slice gad gl gc] 25 (0, 0)) := by
    rw [← hW1]; exact (Below.heap_alloc _ _ _ (by rw [World.size_alloc]; omega)).trans bF
  have hz1 : W1.heap.size = w.heap.size + 2 := by rw [← hW1, World.size_alloc, World.size_alloc]
  have B1 : Below (w.heap.size + 1) (w.alloc (.cells #[.string name, .bool star, .int .i64 (L : Int), .slice ead es.length ecap, .slice gad gl gc] 25)) W1 := by
    rw [← hW1]; exact (Below.refl _ _).al (by rw [World.size_alloc]; exact Nat.le_refl _) _
  rw [hW1]
  have hrepS : Array.replicate L (Value.bool false) = ((List.replicate L false).map Value.bool).toArray := by simp
  rw [hrepS] at bS
  have cS := (cellOf bS 0).trans (rep0 hL1 Value.bool false)
  have fS : W1.frozen? ⟨w.heap.size + 1, 0, none⟩ = false := by simp [World.frozen?, bS]
  have bS2 := setBox (i := 0) bS (.bool true)
  rw [bools_set] at bS2
  have B2 := B1.setCell (p := ⟨w.heap.size + 1, 0, none⟩) (Nat.le_refl _) (Value.bool true)
  have HRO := hid (Ro.first (es := es) hL1)
  have HZ1 := hid hz1
  have HL0 : Hid (((List.replicate L false).set 0 true).length = L) := by show _ = _; simp
  obtain ⟨ss0, hss0⟩ : ∃ ss0, (List.replicate L false).set 0 true = ss0 := ⟨_, rfl⟩
  rw [hss0] at bS2 HRO HL0
  clear hW1 hrepS hss0 B1 hz1 hzF
  go_wp2
  go_loopw [4] (fun i' wr => ∃ (n : Nat) (ss : List Bool), i' = .int .i64 n ∧ n ≤ L ∧ wr.heap[w.heap.size + 1]? = some (.cells (ss.map Value.bool).toArray 4 (0, 0)) ∧ Hid (ss.length = L) ∧ Hid (Ro es L n ss) ∧ Below (w.heap.size + 1) (w.alloc (.cells #[.string name, .bool star, .int .i64 (L : Int), .slice ead es.length ecap, .slice gad gl gc] 25)) wr)
    (fun i' _ => L - (intOf i').toNat)
  case atStart => exact ⟨0, ss0, rfl, by omega, bS2, HL0, HRO, B2⟩
  case round =>
    clear bS bS2 cS fS HRO HL0 B2 HZ1 bF1
    obtain ⟨n, ss, rfl, hnL, bS, HLS, HRO, hby⟩ := hrel
    have hzy := hby.size
    rw [World.size_alloc] at hzy
    have bFr := (hby.block w.heap.size (Nat.lt_succ_self _)).trans bF
    obtain ⟨f2, f3⟩ := FBox.cells bFr
    by_cases hit : n < L
    · have hid2 : decide ((n : Int) < (L : Int)) = true := by simp; omega
      have HRI := hid HRO.out.into
      clear HRO
      go_wp2
      go_loopw [5] (fun i' wr => ∃ (i : Nat) (ss : List Bool), i' = .int .i64 i ∧ i ≤ es.length ∧ wr.heap[w.heap.size + 1]? = some (.cells (ss.map Value.bool).toArray 4 (0, 0)) ∧ Hid (ss.length = L) ∧ Hid (Ri es L n i ss) ∧ Below (w.heap.size + 1) (w.alloc (.cells #[.string name, .bool star, .int .i64 (L : Int), .slice ead es.length ecap, .slice gad gl gc] 25)) wr)
        (fun i' _ => es.length - (intOf i').toNat)
      case atStart => exact ⟨0, ss, rfl, by omega, bS, HLS, HRI, hby⟩
      case round =>
        clear bS HLS HRI hby hid2 f2 f3 bFr hzy
        obtain ⟨i, ss, rfl, hil, bS, HLS, HRI, hby⟩ := hrel
        have hzy := hby.size
        rw [World.size_alloc] at hzy
        have bFr := (hby.block w.heap.size (Nat.lt_succ_self _)).trans bF
        obtain ⟨f2, f3⟩ := FBox.cells bFr
        have hwr1 : w.heap.size + 1 < wr.heap.size := (Array.getElem?_eq_some_iff.1 bS).1
        by_cases hct : i < es.length
        · have hid3 : decide ((i : Int) < (es.length : Int)) = true := by simp; omega
          have hbw : Below w.heap.size w wr := hBF.trans (hby.mono (Nat.le_succ _))
          rcases hsl.2.2 with h | ⟨eb, eoff, rfl, hen, herow⟩
          · subst h; simp at hct
          have hr2 := herow.below (hbw.mono hn) hen
          have hew : eb < wr.heap.size := by omega
          have hew2 : eb ≠ w.heap.size + 1 := by omega
          have HQ : Hid (es[i]? = some es[i]) := List.getElem?_eq_getElem hct
          have hat := HAT.out es[i] (List.getElem_mem hct)
          rcases hx : es[i] with ⟨src, dst, kind, mon, var, op, s1, s2, kk, kad, kl, kc, epos, nn, site, out, pos⟩
          obtain ⟨d0, d1, -⟩ := row15 hr2 i hct hx
          rw [hx] at HQ hat
          simp only at d0 d1 hat
          clear hr2 hx herow
          obtain ⟨⟨hs0, hs1⟩, ⟨ht0, ht1⟩, -⟩ := hat
          obtain ⟨s, rfl⟩ : ∃ s : Nat, src = (s : Int) := ⟨src.toNat, by omega⟩
          obtain ⟨t, rfl⟩ : ∃ t : Nat, dst = (t : Int) := ⟨dst.toNat, by omega⟩
          have hsS : s < ss.length := by have := HLS.out; omega
          have htS : t < ss.length := by have := HLS.out; omega
          have hsL : s < L := by omega
          have htL : t < L := by omega
          have cSs := (cellOf bS s).trans (show _ = some (Value.bool ss[s]) by simp [hsS])
          have cSt := (cellOf bS t).trans (show _ = some (Value.bool ss[t]) by simp [htS])
          have fSt : wr.frozen? ⟨w.heap.size + 1, t, none⟩ = false := by simp [World.frozen?, bS]
          cases hst : ss[s]
          · have HN := hid (HRI.out.skip HQ.out (by show ss.getD ((s : Nat) : Int).toNat false = false; rw [Int.toNat_natCast, getB hsS, hst]))
            rw [hst] at cSs
            clear hst HRI
            go_wp2
            go_roundw
            case rel => exact ⟨i + 1, ss, by go_num, by omega, bS, HLS, HN, hby⟩
            case measure => simp [intOf]; omega
          · have HN0 := HRI.out.put HQ.out (by show ss.getD ((s : Nat) : Int).toNat false = true; rw [Int.toNat_natCast, getB hsS, hst]) (by show (0 : Int) ≤ (s : Int); omega) (by show (0 : Int) ≤ (t : Int); omega) (by show ((t : Nat) : Int).toNat < L; omega)
            have HN1 : Ri es L n (i + 1) (ss.set t true) := by simpa only [Int.toNat_natCast] using HN0
            have HN := hid HN1
            rw [hst] at cSs
            have hS2 := setBox (i := t) bS (.bool true)
            rw [bools_set] at hS2
            have HS2 := hid hS2
            have HB2 := hid (hby.setCell (p := ⟨w.heap.size + 1, t, none⟩) (Nat.le_refl _) (Value.bool true))
            clear hst HRI HN0 HN1 hS2
            go_wp2
            go_roundw
            case rel => exact ⟨i + 1, ss.set t true, by go_num, by omega, HS2.out, by show _ = _; rw [List.length_set]; exact HLS.out, HN, HB2.out⟩
            case measure => simp [intOf]; omega
        · have hcd : decide ((i : Int) < (es.length : Int)) = false := by simp; omega
          have HN := hid (HRI.out.next (by omega))
          clear HRI
          go_wp2
          go_roundw
          case rel => exact ⟨n + 1, ss, by go_num, by omega, bS, HLS, HN, hby⟩
          case measure => simp [intOf]; omega
    · have hid2 : decide ((n : Int) < (L : Int)) = false := by simp; omega
      have HE := hid (HRO.out.end (by omega))
      clear HRO
      go_wp2
      go_ret
      exact ⟨w.heap.size + 1, ss, rfl, Nat.le_succ _, bS, HLS.out, HE.out, hBF.trans (hby.mono (Nat.le_succ _))⟩
end Go.Proofs.Ythdkgfmlihgceaa
