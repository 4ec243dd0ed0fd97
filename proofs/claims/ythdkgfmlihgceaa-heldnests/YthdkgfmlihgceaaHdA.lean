/-
  Plain: what is owned at each place of a flow (P13.1). Nothing is walked here.
-/
import Derived.Test.YthdkgfmlihgceaaHdM
namespace Go.Proofs.Ythdkgfmlihgceaa
/-- Behind an edge: what is owned, and whether it can be (P13.1). -/
def behB (o : List Int) (x : Eg) : Bool := if x.kind = 5 then decide (1 ≤ o.getD x.mon.toNat 0) else true
def behL (o : List Int) (x : Eg) : List Int :=
  if x.kind = 4 then o.set x.mon.toNat (o.getD x.mon.toNat 0 + 1) else if x.kind = 5 then o.set x.mon.toNat (o.getD x.mon.toNat 0 - 1) else o
theorem behL_len (o : List Int) (x : Eg) : (behL o x).length = o.length := by
  unfold behL; split
  · simp
  · split <;> simp
/-- So much may be owned at each place. -/
structure Con (N : Nat) (es : List Eg) (G : Int → Option (List Int)) : Prop where
  zero : G 0 = some (List.replicate N 0)
  next : ∀ x ∈ es, ∀ o, G x.src = some o → behB o x = true ∧ G x.dst = some (behL o x)
/-- A way from 0 leads there. -/
inductive Reach (es : List Eg) : Int → Prop
  | zero : Reach es 0
  | next (x : Eg) (hx : x ∈ es) (h : Reach es x.src) : Reach es x.dst
structure Lst (N : Nat) (es : List Eg) (G : Int → Option (List Int)) : Prop where
  con : Con N es G
  only : ∀ k, (G k).isSome = true → Reach es k
theorem Con.reach {N : Nat} {es : List Eg} {G : Int → Option (List Int)} (h : Con N es G) {k : Int} (hk : Reach es k) : ∃ o, G k = some o ∧ o.length = N := by
  induction hk with
  | zero => exact ⟨_, h.zero, by simp⟩
  | next x hx _ ih =>
    obtain ⟨o, ho, hl⟩ := ih
    exact ⟨_, (h.next x hx o ho).2, by rw [behL_len, hl]⟩
theorem Con.same {N : Nat} {es : List Eg} {G G' : Int → Option (List Int)} (h : Con N es G) (h' : Con N es G') {k : Int} (hk : Reach es k) : G k = G' k := by
  induction hk with
  | zero => rw [h.zero, h'.zero]
  | next x hx hr ih =>
    obtain ⟨o, ho, _⟩ := h.reach hr
    rw [(h.next x hx o ho).2, (h'.next x hx o (ih ▸ ho)).2]
theorem Lst.same {N : Nat} {es : List Eg} {G G' : Int → Option (List Int)} (h : Lst N es G) (h' : Lst N es G') : G = G' := by
  funext k
  by_cases hk : Reach es k
  · exact h.con.same h'.con hk
  · have h1 : G k = none := by
      cases e : G k with
      | none => rfl
      | some o => exact absurd (h.only k (by rw [e]; rfl)) hk
    have h2 : G' k = none := by
      cases e : G' k with
      | none => rfl
      | some o => exact absurd (h'.only k (by rw [e]; rfl)) hk
    rw [h1, h2]
/-- The places' rows. -/
def rowsOf (G : Int → Option (List Int)) (locs : Nat) : List (List Int) := (List.range locs).map fun (k : Nat) => (G (k : Int)).getD []
open Classical in
/-- What is owned at each place, or that it can't be told. -/
noncomputable def heldV (N locs : Nat) (es : List Eg) : Option (List (List Int)) := if h : ∃ G, Lst N es G then some (rowsOf h.choose locs) else none
theorem heldV_some {N locs : Nat} {es : List Eg} {G : Int → Option (List Int)} (h : Lst N es G) : heldV N locs es = some (rowsOf G locs) := by
  have hx : ∃ G, Lst N es G := ⟨G, h⟩
  unfold heldV
  rw [dif_pos hx, Lst.same hx.choose_spec h]
theorem heldV_none {N locs : Nat} {es : List Eg} (h : ¬ ∃ G, Con N es G) : heldV N locs es = none := by
  unfold heldV
  rw [dif_neg (fun ⟨G, hG⟩ => h ⟨G, hG.con⟩)]
/-- Of consistent numbers the least are told. -/
theorem Con.lst {N : Nat} {es : List Eg} {G : Int → Option (List Int)} (h : Con N es G) : ∃ G', Lst N es G' ∧ ∀ k o, G' k = some o → G k = some o := by
  classical
  refine ⟨fun k => if Reach es k then G k else none, ⟨⟨?_, ?_⟩, ?_⟩, ?_⟩
  · show (if _ then _ else _) = _
    rw [if_pos .zero]; exact h.zero
  · intro x hx o ho
    have ho' : (if Reach es x.src then G x.src else none) = some o := ho
    by_cases hr : Reach es x.src
    · rw [if_pos hr] at ho'
      refine ⟨(h.next x hx o ho').1, ?_⟩
      show (if _ then _ else _) = _
      rw [if_pos (.next x hx hr)]; exact (h.next x hx o ho').2
    · rw [if_neg hr] at ho'; cases ho'
  · intro k hk
    have hk' : (if Reach es k then G k else none).isSome = true := hk
    by_cases hr : Reach es k
    · exact hr
    · rw [if_neg hr] at hk'; cases hk'
  · intro k o ho
    have ho' : (if Reach es k then G k else none) = some o := ho
    by_cases hr : Reach es k
    · rwa [if_pos hr] at ho'
    · rw [if_neg hr] at ho'; cases ho'
/-- Going along: what was found, in what order, which edges are done. -/
structure Bi (N : Nat) (es : List Eg) (F : Int → Option (List Int)) (l : List Int) (D : Eg → Prop) : Prop where
  zero : F 0 = some (List.replicate N 0)
  mem : ∀ k, (F k).isSome = true ↔ k ∈ l
  nodup : l.Nodup
  pos : 1 ≤ l.length
  reach : ∀ k ∈ l, Reach es k
  all : ∀ G, Con N es G → ∀ k o, F k = some o → G k = some o
  size : ∀ k o, F k = some o → o.length = N ∧ ∀ v ∈ o, 0 ≤ v ∧ v < (l.length : Int)
  src : ∀ x ∈ es, D x → (F x.src).isSome = true
  done : ∀ x ∈ es, D x → ∀ o, F x.src = some o → behB o x = true ∧ F x.dst = some (behL o x)
theorem Bi.first (N : Nat) (es : List Eg) : Bi N es (fun k => if k = 0 then some (List.replicate N 0) else none) [0] (fun _ => False) := by
  refine ⟨rfl, fun k => ?_, by simp, by simp, fun k hk => ?_, fun G hG k o ho => ?_, fun k o ho => ?_, fun _ _ h => h.elim, fun _ _ h => h.elim⟩
  · by_cases h : k = 0 <;> simp [h]
  · rw [List.mem_singleton.1 hk]; exact .zero
  · by_cases h : k = 0
    · subst h; simp at ho; subst ho; exact hG.zero
    · simp [h] at ho
  · by_cases h : k = 0
    · subst h; simp at ho; subst ho
      exact ⟨by simp, fun v hv => by rw [(List.mem_replicate.1 hv).2]; simp⟩
    · simp [h] at ho
variable {N : Nat} {es : List Eg} {F : Int → Option (List Int)} {l : List Int} {D : Eg → Prop}
theorem Bi.bad (h : Bi N es F l D) {x : Eg} (hx : x ∈ es) {o : List Int} (ho : F x.src = some o) (hb : behB o x = false) : ¬ ∃ G, Con N es G := by
  rintro ⟨G, hG⟩
  have := (hG.next x hx o (h.all G hG _ _ ho)).1
  rw [hb] at this; cases this
theorem Bi.clash (h : Bi N es F l D) {x : Eg} (hx : x ∈ es) {o o' : List Int} (ho : F x.src = some o) (hd : F x.dst = some o') (hne : o' ≠ behL o x) : ¬ ∃ G, Con N es G := by
  rintro ⟨G, hG⟩
  have h1 := (hG.next x hx o (h.all G hG _ _ ho)).2
  rw [h.all G hG _ _ hd] at h1
  exact hne (by simpa using h1)
theorem Bi.more (h : Bi N es F l D) {x : Eg} {o : List Int} (ho : F x.src = some o) (hb : behB o x = true) (hd : F x.dst = some (behL o x)) : Bi N es F l (fun y => D y ∨ y = x) := by
  refine ⟨h.zero, h.mem, h.nodup, h.pos, h.reach, h.all, h.size, fun y hy hD => ?_, fun y hy hD q hq => ?_⟩
  · rcases hD with hD | rfl
    · exact h.src y hy hD
    · rw [ho]; rfl
  rcases hD with hD | rfl
  · exact h.done y hy hD q hq
  · rw [ho] at hq; obtain rfl := Option.some.inj hq
    exact ⟨hb, hd⟩
theorem Bi.weak {D' : Eg → Prop} (h : Bi N es F l D) (hD : ∀ x ∈ es, D' x → D x) : Bi N es F l D' :=
  ⟨h.zero, h.mem, h.nodup, h.pos, h.reach, h.all, h.size, fun y hy hy' => h.src y hy (hD y hy hy'), fun y hy hy' => h.done y hy (hD y hy hy')⟩
def upF (F : Int → Option (List Int)) (k : Int) (o : List Int) : Int → Option (List Int) := fun j => if j = k then some o else F j
theorem behL_small {o : List Int} {x : Eg} {b : Int} (hm : ∀ v ∈ o, 0 ≤ v ∧ v < b) (hb : behB o x = true) : ∀ v ∈ behL o x, 0 ≤ v ∧ v < b + 1 := by
  have hg : ∀ i, i < o.length → 0 ≤ o.getD i 0 ∧ o.getD i 0 < b := fun i hi => by
    have e : o.getD i 0 = o[i] := by simp [hi]
    rw [e]; exact hm _ (List.getElem_mem hi)
  intro v hv
  unfold behL at hv
  split at hv
  · by_cases hi : x.mon.toNat < o.length
    · rcases List.mem_or_eq_of_mem_set hv with hv | rfl
      · have := hm v hv; omega
      · have := hg _ hi; omega
    · rw [List.set_eq_of_length_le (by omega)] at hv
      have := hm v hv; omega
  · split at hv
    · rename_i h4 h5
      simp only [behB, if_pos h5, decide_eq_true_eq] at hb
      by_cases hi : x.mon.toNat < o.length
      · rcases List.mem_or_eq_of_mem_set hv with hv | rfl
        · have := hm v hv; omega
        · have := hg _ hi; omega
      · rw [List.set_eq_of_length_le (by omega)] at hv
        have := hm v hv; omega
    · have := hm v hv; omega
theorem Bi.grow (h : Bi N es F l D) {x : Eg} (hx : x ∈ es) {o : List Int} (ho : F x.src = some o) (hb : behB o x = true) (hd : F x.dst = none) : Bi N es (upF F x.dst (behL o x)) (l ++ [x.dst]) (fun y => D y ∨ y = x) := by
  have hnm : x.dst ∉ l := fun hm => by have := (h.mem x.dst).2 hm; rw [hd] at this; cases this
  have hsz := h.size _ _ ho
  have hne : x.src ≠ x.dst := fun e => by rw [e, hd] at ho; cases ho
  have h0 : (0 : Int) ≠ x.dst := fun e => by have := h.zero; rw [e, hd] at this; cases this
  have hlen : ((l ++ [x.dst]).length : Int) = l.length + 1 := by simp
  refine ⟨?_, fun k => ?_, ?_, by simp, fun k hk => ?_, fun G hG k q hq => ?_, fun k q hq => ?_, fun y hy hD => ?_, fun y hy hD q hq => ?_⟩
  · show (if _ then _ else _) = _
    rw [if_neg h0]; exact h.zero
  · unfold upF
    by_cases e : k = x.dst
    · simp [e]
    · rw [if_neg e]
      rw [h.mem k]; simp [e]
  · exact List.nodup_append.2 ⟨h.nodup, by simp, fun a ha c hc => by simp at hc; rintro rfl; exact hnm (hc ▸ ha)⟩
  · rcases List.mem_append.1 hk with hk | hk
    · exact h.reach k hk
    · rw [List.mem_singleton.1 hk]
      exact .next x hx (h.reach _ ((h.mem _).1 (by rw [ho]; rfl)))
  · unfold upF at hq
    by_cases e : k = x.dst
    · rw [if_pos e] at hq; obtain rfl := Option.some.inj hq
      rw [e]; exact (hG.next x hx o (h.all G hG _ _ ho)).2
    · rw [if_neg e] at hq; exact h.all G hG _ _ hq
  · unfold upF at hq
    by_cases e : k = x.dst
    · rw [if_pos e] at hq; obtain rfl := Option.some.inj hq
      exact ⟨by rw [behL_len]; exact hsz.1, fun v hv => by rw [hlen]; exact behL_small hsz.2 hb v hv⟩
    · rw [if_neg e] at hq
      have := h.size _ _ hq
      exact ⟨this.1, fun v hv => by rw [hlen]; have := this.2 v hv; omega⟩
  · show (if _ then _ else _ : Option (List Int)).isSome = true
    by_cases e : y.src = x.dst
    · rw [if_pos e]; rfl
    · rw [if_neg e]
      rcases hD with hD | rfl
      · exact h.src y hy hD
      · rw [ho]; rfl
  · have hq' : (if y.src = x.dst then some (behL o x) else F y.src) = some q := hq
    have hys : (F y.src).isSome = true := by
      rcases hD with hD | rfl
      · exact h.src y hy hD
      · rw [ho]; rfl
    have e : y.src ≠ x.dst := fun e => by rw [e, hd] at hys; cases hys
    rw [if_neg e] at hq'
    have hk : ∀ k q', F k = some q' → upF F x.dst (behL o x) k = some q' := fun k q' hk => by
      show (if _ then _ else _) = _
      rw [if_neg (fun e => by rw [e, hd] at hk; cases hk)]; exact hk
    rcases hD with hD | rfl
    · have := h.done y hy hD q hq'
      exact ⟨this.1, hk _ _ this.2⟩
    · rw [ho] at hq'; obtain rfl := Option.some.inj hq'
      exact ⟨hb, by show (if _ then _ else _) = _; rw [if_pos rfl]⟩
/-- All is gone along. -/
theorem Bi.end (h : Bi N es F l D) (hD : ∀ x ∈ es, x.src ∈ l → D x) : Lst N es F :=
  ⟨⟨h.zero, fun x hx o ho => h.done x hx (hD x hx ((h.mem _).1 (by rw [ho]; rfl))) o ho⟩, fun k hk => h.reach k ((h.mem k).1 hk)⟩
end Go.Proofs.Ythdkgfmlihgceaa
