/-
  oneMore of package parse, of monitors and roles.
-/
import Derived.Test.YtaekbgljbgmchaaGreatDoorPzMe
namespace Go.Proofs.YtaekbgljbgmchaaGreatDoor
open Go.RowKit
open Lx (Out)
open Pz
theorem Tryz.info80 : (Tryz.prog.info? 80).map (fun i => (i.zero, i.size, i.bytes)) = some (some (.agg #[.string ⟨#[]⟩, .slice none 0 0, .slice none 0 0, .int .i64 0]), 4, 72) := by kernel_rfl
/-- A list of Mo that is owned. -/
def LiMo (base : Nat) (v : Value) (l : List Mo) (w : World) : Prop := w.ownsRow base 80 4 v l.length (l.flatMap Mo.cells) ∧ ∀ x ∈ l, x.By (but base v) w
theorem LiMo.bel {base : Nat} {v : Value} {l : List Mo} {w w' : World} (h : LiMo base v l w) (k : Below w.heap.size w w') : LiMo base v l w' := ⟨owns_below h.1 k, fun x hx => Mo.By.kq (h.2 x hx) ((Kq.refl _ _).bel k)⟩
theorem LiMo.kp {base b : Nat} {v : Value} {l : List Mo} {w w' : World} (h : LiMo base v l w) (k : Kp b w w') (hb : b < base) : LiMo base v l w' := ⟨owns_kp h.1 k hb, fun x hx => Mo.By.kq (h.2 x hx) ((Kq.refl _ _).kp k (but_lt hb))⟩
/-- What oneMore comes to. -/
def BackMo (b g cap base : Nat) (toks : List Out) (x : List Mo × S) (w : World) (r : Ending) (w' : World) : Prop :=
  ∃ v l, r = .returned v ∧ l.map Mo.clr = x.1 ∧ LiMo base v l w' ∧ At b g cap toks x.2 w' ∧ Kf b base w w'
set_option maxRecDepth 100000 in
set_option maxHeartbeats 2000000 in
theorem oneMore_Mo (rd : S → Mo × S) (most : Nat) (v : Value) (l : List Mo) (base b g cap : Nat) (toks : List Out) (s : S) (w : World) (A : At b g cap toks s w) (Li : LiMo base v l w) (hbase : base ≤ w.heap.size) (hbb : b < base) (hgb : g < base) (hlen : l.length ≤ 200000)
    (hrd : ∀ W, At b g cap toks (s.full (decide (most ≤ l.length))) W → Kf b base w W → Calls Tryz.prog 71 #[.pointer (some ⟨b, 0, none⟩)] W (MoBk b g cap toks (rd (s.full (decide (most ≤ l.length)))) W)) :
    Calls Tryz.prog 70 #[.pointer (some ⟨b, 0, none⟩), v, .int .i64 (most : Int), .func (.func 71) #[.pointer (some ⟨b, 0, none⟩)] #[]] w (BackMo b g cap base toks (oneMore (l.map Mo.clr) most rd s) w) := by
  obtain ⟨i0, hi, hz0, hz1, hz2⟩ := info_parts Tryz.info80
  have Kk := Kf.refl b base w
  obtain ⟨ad0, cp0, hv, -⟩ := sl_of_own Mo.cells_len Li.1
  have HV := hid hv
  have HX : Hid (oneMore (l.map Mo.clr) most rd s = (l.map Mo.clr ++ [(rd (s.full (decide (most ≤ l.length)))).1], (rd (s.full (decide (most ≤ l.length)))).2)) := by show _ = _; unfold oneMore; rw [List.length_map]
  obtain ⟨X, hX⟩ : ∃ X, oneMore (l.map Mo.clr) most rd s = X := ⟨_, rfl⟩
  rw [hX] at HX ⊢
  rw [HX.out]
  clear hX HX
  subst hv
  clear HV
  by_cases hm : most ≤ l.length
  · have HE : Hid (∀ W, At b g cap toks (s.refuse 6).pass W → At b g cap toks (s.full (decide (most ≤ l.length))) W) := fun W hW => by rw [decide_eq_true hm]; exact hW
    have hmi : (most : Int) ≤ (l.length : Int) := by omega
    obtain ⟨sF, hsF⟩ : ∃ sF, s.full (decide (most ≤ l.length)) = sF := ⟨_, rfl⟩
    rw [hsF] at hrd HE ⊢
    clear hsF
    go_enter Tryz.func70, Tryz.ntmps70
    go_wp2_with (first
          | (go_at_call 63; (with_reducible refine (refuse_any 6 b g cap toks _ _ A).mono ?_); rintro r u1 ⟨rfl, A, k⟩; have Li := Li.kp k hbb; have Kk := Kk.kp k)
          | (go_at_call 110; (with_reducible refine (pass_any b g cap toks _ _ A).mono ?_); rintro r u2 ⟨rfl, A, k⟩; have Li := Li.kp k hbb; have Kk := Kk.kp k; have A := HE.out _ A)
          | (go_at_call 71; (with_reducible refine (hrd _ A Kk).mono ?_); rintro r u3 ⟨nm, vad, vcp, vars, mad, mcp, meths, po, rfl, hclr, hBy, A, k⟩; have hzc := Kk.size; have Li0 := Li; have Li := Li.kp k hbb; have Kk := Kk.kp k)
          | (at_builtin; refine wpList_append_own2 rfl _ _ 34 rfl base 80 i0 (.agg #[.string ⟨#[]⟩, .slice none 0 0, .slice none 0 0, .int .i64 0]) 4 72 Tryz.underlying34 hi hz0 hz1 hz2 rfl (by decide) _ _ _ rfl (Li.1.alloc _) ⟨u3.heap.size, 0, none⟩ 1 1 (#[.string nm, .slice vad vars.length vcp, .slice mad meths.length mcp, .int .i64 po]).toList rfl rfl (news_of (newB' _ _ _ _ rfl)) ?c1 (by decide) ?c2 ?c3 ?c4 ?_))
    case c1 => exact ⟨rfl, rfl, rfl, rfl⟩
    case c2 => unfold maxLen; omega
    case c3 => omega
    case c4 => have := Kk.size; simp; omega
    intro v' u4 hown' hgrow hwh
    have hwh2 : v'.ownBlock = (Value.slice ad0 l.length cp0).ownBlock ∨ v'.ownBlock = some ((u3.alloc (.cells #[.string nm, .slice vad vars.length vcp, .slice mad meths.length mcp, .int .i64 po] 80)).heap.size) := by simpa using hwh
    have hel2 : ∀ x ∈ l, x.By (but base v') u4 := fun x hx => grow_by (B := fun Q w => x.By Q w) (fun _ _ _ h1 h2 => Mo.By.kq h1 h2) (fun _ _ _ h1 h2 => Mo.By.weak h1 h2) (Mo.By.kq (Li.2 x hx) ((Kq.refl _ _).al _)) hgrow hwh2
    have hnew : (Mo.mk nm vad vcp vars mad mcp meths po).By (but base v') u4 := by
      refine grow_by (B := fun Q w => (Mo.mk nm vad vcp vars mad mcp meths po).By Q w) (fun _ _ _ h1 h2 => Mo.By.kq h1 h2) (fun _ _ _ h1 h2 => Mo.By.weak h1 h2) ?_ hgrow hwh2
      refine Mo.By.kq (Mo.By.weak hBy (fun k hk _ => but_iff.2 ⟨Nat.le_trans (Nat.le_trans hbase hzc) (from_iff.1 hk), fun e1 => ?_⟩)) ((Kq.refl _ _).al _)
      have h1 := (Li0.1.lt k e1).2
      have h2 := from_iff.1 hk
      omega
    have A := (A.al (.cells #[.string nm, .slice vad vars.length vcp, .slice mad meths.length mcp, .int .i64 po] 80)).grown (Li.1.alloc _) hgrow hbb hgb
    have Kk := (Kk.al (.cells #[.string nm, .slice vad vars.length vcp, .slice mad meths.length mcp, .int .i64 po] 80)).grown (Li.1.alloc _) hgrow
    clear hgrow hwh hwh2 Li Li0 hBy
    go_wp2
    go_ret
    refine ⟨v', l ++ [Mo.mk nm vad vcp vars mad mcp meths po], rfl, ?_, ⟨?_, ?_⟩, A, Kk⟩
    · rw [List.map_append, List.map_cons, List.map_nil, hclr]
    · rw [List.length_append, List.flatMap_append]; exact hown'
    · intro x hx
      rcases List.mem_append.1 hx with hx | hx
      · exact hel2 x hx
      · rw [List.mem_singleton.1 hx]; exact hnew
  · have HE : Hid (∀ W, At b g cap toks s.pass W → At b g cap toks (s.full (decide (most ≤ l.length))) W) := fun W hW => by rw [decide_eq_false hm]; exact hW
    have hmi : ¬ (most : Int) ≤ (l.length : Int) := by omega
    have hmd : decide ((most : Int) ≤ (l.length : Int)) = false := by simp only [decide_eq_false_iff_not]; exact hmi
    obtain ⟨sF, hsF⟩ : ∃ sF, s.full (decide (most ≤ l.length)) = sF := ⟨_, rfl⟩
    rw [hsF] at hrd HE ⊢
    clear hsF
    go_enter Tryz.func70, Tryz.ntmps70
    go_wp2_with (first
          | (go_at_call 110; (with_reducible refine (pass_any b g cap toks _ _ A).mono ?_); rintro r u2 ⟨rfl, A, k⟩; have Li := Li.kp k hbb; have Kk := Kk.kp k; have A := HE.out _ A)
          | (go_at_call 71; (with_reducible refine (hrd _ A Kk).mono ?_); rintro r u3 ⟨nm, vad, vcp, vars, mad, mcp, meths, po, rfl, hclr, hBy, A, k⟩; have hzc := Kk.size; have Li0 := Li; have Li := Li.kp k hbb; have Kk := Kk.kp k)
          | (at_builtin; refine wpList_append_own2 rfl _ _ 34 rfl base 80 i0 (.agg #[.string ⟨#[]⟩, .slice none 0 0, .slice none 0 0, .int .i64 0]) 4 72 Tryz.underlying34 hi hz0 hz1 hz2 rfl (by decide) _ _ _ rfl (Li.1.alloc _) ⟨u3.heap.size, 0, none⟩ 1 1 (#[.string nm, .slice vad vars.length vcp, .slice mad meths.length mcp, .int .i64 po]).toList rfl rfl (news_of (newB' _ _ _ _ rfl)) ?c1 (by decide) ?c2 ?c3 ?c4 ?_))
    case c1 => exact ⟨rfl, rfl, rfl, rfl⟩
    case c2 => unfold maxLen; omega
    case c3 => omega
    case c4 => have := Kk.size; simp; omega
    intro v' u4 hown' hgrow hwh
    have hwh2 : v'.ownBlock = (Value.slice ad0 l.length cp0).ownBlock ∨ v'.ownBlock = some ((u3.alloc (.cells #[.string nm, .slice vad vars.length vcp, .slice mad meths.length mcp, .int .i64 po] 80)).heap.size) := by simpa using hwh
    have hel2 : ∀ x ∈ l, x.By (but base v') u4 := fun x hx => grow_by (B := fun Q w => x.By Q w) (fun _ _ _ h1 h2 => Mo.By.kq h1 h2) (fun _ _ _ h1 h2 => Mo.By.weak h1 h2) (Mo.By.kq (Li.2 x hx) ((Kq.refl _ _).al _)) hgrow hwh2
    have hnew : (Mo.mk nm vad vcp vars mad mcp meths po).By (but base v') u4 := by
      refine grow_by (B := fun Q w => (Mo.mk nm vad vcp vars mad mcp meths po).By Q w) (fun _ _ _ h1 h2 => Mo.By.kq h1 h2) (fun _ _ _ h1 h2 => Mo.By.weak h1 h2) ?_ hgrow hwh2
      refine Mo.By.kq (Mo.By.weak hBy (fun k hk _ => but_iff.2 ⟨Nat.le_trans (Nat.le_trans hbase hzc) (from_iff.1 hk), fun e1 => ?_⟩)) ((Kq.refl _ _).al _)
      have h1 := (Li0.1.lt k e1).2
      have h2 := from_iff.1 hk
      omega
    have A := (A.al (.cells #[.string nm, .slice vad vars.length vcp, .slice mad meths.length mcp, .int .i64 po] 80)).grown (Li.1.alloc _) hgrow hbb hgb
    have Kk := (Kk.al (.cells #[.string nm, .slice vad vars.length vcp, .slice mad meths.length mcp, .int .i64 po] 80)).grown (Li.1.alloc _) hgrow
    clear hgrow hwh hwh2 Li Li0 hBy
    go_wp2
    go_ret
    refine ⟨v', l ++ [Mo.mk nm vad vcp vars mad mcp meths po], rfl, ?_, ⟨?_, ?_⟩, A, Kk⟩
    · rw [List.map_append, List.map_cons, List.map_nil, hclr]
    · rw [List.length_append, List.flatMap_append]; exact hown'
    · intro x hx
      rcases List.mem_append.1 hx with hx | hx
      · exact hel2 x hx
      · rw [List.mem_singleton.1 hx]; exact hnew
theorem Tryz.info62 : (Tryz.prog.info? 62).map (fun i => (i.zero, i.size, i.bytes)) = some (some (.agg #[.string ⟨#[]⟩, .bool false, .int .i64 0, .slice none 0 0, .int .i64 0]), 5, 64) := by kernel_rfl
/-- A list of Ro that is owned. -/
def LiRo (base : Nat) (v : Value) (l : List Ro) (w : World) : Prop := w.ownsRow base 62 5 v l.length (l.flatMap Ro.cells) ∧ ∀ x ∈ l, x.By (but base v) w
theorem LiRo.bel {base : Nat} {v : Value} {l : List Ro} {w w' : World} (h : LiRo base v l w) (k : Below w.heap.size w w') : LiRo base v l w' := ⟨owns_below h.1 k, fun x hx => Ro.By.kq (h.2 x hx) ((Kq.refl _ _).bel k)⟩
theorem LiRo.kp {base b : Nat} {v : Value} {l : List Ro} {w w' : World} (h : LiRo base v l w) (k : Kp b w w') (hb : b < base) : LiRo base v l w' := ⟨owns_kp h.1 k hb, fun x hx => Ro.By.kq (h.2 x hx) ((Kq.refl _ _).kp k (but_lt hb))⟩
/-- What oneMore comes to. -/
def BackRo (b g cap base : Nat) (toks : List Out) (x : List Ro × S) (w : World) (r : Ending) (w' : World) : Prop :=
  ∃ v l, r = .returned v ∧ l.map Ro.clr = x.1 ∧ LiRo base v l w' ∧ At b g cap toks x.2 w' ∧ Kf b base w w'
set_option maxRecDepth 100000 in
set_option maxHeartbeats 2000000 in
theorem oneMore_Ro (rd : S → Ro × S) (most : Nat) (v : Value) (l : List Ro) (base b g cap : Nat) (toks : List Out) (s : S) (w : World) (A : At b g cap toks s w) (Li : LiRo base v l w) (hbase : base ≤ w.heap.size) (hbb : b < base) (hgb : g < base) (hlen : l.length ≤ 200000)
    (hrd : ∀ W, At b g cap toks (s.full (decide (most ≤ l.length))) W → Kf b base w W → Calls Tryz.prog 73 #[.pointer (some ⟨b, 0, none⟩)] W (RoBk b g cap toks (rd (s.full (decide (most ≤ l.length)))) W)) :
    Calls Tryz.prog 72 #[.pointer (some ⟨b, 0, none⟩), v, .int .i64 (most : Int), .func (.func 73) #[.pointer (some ⟨b, 0, none⟩)] #[]] w (BackRo b g cap base toks (oneMore (l.map Ro.clr) most rd s) w) := by
  obtain ⟨i0, hi, hz0, hz1, hz2⟩ := info_parts Tryz.info62
  have Kk := Kf.refl b base w
  obtain ⟨ad0, cp0, hv, -⟩ := sl_of_own Ro.cells_len Li.1
  have HV := hid hv
  have HX : Hid (oneMore (l.map Ro.clr) most rd s = (l.map Ro.clr ++ [(rd (s.full (decide (most ≤ l.length)))).1], (rd (s.full (decide (most ≤ l.length)))).2)) := by show _ = _; unfold oneMore; rw [List.length_map]
  obtain ⟨X, hX⟩ : ∃ X, oneMore (l.map Ro.clr) most rd s = X := ⟨_, rfl⟩
  rw [hX] at HX ⊢
  rw [HX.out]
  clear hX HX
  subst hv
  clear HV
  by_cases hm : most ≤ l.length
  · have HE : Hid (∀ W, At b g cap toks (s.refuse 6).pass W → At b g cap toks (s.full (decide (most ≤ l.length))) W) := fun W hW => by rw [decide_eq_true hm]; exact hW
    have hmi : (most : Int) ≤ (l.length : Int) := by omega
    obtain ⟨sF, hsF⟩ : ∃ sF, s.full (decide (most ≤ l.length)) = sF := ⟨_, rfl⟩
    rw [hsF] at hrd HE ⊢
    clear hsF
    go_enter Tryz.func72, Tryz.ntmps72
    go_wp2_with (first
          | (go_at_call 63; (with_reducible refine (refuse_any 6 b g cap toks _ _ A).mono ?_); rintro r u1 ⟨rfl, A, k⟩; have Li := Li.kp k hbb; have Kk := Kk.kp k)
          | (go_at_call 110; (with_reducible refine (pass_any b g cap toks _ _ A).mono ?_); rintro r u2 ⟨rfl, A, k⟩; have Li := Li.kp k hbb; have Kk := Kk.kp k; have A := HE.out _ A)
          | (go_at_call 73; (with_reducible refine (hrd _ A Kk).mono ?_); rintro r u3 ⟨nm, star, cnt, ad, cp, body, po, rfl, hclr, hBy, A, k⟩; have hzc := Kk.size; have Li0 := Li; have Li := Li.kp k hbb; have Kk := Kk.kp k)
          | (at_builtin; refine wpList_append_own2 rfl _ _ 35 rfl base 62 i0 (.agg #[.string ⟨#[]⟩, .bool false, .int .i64 0, .slice none 0 0, .int .i64 0]) 5 64 Tryz.underlying35 hi hz0 hz1 hz2 rfl (by decide) _ _ _ rfl (Li.1.alloc _) ⟨u3.heap.size, 0, none⟩ 1 1 (#[.string nm, .bool star, .int .i64 cnt, .slice ad body.length cp, .int .i64 po]).toList rfl rfl (news_of (newB' _ _ _ _ rfl)) ?c1 (by decide) ?c2 ?c3 ?c4 ?_))
    case c1 => exact ⟨rfl, rfl, rfl, rfl, rfl⟩
    case c2 => unfold maxLen; omega
    case c3 => omega
    case c4 => have := Kk.size; simp; omega
    intro v' u4 hown' hgrow hwh
    have hwh2 : v'.ownBlock = (Value.slice ad0 l.length cp0).ownBlock ∨ v'.ownBlock = some ((u3.alloc (.cells #[.string nm, .bool star, .int .i64 cnt, .slice ad body.length cp, .int .i64 po] 62)).heap.size) := by simpa using hwh
    have hel2 : ∀ x ∈ l, x.By (but base v') u4 := fun x hx => grow_by (B := fun Q w => x.By Q w) (fun _ _ _ h1 h2 => Ro.By.kq h1 h2) (fun _ _ _ h1 h2 => Ro.By.weak h1 h2) (Ro.By.kq (Li.2 x hx) ((Kq.refl _ _).al _)) hgrow hwh2
    have hnew : (Ro.mk nm star cnt (.mk ad cp body) po).By (but base v') u4 := by
      refine grow_by (B := fun Q w => (Ro.mk nm star cnt (.mk ad cp body) po).By Q w) (fun _ _ _ h1 h2 => Ro.By.kq h1 h2) (fun _ _ _ h1 h2 => Ro.By.weak h1 h2) ?_ hgrow hwh2
      refine Ro.By.kq (Ro.By.weak hBy (fun k hk _ => but_iff.2 ⟨Nat.le_trans (Nat.le_trans hbase hzc) (from_iff.1 hk), fun e1 => ?_⟩)) ((Kq.refl _ _).al _)
      have h1 := (Li0.1.lt k e1).2
      have h2 := from_iff.1 hk
      omega
    have A := (A.al (.cells #[.string nm, .bool star, .int .i64 cnt, .slice ad body.length cp, .int .i64 po] 62)).grown (Li.1.alloc _) hgrow hbb hgb
    have Kk := (Kk.al (.cells #[.string nm, .bool star, .int .i64 cnt, .slice ad body.length cp, .int .i64 po] 62)).grown (Li.1.alloc _) hgrow
    clear hgrow hwh hwh2 Li Li0 hBy
    go_wp2
    go_ret
    refine ⟨v', l ++ [Ro.mk nm star cnt (.mk ad cp body) po], rfl, ?_, ⟨?_, ?_⟩, A, Kk⟩
    · rw [List.map_append, List.map_cons, List.map_nil, hclr]
    · rw [List.length_append, List.flatMap_append]; exact hown'
    · intro x hx
      rcases List.mem_append.1 hx with hx | hx
      · exact hel2 x hx
      · rw [List.mem_singleton.1 hx]; exact hnew
  · have HE : Hid (∀ W, At b g cap toks s.pass W → At b g cap toks (s.full (decide (most ≤ l.length))) W) := fun W hW => by rw [decide_eq_false hm]; exact hW
    have hmi : ¬ (most : Int) ≤ (l.length : Int) := by omega
    have hmd : decide ((most : Int) ≤ (l.length : Int)) = false := by simp only [decide_eq_false_iff_not]; exact hmi
    obtain ⟨sF, hsF⟩ : ∃ sF, s.full (decide (most ≤ l.length)) = sF := ⟨_, rfl⟩
    rw [hsF] at hrd HE ⊢
    clear hsF
    go_enter Tryz.func72, Tryz.ntmps72
    go_wp2_with (first
          | (go_at_call 110; (with_reducible refine (pass_any b g cap toks _ _ A).mono ?_); rintro r u2 ⟨rfl, A, k⟩; have Li := Li.kp k hbb; have Kk := Kk.kp k; have A := HE.out _ A)
          | (go_at_call 73; (with_reducible refine (hrd _ A Kk).mono ?_); rintro r u3 ⟨nm, star, cnt, ad, cp, body, po, rfl, hclr, hBy, A, k⟩; have hzc := Kk.size; have Li0 := Li; have Li := Li.kp k hbb; have Kk := Kk.kp k)
          | (at_builtin; refine wpList_append_own2 rfl _ _ 35 rfl base 62 i0 (.agg #[.string ⟨#[]⟩, .bool false, .int .i64 0, .slice none 0 0, .int .i64 0]) 5 64 Tryz.underlying35 hi hz0 hz1 hz2 rfl (by decide) _ _ _ rfl (Li.1.alloc _) ⟨u3.heap.size, 0, none⟩ 1 1 (#[.string nm, .bool star, .int .i64 cnt, .slice ad body.length cp, .int .i64 po]).toList rfl rfl (news_of (newB' _ _ _ _ rfl)) ?c1 (by decide) ?c2 ?c3 ?c4 ?_))
    case c1 => exact ⟨rfl, rfl, rfl, rfl, rfl⟩
    case c2 => unfold maxLen; omega
    case c3 => omega
    case c4 => have := Kk.size; simp; omega
    intro v' u4 hown' hgrow hwh
    have hwh2 : v'.ownBlock = (Value.slice ad0 l.length cp0).ownBlock ∨ v'.ownBlock = some ((u3.alloc (.cells #[.string nm, .bool star, .int .i64 cnt, .slice ad body.length cp, .int .i64 po] 62)).heap.size) := by simpa using hwh
    have hel2 : ∀ x ∈ l, x.By (but base v') u4 := fun x hx => grow_by (B := fun Q w => x.By Q w) (fun _ _ _ h1 h2 => Ro.By.kq h1 h2) (fun _ _ _ h1 h2 => Ro.By.weak h1 h2) (Ro.By.kq (Li.2 x hx) ((Kq.refl _ _).al _)) hgrow hwh2
    have hnew : (Ro.mk nm star cnt (.mk ad cp body) po).By (but base v') u4 := by
      refine grow_by (B := fun Q w => (Ro.mk nm star cnt (.mk ad cp body) po).By Q w) (fun _ _ _ h1 h2 => Ro.By.kq h1 h2) (fun _ _ _ h1 h2 => Ro.By.weak h1 h2) ?_ hgrow hwh2
      refine Ro.By.kq (Ro.By.weak hBy (fun k hk _ => but_iff.2 ⟨Nat.le_trans (Nat.le_trans hbase hzc) (from_iff.1 hk), fun e1 => ?_⟩)) ((Kq.refl _ _).al _)
      have h1 := (Li0.1.lt k e1).2
      have h2 := from_iff.1 hk
      omega
    have A := (A.al (.cells #[.string nm, .bool star, .int .i64 cnt, .slice ad body.length cp, .int .i64 po] 62)).grown (Li.1.alloc _) hgrow hbb hgb
    have Kk := (Kk.al (.cells #[.string nm, .bool star, .int .i64 cnt, .slice ad body.length cp, .int .i64 po] 62)).grown (Li.1.alloc _) hgrow
    clear hgrow hwh hwh2 Li Li0 hBy
    go_wp2
    go_ret
    refine ⟨v', l ++ [Ro.mk nm star cnt (.mk ad cp body) po], rfl, ?_, ⟨?_, ?_⟩, A, Kk⟩
    · rw [List.map_append, List.map_cons, List.map_nil, hclr]
    · rw [List.length_append, List.flatMap_append]; exact hown'
    · intro x hx
      rcases List.mem_append.1 hx with hx | hx
      · exact hel2 x hx
      · rw [List.mem_singleton.1 hx]; exact hnew
end Go.Proofs.YtaekbgljbgmchaaGreatDoor
