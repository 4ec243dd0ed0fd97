/-
  Round of package held: whether nests go round.
-/
import Derived.Test.YthdkgfmlihgceaaHdP
import Derived.Test.YthdkgfmlihgceaaHdB
namespace Go.Proofs.Ythdkgfmlihgceaa
open Go.RowKit
theorem zeroI (W : World) : (zeroValue 3).run Try.prog W = .ok (.int .i64 0) W := by kernel_rfl
/-- A map from numbers to numbers, 0 where there is none. -/
def NMap (W : World) (k : Nat) (I : Int → Int) : Prop := ∃ V, IMap W k V ∧ ∀ n, (V n).getD (.int .i64 0) = .int .i64 (I n)
theorem NMap.lt {W : World} {k : Nat} {I : Int → Int} (h : NMap W k I) : k < W.heap.size := by obtain ⟨V, h, _⟩ := h; exact h.lt
theorem NMap.kept {W W' : World} {k : Nat} {I : Int → Int} (h : NMap W k I) (hb : W'.heap[k]? = W.heap[k]?) : NMap W' k I := by obtain ⟨V, h, h2⟩ := h; exact ⟨V, h.kept hb, h2⟩
theorem NMap.below {W W' : World} {k n : Nat} {I : Int → Int} (h : NMap W k I) (hb : Below n W W') (hn : k < n) : NMap W' k I := h.kept (hb.block k hn)
theorem NMap.al {W : World} {k : Nat} {I : Int → Int} (h : NMap W k I) (o : Obj) : NMap (W.alloc o) k I := h.kept (Below.heap_alloc _ _ _ h.lt)
theorem NMap.grown {W W' : World} {k : Nat} {I : Int → Int} {row : Option Nat} (h : NMap W k I) (hg : W.grownBy W' row) (hne : some k ≠ row) : NMap W' k I := h.kept (hg.block k h.lt hne)
theorem NMap.new (W : World) : NMap (W.alloc (.map #[] 0)) W.heap.size (fun _ => 0) := ⟨_, IMap.new W, fun _ => rfl⟩
theorem NMap.look {W : World} {k : Nat} {I : Int → Int} (h : NMap W k I) (n : Int) : (Instr.lookup 63 (.map (some k)) (.int .i64 n) false).run Try.prog W = .ok (.int .i64 (I n)) W := by
  obtain ⟨V, h, h2⟩ := h
  rw [h.look Try.underlying63 (zeroI W) n, h2]
theorem NMap.put {W : World} {k : Nat} {I : Int → Int} (h : NMap W k I) (n v : Int) : ∃ W', (Instr.mapUpdate 63 (.map (some k)) (.int .i64 n) (.int .i64 v)).run Try.prog W = .ok () W' ∧ NMap W' k (fun x => if x = n then v else I x) ∧ W.grownBy W' (some k) ∧ W'.heap.size = W.heap.size := by
  obtain ⟨V, h, h2⟩ := h
  obtain ⟨W', h3, h4, h5, h6⟩ := h.put Try.underlying63 n (.int .i64 v)
  refine ⟨W', h3, ⟨_, h4, fun x => ?_⟩, h5, h6⟩
  rw [getD_putV]
  by_cases e : x = n
  · rw [if_pos e]; simp [e]
  · rw [if_neg e, h2]; simp [e]
theorem nodup_sub : ∀ (l U : List Int), l.Nodup → (∀ x ∈ l, x ∈ U) → l.length ≤ U.length := by
  intro l
  induction l with
  | nil => intro U _ _; simp
  | cons x l ih =>
    intro U hn h
    obtain ⟨h1, h2⟩ := List.nodup_cons.1 hn
    have hx := h x (by simp)
    have := ih (U.erase x) h2 (fun y hy => (List.mem_erase_of_ne (fun e => h1 (by rw [← e]; exact hy))).2 (h y (by simp [hy])))
    rw [List.length_erase_of_mem hx] at this
    have := List.length_pos_of_mem hx
    rw [List.length_cons]
    omega
theorem innerN_snoc (l : List (Int × Int)) (k : Nat) (h : k < l.length) : (fun x => (innerN (l.take (k + 1)) x : Int)) = fun x => if x = l[k].2 then (innerN (l.take k) l[k].2 : Int) + 1 else (innerN (l.take k) x : Int) := by
  funext x
  rw [List.take_succ_eq_append_getElem h]
  unfold innerN
  rw [List.filter_append, List.length_append]
  by_cases e : x = l[k].2
  · subst e; simp
  · have : ¬ l[k].2 = x := fun h => e h.symm
    simp [e, this]
theorem innerN_le (l : List (Int × Int)) (x : Int) : innerN l x ≤ l.length := List.length_filter_le _ _
theorem leadsN_snoc (l : List (Int × Int)) (k : Nat) (h : k < l.length) : (fun v => leadsN (l.take (k + 1)) v) = putG (fun v => leadsN (l.take k) v) l[k].1 (leadsN (l.take k) l[k].1 ++ [l[k].2]) := by
  funext v
  unfold putG
  rw [List.take_succ_eq_append_getElem h]
  unfold leadsN
  rw [List.filter_append, List.map_append]
  by_cases e : v = l[k].1
  · rw [if_pos e, e]; simp
  · have : ¬ l[k].1 = v := fun h => e h.symm
    rw [if_neg e]; simp [this]
theorem leadsN_len (l : List (Int × Int)) (v : Int) : (leadsN l v).length ≤ l.length := by
  unfold leadsN; rw [List.length_map]; exact List.length_filter_le _ _
theorem leadsN_ne {l : List (Int × Int)} {v : Int} : leadsN l v ≠ [] ↔ ∃ n ∈ l, n.1 = v := by
  unfold leadsN
  rw [ne_eq, List.map_eq_nil_iff, List.filter_eq_nil_iff]
  simp
theorem leadsN_mem {l : List (Int × Int)} {v z : Int} (h : z ∈ leadsN l v) : ∃ n ∈ l, n.2 = z := by
  unfold leadsN at h
  obtain ⟨n, hn, rfl⟩ := List.mem_map.1 h
  exact ⟨n, (List.mem_filter.1 hn).1, rfl⟩
def ends (l : List (Int × Int)) : List Int := l.map Prod.fst ++ l.map Prod.snd
theorem ends_len (l : List (Int × Int)) : (ends l).length = 2 * l.length := by simp [ends]; omega
theorem GMap.keptN {W W' : World} {base k bI : Nat} {G : Int → List Int} {I : Int → Int} (h : GMap W base k G) (hI : NMap W bI I) (hne : bI ≠ k) (hg : W.grownBy W' (some bI)) : GMap W' base k G := by
  obtain ⟨V', hI', _⟩ := hI
  obtain ⟨h0, V, h1, h2, h3, h4⟩ := h
  exact ⟨h0, V, h1.grown hg (fun e => hne (by injection e with e; exact e.symm)), fun n => (h2 n).kept hg (.inr (owns_notMap hI' (h2 n))), h3, h4⟩
def RoundBack (l : List (Int × Int)) (w w' : World) (r : Ending) : Prop := ∃ b, r = .returned (.bool b) ∧ (b = true ↔ Rnd l) ∧ Below w.heap.size w w'
theorem own_iter {w : World} {base size n : Nat} {e : TypeId} {v : Value} {xs : List Value} (h : w.ownsRow base e size v n xs) {k r : Nat} {V : Int → Option Value} {left : Int → Prop} {cnt : Nat} (hr : IRan w k r V left cnt) : v.ownBlock ≠ some r := by
  obtain ⟨es, clock, since, seen, c0, _, hr, _⟩ := hr
  rcases h.2 with ⟨rfl, _⟩ | ⟨g, cap, cur, rfl, hb, hgb, _⟩
  · simp [Value.ownBlock]
  · intro e'
    obtain rfl : g = r := by simpa [Value.ownBlock] using e'
    rw [hgb] at hr; cases hr
/-- A row that the map of who leads where holds, where all stands but one other map and what is new. -/
theorem GMap.fix2 {W : World} {base k bI : Nat} {G : Int → List Int} {I : Int → Int} (h : GMap W base k G) (hI : NMap W bI I) (hne : bI ≠ k) (n : Int) : ∃ ad cp, SlAt 1 icell W.heap.size W ad cp (G n) ∧ (∀ a, ad = some a → a.block ≠ bI) ∧ ∀ W', W.grownBy W' (some bI) → (Instr.lookup 62 (.map (some k)) (.int .i64 n) false).run Try.prog W' = .ok (.slice ad (G n).length cp) W' := by
  obtain ⟨V', hI', _⟩ := hI
  obtain ⟨_, V, h1, h2, _⟩ := h
  obtain ⟨ad, cp, e, hs⟩ := sl_own (h2 n)
  refine ⟨ad, cp, hs, fun a ha => ?_, fun W' hW => ?_⟩
  · have := owns_notMap hI' (h2 n)
    rw [e, ha] at this
    intro e2; apply this; rw [← e2]; rfl
  · have := (h1.grown hW (fun e => hne (by injection e with e; exact e.symm))).look Try.underlying62 (zero32 W') n
    rw [e] at this
    exact this
set_option maxRecDepth 100000 in
set_option maxHeartbeats 40000000 in
theorem round_any (l : List (Int × Int)) (ad : Option Addr) (cap n₀ : Nat) (w : World) (hn : n₀ ≤ w.heap.size) (hsl : SlAt 2 ncells n₀ w ad cap l) (hl : l.length ≤ 1000000) :
    Calls Try.prog 16 #[.slice ad l.length cap] w fun r w' => RoundBack l w w' r := by
  have hl1 := hsl.1; have hl2 := hsl.2.1
  unfold maxLen at hl2
  have hmm := @run_makeMap Try.prog
  have hG0 := (GMap.new w w.heap.size (Nat.le_refl _)).below ((Below.refl _ _).al le_rfl' (.map #[] 0))
  have hI0 := NMap.new (w.alloc (.map #[] 0))
  rw [World.size_alloc] at hI0
  obtain ⟨i0, hi, hz0, hz1, hz2⟩ := info_of info3
  go_enter Try.func16, Try.ntmps16
  go_wp2
  go_loopw [17] (fun i wr => ∃ k : Nat, i = .int .i64 k ∧ k ≤ l.length ∧ GMap wr w.heap.size w.heap.size (fun v => leadsN (l.take k) v) ∧ NMap wr (w.heap.size + 1) (fun x => (innerN (l.take k) x : Int)) ∧ Below w.heap.size w wr)
    (fun i _ => l.length - (intOf i).toNat)
  case atStart => exact ⟨0, rfl, by omega, hG0, hI0, ((Below.refl _ _).al le_rfl' _).al le_rfl' _⟩
  case round =>
    obtain ⟨k, rfl, hk, hG, hI, hbw⟩ := hrel
    clear hG0 hI0
    have hzw := hbw.size
    by_cases hlt : k < l.length
    · have hkd : decide ((k : Int) < (l.length : Int)) = true := by simp; omega
      rcases hsl.2.2 with h | ⟨nb, noff, rfl, hnb, hnrow⟩
      · subst h; simp at hlt
      have hr2 := hnrow.below (hbw.mono hn) hnb
      have d0 := hr2 k hlt 0 (by omega)
      have d1 := hr2 k hlt 1 (by omega)
      have HG := hid (leadsN_snoc l k hlt)
      have HI := hid (innerN_snoc l k hlt)
      have hnw : nb < wr.heap.size := by omega
      have hlen := leadsN_len (l.take k) l[k].1
      have hin := innerN_le (l.take k) l[k].2
      rw [List.length_take] at hlen hin
      rcases hx : l[k] with ⟨o1, o2⟩
      rw [hx] at HG HI hlen hin d0 d1
      simp only [ncells] at d0 d1 HG HI hlen hin
      simp at d0 d1
      clear hr2 hnrow hx
      obtain ⟨bE, hBE, hzE⟩ := one_box wr #[.int .i64 o1, .int .i64 o2] 42
      have hG2 := hG.below hBE
      have hI2 := hI.al (.cells #[.int .i64 o1, .int .i64 o2] 42)
      go_wp2_with fail
      obtain ⟨W0, hW0⟩ : ∃ W0, wr.alloc (.cells #[.int .i64 o1, .int .i64 o2] 42) = W0 := ⟨_, rfl⟩
      rw [hW0] at bE hBE hzE hG2 hI2 ⊢
      have hGl := hG.lt
      clear hW0 hG hI
      obtain ⟨v, hlk, hown, hback⟩ := hG2.look Try.underlying62 zero32 o1
      obtain ⟨xs, hxs⟩ : ∃ xs, leadsN (l.take k) o1 = xs := ⟨_, rfl⟩
      obtain ⟨c, hc⟩ : ∃ c : Nat, innerN (l.take k) o2 = c := ⟨_, rfl⟩
      rw [hxs] at hown HG hlen
      rw [hc] at HI hin
      have HZ := hid hzE
      have HBK := hid hback
      have HC := hid hc
      clear hxs hzE hback hc
      have L1 := hlk W0.drew (Below.drew (Below.refl _ _))
      have L2 := hlk (W0.alloc (.cells #[.int .i64 o2] 3)).drew (Below.drew ((Below.refl _ _).al le_rfl' _))
      have ownD := hown.alloc (.cells #[.int .i64 o2] 3)
      have e0 := cellOf bE 0
      have e1 := cellOf bE 1
      simp at e0 e1
      have hzw2 : wr.heap.size < W0.heap.size := by have := HZ.out; omega
      have HNE : Hid (v.ownBlock ≠ some wr.heap.size) := own_ne hown bE (by decide)
      have HLO : Hid (∀ g, v.ownBlock = some g → w.heap.size ≤ g) := fun g hg => (hown.lt g hg).1
      have HNI : Hid (v.ownBlock ≠ some (w.heap.size + 1)) := by obtain ⟨V, hV, _⟩ := hI2; exact owns_notMap hV hown
      have hI2d : NMap (W0.alloc (.cells #[.int .i64 o2] 3)).drew (w.heap.size + 1) (fun x => (innerN (l.take k) x : Int)) := (hI2.al (.cells #[.int .i64 o2] 3)).kept rfl
      go_region_law (refine step_append_lies _ (by rfl) _ _ _ (by rfl) w.heap.size 3 i0 (.int .i64 0) 1 8 Try.underlying32 hi hz0 hz1 hz2 rfl (by decide) v xs.length (ints xs) (by rfl) ownD ⟨W0.heap.size, 0, none⟩ 1 1 [.int .i64 o2] (by rfl) (by rfl) (World.news_of_block (cs := #[.int .i64 o2]) (t := 3) (fr := (0, 0)) (heapNew _ _)) (by simp [Value.oneCell']) (by decide) (by unfold maxLen; omega) (by omega) (by simp; omega) (W0.heap.size + 1) (by simp) ?_; intro g cap w1 hown1 hgrow hat hlt1; have bE1 := (hgrow.block wr.heap.size (by simp; omega) (fun e => HNE.out e.symm)).trans ((Below.heap_alloc W0 (.cells #[.int .i64 o2] 3) _ hzw2).trans bE); have c0 := cellOf bE1 0; have c1 := cellOf bE1 1; simp at c0 c1; obtain ⟨W2, hput, hG3, hg2, hz2'⟩ := HBK.out _ w1 g _ cap (xs ++ [o2]) (Below.drew ((Below.refl _ _).al le_rfl' (.cells #[.int .i64 o2] 3))) hgrow (by simpa [ints] using hown1) (by simp) (by rcases hat with h | h; exact .inl h; exact .inr (by omega)); have B1 : Below w.heap.size _ W2 := ((((hbw.trans (hBE.mono hzw)).al le_rfl' (.cells #[.int .i64 o2] 3)).drew).grown hgrow (by have := HZ.out; simp; omega) HLO.out).grown hg2 (by have := hgrow.size; have := HZ.out; simp at *; omega) (fun j hj => by cases hj; exact Nat.le_refl _); have hI3 := (hI2d.grown (row := v.ownBlock) (W' := w1) hgrow (fun e => HNI.out e.symm)).grown hg2 (by intro e; injection e with e; omega); have bE2 := (hg2.block wr.heap.size (by have := hgrow.size; simp at this; omega) (by intro e; injection e with e; omega)).trans bE1; have HZ2 := hid hz2'; clear hz2')
      all_goals
        have L3 := hI3.look o2
        obtain ⟨W5, hput2, hI4, hg5, hz5⟩ := hI3.put o2 ((innerN (l.take k) o2 : Int) + 1)
        rw [HC.out] at L3 hput2 hI4
        have c2 := cellOf bE2 1
        simp at c2
        have hG4 := hG3.keptN hI3 (by omega) hg5
        have B5 := B1.grown hg5 (by have := B1.size; omega) (fun j hj => by cases hj; omega)
        rw [← HI.out] at hI4
        clear L1 L2 ownD hown e0 e1 bE c0 c1 hput hlk hz5
        go_wp2
        go_roundw
        case rel => exact ⟨k + 1, by go_num, by omega, by rw [HG.out]; exact hG4, hI4, B5⟩
        case measure => simp [intOf]; omega
    · have hkd : decide ((k : Int) < (l.length : Int)) = false := by simp; omega
      have hke : l.take k = l := List.take_of_length_le (by omega)
      rw [hke] at hG hI
      clear hke
      obtain ⟨wo, hwo⟩ : ∃ wo : World, wo = wr := ⟨_, rfl⟩
      subst hwo
      have hGk := hG
      have HFX := hid (fun n => hG.fix2 hI (by omega) n)
      obtain ⟨_, V, hM, _, hsome, _⟩ := hGk
      have HSOME : Hid (∀ z, (V z).isSome = true ↔ ∃ n ∈ l, n.1 = z) := fun z => (hsome z).trans leadsN_ne
      have hGl := hG.lt
      have hIl := hI.lt
      obtain ⟨W4, cnt, hrg, hRan, hb4, hz4⟩ := hM.range Try.underlying62
      have HZ4 := hid hz4
      clear hsome hM hG hz4
      go_wp2
      clear hrg
      go_loopw [7] (fun v wx => ∃ left cnt fr v', v = v' ∧ IRan wx w.heap.size wo.heap.size V left cnt ∧ wx.ownsRow wo.heap.size 3 1 v' fr.length (ints fr) ∧ Hid fr.Nodup ∧ Hid (∀ z, z ∈ fr ↔ ((V z).isSome = true ∧ ¬ left z ∧ innerN l z = 0)) ∧ Below wo.heap.size wo wx)
        (fun _ w' => w'.rangeLeft w.heap.size wo.heap.size)
      case atStart => exact ⟨_, cnt, [], _, rfl, hRan, World.ownsRow_nil _ _ _ _, List.nodup_nil, fun z => ⟨fun h => (by cases h), fun h => absurd h.1 h.2.1⟩, hb4⟩
      case round =>
        obtain ⟨left, cnt, fr, v, hv, hR, hown, HND, HMEM, hby⟩ := hrel
        have hv2 := hv.symm
        subst hv2
        clear hv hRan hb4 HZ4
        have hzx := hby.size
        have hle := nodup_sub fr (ends l) HND.out (fun z hz => by
          obtain ⟨n, hn', e⟩ := (HSOME.out z).1 ((HMEM.out z).1 hz).1
          exact List.mem_append.2 (.inl (List.mem_map.2 ⟨n, hn', e⟩)))
        rw [ends_len] at hle
        rcases hR.next 0 with ⟨h0, hnone, hrun⟩ | ⟨n, u, W', cnt', hln, hVn, hrun, hR', hcl, hg', hs', hent⟩
        · have hKi : Ki l fr 0 [] (fun x => (innerN l x : Int)) (l.length : Int) := Ki.first HND.out (fun k => rfl) (fun k hk => by have := ((HMEM.out k).1 hk).2.2; omega) (fun n hn' hz => (HMEM.out n.1).2 ⟨(HSOME.out n.1).2 ⟨n, hn', rfl⟩, hnone n.1, by omega⟩)
          have HKI := hid hKi
          have HEN : Hid (∀ x ∈ fr, x ∈ ends l) := fun z hz => by
            obtain ⟨n, hn', e⟩ := (HSOME.out z).1 ((HMEM.out z).1 hz).1
            exact List.mem_append.2 (.inl (List.mem_map.2 ⟨n, hn', e⟩))
          have hIr := hI.below hby hIl
          have hgr : wo.grownBy wr (some (w.heap.size + 1)) := ⟨hby.os, hby.tape, hby.output, hby.size, fun j hj _ => hby.block j hj⟩
          clear hKi HND HMEM hnone h0 hR hI
          go_wp2
          clear hrun
          go_loopw [7, 9, 10] (fun v lf i wx => ∃ (fr : List Int) (i' : Nat) (I : Int → Int) (lf' : Int) (v' : Value), v = v' ∧ lf = .int .i64 lf' ∧ i = .int .i64 i' ∧ i' ≤ fr.length ∧ wx.ownsRow wo.heap.size 3 1 v' fr.length (ints fr) ∧ NMap wx (w.heap.size + 1) I ∧ Hid (Ki l fr i' [] I lf') ∧ Hid (∀ x ∈ fr, x ∈ ends l) ∧ wo.grownBy wx (some (w.heap.size + 1)))
            (fun _ _ i _ => 2 * l.length + 1 - (intOf i).toNat)
          case atStart => exact ⟨fr, 0, _, _, _, rfl, rfl, rfl, by omega, hown, hIr, HKI, HEN, hgr⟩
          case round =>
            clear hown hIr HKI HEN hgr hle hby
            obtain ⟨fr, i, I, lf, v, hv, rfl, rfl, hil, hown, hI, HKI, HEN, hgr⟩ := hrel
            have hv2 := hv.symm
            subst hv2
            clear hv
            have hle := nodup_sub fr (ends l) HKI.out.nodup HEN.out
            rw [ends_len] at hle
            have hzr := hgr.size
            obtain ⟨lad, lcp, rfl, hlsl⟩ := sl_own hown
            have hll1 := hlsl.1; have hll2 := hlsl.2.1
            unfold maxLen at hll2
            have HLF := hid HKI.out.lft
            have hlf2 : 0 ≤ lf ∧ lf ≤ 1000000 := by
              have := HLF.out
              have h2 : (remN l (fr.take i)).length ≤ l.length := List.length_filter_le _ _
              simp at this
              omega
            by_cases hit : i < fr.length
            · have hid2 : decide ((i : Int) < (fr.length : Int)) = true := by simp; omega
              rcases hlsl.2.2 with h | ⟨lb, loff, rfl, hlb2, hlrow⟩
              · subst h; simp at hit
              have g0 := hlrow i hit 0 (by omega)
              simp only [icell] at g0
              simp at g0
              have HKB := hid (HKI.out.begin hit)
              obtain ⟨p, hp⟩ : ∃ p, fr[i] = p := ⟨_, rfl⟩
              rw [hp] at g0 HKB
              clear hp
              obtain ⟨kad, kcp, hksl, hkne, hklk⟩ := HFX.out p
              have L1 := hklk wr hgr
              have hkr := hksl.grown (Nat.le_refl _) hgr hkne
              have hil2 := leadsN_len l p
              have HIX : Hid (∀ z ∈ leadsN l p, z ∈ ends l) := fun z hz => by
                obtain ⟨n, hn', e⟩ := leadsN_mem hz
                exact List.mem_append.2 (.inr (List.mem_map.2 ⟨n, hn', e⟩))
              obtain ⟨ix, hix⟩ : ∃ ix, leadsN l p = ix := ⟨_, rfl⟩
              rw [hix] at hksl L1 hkr hil2 HIX HKB
              have hkl1 := hksl.1; have hkl2 := hksl.2.1
              unfold maxLen at hkl2
              clear hix hklk HKI hlrow hlsl HLF
              have HKS := hid (And.intro hksl hkne)
              go_wp2
              clear g0 L1
              go_loopw [7, 9, 67] (fun v lf c wx => ∃ (fr : List Int) (I : Int → Int) (lf' : Int) (c' : Nat) (v' : Value), v = v' ∧ lf = .int .i64 lf' ∧ c = .int .i64 c' ∧ c' ≤ ix.length ∧ i < fr.length ∧ wx.ownsRow wo.heap.size 3 1 v' fr.length (ints fr) ∧ NMap wx (w.heap.size + 1) I ∧ Hid (Ki l fr (i + 1) (ix.drop c') I lf') ∧ Hid (∀ x ∈ fr, x ∈ ends l) ∧ wo.grownBy wx (some (w.heap.size + 1)))
                (fun _ _ c _ => ix.length - (intOf c).toNat)
              case atStart => exact ⟨fr, I, lf, 0, _, rfl, rfl, rfl, by omega, hit, hown, hI, by rw [List.drop_zero]; exact HKB, HEN, hgr⟩
              case round =>
                clear hown hI HKB HEN hgr hlf2 hle hkr hll1 hll2 hlb2 hil hid2
                obtain ⟨fr, I, lf, c, v, hv, rfl, rfl, hcl, hit2, hown, hI, HKI, HEN, hgr⟩ := hrel
                have hv2 := hv.symm
                subst hv2
                clear hv
                have hle := nodup_sub fr (ends l) HKI.out.nodup HEN.out
                rw [ends_len] at hle
                have hzr := hgr.size
                by_cases hct : c < ix.length
                · have hcd : decide ((c : Int) < (ix.length : Int)) = true := by simp; omega
                  have hks := HKS.out.1.grown (Nat.le_refl _) hgr HKS.out.2
                  have hlf2 : 1 ≤ lf ∧ lf ≤ 3000000 := by
                    have := HKI.out.lft
                    have h2 : (remN l (fr.take (i + 1))).length ≤ l.length := List.length_filter_le _ _
                    simp only [List.length_drop] at this
                    omega
                  rcases hks.2.2 with h | ⟨kb, koff, rfl, hkb2, hkrow⟩
                  · subst h; simp at hct
                  have g0 := hkrow c hct 0 (by omega)
                  simp only [icell] at g0
                  simp at g0
                  have hdr : ix.drop c = ix[c] :: ix.drop (c + 1) := List.drop_eq_getElem_cons hct
                  have hxe := HIX.out _ (List.getElem_mem hct)
                  rw [hdr] at HKI
                  obtain ⟨x, hx⟩ : ∃ x, ix[c] = x := ⟨_, rfl⟩
                  rw [hx] at g0 HKI hxe
                  clear hx hdr hkrow hks
                  have hkw : kb < wr.heap.size := by omega
                  have HXE := hid hxe
                  have hI0 := HKI.out.bound x
                  have hI1 : I x ≤ 2000000 := by
                    have := HKI.out.cnt x
                    have h1 := innerN_le (remN l (fr.take (i + 1))) x
                    have h2 : (remN l (fr.take (i + 1))).length ≤ l.length := List.length_filter_le _ _
                    have h3 := List.count_le_length (a := x) (l := x :: ix.drop (c + 1))
                    simp only [List.length_cons, List.length_drop] at h3
                    omega
                  have L1 := hI.look x
                  obtain ⟨W5, hput, hI5, hg5, hz5⟩ := hI.put x (I x - 1)
                  have L2 := hI5.look x
                  simp only [if_true] at L2
                  have hdec : (fun y => if y = x then I x - 1 else I y) = decF I x := by
                    funext y; unfold decF; by_cases e : y = x <;> simp [e]
                  have HI5 := hid (hdec ▸ hI5)
                  have hgr5 := hgr.andThen hg5 (fun j hj => .inr hj)
                  have hown5 := hown.kept hg5 (.inr (by obtain ⟨V', hV', _⟩ := hI; exact owns_notMap hV' hown))
                  have hw5 : wo.heap.size ≤ W5.heap.size := by omega
                  have hOI : Hid (v.ownBlock ≠ some (w.heap.size + 1)) := by obtain ⟨V', hV', _⟩ := hI; exact owns_notMap hV' hown
                  have HLO : Hid (∀ g, v.ownBlock = some g → wo.heap.size ≤ g) := fun g hg => (hown.lt g hg).1
                  clear hxe hI5 hdec hz5 hI hgr hown
                  by_cases h1 : I x = 1
                  · have hz : I x - 1 = 0 := by omega
                    have HKF := hid (HKI.out.free h1)
                    have HEN2 : Hid (∀ y ∈ fr ++ [x], y ∈ ends l) := fun y hy => by
                      rcases List.mem_append.1 hy with hy | hy
                      · exact HEN.out y hy
                      · rw [List.mem_singleton.1 hy]; exact HXE.out
                    have hb0 : (I x - 1 == 0) = true := by rw [hz]; rfl
                    clear HKI hz h1
                    go_wp2_with (at_builtin; refine wpList_append_lies _ rfl _ _ 32 rfl wo.heap.size 3 i0 (.int .i64 0) 1 8 Try.underlying32 hi hz0 hz1 hz2 rfl (by decide) v fr.length (ints fr) rfl (hown5.alloc _) ⟨W5.heap.size, 0, none⟩ 1 1 [.int .i64 x] rfl rfl (World.news_of_block (cs := #[.int .i64 x]) (t := 3) (fr := (0, 0)) (heapNew _ _)) (by simp [Value.oneCell']) (by decide) (by unfold maxLen; omega) (by omega) (by simp; omega) (W5.heap.size + 1) (by simp) ?_; intro g cap w6 hown6 hgrow hat6 hlt6)
                    go_roundw
                    case rel => exact ⟨fr ++ [x], decF I x, lf - 1, c + 1, _, rfl, rfl, by go_num, by omega, by simp; omega, by simpa [ints] using hown6, (HI5.out.al _).grown hgrow (fun e => hOI.out e.symm), HKF, HEN2, (hgr5.andThen (World.grownBy_alloc W5 _ none) (fun j hj => by cases hj)).andThen hgrow (fun j hj => .inl (HLO.out j hj))⟩
                    case measure => simp [intOf]; omega
                  · have HKF := hid (HKI.out.skip h1)
                    have hb0 : (I x - 1 == 0) = false := by rw [beq_eq_false_iff_ne]; omega
                    clear HKI h1
                    go_wp2
                    go_roundw
                    case rel => exact ⟨fr, decF I x, lf - 1, c + 1, _, rfl, rfl, by go_num, by omega, hit2, hown5, HI5.out, HKF, HEN, hgr5⟩
                    case measure => simp [intOf]; omega
                · have hcd : decide ((c : Int) < (ix.length : Int)) = false := by simp; omega
                  have HK2 : Hid (Ki l fr (i + 1) [] I lf) := by
                    have := HKI.out
                    rwa [List.drop_of_length_le (by omega)] at this
                  clear HKI
                  go_wp2
                  go_roundw
                  case rel => exact ⟨fr, i + 1, I, lf, _, rfl, rfl, by go_num, by omega, hown, hI, HK2, HEN, hgr⟩
                  case measure => simp [intOf]; omega
            · have hid2 : decide ((i : Int) < (fr.length : Int)) = false := by simp; omega
              have hie : i = fr.length := by omega
              have HEND : Hid (0 < lf ↔ Rnd l) := by
                have := HKI.out
                rw [hie] at this
                exact this.end
              clear hie HKI HLF
              go_wp2
              go_ret
              exact ⟨_, rfl, by rw [← HEND.out]; simp, hbw.grown hgr hbw.size (fun j hj => by cases hj; omega)⟩
        · have HND2 : Hid (¬ left n → False) := fun h => h hln
          have L1 := (hI.below (hby.grown hg' hzx (fun j hj => by cases hj; exact Nat.le_refl _)) hIl).look n
          have hownW := hown.kept hg' (.inr (own_iter hown hR))
          have BW := hby.grown hg' hzx (fun j hj => by cases hj; exact Nat.le_refl _)
          have HRL := hid hR.left_eq
          have hkr : w.heap.size < W'.heap.size ∧ wo.heap.size < W'.heap.size := ⟨by have := BW.size; omega, hR'.lt⟩
          obtain ⟨hkw1, hkw2⟩ := hkr
          have HOI := hid (own_iter hown hR)
          have HVN : Hid ((V n).isSome = true) := by show _ = _; rw [hVn]; rfl
          have hnf : n ∉ fr := fun h => ((HMEM.out n).1 h).2.1 hln
          have HNF := hid hnf
          have HLO : Hid (∀ g, v.ownBlock = some g → wo.heap.size ≤ g) := fun g hg => (hown.lt g hg).1
          have HHM : Hid (v.ownBlock ≠ some w.heap.size) := owns_notMap hR.map hown
          clear hnf hs' hown
          by_cases h0 : innerN l n = 0
          · have hb0 : (((innerN l n : Nat) : Int) == 0) = true := by rw [h0]; rfl
            have HND3 : Hid (fr ++ [n]).Nodup := List.nodup_append.2 ⟨HND.out, by simp, fun a ha c hc => by simp at hc; rintro rfl; exact HNF.out (hc ▸ ha)⟩
            have HM3 : Hid (∀ z, z ∈ fr ++ [n] ↔ ((V z).isSome = true ∧ ¬ (left z ∧ z ≠ n) ∧ innerN l z = 0)) := fun z => by
              rw [List.mem_append, List.mem_singleton, HMEM.out z]
              constructor
              · rintro (⟨a, b, c⟩ | rfl)
                · exact ⟨a, fun h => b h.1, c⟩
                · exact ⟨HVN.out, fun h => h.2 rfl, h0⟩
              · rintro ⟨a, b, c⟩
                by_cases e : z = n
                · exact .inr e
                · exact .inl ⟨a, fun h => b ⟨h, e⟩, c⟩
            clear HMEM HND h0
            go_wp2_with (at_builtin; refine wpList_append_lies _ rfl _ _ 32 rfl wo.heap.size 3 i0 (.int .i64 0) 1 8 Try.underlying32 hi hz0 hz1 hz2 rfl (by decide) v fr.length (ints fr) rfl (hownW.alloc _) ⟨W'.heap.size, 0, none⟩ 1 1 [.int .i64 n] rfl rfl (World.news_of_block (cs := #[.int .i64 n]) (t := 3) (fr := (0, 0)) (heapNew _ _)) (by simp [Value.oneCell']) (by decide) (by unfold maxLen; omega) (by omega) (by simp; omega) (W'.heap.size + 1) (by simp) ?_; intro g cap w6 hown6 hgrow hat6 hlt6)
            have hR6 := hR'.kept ((hgrow.block w.heap.size (by simp; omega) (fun e => HHM.out e.symm)).trans (Below.heap_alloc _ _ _ hkw1)) ((hgrow.block wo.heap.size (by simp; omega) (fun e => HOI.out e.symm)).trans (Below.heap_alloc _ _ _ hkw2))
            have hle6 := hR6.left_eq
            go_roundw
            case rel => exact ⟨_, cnt', fr ++ [n], _, rfl, hR6, by simpa [ints] using hown6, HND3, HM3, (BW.al le_rfl' _).grown hgrow (BW.al le_rfl' _).size HLO.out⟩
            case measure => rw [hle6, HRL.out]; exact hcl
          · have hb0 : (((innerN l n : Nat) : Int) == 0) = false := by rw [beq_eq_false_iff_ne]; omega
            have HM3 : Hid (∀ z, z ∈ fr ↔ ((V z).isSome = true ∧ ¬ (left z ∧ z ≠ n) ∧ innerN l z = 0)) := fun z => by
              rw [HMEM.out z]
              constructor
              · rintro ⟨a, b, c⟩; exact ⟨a, fun h => b h.1, c⟩
              · rintro ⟨a, b, c⟩
                by_cases e : z = n
                · rw [e] at c; exact absurd c h0
                · exact ⟨a, fun h => b ⟨h, e⟩, c⟩
            clear HMEM h0
            go_wp2
            have hle6 := hR'.left_eq
            go_roundw
            case rel => exact ⟨_, cnt', fr, _, rfl, hR', hownW, HND, HM3, BW⟩
            case measure => rw [hle6, HRL.out]; exact hcl
end Go.Proofs.Ythdkgfmlihgceaa
