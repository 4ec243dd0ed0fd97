/-
  OwnFirst: its walk: of two lists one behind the other the first one's error is told first.
-/
import Derived.Test.YtfkabkbnfeiggaaDoorWC
import Derived.Test.YtfkabkbnfeiggaaDoorRtA
import Derived.Test.YtfkabkbnfeiggaaDoorNxM
namespace Go.Proofs.YtfkabkbnfeiggaaDoor
open Go.RowKit
theorem sz_subs (x : Bl) : x.subs.length ≤ x.sz := by
  unfold Bl.sz
  generalize x.subs = l
  induction l with
  | nil => simp
  | cons s l ih =>
    have : 1 ≤ s.sz := by unfold St.sz; omega
    simp only [List.length_cons, List.map_cons, List.sum_cons]
    omega
theorem ncells_len (s : ByteArray) : (ncells s).length = 1 := rfl
theorem ncells_one (s : ByteArray) : ∀ u ∈ ncells s, u.oneCell' = true := by
  intro u hu
  have : u = .string s := by simpa [ncells] using hu
  rw [this]; rfl
theorem St.Is.up2 {n₀ n₁ : Nat} {W : World} (hn : n₀ ≤ n₁) {s : St} : s.Is n₀ W → s.Is n₁ W :=
  St.ind (P := fun s => s.Is n₀ W → s.Is n₁ W) (Q := fun b => b.Is n₀ W → b.Is n₁ W) (fun _ _ _ _ _ _ _ _ _ ih h => St.Is.up ⟨h.down.1, h.down.2.1.mono hn, h.down.2.2.1.mono hn, fun b hb' => ih b hb' (h.down.2.2.2 b hb')⟩)
    (fun _ _ _ ih h => Bl.Is.up ⟨h.down.1.mono hn, fun s hs => ih s hs (h.down.2 s hs)⟩) s
theorem subs_ge (l : List St) : l.length ≤ (l.flatMap St.subs).length := by
  induction l with
  | nil => simp
  | cons s l ih =>
    have h2 : 1 ≤ s.subs.length := by
      rcases s with ⟨a, b, c, d, e, f, g, h, i⟩
      rw [St.subs_mk]; simp
    rw [List.flatMap_cons, List.length_append, List.length_cons]
    omega
theorem cat2_is {w W : World} {ad1 ad2 ad : Option Addr} {c1 c2 c : Nat} {l1 l2 : List St} {n : Nat} (h1 : (Bl.mk ad1 c1 l1).Is n w) (h2 : (Bl.mk ad2 c2 l2).Is n w) (hB : Below n w W) (hn : n ≤ W.heap.size) (hs : SlAt 12 St.cells W.heap.size W ad c (l1 ++ l2)) : (Bl.mk ad c (l1 ++ l2)).Is W.heap.size W := by
  refine Bl.Is.up ⟨hs, fun s hs => ?_⟩
  rcases List.mem_append.1 hs with h | h
  · exact ((h1.down.2 s h).below hB).up2 hn
  · exact ((h2.down.2 s h).below hB).up2 hn
theorem cat_sco (f : ByteArray → Bool) (ad1 ad2 ad : Option Addr) (c1 c2 c : Nat) (l1 l2 : List St) : (Bl.mk ad c (l1 ++ l2)).sco f = fstE ((Bl.mk ad1 c1 l1).sco f) ((Bl.mk ad2 c2 l2).sco f) := by
  rw [Bl.sco, Bl.sco, Bl.sco, St.scoL_append]
set_option maxRecDepth 100000 in
set_option maxHeartbeats 16000000 in
theorem first_walk (x y : Bl) (l : List ByteArray) (oad : Option Addr) (ocap : Nat) (w : World) (hS : Shapes w) (hx : x.Is w.heap.size w) (hy : y.Is w.heap.size w) (hl : SlAt 1 ncells w.heap.size w oad ocap l) : Calls Tryd.prog 5 #[x.slice, y.slice, .slice oad l.length ocap] w fun r w' => r = .returned (.bool true) ∧ Below w.heap.size w w' := by
  obtain ⟨i0, hi0, iz0, iz1, iz2⟩ := info_parts info56
  have hS3 := hS.size
  have hrx := fun (W : World) (hW : Below w.heap.size w W) => rest_any w.heap.size x 300 W (by omega) (by omega) hW.size (hx.below hW)
  have hry := fun (W : World) (hW : Below w.heap.size w W) => rest_any w.heap.size y 300 W (by omega) (by omega) hW.size (hy.below hW)
  have hsh := fun (W : World) (hW : Below w.heap.size w W) => short_any l oad ocap w.heap.size W hW.size (hl.below hW)
  have hli := fun (W : World) (hW : Below w.heap.size w W) => live_own W (hS.below hW hS3) (by have := hW.size; omega)
  have hsc := fun (z : Bl) (hz : l.length + z.subs.length ≤ 1000000) (n : Nat) (W : World) (hwn : w.heap.size ≤ n) (hn : n ≤ W.heap.size) (hW : Below w.heap.size w W) (hI : z.Is n W) => scope_any z l oad ocap n W hn hI ((hl.below hW).mono hwn) hz
  have hnum := num_own
  have hzx := sz_subs x
  have hzy := sz_subs y
  have hu0 := Bl.sco_zero (f := ownF l) x
  rcases x with ⟨xad, xcap, xbody⟩
  rcases y with ⟨yad, ycap, ybody⟩
  have HZ : Hid (∀ ad c, (Bl.mk ad c (xbody ++ ybody)).sco (ownF l) = fstE ((Bl.mk xad xcap xbody).sco (ownF l)) ((Bl.mk yad ycap ybody).sco (ownF l))) := fun ad c => cat_sco _ _ _ _ _ _ _ _ _
  have HLZ : Hid (∀ ad c, (Bl.mk ad c (xbody ++ ybody)).subs.length = (Bl.mk xad xcap xbody).subs.length + (Bl.mk yad ycap ybody).subs.length) := fun ad c => by rw [Bl.subs_mk, Bl.subs_mk, Bl.subs_mk, List.flatMap_append, List.length_append]
  simp only [Bl.slice] at hrx hry ⊢
  have B0 := Below.refl w.heap.size w
  go_enter Tryd.func5, Tryd.ntmps5
  go_upto_if 25 with (first
    | (go_at_call 8; (with_reducible refine (hsh _ Bb).mono ?_); rintro r wc ⟨c, rfl, hc, hw'⟩; have hw2 := hw'.symm; subst hw2; cases c)
    | (have M := Ba; go_at_call 7; (with_reducible refine (hry _ Ba).mono ?_); rintro r wb ⟨c3, rfl, hd1, hd2, Hd3, bb⟩; have Bb := Ba.tr le_rfl' bb; rcases Int.lt_or_le c3 0 with hd0 | hd0)
    | (go_at_call 7; (with_reducible refine (hrx _ B0).mono ?_); rintro r wa ⟨c2, rfl, hc1, hc2, Hc3, ba⟩; have Ba := B0.tr le_rfl' ba; rcases Int.lt_or_le c2 0 with hc0 | hc0))
  · go_wp2_with (go_at_call 9; (with_reducible refine (hli _ Ba).mono ?_); rintro r wz ⟨rfl, bz⟩)
    go_ret
    exact ⟨rfl, Ba.tr le_rfl' bz⟩
  · go_wp2_with (go_at_call 9; (with_reducible refine (hli _ Bb).mono ?_); rintro r wz ⟨rfl, bz⟩)
    go_ret
    exact ⟨rfl, Bb.tr le_rfl' bz⟩
  · go_wp2_with (go_at_call 9; (with_reducible refine (hli _ Bb).mono ?_); rintro r wz ⟨rfl, bz⟩)
    go_ret
    exact ⟨rfl, Bb.tr le_rfl' bz⟩
  · have hl20 : l.length ≤ 20 := hc trivial
    have hxs : (Bl.mk xad xcap xbody).subs.length ≤ 300 := by have := Hc3.out hc0; omega
    have hys : (Bl.mk yad ycap ybody).subs.length ≤ 300 := by have := Hd3.out hd0; omega
    have hsx := fun (W : World) (hW : Below w.heap.size w W) => hsc (.mk xad xcap xbody) (by omega) w.heap.size W (Nat.le_refl _) hW.size hW (hx.below hW)
    have hsy := fun (W : World) (hW : Below w.heap.size w W) => hsc (.mk yad ycap ybody) (by omega) w.heap.size W (Nat.le_refl _) hW.size hW (hy.below hW)
    have HSZ : Hid (∀ (ad : Option Addr) (c : Nat) (W : World), Below w.heap.size w W → (Bl.mk ad c (xbody ++ ybody)).Is W.heap.size W → Calls Tryd.prog 10 #[.slice ad (xbody.length + ybody.length) c, .slice oad l.length ocap] W fun e w' => ScBack (fstE ((Bl.mk xad xcap xbody).sco (ownF l)) ((Bl.mk yad ycap ybody).sco (ownF l))) W e w') := fun ad c W hW hI => by
      have h := hsc (.mk ad c (xbody ++ ybody)) (by rw [HLZ.out]; omega) W.heap.size W hW.size (Nat.le_refl _) hW hI
      rw [HZ.out] at h
      simp only [Bl.slice, List.length_append] at h
      exact h
    have hxl : xbody.length ≤ 300 := by
      have h1 := subs_ge xbody
      rw [Bl.subs_mk] at hxs; omega
    have hyl : ybody.length ≤ 300 := by
      have h1 := subs_ge ybody
      rw [Bl.subs_mk] at hys; omega
    have hxS := hx.down.1
    have hyS := hy.down.1
    have HXY := hid (And.intro hx hy)
    obtain ⟨sx, hsxE⟩ : ∃ s, (Bl.mk xad xcap xbody).sco (ownF l) = s := ⟨_, rfl⟩
    obtain ⟨sy, hsyE⟩ : ∃ s, (Bl.mk yad ycap ybody).sco (ownF l) = s := ⟨_, rfl⟩
    simp only [hsxE, hsyE] at hsx hsy HSZ hu0
    clear hsxE hsyE hsc hrx hry hsh hzx hzy HZ HLZ hxs hys Hc3 Hd3 hc hx hy
    obtain ⟨ex, ax⟩ := sx
    obtain ⟨ey, ay⟩ := sy
    simp only [ScBack, Bl.slice] at hsx hsy HSZ
    have hnc : ¬ c2 < 0 := by omega
    have hnd : ¬ c3 < 0 := by omega
    go_upto_region 5 with (first
      | (have M := Bd; go_at_call 10; (with_reducible refine (hsy _ Bd).mono ?_); rintro r we ⟨rfl, be⟩; have Be := Bd.tr le_rfl' be)
      | (go_at_call 10; (with_reducible refine (hsx _ Bb).mono ?_); rintro r wd ⟨rfl, bd⟩; have Bd := Bb.tr le_rfl' bd))
    have hown0 := World.ownsRow_made (base := we.heap.size) (e := 39) (size := 12) we #[] 0 (Nat.le_refl _) (by unfold maxLen; omega) rfl
    have Ke : Below we.heap.size we (we.alloc (.cells #[] 39)) := (Below.refl _ _).al le_rfl' _
    have hzwe := Be.size
    go_upto_region 6 with (first
      | (have M := hown1; at_builtin; refine wpList_append_sl (cells := St.cells) rfl _ _ 22 rfl we.heap.size 39 i0 _ 12 160 Tryd.underlying22 hi0 iz0 iz1 iz2 rfl (by decide) St.len St.one v1 xbody rfl hown1 yad ycap ybody w.heap.size rfl (hyS.below (Be.trans (K1.mono hzwe))) (by unfold maxLen; omega) (by omega) K1.size ?_; intro v2 w2 hown2 hg2 hnn2; have K2 := owns_grown_below K1 hown1 hg2 K1.size; obtain ⟨ad2, cp2, rfl, hsl3⟩ := slOwn St.len hown2; have hzI := cat2_is HXY.out.1 HXY.out.2 (Be.trans (K2.mono hzwe)) (Nat.le_trans hzwe K2.size) hsl3; have hcal := HSZ.out ad2 cp2 w2 (Be.trans (K2.mono hzwe)) hzI)
      | (at_builtin; refine wpList_append_sl (cells := St.cells) rfl _ _ 22 rfl we.heap.size 39 i0 _ 12 160 Tryd.underlying22 hi0 iz0 iz1 iz2 rfl (by decide) St.len St.one _ [] rfl hown0 xad xcap xbody w.heap.size rfl (hxS.below (Be.trans (Ke.mono hzwe))) (by unfold maxLen; simp; omega) (by simp; omega) Ke.size ?_; intro v1 w1 hown1 hg1 hnn1; rw [List.nil_append] at hown1; have K1 := owns_grown_below Ke hown0 hg1 Ke.size)
      | (go_at_call 10; (with_reducible refine hcal.mono ?_); rintro r wf ⟨rfl, bf⟩))
    have Bf := (Be.trans (K2.mono hzwe)).tr le_rfl' bf
    clear hown0 hown1 hown2 hg1 hg2 hnn1 hnn2 hcal hzI hsl3 HSZ HXY hsx hsy
    by_cases hex : ex = 0
    · subst hex
      have h1 := hu0 rfl
      have hax : ax = 0 := congrArg Prod.snd h1
      subst hax
      simp only [fstE_zero]
      go_wp2_with (first
        | (go_at_call 12; (with_reducible refine (hnum _ _).mono ?_); rintro rr ww ⟨rfl, hw'⟩; have hw2 := hw'.symm; subst hw2)
        | (go_at_call 9; (with_reducible refine (hli _ Bf).mono ?_); rintro r wz ⟨rfl, bz⟩))
      go_ret
      exact ⟨rfl, Bf.tr le_rfl' bz⟩
    · have hexb : (ex == 0) = false := by rw [beq_eq_false_iff_ne]; exact hex
      have hexb2 : (ex != 0) = true := by rw [bne, hexb]; rfl
      have hfe : fstE (ex, ax) (ey, ay) = (ex, ax) := fstE_err (by exact hex) _
      simp only [hfe]
      clear hfe hu0
      go_wp2_with (first
        | (go_at_call 12; (with_reducible refine (hnum _ _).mono ?_); rintro rr ww ⟨rfl, hw'⟩; have hw2 := hw'.symm; subst hw2)
        | (go_at_call 9; (with_reducible refine (hli _ Bf).mono ?_); rintro r wz ⟨rfl, bz⟩))
      go_ret
      exact ⟨rfl, Bf.tr le_rfl' bz⟩
end Go.Proofs.YtfkabkbnfeiggaaDoor
