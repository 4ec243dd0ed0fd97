/-
  For every number and every kind the statement ParseDeep hands back true: as many levels as may be, and more.
  Condition: the six listed variables (ErrSyntax and ErrRange of strconv; uint64pow10 of internal/strconv; deBruijn32tab and deBruijn64tab of math/bits; operators of package parse) hold at the start what the program's own text lays there (the card ties them to the pruned copy of the project; nothing is said of its other packages).
-/
import Derived.Test.YtaekbgljbgmchaaGreatDoorPzPw
import Derived.Test.YtaekbgljbgmchaaGreatDoorPzMt
import Derived.Test.YtaekbgljbgmchaaGreatDoorPzMr
import Derived.Test.YtaekbgljbgmchaaGreatDoorPzSt
import Derived.Test.YtaekbgljbgmchaaGreatDoorPzA
import Derived.Test.YtaekbgljbgmchaaGreatDoorLxH
import Derived.Test.YtaekbgljbgmchaaGreatDoorPzC
import Derived.Test.YtaekbgljbgmchaaGreatDoorCards
import Derived.Test.YtaekbgljbgmchaaGreatDoorTie
import Derived.Test.YtaekbgljbgmchaaGreatDoorPzE
import Derived.ProofKit
import Derived.OpenShut
import Derived.LaidLaws
import Derived.Deep.DeepHandedRow
import Derived.Stop.LaidErr
import Derived.SizedLaws
namespace Go.Proofs.YtaekbgljbgmchaaGreatDoor
open Go.RowKit
open Lx (Out)
open Pz
theorem le_monitor (f : Nat) (s : S) : Le s (Pz.monitor f s).2 := (le_take s 1).trans (le_enclosed _ _ _ _ (le_members f _))
theorem le_role (f : Nat) (s : S) : Le s (Pz.role f s).2 := by
  unfold Pz.role
  dsimp only
  split
  · exact ((le_take s 1).trans (le_pass _)).trans (le_blockF f _)
  · exact ((le_take s 1).trans (le_take _ 2)).trans (le_blockF f _)
theorem Bd.of_le {s s' : S} (h : Bd s) (hl : Le s s') : Bd s' := ⟨by rw [hl.1]; exact h.1, by have := h.2; have := hl.2; rw [hl.1]; omega⟩
theorem method_c (f b g cap : Nat) (toks : List Out) (s : S) (w : World) (h : At b g cap toks s w) (hO : Opers w) (hb2 : b ≠ 2) (hB : Bd s) (hF : 3 * s.rest.length + 3 ≤ f) : Calls Tryz.prog 160 #[.pointer (some ⟨b, 0, none⟩)] w (MeBk b g cap toks (Pz.method f s) w) :=
  method_any (blockF f (s.take 1).2) b g cap toks s w h (fun W hW kW => block_any f b g cap toks (s.take 1).2 W hW (hO.kp kW hb2) hb2 (hB.of_le (le_take s 1)) (by have := (le_take s 1).2; omega))
theorem role_c (f b g cap : Nat) (toks : List Out) (s : S) (w : World) (h : At b g cap toks s w) (hO : Opers w) (hb2 : b ≠ 2) (hB : Bd s) (hF : 3 * s.rest.length + 3 ≤ f) : Calls Tryz.prog 73 #[.pointer (some ⟨b, 0, none⟩)] w (RoBk b g cap toks (Pz.role f s) w) :=
  role_any (blockF f (s.take 1).2.pass) (blockF f ((s.take 1).2.take 2).2) b g cap toks s w h
    (fun _ W hW kW => block_any f b g cap toks (s.take 1).2.pass W hW (hO.kp kW hb2) hb2 (hB.of_le ((le_take s 1).trans (le_pass _))) (by have := ((le_take s 1).trans (le_pass _)).2; omega))
    (fun _ W hW kW => block_any f b g cap toks ((s.take 1).2.take 2).2 W hW (hO.kp kW hb2) hb2 (hB.of_le ((le_take s 1).trans (le_take _ 2))) (by have := ((le_take s 1).trans (le_take (s.take 1).2 2)).2; omega))
theorem monitor_c (f b g cap : Nat) (toks : List Out) (s : S) (w : World) (h : At b g cap toks s w) (hn : Nn toks) (hO : Opers w) (hb2 : b ≠ 2) (hB : Bd s) (hF : 3 * s.rest.length + 3 ≤ f) : Calls Tryz.prog 71 #[.pointer (some ⟨b, 0, none⟩)] w (MoBk b g cap toks (Pz.monitor f s) w) := by
  have hT := hB.of_le (le_take s 1)
  have hTl := (le_take s 1).2
  have hen := enter_len (s.take 1).2 s_lbr
  refine monitor_any (enclosed s_lbr (members f) s_rbr (s.take 1).2) b g cap toks s w h (fun W hW kW => ?_)
  refine enclosed_members (.func (.func 119) #[.pointer (some ⟨b, 0, none⟩)] #[]) (within s_lbr (members f) (s.take 1).2) s_lbr s_rbr b g cap toks (s.take 1).2 W hW (fun V hV kV => ?_)
  refine within_members (members f) s_lbr b g cap toks (s.take 1).2 V hV ⟨hT.1, by have := hT.2; omega⟩ (by rw [(le_members f _).1, enter_opn]) (fun U hU kU => ?_)
  refine members_any f b g cap toks ((s.take 1).2.enter s_lbr) U hU hn (fun s' X hl hlt hX kX => ?_)
  exact method_c f b g cap toks s' X hX ((((hO.kp kW hb2).kp kV hb2).kp kU hb2).kp kX hb2) hb2 ⟨by rw [hl.1, enter_opn]; have := hT.1; omega, by rw [hl.1, enter_opn]; have := hT.2; omega⟩ (by omega)
set_option maxRecDepth 100000 in
set_option maxHeartbeats 2000000 in
theorem parse_any (s : ByteArray) (w : World) (hs : s.size ≤ 20000) (hE : HasErr w) (hO : Opers w) :
    Calls Tryz.prog 14 #[.string s] w fun r w' => PrOut (wholeOfP (Pz.program (reader s))) w r w' ∧ Below w.heap.size w w' := by
  have bR := newB w #[.slice none 0 0, .slice none 0 0] 37
  have h1 := newReader_any s (w.alloc (.cells #[.slice none 0 0, .slice none 0 0] 37)) hs (hE.alloc _)
  have hO1 := hO.al (.cells #[.slice none 0 0, .slice none 0 0] 37)
  have h35 : ∀ b g cap toks W, At b g cap toks (reader s) W → Nn toks → b ≠ 2 → Opers W → (reader s).rest.length ≤ 20001 → Calls Tryz.prog 35 #[.pointer (some ⟨b, 0, none⟩), .func (.func 36) #[.pointer (some ⟨b, 0, none⟩)] #[]] W fun r w' => PrOut (wholeOfP (Pz.program (reader s))) W r w' ∧ Kp b W w' := fun b g cap toks W hA hn hb hOW hl => by
    have h0 : (reader s).opn = 0 := by unfold reader; split <;> rfl
    have hB : Bd (reader s) := ⟨by rw [h0]; decide, by rw [h0]; omega⟩
    refine whole_prog (Pz.program (reader s)) b g cap toks (reader s) W hA (fun V hV kV => ?_)
    refine program_any (fuel (reader s)) b g cap toks (reader s) V hV (le_monitor _) (le_role _) (fun s' X hl hlt hX kX => ?_) (fun s' X hl hlt hX kX => ?_)
    · exact monitor_c _ b g cap toks s' X hX hn ((hOW.kp kV hb).kp kX hb) hb (hB.of_le hl) (by unfold fuel; omega)
    · exact role_c _ b g cap toks s' X hX ((hOW.kp kV hb).kp kX hb) hb (hB.of_le hl) (by unfold fuel; omega)
  obtain ⟨X, hX⟩ : ∃ X, wholeOfP (Pz.program (reader s)) = X := ⟨_, rfl⟩
  simp only [hX] at h35
  rw [hX]
  clear hX
  go_enter Tryz.func14, Tryz.ntmps14
  go_wp2_with (first
      | (go_at_call 28; (with_reducible refine h1.mono ?_); rintro r w1 ⟨b, g, gcap, toks, rfl, A, hnn, hb, hg, hlen, hre, b1⟩; have bR := bel_box bR b1; have hO2 := hO1.below b1; have hl2 := hO.2; simp only [World.size_alloc] at hb; have hb2 : b ≠ 2 := (by omega); have hne : w.heap.size ≠ b := (by omega); have B1 := (bel_al w (.cells #[.slice none 0 0, .slice none 0 0] 37)).trans (b1.mono (by simp)); have hz1 := ltB bR)
      | (go_at_call 35; (with_reducible refine (h35 b g gcap toks _ A hnn hb2 hO2 hlen).mono ?_); rintro r w3 ⟨⟨mad, mcp, lm, rad, rcp, lr, rfl, hclr, hBy⟩, k⟩; have bR := k.box bR hne; obtain ⟨x0, x1, xf, xl⟩ := two bR))
  refine bodyPost_ret (v := .tuple #[.agg #[.slice mad lm.length mcp, .slice rad lr.length rcp], .int .i64 X.2.1, .int .i64 X.2.2]) ?_ rfl ⟨⟨mad, mcp, lm, rad, rcp, lr, rfl, hclr, ?_⟩, ?_⟩
  · simp [results, Tryz.results14, go_sem, x0, x1]
  · refine (Pr.By.kq hBy ?_).mono (Nat.le_of_lt hz1)
    repeat (first | with_reducible refine Kq.set ?_ (.inl (from_not hz1)) _ | with_reducible refine Kq.al ?_ _)
    with_reducible exact Kq.refl _ _
  · repeat (refine Below.setCell ?_ (by simp) _)
    exact B1.trans ⟨k.os, k.tape, k.output, k.size, fun i hi => k.block i (by omega) (by omega)⟩
end Go.Proofs.YtaekbgljbgmchaaGreatDoor
namespace Go.Proofs.YtaekbgljbgmchaaGreatDoor
open Go.RowKit
open Lx (Out)
open Pz
namespace Pz
def opOf : Ex → Int | .mk op _ _ _ _ _ _ _ => op
def nOf : Ex → Int | .mk _ _ _ n _ _ _ _ => n
def kidsOf : Ex → List Ex | .mk _ _ _ _ _ _ kids _ => kids
def bodyLen (r : Ro) : Nat := r.body.body.length
end Pz
theorem live1 : (wholeOf (Pz.expr (reader ⟨#[97, 46, 120, 32, 43, 32, 50, 32, 42, 32, 97, 46, 121]⟩))).2 = (0, 0) ∧ opOf (wholeOf (Pz.expr (reader ⟨#[97, 46, 120, 32, 43, 32, 50, 32, 42, 32, 97, 46, 121]⟩))).1 = 8 ∧ (kidsOf (wholeOf (Pz.expr (reader ⟨#[97, 46, 120, 32, 43, 32, 50, 32, 42, 32, 97, 46, 121]⟩))).1).map opOf = [4, 7] ∧ (kidsOf (wholeOf (Pz.expr (reader ⟨#[97, 46, 120, 32, 43, 32, 50, 32, 42, 32, 97, 46, 121]⟩))).1).map nOf = [0, 2] := ⟨by kernel_rfl, by kernel_rfl, by kernel_rfl, by kernel_rfl⟩
theorem live2 : (wholeOfP (Pz.program (reader ⟨#[116, 104, 114, 101, 97, 100, 32, 116, 32, 49, 32, 123, 32, 115, 107, 105, 112, 32, 125]⟩))).2 = (40, 18) := by kernel_rfl
theorem live3 : (wholeOfP (Pz.program (reader ⟨#[116, 104, 114, 101, 97, 100, 32, 116, 32, 42, 32, 123, 32, 115, 107, 105, 112, 59, 32, 125]⟩))).2 = (0, 0) ∧ (wholeOfP (Pz.program (reader ⟨#[116, 104, 114, 101, 97, 100, 32, 116, 32, 42, 32, 123, 32, 115, 107, 105, 112, 59, 32, 125]⟩))).1.roles.map (fun r => (r.star, bodyLen r)) = [(true, 1)] := ⟨by kernel_rfl, by kernel_rfl⟩
theorem kid_row {n₀ : Nat} {W : World} {ad : Option Addr} {cap : Nat} {l : List Ex} (h : SlAt 6 Ex.cells n₀ W ad cap l) (h1 : l.map opOf = [4, 7]) (h2 : l.map nOf = [0, 2]) : ∃ g off, ad = some ⟨g, off, none⟩ ∧ l.length = 2 ∧ g < n₀ ∧ W.cell? ⟨g, off + 6, none⟩ = some (.int .i64 7) ∧ W.cell? ⟨g, off + 9, none⟩ = some (.int .i64 2) := by
  rcases l with _ | ⟨x, _ | ⟨⟨op, mon, name, n, kad, kcap, kids, pos⟩, _ | ⟨y, l⟩⟩⟩
  · simp at h1
  · simp at h1
  · obtain ⟨-, -, h | ⟨g, off, rfl, hg, hr⟩⟩ := h
    · cases h
    · simp [opOf, nOf] at h1 h2
      obtain ⟨-, rfl⟩ := h1
      obtain ⟨-, rfl⟩ := h2
      refine ⟨g, off, rfl, rfl, hg, ?_, ?_⟩
      · have := hr 1 (by simp) 0 (by omega); simpa [Ex.cells] using this
      · have := hr 1 (by simp) 3 (by omega); simpa [Ex.cells] using this
  · simp at h1
theorem role_row {n₀ : Nat} {W : World} {ad : Option Addr} {cap : Nat} {l : List Ro} (h : SlAt 5 Ro.cells n₀ W ad cap l) (h1 : (l.map Ro.clr).map (fun r => (r.star, bodyLen r)) = [(true, 1)]) : ∃ g off bad bcp, ad = some ⟨g, off, none⟩ ∧ l.length = 1 ∧ g < n₀ ∧ W.cell? ⟨g, off + 1, none⟩ = some (.bool true) ∧ W.cell? ⟨g, off + 3, none⟩ = some (.slice bad 1 bcp) := by
  rcases l with _ | ⟨⟨nm, star, cnt, ⟨bad, bcp, body⟩, pos⟩, _ | ⟨y, l⟩⟩
  · simp at h1
  · obtain ⟨-, -, h | ⟨g, off, rfl, hg, hr⟩⟩ := h
    · cases h
    · simp [bodyLen, Ro.clr, Bl.clr, Bl.body, St.clrL_eq] at h1
      obtain ⟨rfl, hb⟩ := h1
      refine ⟨g, off, bad, bcp, rfl, rfl, hg, ?_, ?_⟩
      · have := hr 0 (by simp) 1 (by omega); simpa [Ro.cells] using this
      · have := hr 0 (by simp) 3 (by omega); simpa [Ro.cells, Bl.slice, Bl.body, hb] using this
  · simp at h1
theorem opOf_clr (e : Ex) : opOf e.clr = opOf e := by cases e; rw [Ex.clr]; rfl
theorem nOf_clr (e : Ex) : nOf e.clr = nOf e := by cases e; rw [Ex.clr]; rfl
theorem expr1 (w : World) (hE : HasErr w) (hO : Opers w) : Calls Tryz.prog 10 #[.string ⟨#[97, 46, 120, 32, 43, 32, 50, 32, 42, 32, 97, 46, 121]⟩] w fun r w' => (∃ mon name n g off cp pos, r = .returned (.tuple #[.agg #[.int .i64 8, .string mon, .string name, .int .i64 n, .slice (some ⟨g, off, none⟩) 2 cp, .int .i64 pos], .int .i64 0, .int .i64 0]) ∧ g < w'.heap.size ∧ w'.cell? ⟨g, off + 6, none⟩ = some (.int .i64 7) ∧ w'.cell? ⟨g, off + 9, none⟩ = some (.int .i64 2)) ∧ Below w.heap.size w w' := by
  refine (parseExpr_any ⟨#[97, 46, 120, 32, 43, 32, 50, 32, 42, 32, 97, 46, 121]⟩ w (by decide) hE hO).mono ?_
  rintro r w1 ⟨⟨op, mon, name, n, ad, cp, kids, pos, rfl, hclr, hBy⟩, b1⟩
  obtain ⟨l1, l2, l3, l4⟩ := live1
  rw [← hclr] at l2 l3 l4
  rw [l1]
  rw [opOf_clr] at l2
  rw [Ex.clr] at l3 l4
  simp only [kidsOf, Ex.clrL_eq, List.map_map] at l3 l4
  rw [show opOf ∘ Ex.clr = opOf from funext opOf_clr] at l3
  rw [show nOf ∘ Ex.clr = nOf from funext nOf_clr] at l4
  have hsl := (Ex.Is.down hBy.is).2.1
  obtain ⟨g, off, rfl, hl, hg, c1, c2⟩ := kid_row hsl l3 l4
  have l2 : op = 8 := l2
  subst l2
  rw [hl]
  exact ⟨⟨mon, name, n, g, off, cp, pos, rfl, hg, c1, c2⟩, b1⟩
theorem Pr.By.is {Q : Nat → Bool} {w : World} {e : Pr} (h : e.By Q w) : e.Is w.heap.size w := Pr.Is.carry (fun k o v hv => (only_cell Q w k o v hv).2.2) h
theorem prog2 (w : World) (hE : HasErr w) (hO : Opers w) : Calls Tryz.prog 14 #[.string ⟨#[116, 104, 114, 101, 97, 100, 32, 116, 32, 49, 32, 123, 32, 115, 107, 105, 112, 32, 125]⟩] w fun r w' => (∃ a1 a2 n1 n2 k1 k2, r = .returned (.tuple #[.agg #[.slice a1 n1 k1, .slice a2 n2 k2], .int .i64 40, .int .i64 18])) ∧ Below w.heap.size w w' := by
  refine (parse_any ⟨#[116, 104, 114, 101, 97, 100, 32, 116, 32, 49, 32, 123, 32, 115, 107, 105, 112, 32, 125]⟩ w (by decide) hE hO).mono ?_
  rintro r w1 ⟨⟨mad, mcp, lm, rad, rcp, lr, rfl, hclr, hBy⟩, b1⟩
  rw [live2]
  exact ⟨⟨_, _, _, _, _, _, rfl⟩, b1⟩
theorem prog3 (w : World) (hE : HasErr w) (hO : Opers w) : Calls Tryz.prog 14 #[.string ⟨#[116, 104, 114, 101, 97, 100, 32, 116, 32, 42, 32, 123, 32, 115, 107, 105, 112, 59, 32, 125]⟩] w fun r w' => (∃ a1 n1 k1 g off rcp bad bcp, r = .returned (.tuple #[.agg #[.slice a1 n1 k1, .slice (some ⟨g, off, none⟩) 1 rcp], .int .i64 0, .int .i64 0]) ∧ g < w'.heap.size ∧ w'.cell? ⟨g, off + 1, none⟩ = some (.bool true) ∧ w'.cell? ⟨g, off + 3, none⟩ = some (.slice bad 1 bcp)) ∧ Below w.heap.size w w' := by
  refine (parse_any ⟨#[116, 104, 114, 101, 97, 100, 32, 116, 32, 42, 32, 123, 32, 115, 107, 105, 112, 59, 32, 125]⟩ w (by decide) hE hO).mono ?_
  rintro r w1 ⟨⟨mad, mcp, lm, rad, rcp, lr, rfl, hclr, hBy⟩, b1⟩
  obtain ⟨l1, l2⟩ := live3
  rw [← hclr] at l2
  rw [l1]
  obtain ⟨g, off, bad, bcp, rfl, hl, hg, c1, c2⟩ := role_row hBy.is.2.1 l2
  dsimp only at hl
  rw [hl]
  exact ⟨⟨_, _, _, g, off, rcp, bad, bcp, rfl, hg, c1, c2⟩, b1⟩
set_option maxRecDepth 100000 in
set_option maxHeartbeats 2000000 in
theorem num_c (e : Int) (w : World) : Calls Tryz.prog 13 #[.int .i64 e] w fun r w' => r = .returned (.int .i64 e) ∧ w' = w := by
  go_enter Tryz.func13, Tryz.ntmps13
  go_wp2
  go_ret
  exact ⟨rfl, rfl⟩
set_option maxRecDepth 100000 in
set_option maxHeartbeats 2000000 in
theorem live_any (w : World) (hE : HasErr w) (hO : Opers w) : Calls Tryz.prog 9 #[] w fun r w' => r = .returned (.bool true) ∧ Below w.heap.size w w' := by
  go_enter Tryz.func9, Tryz.ntmps9
  go_wp2_with (first
      | (go_at_call 10; (with_reducible refine (expr1 _ hE hO).mono ?_); rintro r w1 ⟨⟨mon, name, n, g, off, cp, pos, rfl, hg, c1, c2⟩, b1⟩; have E1 := hE.after b1; have O1 := hO.below b1)
      | (go_at_call 14; (with_reducible refine (prog2 _ (E1.alloc _) (O1.al _)).mono ?_); rintro r w2 ⟨⟨p1, p2, m1, m2, k1, k2, rfl⟩, b2⟩; have E2 := (E1.alloc _).after b2; have O2 := (O1.al _).below b2; have B12 : Below w1.heap.size w1 w2 := Below.trans (bel_al w1 _) (b2.mono (by simp)); have bE := bel_box (newB w1 _ _) b2; have c1 := (Below.cell B12 (p := ⟨g, off + 6, none⟩) hg).trans c1; have c2 := (Below.cell B12 (p := ⟨g, off + 9, none⟩) hg).trans c2; have hg := Nat.lt_of_lt_of_le hg B12.size)
      | (go_at_call 14; (with_reducible refine (prog3 _ (E2.alloc _) (O2.al _)).mono ?_); rintro r w3 ⟨⟨p3, m3, k3, g3, off3, rcp, bad, bcp, rfl, hg3, d1, d2⟩, b3⟩; have B23 : Below w2.heap.size w2 w3 := Below.trans (bel_al w2 _) (b3.mono (by simp)); have bE := bel_box bE B23; have c1 := (Below.cell B23 (p := ⟨g, off + 6, none⟩) hg).trans c1; have c2 := (Below.cell B23 (p := ⟨g, off + 9, none⟩) hg).trans c2; have hg := Nat.lt_of_lt_of_le hg B23.size; have B34 := bel_al w3 (.cells #[.slice p3 m3 k3, .slice (some ⟨g3, off3, none⟩) 1 rcp] 37); have bP := newB w3 #[.slice p3 m3 k3, .slice (some ⟨g3, off3, none⟩) 1 rcp] 37; have bE := bel_box bE B34; have c1 := (Below.cell B34 (p := ⟨g, off + 6, none⟩) hg).trans c1; have c2 := (Below.cell B34 (p := ⟨g, off + 9, none⟩) hg).trans c2; have d1 := (Below.cell B34 (p := ⟨g3, off3 + 1, none⟩) hg3).trans d1; have d2 := (Below.cell B34 (p := ⟨g3, off3 + 3, none⟩) hg3).trans d2; obtain ⟨x0, x1, x2, x3, x4, x5, xf, xl⟩ := six bE; obtain ⟨y0, y1, yf, yl⟩ := two bP; have B := (b1.trans (B12.mono b1.size)).trans ((B23.mono (Nat.le_trans b1.size B12.size)).trans (B34.mono (Nat.le_trans b1.size (Nat.le_trans B12.size B23.size)))))
      | (go_at_call 13; (with_reducible refine (num_c _ _).mono ?_); rintro r w4 ⟨rfl, rfl⟩))
  go_ret
  exact ⟨rfl, B⟩
end Go.Proofs.YtaekbgljbgmchaaGreatDoor
namespace Go.Proofs.YtaekbgljbgmchaaGreatDoor
open Go.RowKit
open Lx (Out)
open Pz
namespace Pz
/-- A relation that the four small steps keep. -/
structure Cl (Q : S → S → Prop) : Prop where
  refl : ∀ s, Q s s
  trans : ∀ {a b c}, Q a b → Q b c → Q a c
  fail : ∀ s e a, Q s (s.fail e a)
  pass : ∀ s, Q s s.pass
  more : ∀ s, Q s s.more
  less : ∀ s, Q s s.less
namespace Cl
variable {Q : S → S → Prop} (C : Cl Q)
include C
theorem refuse (s : S) (e : Int) : Q s (s.refuse e) := C.fail _ _ _
theorem want (s : S) (x : ByteArray) : Q s (s.want x) := by
  unfold S.want; split
  · exact C.pass s
  · exact C.trans (C.refuse s 40) (C.pass _)
theorem take (s : S) (k : Int) : Q s (s.take k).2 := by
  unfold S.take; split
  · exact C.pass s
  · exact C.refuse s 40
theorem path (s : S) : Q s (path s).2 := C.trans (C.trans (C.take s 1) (C.want _ _)) (C.take _ 1)
theorem enter (s : S) (x : ByteArray) : Q s (s.enter x) := by
  unfold S.enter
  refine C.trans (C.trans ?_ (C.want _ _)) (C.more _)
  split
  · exact C.refuse s 41
  · exact C.refl s
theorem within {α : Type} (sign : ByteArray) (rd : S → α × S) (h : ∀ s, Q s (rd s).2) (s : S) : Q s (within sign rd s).2 := C.trans (C.trans (C.enter s sign) (h _)) (C.less _)
theorem enclosed {α : Type} (a c : ByteArray) (rd : S → α × S) (h : ∀ s, Q s (rd s).2) (s : S) : Q s (enclosed a rd c s).2 := C.trans (C.within a rd h s) (C.want _ _)
theorem full (s : S) (b : Bool) : Q s (s.full b) := by
  unfold S.full
  refine C.trans ?_ (C.pass _)
  cases b
  · exact C.refl s
  · exact C.refuse s 6
theorem oneMore {α : Type} (l : List α) (most : Nat) (rd : S → α × S) (h : ∀ s, Q s (rd s).2) (s : S) : Q s (oneMore l most rd s).2 := C.trans (C.full s _) (h _)
theorem several {α : Type} (word : ByteArray) (most : Nat) (rd : S → α × S) (h : ∀ s, Q s (rd s).2) : ∀ (f : Nat) (l : List α) (s : S), Q s (several word most rd f l s).2 := by
  intro f
  induction f with
  | zero => intro l s; exact C.refl _
  | succ f ih =>
    intro l s
    rw [Pz.several]
    split
    · exact C.trans (C.oneMore l most rd h s) (ih _ _)
    · exact C.refl _
theorem expr (f : Nat) : (∀ l s, Q s (exprAt f l s).2) ∧ (∀ l x own s, Q s (loop f l x own s).2) ∧ (∀ s, Q s (term f s).2) := by
  induction f with
  | zero => exact ⟨fun l s => by rw [exprAt]; exact C.refl _, fun l x own s => by rw [loop]; exact C.refl _, fun s => by rw [term]; exact C.refl _⟩
  | succ f ih =>
    obtain ⟨h1, h2, h3⟩ := ih
    refine ⟨fun l s => ?_, fun l x own s => ?_, fun s => ?_⟩
    · rw [exprAt]
      split
      · exact C.trans (C.within _ _ (h1 _) s) (h2 _ _ _ _)
      · exact C.trans (h3 s) (h2 _ _ _ _)
    · rw [loop]
      split
      · exact C.refl _
      · exact C.trans (C.trans (C.pass s) (h1 _ _)) (h2 _ _ _ _)
    · rw [term]
      split
      · split
        · exact C.trans (C.pass s) (C.within _ _ h3 _)
        · exact C.pass s
      · split
        · exact C.path s
        · split
          · exact C.within _ _ h3 s
          · split
            · exact C.enclosed _ _ _ (h1 _) s
            · split
              · exact C.pass s
              · exact C.want _ _
theorem stmt (rx : S → Ex × S) (rb : S → Bl × S) (hx : ∀ s, Q s (rx s).2) (hb : ∀ s, Q s (rb s).2) (k : Nat) (s : S) : Q s (stmt rx rb k s).2 := by
  unfold Pz.stmt
  split
  · exact C.trans (C.want _ _) (C.want _ _)
  · exact C.trans (C.trans (C.trans (C.path s) (C.want _ _)) (hx _)) (C.want _ _)
  · unfold stIf
    simp only
    split
    · exact C.trans (C.trans (C.trans (C.trans (C.want _ _) (hx _)) (hb _)) (C.pass _)) (hb _)
    · exact C.trans (C.trans (C.want _ _) (hx _)) (hb _)
  · exact C.trans (C.trans (C.want _ _) (hx _)) (hb _)
  · exact C.trans (C.want _ _) (hb _)
  · exact C.trans (C.oneMore [] 8 rb hb s) (C.several _ _ _ hb _ _ _)
  · exact C.trans (C.trans (C.want _ _) (C.take _ _)) (hb _)
  · exact C.trans (C.trans (C.want _ _) (C.path _)) (C.want _ _)
  · unfold stWait
    simp only
    split
    · refine C.trans (C.trans (C.trans (C.want s k_wait) (C.take _ 1)) (C.take _ 2)) (C.trans ?_ (C.want _ _))
      split
      · exact C.fail _ _ _
      · exact C.refl _
    · exact C.trans (C.trans (C.want _ _) (C.take _ _)) (C.want _ _)
  · exact C.trans (C.trans (C.want _ _) (C.take _ _)) (C.want _ _)
  · exact C.trans (C.trans (C.want _ _) (C.take _ _)) (C.want _ _)
theorem block (rd : S → Bl × S) (h : ∀ s, Q s (rd s).2) (s : S) : Q s (block rd s).2 := C.enclosed _ _ rd h s
theorem stmts (f : Nat) : ∀ (l : List St) (s : S), Q s (stmtsF f l s).2 := by
  induction f with
  | zero => intro l s; exact C.refl _
  | succ f ih =>
    intro l s
    rw [stmtsF]
    split
    · exact C.refl _
    · exact C.trans (C.stmt _ _ (fun s => (C.expr f).1 1 s) (fun s => C.block _ (fun s => ih [] s) s) _ s) (ih _ _)
theorem blockF (f : Nat) (s : S) : Q s (blockF f s).2 := C.block _ (fun s => C.stmts f [] s) s
theorem integer (s : S) : Q s (integer s).2 := by
  unfold Pz.integer; split
  · exact C.trans (C.pass s) (C.take _ _)
  · exact C.take _ _
theorem truth (s : S) : Q s (truth s).2 := by
  unfold Pz.truth; split
  · exact C.pass s
  · exact C.want _ _
theorem bounds (s : S) : Q s (bounds s).2 := by
  have h : Q s (Pz.integer ((Pz.integer s).2.want s_dots)).2 := C.trans (C.trans (C.integer s) (C.want _ _)) (C.integer _)
  unfold Pz.bounds
  simp only
  split
  · exact C.trans h (C.fail _ _ _)
  · exact h
theorem typed (s : S) : Q s (typed s).2 := by
  unfold Pz.typed; split
  · exact C.trans (C.trans (C.pass s) (C.want _ _)) (C.truth _)
  · split
    · exact C.trans (C.trans (C.pass s) (C.want _ _)) (C.integer _)
    · exact C.trans (C.trans (C.bounds s) (C.want _ _)) (C.integer _)
theorem vari (s : S) : Q s (vari s).2 := C.trans (C.trans (C.trans (C.take s 1) (C.want _ _)) (C.typed _)) (C.want _ _)
theorem method (f : Nat) (s : S) : Q s (method f s).2 := C.trans (C.take s 1) (C.blockF f _)
theorem members (f : Nat) (s : S) : Q s (members f s).2 := C.trans (C.several _ _ _ C.vari _ _ _) (C.several _ _ _ (C.method f) _ _ _)
theorem monitor (f : Nat) (s : S) : Q s (monitor f s).2 := C.trans (C.take s 1) (C.enclosed _ _ _ (C.members f) _)
theorem role (f : Nat) (s : S) : Q s (role f s).2 := by
  unfold Pz.role
  simp only
  split
  · exact C.trans (C.trans (C.take s 1) (C.pass _)) (C.blockF f _)
  · exact C.trans (C.trans (C.take s 1) (C.take _ _)) (C.blockF f _)
theorem progF (g : Nat) : ∀ (f : Nat) (m : List Mo) (r : List Ro) (s : S), Q s (progF g f m r s).2 := by
  intro f
  induction f with
  | zero => intro m r s; exact C.refl _
  | succ f ih =>
    intro m r s
    rw [Pz.progF]
    split
    · exact C.trans (C.oneMore m 8 _ (C.monitor g) s) (ih _ _ _)
    · split
      · exact C.trans (C.oneMore r 8 _ (C.role g) s) (ih _ _ _)
      · exact C.refl _
end Cl
/-- The first error stays. -/
def Ek (s s' : S) : Prop := s.err ≠ 0 → s'.err = s.err ∧ s'.pos = s.pos
theorem ek : Cl Ek where
  refl _ _ := ⟨rfl, rfl⟩
  trans h k h0 := by obtain ⟨a, b⟩ := h h0; obtain ⟨c, d⟩ := k (by rw [a]; exact h0); exact ⟨c.trans a, d.trans b⟩
  fail s e a h := by unfold S.fail; rw [if_neg h]; exact ⟨rfl, rfl⟩
  pass s h := by unfold S.pass; split <;> exact ⟨rfl, rfl⟩
  more _ _ := ⟨rfl, rfl⟩
  less _ _ := ⟨rfl, rfl⟩
theorem ek_atEnd (s : S) : Ek s (atEnd s) := by
  unfold atEnd; split
  · exact ek.refl s
  · exact ek.refuse s 40
end Pz
end Go.Proofs.YtaekbgljbgmchaaGreatDoor
namespace Go.Proofs.YtaekbgljbgmchaaGreatDoor
open Go.RowKit
open Lx (Out)
open Pz
namespace Pz
theorem is_of {o : Out} {y : ByteArray} (h : o.text = y) (x : ByteArray) : is o x = (y.data.toList == x.data.toList) := by unfold is; rw [h, ByteArray.toList_eq, ByteArray.toList_eq]
/-- A sign or a word. -/
def Tok (o : Out) (k : Int) (y : ByteArray) : Prop := o.kind = k ∧ o.text = y
theorem enter_deep (s : S) (x : ByteArray) (hs : s.sees x = true) (ho : s.opn = 64) (he : s.err = 0) : (s.enter x).err = 41 ∧ (s.enter x).pos = s.hd.pos := by
  have hr : (s.refuse 41).err = 41 ∧ (s.refuse 41).pos = s.hd.pos := by unfold S.refuse S.fail; rw [if_pos he]; exact ⟨rfl, rfl⟩
  have hw := ek.want (s.refuse 41) x (by rw [hr.1]; decide)
  unfold S.enter
  rw [hs, ho]
  exact ⟨hw.1.trans hr.1, hw.2.trans hr.2⟩
theorem enter_fine (o : Out) (l : List Out) (opn : Int) (x : ByteArray) (hx : is o x = true) (hk : o.kind ≠ 5) (ho : opn ≠ 64) : (S.mk (o :: l) opn 0 0).enter x = ⟨l, opn + 1, 0, 0⟩ := by
  have hb : (opn == 64) = false := by simpa using ho
  have hp : (S.mk (o :: l) opn 0 0).pass = ⟨l, opn, 0, 0⟩ := by unfold S.pass; rw [if_neg (by exact hk)]; rfl
  have hs : (S.mk (o :: l) opn 0 0).sees x = true := hx
  unfold S.enter S.want
  simp only [hb, Bool.and_false, Bool.false_eq_true, if_false]
  rw [hs, if_pos rfl, hp]
  rfl
theorem want_fine (o : Out) (l : List Out) (opn : Int) (x : ByteArray) (hx : is o x = true) (hk : o.kind ≠ 5) : (S.mk (o :: l) opn 0 0).want x = ⟨l, opn, 0, 0⟩ := by
  have hs : (S.mk (o :: l) opn 0 0).sees x = true := hx
  unfold S.want
  rw [hs, if_pos rfl]
  unfold S.pass
  rw [if_neg (by exact hk)]; rfl
theorem take_fine (o : Out) (l : List Out) (opn k : Int) (hk : o.kind = k) (h5 : o.kind ≠ 5) : (S.mk (o :: l) opn 0 0).take k = (o, ⟨l, opn, 0, 0⟩) := by
  unfold S.take
  rw [if_pos (by exact hk)]
  unfold S.pass
  rw [if_neg (by exact h5)]; rfl
theorem pass_fine (o : Out) (l : List Out) (opn : Int) (h5 : o.kind ≠ 5) : (S.mk (o :: l) opn 0 0).pass = ⟨l, opn, 0, 0⟩ := by
  unfold S.pass
  rw [if_neg (by exact h5)]; rfl
/-- No operator follows. -/
def Stops (r : List Out) : Prop := (operOf (r.headD noTok)).op = 0
theorem loop_stop (f : Nat) (l : Nat) (x : Ex) (own : Nat) (r : List Out) (opn e p : Int) (h : Stops r) : loop (f + 1) l x own ⟨r, opn, e, p⟩ = (x, ⟨r, opn, e, p⟩) := by
  rw [loop, if_pos (.inl h)]
theorem not_lt (l : Nat) (s : S) (h : s.sees s_bang = false) (f : Nat) : exprAt (f + 1) l s = loop f l (term f s).1 6 (term f s).2 := by
  rw [exprAt, h, Bool.and_false, if_neg (by simp)]
theorem term_path (f : Nat) (a d x : Out) (r : List Out) (opn : Int) (ha : a.kind = 1) (hd : Tok d 4 s_dot) (hx : x.kind = 1) : ∃ e, term (f + 1) ⟨a :: d :: x :: r, opn, 0, 0⟩ = (e, ⟨r, opn, 0, 0⟩) := by
  have hp : (path ⟨a :: d :: x :: r, opn, 0, 0⟩).2 = ⟨r, opn, 0, 0⟩ := by
    unfold path
    rw [take_fine a _ opn 1 ha (by rw [ha]; decide)]
    show ((S.mk (d :: x :: r) opn 0 0).want s_dot |>.take 1).2 = _
    rw [want_fine d _ opn s_dot (by rw [is_of hd.2]; decide) (by rw [hd.1]; decide), take_fine x _ opn 1 hx (by rw [hx]; decide)]
  rw [term, if_neg (by show ¬ a.kind = 2; rw [ha]; decide), if_pos (by exact ha), hp]
  exact ⟨_, rfl⟩
/-- a.x in so many parentheses, and what follows. -/
inductive Par : Nat → Int → List Out → List Out → Prop
  | base {d : Int} {a p x : Out} {r : List Out} (ha : a.kind = 1) (hp : Tok p 4 s_dot) (hx : x.kind = 1) : Par 0 d (a :: p :: x :: r) r
  | step {d : Int} {n : Nat} {o c : Out} {l r : List Out} (ho : Tok o 4 s_lpar) (hd : d ≤ o.pos) (hc : Tok c 4 s_rpar) (t : Par n (d + 1) l (c :: r)) : Par (n + 1) d (o :: l) r
/-- a.x behind so many signs. -/
inductive Bng (y : ByteArray) : Nat → Int → List Out → List Out → Prop
  | base {d : Int} {a p x : Out} {r : List Out} (ha : a.kind = 1) (hp : Tok p 4 s_dot) (hx : x.kind = 1) : Bng y 0 d (a :: p :: x :: r) r
  | step {d : Int} {n : Nat} {o : Out} {l r : List Out} (ho : Tok o 4 y) (hd : d ≤ o.pos) (t : Bng y n (d + 1) l r) : Bng y (n + 1) d (o :: l) r
/-- a.x behind so many numbers with their signs. -/
inductive Mul : Nat → Int → List Out → List Out → Prop
  | base {d : Int} {a p x : Out} {r : List Out} (ha : a.kind = 1) (hp : Tok p 4 s_dot) (hx : x.kind = 1) : Mul 0 d (a :: p :: x :: r) r
  | step {d : Int} {n : Nat} {k o : Out} {l r : List Out} (hk : k.kind = 2) (ho : Tok o 4 s_star) (hd : d ≤ o.pos) (t : Mul n (d + 1) l r) : Mul (n + 1) d (k :: o :: l) r
theorem stops_rpar {c : Out} {r : List Out} (hc : Tok c 4 s_rpar) : Stops (c :: r) := by
  unfold Stops operOf
  simp only [List.headD_cons, is_of hc.2]
  decide
theorem name_not {a : Out} {l : List Out} {opn : Int} {x : ByteArray} (h : is a x = false) : (S.mk (a :: l) opn 0 0).sees x = false := h
theorem expr_base (f lv : Nat) (a d x : Out) (r : List Out) (opn : Int) (ha : a.kind = 1) (hb : is a s_bang = false) (hd : Tok d 4 s_dot) (hx : x.kind = 1) (hr : Stops r) : ∃ e, exprAt (f + 2) lv ⟨a :: d :: x :: r, opn, 0, 0⟩ = (e, ⟨r, opn, 0, 0⟩) := by
  obtain ⟨e, he⟩ := term_path f a d x r opn ha hd hx
  refine ⟨e, ?_⟩
  rw [not_lt _ _ (name_not hb), he]
  exact loop_stop _ _ _ _ _ _ _ _ hr
theorem lp_term (f : Nat) (o : Out) (l : List Out) (opn : Int) (ho : Tok o 4 s_lpar) : exprAt (f + 2) 1 ⟨o :: l, opn, 0, 0⟩ = loop (f + 1) 1 (enclosed s_lpar (exprAt f 1) s_rpar ⟨o :: l, opn, 0, 0⟩).1 6 (enclosed s_lpar (exprAt f 1) s_rpar ⟨o :: l, opn, 0, 0⟩).2 := by
  rw [not_lt _ _ (name_not (by rw [is_of ho.2]; decide))]
  rw [term, if_neg (by show ¬ o.kind = 2; rw [ho.1]; decide), if_neg (by show ¬ o.kind = 1; rw [ho.1]; decide), name_not (by rw [is_of ho.2]; decide), if_neg (by simp), show (S.mk (o :: l) opn 0 0).sees s_lpar = true from by show is o s_lpar = true; rw [is_of ho.2]; decide, if_pos rfl]
theorem par_ok {n : Nat} {d : Int} {l r : List Out} (h : Par n d l r) : ∀ (f : Nat) (opn : Int), 2 * n + 2 ≤ f → opn + n ≤ 64 → Stops r → (∀ a ∈ l, a.kind = 1 → is a s_bang = false) → ∃ e, exprAt f 1 ⟨l, opn, 0, 0⟩ = (e, ⟨r, opn, 0, 0⟩) := by
  induction h with
  | base ha hp hx =>
    intro f opn hf _ hr hb
    obtain ⟨f, rfl⟩ : ∃ g, f = g + 2 := ⟨f - 2, by omega⟩
    exact expr_base f 1 _ _ _ _ opn ha (hb _ (by simp) ha) hp hx hr
  | step ho hd hc t ih =>
    intro f opn hf hn hr hb
    obtain ⟨f, rfl⟩ : ∃ g, f = g + 2 := ⟨f - 2, by omega⟩
    obtain ⟨e, he⟩ := ih f (opn + 1) (by omega) (by omega) (stops_rpar hc) (fun a ha => hb a (List.mem_cons_of_mem _ ha))
    refine ⟨e, ?_⟩
    rw [lp_term f _ _ _ ho]
    unfold enclosed within
    rw [enter_fine _ _ _ _ (by rw [is_of ho.2]; decide) (by rw [ho.1]; decide) (by omega), he]
    show loop (f + 1) 1 e 6 ((S.mk _ (opn + 1 - 1) 0 0).want s_rpar) = _
    rw [show opn + 1 - 1 = opn by omega, want_fine _ _ _ _ (by rw [is_of hc.2]; decide) (by rw [hc.1]; decide)]
    exact loop_stop _ _ _ _ _ _ _ _ hr
/-- Too deep: the error is told at a place that is no smaller. -/
def Bad (s : S) : Prop := s.err = 41 ∧ 64 ≤ s.pos
theorem Bad.keep {s s' : S} (h : Bad s) (k : Ek s s') : Bad s' := by
  obtain ⟨a, b⟩ := k (by rw [h.1]; decide)
  exact ⟨a.trans h.1, by rw [b]; exact h.2⟩
theorem par_deep {n : Nat} {d : Int} {l r : List Out} (h : Par n d l r) : ∀ (f : Nat) (opn : Int), 2 * n + 2 ≤ f → 64 < opn + n → opn ≤ 64 → opn ≤ d → Bad (exprAt f 1 ⟨l, opn, 0, 0⟩).2 := by
  induction h with
  | base ha hp hx => intro f opn hf h1 h2; omega
  | @step d n o c l r ho hd hc t ih =>
    intro f opn hf hn h64 hle
    obtain ⟨f, rfl⟩ : ∃ g, f = g + 2 := ⟨f - 2, by omega⟩
    rw [lp_term f _ _ _ ho]
    refine Bad.keep ?_ ((ek.expr (f + 1)).2.1 _ _ _ _)
    unfold enclosed
    refine Bad.keep ?_ (ek.want _ _)
    unfold within
    refine Bad.keep ?_ (ek.less _)
    by_cases h4 : opn = 64
    · refine Bad.keep ?_ ((ek.expr f).1 1 _)
      have := enter_deep (S.mk (o :: l) opn 0 0) s_lpar (show is o s_lpar = true from by rw [is_of ho.2]; decide) h4 rfl
      exact ⟨this.1, by rw [this.2]; show (64 : Int) ≤ o.pos; omega⟩
    · rw [enter_fine _ _ _ _ (by rw [is_of ho.2]; decide) (by rw [ho.1]; decide) h4]
      exact ih f (opn + 1) (by omega) (by omega) (by omega) (by omega)
theorem bang_expr (f lv : Nat) (hlv : lv ≤ 3) (o : Out) (l : List Out) (opn : Int) (ho : Tok o 4 s_bang) : exprAt (f + 1) lv ⟨o :: l, opn, 0, 0⟩ = loop f lv (prefixed 5 0 s_bang (exprAt f 3) o.pos ⟨o :: l, opn, 0, 0⟩).1 3 (prefixed 5 0 s_bang (exprAt f 3) o.pos ⟨o :: l, opn, 0, 0⟩).2 := by
  rw [exprAt, show (S.mk (o :: l) opn 0 0).sees s_bang = true from by show is o s_bang = true; rw [is_of ho.2]; decide, show decide (lv ≤ 3) = true from by simpa using hlv, Bool.and_self, if_pos rfl]
  rfl
theorem bang_ok {n : Nat} {d : Int} {l r : List Out} (h : Bng s_bang n d l r) : ∀ (f lv : Nat) (opn : Int), lv ≤ 3 → 2 * n + 2 ≤ f → opn + n ≤ 64 → Stops r → (∀ a ∈ l, a.kind = 1 → is a s_bang = false) → ∃ e, exprAt f lv ⟨l, opn, 0, 0⟩ = (e, ⟨r, opn, 0, 0⟩) := by
  induction h with
  | base ha hp hx =>
    intro f lv opn _ hf _ hr hb
    obtain ⟨f, rfl⟩ : ∃ g, f = g + 2 := ⟨f - 2, by omega⟩
    exact expr_base f lv _ _ _ _ opn ha (hb _ (by simp) ha) hp hx hr
  | step ho hd t ih =>
    intro f lv opn hlv hf hn hr hb
    obtain ⟨f, rfl⟩ : ∃ g, f = g + 2 := ⟨f - 2, by omega⟩
    obtain ⟨e, he⟩ := ih (f + 1) 3 (opn + 1) (by omega) (by omega) (by omega) hr (fun a ha => hb a (List.mem_cons_of_mem _ ha))
    rw [bang_expr (f + 1) lv hlv _ _ _ ho]
    unfold prefixed within
    rw [enter_fine _ _ _ _ (by rw [is_of ho.2]; decide) (by rw [ho.1]; decide) (by omega), he]
    show ∃ e', loop (f + 1) lv _ 3 (S.mk _ (opn + 1 - 1) 0 0) = _
    rw [show opn + 1 - 1 = opn by omega]
    exact ⟨_, loop_stop _ _ _ _ _ _ _ _ hr⟩
theorem bang_deep {n : Nat} {d : Int} {l r : List Out} (h : Bng s_bang n d l r) : ∀ (f lv : Nat) (opn : Int), lv ≤ 3 → 2 * n + 2 ≤ f → 64 < opn + n → opn ≤ 64 → opn ≤ d → Bad (exprAt f lv ⟨l, opn, 0, 0⟩).2 := by
  induction h with
  | base ha hp hx => intro f lv opn _ hf h1 h2; omega
  | @step d n o l r ho hd t ih =>
    intro f lv opn hlv hf hn h64 hle
    obtain ⟨f, rfl⟩ : ∃ g, f = g + 1 := ⟨f - 1, by omega⟩
    rw [bang_expr f lv hlv _ _ _ ho]
    refine Bad.keep ?_ ((ek.expr f).2.1 _ _ _ _)
    unfold prefixed within
    refine Bad.keep ?_ (ek.less _)
    by_cases h4 : opn = 64
    · refine Bad.keep ?_ ((ek.expr f).1 3 _)
      have := enter_deep (S.mk (o :: l) opn 0 0) s_bang (show is o s_bang = true from by rw [is_of ho.2]; decide) h4 rfl
      exact ⟨this.1, by rw [this.2]; show (64 : Int) ≤ o.pos; omega⟩
    · rw [enter_fine _ _ _ _ (by rw [is_of ho.2]; decide) (by rw [ho.1]; decide) h4]
      exact ih f 3 (opn + 1) (by omega) (by omega) (by omega) (by omega) (by omega)
theorem minus_term (f : Nat) (o : Out) (l : List Out) (opn : Int) (ho : Tok o 4 s_minus) : term (f + 1) ⟨o :: l, opn, 0, 0⟩ = prefixed 6 0 s_minus (term f) o.pos ⟨o :: l, opn, 0, 0⟩ := by
  rw [term, if_neg (by show ¬ o.kind = 2; rw [ho.1]; decide), if_neg (by show ¬ o.kind = 1; rw [ho.1]; decide), show (S.mk (o :: l) opn 0 0).sees s_minus = true from by show is o s_minus = true; rw [is_of ho.2]; decide, if_pos rfl]
  rfl
theorem minus_ok {n : Nat} {d : Int} {l r : List Out} (h : Bng s_minus n d l r) : ∀ (f : Nat) (opn : Int), n + 1 ≤ f → opn + n ≤ 64 → ∃ e, term f ⟨l, opn, 0, 0⟩ = (e, ⟨r, opn, 0, 0⟩) := by
  induction h with
  | base ha hp hx =>
    intro f opn hf _
    obtain ⟨f, rfl⟩ : ∃ g, f = g + 1 := ⟨f - 1, by omega⟩
    exact term_path f _ _ _ _ opn ha hp hx
  | step ho hd t ih =>
    intro f opn hf hn
    obtain ⟨f, rfl⟩ : ∃ g, f = g + 1 := ⟨f - 1, by omega⟩
    obtain ⟨e, he⟩ := ih f (opn + 1) (by omega) (by omega)
    rw [minus_term f _ _ _ ho]
    unfold prefixed within
    rw [enter_fine _ _ _ _ (by rw [is_of ho.2]; decide) (by rw [ho.1]; decide) (by omega), he]
    show ∃ e', (_, S.mk _ (opn + 1 - 1) 0 0) = _
    rw [show opn + 1 - 1 = opn by omega]
    exact ⟨_, rfl⟩
theorem minus_deep {n : Nat} {d : Int} {l r : List Out} (h : Bng s_minus n d l r) : ∀ (f : Nat) (opn : Int), n + 1 ≤ f → 64 < opn + n → opn ≤ 64 → opn ≤ d → Bad (term f ⟨l, opn, 0, 0⟩).2 := by
  induction h with
  | base ha hp hx => intro f opn hf h1 h2; omega
  | @step d n o l r ho hd t ih =>
    intro f opn hf hn h64 hle
    obtain ⟨f, rfl⟩ : ∃ g, f = g + 1 := ⟨f - 1, by omega⟩
    rw [minus_term f _ _ _ ho]
    unfold prefixed within
    refine Bad.keep ?_ (ek.less _)
    by_cases h4 : opn = 64
    · refine Bad.keep ?_ ((ek.expr f).2.2 _)
      have := enter_deep (S.mk (o :: l) opn 0 0) s_minus (show is o s_minus = true from by rw [is_of ho.2]; decide) h4 rfl
      exact ⟨this.1, by rw [this.2]; show (64 : Int) ≤ o.pos; omega⟩
    · rw [enter_fine _ _ _ _ (by rw [is_of ho.2]; decide) (by rw [ho.1]; decide) h4]
      exact ih f (opn + 1) (by omega) (by omega) (by omega) (by omega)
theorem mul_term (f : Nat) (k o : Out) (l : List Out) (opn : Int) (hk : k.kind = 2) (ho : Tok o 4 s_star) : term (f + 1) ⟨k :: o :: l, opn, 0, 0⟩ = prefixed 7 k.n s_star (term f) k.pos ⟨o :: l, opn, 0, 0⟩ := by
  rw [term, if_pos (by exact hk), pass_fine _ _ _ (by rw [hk]; decide), show (S.mk (o :: l) opn 0 0).sees s_star = true from by show is o s_star = true; rw [is_of ho.2]; decide, if_pos rfl]
  rfl
theorem mul_ok {n : Nat} {d : Int} {l r : List Out} (h : Mul n d l r) : ∀ (f : Nat) (opn : Int), n + 1 ≤ f → opn + n ≤ 64 → ∃ e, term f ⟨l, opn, 0, 0⟩ = (e, ⟨r, opn, 0, 0⟩) := by
  induction h with
  | base ha hp hx =>
    intro f opn hf _
    obtain ⟨f, rfl⟩ : ∃ g, f = g + 1 := ⟨f - 1, by omega⟩
    exact term_path f _ _ _ _ opn ha hp hx
  | step hk ho hd t ih =>
    intro f opn hf hn
    obtain ⟨f, rfl⟩ : ∃ g, f = g + 1 := ⟨f - 1, by omega⟩
    obtain ⟨e, he⟩ := ih f (opn + 1) (by omega) (by omega)
    rw [mul_term f _ _ _ _ hk ho]
    unfold prefixed within
    rw [enter_fine _ _ _ _ (by rw [is_of ho.2]; decide) (by rw [ho.1]; decide) (by omega), he]
    show ∃ e', (_, S.mk _ (opn + 1 - 1) 0 0) = _
    rw [show opn + 1 - 1 = opn by omega]
    exact ⟨_, rfl⟩
theorem mul_deep {n : Nat} {d : Int} {l r : List Out} (h : Mul n d l r) : ∀ (f : Nat) (opn : Int), n + 1 ≤ f → 64 < opn + n → opn ≤ 64 → opn ≤ d → Bad (term f ⟨l, opn, 0, 0⟩).2 := by
  induction h with
  | base ha hp hx => intro f opn hf h1 h2; omega
  | @step d n k o l r hk ho hd t ih =>
    intro f opn hf hn h64 hle
    obtain ⟨f, rfl⟩ : ∃ g, f = g + 1 := ⟨f - 1, by omega⟩
    rw [mul_term f _ _ _ _ hk ho]
    unfold prefixed within
    refine Bad.keep ?_ (ek.less _)
    by_cases h4 : opn = 64
    · refine Bad.keep ?_ ((ek.expr f).2.2 _)
      have := enter_deep (S.mk (o :: l) opn 0 0) s_star (show is o s_star = true from by rw [is_of ho.2]; decide) h4 rfl
      exact ⟨this.1, by rw [this.2]; show (64 : Int) ≤ o.pos; omega⟩
    · rw [enter_fine _ _ _ _ (by rw [is_of ho.2]; decide) (by rw [ho.1]; decide) h4]
      exact ih f (opn + 1) (by omega) (by omega) (by omega) (by omega)
theorem expr_of_term {f lv : Nat} {s : S} (hb : s.sees s_bang = false) {r : List Out} {opn : Int} (hr : Stops r) (h : ∃ e, term (f + 1) s = (e, ⟨r, opn, 0, 0⟩)) : ∃ e, exprAt (f + 2) lv s = (e, ⟨r, opn, 0, 0⟩) := by
  obtain ⟨e, he⟩ := h
  refine ⟨e, ?_⟩
  rw [not_lt _ _ hb, he]
  exact loop_stop _ _ _ _ _ _ _ _ hr
theorem bad_of_term {f lv : Nat} {s : S} (hb : s.sees s_bang = false) (h : Bad (term f s).2) : Bad (exprAt (f + 1) lv s).2 := by
  rw [not_lt _ _ hb]
  exact h.keep ((ek.expr f).2.1 _ _ _ _)
/-- Empty blocks, one within the other, each of a loop. -/
inductive Nb : Nat → List Out → List Out → Prop
  | base {o c : Out} {r : List Out} (ho : Tok o 4 s_lbr) (hp : 0 < o.pos) (hc : Tok c 4 s_rbr) : Nb 0 (o :: c :: r) r
  | step {n : Nat} {o k c : Out} {l r : List Out} (ho : Tok o 4 s_lbr) (hp : 0 < o.pos) (hk : Tok k 3 k_loop) (hc : Tok c 4 s_rbr) (t : Nb n l (c :: r)) : Nb (n + 1) (o :: k :: l) r
theorem stmts_stop (f : Nat) (l : List St) (c : Out) (r : List Out) (opn : Int) (hc : Tok c 4 s_rbr) : stmtsF (f + 1) l ⟨c :: r, opn, 0, 0⟩ = (bl l, ⟨c :: r, opn, 0, 0⟩) := by
  have : kindOf c = 0 := by unfold kindOf; rw [if_neg (by rw [hc.1]; decide)]; simp only [is_of hc.2]; decide
  rw [stmtsF, if_pos (by exact this)]
theorem stmts_loop (f : Nat) (l : List St) (k : Out) (t : List Out) (opn : Int) (hk : Tok k 3 k_loop) : stmtsF (f + 1) l ⟨k :: t, opn, 0, 0⟩ = stmtsF f (l ++ [stAt (st 5 e0 e0 0 exZ [(block (stmtsF f []) ⟨t, opn, 0, 0⟩).1] 0) k.pos]) (block (stmtsF f []) ⟨t, opn, 0, 0⟩).2 := by
  have h5 : kindOf k = 5 := by unfold kindOf; rw [if_neg (by rw [hk.1]; decide)]; simp only [is_of hk.2]; decide
  rw [stmtsF]
  show (if kindOf k = 0 then _ else stmtsF f (l ++ [stAt (stmt _ _ (kindOf k) _).1 k.pos]) (stmt _ _ (kindOf k) _).2) = _
  rw [h5, if_neg (by decide)]
  unfold stmt stLoop
  simp only
  rw [want_fine _ _ _ _ (by rw [is_of hk.2]; decide) (by rw [hk.1]; decide)]
theorem nb_ok {n : Nat} {l r : List Out} (h : Nb n l r) : ∀ (f : Nat) (opn : Int), 2 * n + 1 ≤ f → opn + n + 1 ≤ 64 → ∃ e, block (stmtsF f []) ⟨l, opn, 0, 0⟩ = (e, ⟨r, opn, 0, 0⟩) := by
  induction h with
  | base ho hp hc =>
    intro f opn hf hn
    obtain ⟨f, rfl⟩ : ∃ g, f = g + 1 := ⟨f - 1, by omega⟩
    unfold block enclosed within
    rw [enter_fine _ _ _ _ (by rw [is_of ho.2]; decide) (by rw [ho.1]; decide) (by omega), stmts_stop f _ _ _ _ hc]
    show ∃ e, (_, (S.mk _ (opn + 1 - 1) 0 0).want s_rbr) = _
    rw [show opn + 1 - 1 = opn by omega, want_fine _ _ _ _ (by rw [is_of hc.2]; decide) (by rw [hc.1]; decide)]
    exact ⟨_, rfl⟩
  | step ho hp hk hc t ih =>
    intro f opn hf hn
    obtain ⟨f, rfl⟩ : ∃ g, f = g + 2 := ⟨f - 2, by omega⟩
    obtain ⟨e, he⟩ := ih (f + 1) (opn + 1) (by omega) (by omega)
    unfold block enclosed within
    rw [enter_fine _ _ _ _ (by rw [is_of ho.2]; decide) (by rw [ho.1]; decide) (by omega), stmts_loop _ _ _ _ _ hk, he, stmts_stop f _ _ _ _ hc]
    show ∃ e, (_, (S.mk _ (opn + 1 - 1) 0 0).want s_rbr) = _
    rw [show opn + 1 - 1 = opn by omega, want_fine _ _ _ _ (by rw [is_of hc.2]; decide) (by rw [hc.1]; decide)]
    exact ⟨_, rfl⟩
def Bad1 (s : S) : Prop := s.err = 41 ∧ 0 < s.pos
theorem Bad1.keep {s s' : S} (h : Bad1 s) (k : Ek s s') : Bad1 s' := by
  obtain ⟨a, b⟩ := k (by rw [h.1]; decide)
  exact ⟨a.trans h.1, by rw [b]; exact h.2⟩
theorem nb_deep {n : Nat} {l r : List Out} (h : Nb n l r) : ∀ (f : Nat) (opn : Int), 2 * n + 1 ≤ f → 64 < opn + n + 1 → opn ≤ 64 → Bad1 (block (stmtsF f []) ⟨l, opn, 0, 0⟩).2 := by
  induction h with
  | @base o c r ho hp hc =>
    intro f opn hf hn h64
    unfold block enclosed
    refine Bad1.keep ?_ (ek.want _ _)
    unfold within
    refine Bad1.keep ?_ (ek.less _)
    refine Bad1.keep ?_ (ek.stmts f _ _)
    have := enter_deep (S.mk (o :: c :: r) opn 0 0) s_lbr (show is o s_lbr = true from by rw [is_of ho.2]; decide) (by show opn = 64; omega) rfl
    exact ⟨this.1, by rw [this.2]; show (0 : Int) < o.pos; omega⟩
  | @step n o k c l r ho hp hk hc t ih =>
    intro f opn hf hn h64
    obtain ⟨f, rfl⟩ : ∃ g, f = g + 1 := ⟨f - 1, by omega⟩
    unfold block enclosed
    refine Bad1.keep ?_ (ek.want _ _)
    unfold within
    refine Bad1.keep ?_ (ek.less _)
    by_cases h4 : opn = 64
    · refine Bad1.keep ?_ (ek.stmts _ _ _)
      have := enter_deep (S.mk (o :: k :: l) opn 0 0) s_lbr (show is o s_lbr = true from by rw [is_of ho.2]; decide) h4 rfl
      exact ⟨this.1, by rw [this.2]; show (0 : Int) < o.pos; omega⟩
    · rw [enter_fine _ _ _ _ (by rw [is_of ho.2]; decide) (by rw [ho.1]; decide) h4, stmts_loop _ _ _ _ _ hk]
      exact (ih f (opn + 1) (by omega) (by omega) (by omega)).keep (ek.stmts f _ _)
/-- A thread with such blocks. -/
theorem thread_reads (g f : Nat) (t a b : Out) (l : List Out) (ht : Tok t 3 k_thread) (ha : a.kind = 1) (hb : Tok b 4 s_star) : (progF g (f + 1) [] [] ⟨t :: a :: b :: l, 0, 0, 0⟩).2 = (progF g f [] [⟨a.text, true, 0, (block (stmtsF g []) ⟨l, 0, 0, 0⟩).1, a.pos⟩] (block (stmtsF g []) ⟨l, 0, 0, 0⟩).2).2 := by
  rw [progF, show (S.mk (t :: a :: b :: l) 0 0 0).sees k_monitor = false from by show is t k_monitor = false; rw [is_of ht.2]; decide, if_neg (by simp), show (S.mk (t :: a :: b :: l) 0 0 0).sees k_thread = true from by show is t k_thread = true; rw [is_of ht.2]; decide, if_pos rfl]
  have hfull : (S.mk (t :: a :: b :: l) 0 0 0).full (decide (8 ≤ ([] : List Ro).length)) = ⟨a :: b :: l, 0, 0, 0⟩ := by
    show (S.mk (t :: a :: b :: l) 0 0 0).pass = _
    exact pass_fine _ _ _ (by rw [ht.1]; decide)
  have hrole : role g ⟨a :: b :: l, 0, 0, 0⟩ = (⟨a.text, true, 0, (block (stmtsF g []) ⟨l, 0, 0, 0⟩).1, a.pos⟩, (block (stmtsF g []) ⟨l, 0, 0, 0⟩).2) := by
    unfold role
    rw [take_fine a _ 0 1 ha (by rw [ha]; decide)]
    simp only
    rw [show (S.mk (b :: l) 0 0 0).sees s_star = true from by show is b s_star = true; rw [is_of hb.2]; decide, if_pos rfl, pass_fine _ _ _ (by rw [hb.1]; decide)]
    rfl
  unfold oneMore
  rw [hfull, hrole]
  rfl
theorem prog_end (g f : Nat) (m : List Mo) (r : List Ro) (z : Out) (hz : z.text = e0) : progF g f m r ⟨[z], 0, 0, 0⟩ = (pr m r, ⟨[z], 0, 0, 0⟩) := by
  cases f with
  | zero => rfl
  | succ f => rw [progF, show (S.mk [z] 0 0 0).sees k_monitor = false from by show is z k_monitor = false; rw [is_of hz]; decide, if_neg (by simp), show (S.mk [z] 0 0 0).sees k_thread = false from by show is z k_thread = false; rw [is_of hz]; decide, if_neg (by simp)]
end Pz
end Go.Proofs.YtaekbgljbgmchaaGreatDoor
namespace Go.Proofs.YtaekbgljbgmchaaGreatDoor
open Go.RowKit
namespace Lx
/-- A token without its place, and an error's number. -/
structure T where
  kind : Int
  text : List UInt8
  n : Int
  err : Int
def badT (e : Int) : T := ⟨0, [], 0, e⟩
def nameT (x : List UInt8) : T := if words.contains x then ⟨3, x, 0, 0⟩ else if 32 < x.length then badT 12 else ⟨1, x, 0, 0⟩
def numT (x : List UInt8) : T := if 1 < x.length ∧ x.head? = some 48 then badT 11 else if decVal x ≤ 9223372036854775807 then ⟨2, x, (decVal x : Nat), 0⟩ else badT 11
def second : List UInt8 → Int
  | _ :: d :: _ => (d.toNat : Int)
  | _ => 0
def signT (l : List UInt8) : T := match l with
  | [] => badT 10
  | c :: _ => if signLen (c.toNat : Int) (second l) = 0 then badT 10 else ⟨4, l.take (signLen (c.toNat : Int) (second l)), 0, 0⟩
/-- The token at the head of a list of bytes. -/
def tokL (l : List UInt8) : T := match l with
  | [] => badT 10
  | c :: _ => if letter c then nameT (l.takeWhile nameByte) else if digit c then numT (l.takeWhile digit) else signT l
def ofOut (o : Out) : T := ⟨o.kind, o.text.data.toList, o.n, o.err⟩
theorem tokL_out (s : ByteArray) (a : Nat) (ha : a < s.size) : tokL (s.data.toList.drop a) = ofOut (tokOut s a) := by
  have hdc := drop_cons s a ha
  cases hl : letter s[a]
  · cases hd : digit s[a]
    · rw [tokOut_sign s a ha hl hd]
      have hsec : second (s.data.toList.drop a) = byteAt s (a + 1) := by
        rw [hdc]
        by_cases h1 : a + 1 < s.size
        · rw [drop_cons s (a + 1) h1, byteAt_lt s (a + 1) h1]; rfl
        · rw [drop_over s (a + 1) (by omega), byteAt_over s (a + 1) h1]; rfl
      have hb := byteAt_lt s a ha
      have e : tokL (s.data.toList.drop a) = signT (s.data.toList.drop a) := by rw [hdc]; simp [tokL, hl, hd]
      rw [e]
      have e2 : signT (s.data.toList.drop a) = if signLen (byteAt s a) (byteAt s (a + 1)) = 0 then badT 10 else ⟨4, (s.data.toList.drop a).take (signLen (byteAt s a) (byteAt s (a + 1))), 0, 0⟩ := by
        rw [← hsec, hb]; rw [hdc]; rfl
      rw [e2]
      unfold signOut
      by_cases h0 : signLen (byteAt s a) (byteAt s (a + 1)) = 0
      · rw [if_pos h0, if_pos h0]; rfl
      · rw [if_neg h0, if_neg h0]
        simp only [ofOut, extract_list, Nat.add_sub_cancel_left]
    · rw [tokOut_digit s a ha hl hd]
      have e : tokL (s.data.toList.drop a) = numT ((s.data.toList.drop a).takeWhile digit) := by rw [hdc]; simp [tokL, hl, hd]
      rw [e, ← extract_span]
      have hh : (s.extract a (spanEnd digit s a)).data.toList.head? = some s[a] := by rw [extract_span, hdc]; simp [hd]
      have hsz : (s.extract a (spanEnd digit s a)).data.toList.length = (s.extract a (spanEnd digit s a)).size := by rw [Array.length_toList]; rfl
      have hb := byteAt_lt s a ha
      unfold numT numOut
      rw [hh, hsz, hb]
      have e48 : (some s[a] = some (48 : UInt8)) ↔ ((s[a].toNat : Int) = 48) := by
        constructor
        · intro h; rw [Option.some.inj h]; decide
        · intro h; rw [show s[a] = 48 from u8_eq _ 48 h]
      simp only [e48]
      split
      · rfl
      · split <;> rfl
  · rw [tokOut_letter s a ha hl]
    have e : tokL (s.data.toList.drop a) = nameT ((s.data.toList.drop a).takeWhile nameByte) := by rw [hdc]; simp [tokL, hl]
    rw [e, ← extract_span]
    have hsz : (s.extract a (spanEnd nameByte s a)).data.toList.length = (s.extract a (spanEnd nameByte s a)).size := by rw [Array.length_toList]; rfl
    unfold nameT nameOut word
    rw [hsz, ByteArray.toList_eq]
    split
    · rfl
    · split <;> rfl
/-- How a list of bytes is told. -/
inductive RL where
  | done (l : List T)
  | fail (e : Int) (k : Nat)
def consR (t : T) (m : Nat) : RL → RL
  | .done l => .done (t :: l)
  | .fail e k => .fail e (k + t.text.length + m)
inductive Scans : List UInt8 → RL → Prop
  | nil (l : List UInt8) (h : l.drop (skipC false l) = []) : Scans l (.done [])
  | bad (l : List UInt8) (c : UInt8) (r : List UInt8) (h : l.drop (skipC false l) = c :: r) (he : (tokL (c :: r)).err ≠ 0) : Scans l (.fail (tokL (c :: r)).err (skipC false l))
  | tok (l : List UInt8) (c : UInt8) (r : List UInt8) (R : RL) (h : l.drop (skipC false l) = c :: r) (he : (tokL (c :: r)).err = 0) (hR : Scans ((c :: r).drop (tokL (c :: r)).text.length) R) : Scans l (consR (tokL (c :: r)) (skipC false l) R)
theorem Scans.det {l : List UInt8} {R R' : RL} (h : Scans l R) (h' : Scans l R') : R = R' := by
  induction h generalizing R' with
  | nil l h =>
    cases h' with
    | nil => rfl
    | bad _ c r h2 => rw [h] at h2; cases h2
    | tok _ c r R h2 => rw [h] at h2; cases h2
  | bad l c r h he =>
    cases h' with
    | nil _ h2 => rw [h] at h2; cases h2
    | bad _ c' r' h2 => rw [h] at h2; cases h2; rfl
    | tok _ c' r' R h2 he2 => rw [h] at h2; cases h2; exact absurd he2 he
  | tok l c r R h he hR ih =>
    cases h' with
    | nil _ h2 => rw [h] at h2; cases h2
    | bad _ c' r' h2 he2 => rw [h] at h2; cases h2; exact absurd he he2
    | tok _ c' r' R2 h2 he2 hR2 => rw [h] at h2; cases h2; rw [ih hR2]
/-- What the scan from a place on tells, behind acc, is what is told of the bytes from there on. -/
def Fits (acc : List Out) (k : Nat) : ScanR → RL → Prop
  | .done l, .done ts => ∃ o, l = acc ++ o ∧ o.map ofOut = ts
  | .fail e j, .fail e' k' => e = e' ∧ j = k + k'
  | _, _ => False
theorem scan_fits (s : ByteArray) : ∀ (f k : Nat) (acc : List Out), k ≤ s.size → s.size ≤ skip s k + f → ∃ R, Scans (s.data.toList.drop k) R ∧ Fits acc k (scanF s f (skip s k) acc) R := by
  intro f
  have hdd : ∀ k, (s.data.toList.drop k).drop (skipC false (s.data.toList.drop k)) = s.data.toList.drop (skip s k) := by intro k; rw [List.drop_drop]; rfl
  induction f with
  | zero =>
    intro k acc hk hf
    refine ⟨.done [], .nil _ ?_, [], by simp, rfl⟩
    rw [hdd, drop_over s _ (by omega)]
  | succ f ih =>
    intro k acc hk hf
    by_cases hlt : skip s k < s.size
    · have hcons : (s.data.toList.drop k).drop (skipC false (s.data.toList.drop k)) = s[skip s k] :: s.data.toList.drop (skip s k + 1) := by rw [hdd, drop_cons s _ hlt]
      have htok : tokL (s[skip s k] :: s.data.toList.drop (skip s k + 1)) = ofOut (tokOut s (skip s k)) := by rw [← drop_cons s _ hlt]; exact tokL_out s _ hlt
      by_cases he : (tokOut s (skip s k)).err = 0
      · have hto := tok_ok s _ hlt he
        have hlen : (tokOut s (skip s k)).text.data.toList.length = (tokOut s (skip s k)).text.size := by rw [Array.length_toList]; rfl
        obtain ⟨R, hS, hF⟩ := ih (skip s k + (tokOut s (skip s k)).text.size) (acc ++ [tokOut s (skip s k)]) hto.2 (by have := le_skip s (skip s k + (tokOut s (skip s k)).text.size); omega)
        have hS2 : Scans ((s[skip s k] :: s.data.toList.drop (skip s k + 1)).drop (tokL (s[skip s k] :: s.data.toList.drop (skip s k + 1))).text.length) R := by
          rw [htok, ← drop_cons s _ hlt, List.drop_drop]
          show Scans (s.data.toList.drop (skip s k + (tokOut s (skip s k)).text.data.toList.length)) R
          rw [hlen]; exact hS
        refine ⟨_, .tok _ _ _ R hcons (by rw [htok]; exact he) hS2, ?_⟩
        rw [scanF, if_pos hlt, if_pos he]
        cases hR : R with
        | done ts =>
          rw [hR] at hF
          cases hsc : scanF s f (skip s (skip s k + (tokOut s (skip s k)).text.size)) (acc ++ [tokOut s (skip s k)]) with
          | done l =>
            rw [hsc] at hF
            obtain ⟨o, h1, h2⟩ := hF
            exact ⟨tokOut s (skip s k) :: o, by rw [h1]; simp, by rw [List.map_cons, h2, htok]⟩
          | fail e j => rw [hsc] at hF; exact hF.elim
        | fail e' k' =>
          rw [hR] at hF
          cases hsc : scanF s f (skip s (skip s k + (tokOut s (skip s k)).text.size)) (acc ++ [tokOut s (skip s k)]) with
          | done l => rw [hsc] at hF; exact hF.elim
          | fail e j =>
            rw [hsc] at hF
            obtain ⟨h1, h2⟩ := hF
            refine ⟨h1, ?_⟩
            rw [htok]
            show j = k + (k' + (tokOut s (skip s k)).text.data.toList.length + skipC false (s.data.toList.drop k))
            rw [hlen, h2]
            unfold skip; omega
      · refine ⟨_, .bad _ _ _ hcons (by rw [htok]; exact he), ?_⟩
        rw [scanF, if_pos hlt, if_neg he]
        exact ⟨by rw [htok]; rfl, rfl⟩
    · refine ⟨.done [], .nil _ (by rw [hdd, drop_over s _ (by omega)]), ?_⟩
      rw [scanF, if_neg hlt]
      exact ⟨[], by simp, rfl⟩
/-- A whole text's. -/
theorem scan_told (s : ByteArray) : ∃ R, Scans s.data.toList R ∧ Fits [] 0 (scan s) R := by
  have := scan_fits s s.size 0 [] (by omega) (by omega)
  simpa [scan] using this
theorem scan_of (s : ByteArray) (R : RL) (h : Scans s.data.toList R) : Fits [] 0 (scan s) R := by
  obtain ⟨R', h1, h2⟩ := scan_told s
  rw [h.det h1]; exact h2
end Lx
end Go.Proofs.YtaekbgljbgmchaaGreatDoor
namespace Go.Proofs.YtaekbgljbgmchaaGreatDoor
open Go.RowKit
namespace Lx
/-- A byte that ends every token ahead of it, as the end does. -/
def Brk (h : UInt8) : Prop := nameByte h = false ∧ digit h = false ∧ ∀ c : Int, signLen c (h.toNat : Int) = signLen c 0
theorem brk32 : Brk 32 := ⟨by decide, by decide, fun c => by simp only [show ((32 : UInt8).toNat : Int) = 32 from rfl]; unfold signLen; (repeat' split) <;> simp_all <;> omega⟩
theorem brk35 : Brk 35 := ⟨by decide, by decide, fun c => by simp only [show ((35 : UInt8).toNat : Int) = 35 from rfl]; unfold signLen; (repeat' split) <;> simp_all <;> omega⟩
theorem brk10 : Brk 10 := ⟨by decide, by decide, fun c => by simp only [show ((10 : UInt8).toNat : Int) = 10 from rfl]; unfold signLen; (repeat' split) <;> simp_all <;> omega⟩
theorem takeWhile_brk (p : UInt8 → Bool) (h : UInt8) (hp : p h = false) (l r : List UInt8) : (l ++ h :: r).takeWhile p = l.takeWhile p := by
  induction l with
  | nil => simp [hp]
  | cons c l ih => cases hc : p c <;> simp [hc, ih]
theorem signLen_two (c d : Int) : signLen c d ≤ 2 := by unfold signLen; (repeat' split) <;> omega
theorem signLen_end (c : UInt8) : signLen (c.toNat : Int) 0 ≤ 1 := by
  unfold signLen
  (repeat' split) <;> simp_all <;> omega
theorem signLen_one (c : UInt8) (d : Int) (h : signLen (c.toNat : Int) d = 1) : signLen (c.toNat : Int) 0 = 1 := by
  unfold signLen at h ⊢
  (repeat' split at h) <;> simp_all
theorem tok_stable (h : UInt8) (hb : Brk h) (c : UInt8) (l r : List UInt8) : tokL ((c :: l) ++ h :: r) = tokL (c :: l) := by
  have e : ∀ x, tokL (c :: x) = if letter c then nameT ((c :: x).takeWhile nameByte) else if digit c then numT ((c :: x).takeWhile digit) else signT (c :: x) := fun _ => rfl
  rw [List.cons_append, e, e, ← List.cons_append, takeWhile_brk nameByte h hb.1, takeWhile_brk digit h hb.2.1]
  split
  · rfl
  · split
    · rfl
    · cases l with
      | nil =>
        show (if signLen (c.toNat : Int) (h.toNat : Int) = 0 then badT 10 else ⟨4, ([c] ++ h :: r).take (signLen (c.toNat : Int) (h.toNat : Int)), 0, 0⟩) = (if signLen (c.toNat : Int) 0 = 0 then badT 10 else ⟨4, [c].take (signLen (c.toNat : Int) 0), 0, 0⟩)
        rw [hb.2.2, List.take_append_of_le_length (by simpa using signLen_end c)]
      | cons d l =>
        show (if signLen (c.toNat : Int) (d.toNat : Int) = 0 then badT 10 else ⟨4, ((c :: d :: l) ++ h :: r).take (signLen (c.toNat : Int) (d.toNat : Int)), 0, 0⟩) = (if signLen (c.toNat : Int) (d.toNat : Int) = 0 then badT 10 else ⟨4, (c :: d :: l).take (signLen (c.toNat : Int) (d.toNat : Int)), 0, 0⟩)
        rw [List.take_append_of_le_length (by have := signLen_two (c.toNat : Int) (d.toNat : Int); simp; omega)]
theorem takeWhile_self (p : UInt8 → Bool) (l : List UInt8) : (l.takeWhile p).takeWhile p = l.takeWhile p := by
  induction l with
  | nil => rfl
  | cons c l ih => cases hc : p c <;> simp [hc, ih]
theorem nameT_text (x : List UInt8) (h : (nameT x).err = 0) : (nameT x).text = x := by
  unfold nameT at h ⊢; split
  · rfl
  · rename_i hw; rw [if_neg hw] at h; split
    · rename_i h2; rw [if_pos h2] at h; simp [badT] at h
    · rfl
theorem numT_text (x : List UInt8) (h : (numT x).err = 0) : (numT x).text = x := by
  unfold numT at h ⊢; split
  · rename_i h2; rw [if_pos h2] at h; simp [badT] at h
  · rename_i h1; rw [if_neg h1] at h; split
    · rfl
    · rename_i h2; rw [if_neg h2] at h; simp [badT] at h
/-- A token's own text tells it; it begins as the list does. -/
theorem tok_self (c : UInt8) (l : List UInt8) (h : (tokL (c :: l)).err = 0) : tokL (tokL (c :: l)).text = tokL (c :: l) ∧ (∃ r, (tokL (c :: l)).text = c :: r) ∧ (tokL (c :: l)).text.length ≤ (c :: l).length := by
  have e : ∀ x, tokL (c :: x) = if letter c then nameT ((c :: x).takeWhile nameByte) else if digit c then numT ((c :: x).takeWhile digit) else signT (c :: x) := fun _ => rfl
  rw [e] at h ⊢
  cases hl : letter c
  · cases hd : digit c
    · simp only [hl, hd, Bool.false_eq_true, if_false] at h ⊢
      have es : ∀ x, tokL (c :: x) = signT (c :: x) := fun x => by rw [e]; simp [hl, hd]
      cases l with
      | nil =>
        have e1 : signT [c] = if signLen (c.toNat : Int) 0 = 0 then badT 10 else ⟨4, [c].take (signLen (c.toNat : Int) 0), 0, 0⟩ := rfl
        have h1 := signLen_end c
        rw [e1] at h ⊢
        by_cases h0 : signLen (c.toNat : Int) 0 = 0
        · rw [if_pos h0] at h; simp [badT] at h
        · have h2 : signLen (c.toNat : Int) 0 = 1 := by omega
          rw [if_neg h0, h2]
          refine ⟨?_, ⟨[], rfl⟩, by simp⟩
          show tokL [c] = _
          rw [es, e1, if_neg h0, h2]
      | cons d l =>
        have e1 : ∀ x, signT (c :: d :: x) = if signLen (c.toNat : Int) (d.toNat : Int) = 0 then badT 10 else ⟨4, (c :: d :: x).take (signLen (c.toNat : Int) (d.toNat : Int)), 0, 0⟩ := fun _ => rfl
        have h1 := signLen_two (c.toNat : Int) (d.toNat : Int)
        rw [e1] at h ⊢
        by_cases h0 : signLen (c.toNat : Int) (d.toNat : Int) = 0
        · rw [if_pos h0] at h; simp [badT] at h
        · rw [if_neg h0]
          by_cases h2 : signLen (c.toNat : Int) (d.toNat : Int) = 1
          · rw [h2]
            refine ⟨?_, ⟨[], rfl⟩, by simp⟩
            show tokL [c] = _
            have h3 := signLen_one c _ h2
            rw [es]
            show (if signLen (c.toNat : Int) 0 = 0 then badT 10 else ⟨4, [c].take (signLen (c.toNat : Int) 0), 0, 0⟩) = _
            rw [h3]; rfl
          · have h2' : signLen (c.toNat : Int) (d.toNat : Int) = 2 := by omega
            rw [h2']
            refine ⟨?_, ⟨[d], rfl⟩, by simp⟩
            show tokL [c, d] = _
            rw [es, e1, if_neg h0, h2']; rfl
    · simp only [hl, hd, Bool.false_eq_true, if_false, if_true] at h ⊢
      rw [numT_text _ h]
      have hx : (c :: l).takeWhile digit = c :: l.takeWhile digit := by simp [hd]
      refine ⟨?_, ⟨_, hx⟩, (List.takeWhile_sublist _).length_le⟩
      have hs := takeWhile_self digit (c :: l)
      rw [hx] at hs ⊢
      rw [e, hs]; simp [hl, hd]
  · simp only [hl, if_true] at h ⊢
    rw [nameT_text _ h]
    have hx : (c :: l).takeWhile nameByte = c :: l.takeWhile nameByte := by simp [nameByte, hl]
    refine ⟨?_, ⟨_, hx⟩, (List.takeWhile_sublist _).length_le⟩
    have hs := takeWhile_self nameByte (c :: l)
    rw [hx] at hs ⊢
    rw [e, hs]; simp [hl]
theorem skip_head : ∀ (l : List UInt8) (b : Bool) (c : UInt8) (r : List UInt8), l.drop (skipC b l) = c :: r → blank c = false ∧ c ≠ 35 := by
  intro l
  induction l with
  | nil => intro b c r h; simp at h
  | cons x l ih =>
    intro b c r h
    cases b with
    | true =>
      simp only [skipC] at h
      split at h
      · exact ih false c r (by simpa using h)
      · exact ih true c r (by simpa using h)
    | false =>
      simp only [skipC] at h
      split at h
      · exact ih true c r (by simpa using h)
      · rename_i h35
        split at h
        · exact ih false c r (by simpa using h)
        · rename_i hb
          simp at h
          rw [← h.1]
          exact ⟨by simpa using hb, h35⟩
def Good (t : T) : Prop := t.err = 0 ∧ tokL t.text = t ∧ ∃ c r, t.text = c :: r ∧ blank c = false ∧ c ≠ 35
theorem good_of {l : List UInt8} {R : RL} (h : Scans l R) : ∀ ts, R = .done ts → ∀ t ∈ ts, Good t := by
  induction h with
  | nil l h => intro ts e t ht; cases e; simp at ht
  | bad l c r h he => intro ts e; cases e
  | tok l c r R h he hR ih =>
    intro ts e t ht
    cases hRR : R with
    | fail e' k => rw [hRR] at e; cases e
    | done us =>
      rw [hRR] at e
      have e2 : tokL (c :: r) :: us = ts := by injection e
      rw [← e2] at ht
      rcases List.mem_cons.1 ht with rfl | ht
      · obtain ⟨h1, ⟨r', h2⟩, _⟩ := tok_self c r he
        obtain ⟨h3, h4⟩ := skip_head _ _ _ _ h
        exact ⟨he, h1, c, r', h2, h3, h4⟩
      · exact ih us hRR t ht
theorem skip_zero (c : UInt8) (l : List UInt8) (h : blank c = false) (h35 : c ≠ 35) : skipC false (c :: l) = 0 := by simp [skipC, h, h35]
theorem blank_step {l : List UInt8} {R : RL} (h : Scans l R) : ∀ ts, R = .done ts → Scans (32 :: l) (.done ts) := by
  have hs : ∀ l, skipC false (32 :: l) = skipC false l + 1 := fun l => by simp [skipC, blank]
  cases h with
  | nil _ h => intro ts e; cases e; exact .nil _ (by rw [hs]; simpa using h)
  | bad _ c r h he => intro ts e; cases e
  | tok _ c r R h he hR =>
    intro ts e
    cases hRR : R with
    | fail e' k => rw [hRR] at e; cases e
    | done us =>
      rw [hRR] at e hR
      have := Scans.tok (32 :: l) c r (.done us) (by rw [hs]; simpa using h) he hR
      rw [← e]; exact this
/-- TOLD AGAIN. -/
theorem again (ts : List T) (h : ∀ t ∈ ts, Good t) : Scans (ts.flatMap fun t => t.text ++ [32]) (.done ts) := by
  induction ts with
  | nil => exact .nil _ (by simp)
  | cons t ts ih =>
    obtain ⟨h0, h1, c, r, h2, h3, h4⟩ := h t (by simp)
    have hrest := blank_step (ih (fun t ht => h t (by simp [ht]))) ts rfl
    have e1 : ((t :: ts).flatMap fun t => t.text ++ [32]) = (c :: r) ++ 32 :: (ts.flatMap fun t => t.text ++ [32]) := by
      rw [List.flatMap_cons, h2]; simp
    have hst := tok_stable 32 brk32 c r (ts.flatMap fun t => t.text ++ [32])
    rw [← h2, h1] at hst
    have hsk : skipC false ((c :: r) ++ 32 :: (ts.flatMap fun t => t.text ++ [32])) = 0 := skip_zero c _ h3 h4
    rw [e1]
    have := Scans.tok ((c :: r) ++ 32 :: (ts.flatMap fun t => t.text ++ [32])) c (r ++ 32 :: (ts.flatMap fun t => t.text ++ [32])) (.done ts) (by rw [hsk]; rfl)
      (by rw [← List.cons_append, ← h2, hst]; exact h0) (by rw [← List.cons_append, ← h2, hst]; simpa using hrest)
    rw [← List.cons_append, ← h2, hst] at this
    rw [← h2]
    exact this
/-- What is passed over between two texts. -/
def Gap (g : List UInt8) : Prop := (∃ b r, g = b :: r ∧ Brk b) ∧ ∀ (b : Bool) (t : List UInt8), skipC b (g ++ t) = g.length + skipC false t
theorem skip_all (g t : List UInt8) (hg : Gap g) : ∀ (l : List UInt8) (b : Bool), skipC b l = l.length → skipC b (l ++ (g ++ t)) = l.length + (g.length + skipC false t) := by
  intro l
  induction l with
  | nil => intro b _; simpa using hg.2 b t
  | cons x l ih =>
    intro b h
    cases b with
    | true =>
      simp only [skipC, List.length_cons] at h
      simp only [List.cons_append, skipC, List.length_cons]
      split at h
      · rename_i h10; rw [if_pos h10, ih false (by omega)]; omega
      · rename_i h10; rw [if_neg h10, ih true (by omega)]; omega
    | false =>
      simp only [skipC, List.length_cons] at h
      simp only [List.cons_append, skipC, List.length_cons]
      split at h
      · rename_i h35; rw [if_pos h35, ih true (by omega)]; omega
      · rename_i h35
        rw [if_neg h35]
        split at h
        · rename_i hb; rw [if_pos hb, ih false (by omega)]; omega
        · omega
theorem skip_part (x : List UInt8) : ∀ (l : List UInt8) (b : Bool), skipC b l < l.length → skipC b (l ++ x) = skipC b l := by
  intro l
  induction l with
  | nil => intro b h; simp at h
  | cons y l ih =>
    intro b h
    cases b with
    | true =>
      simp only [skipC, List.length_cons] at h
      simp only [List.cons_append, skipC]
      split at h
      · rename_i h10; rw [if_pos h10, if_pos h10, ih false (by omega)]
      · rename_i h10; rw [if_neg h10, if_neg h10, ih true (by omega)]
    | false =>
      simp only [skipC, List.length_cons] at h
      simp only [List.cons_append, skipC]
      split at h
      · rename_i h35; rw [if_pos h35, if_pos h35, ih true (by omega)]
      · rename_i h35
        rw [if_neg h35, if_neg h35]
        split at h
        · rename_i hb; rw [if_pos hb, if_pos hb, ih false (by omega)]
        · rename_i hb; rw [if_neg hb, if_neg hb]
def addR (ts : List T) (m : Nat) : RL → RL
  | .done us => .done (ts ++ us)
  | .fail e k => .fail e (k + m)
theorem glue0 {l : List UInt8} (hl : l.drop (skipC false l) = []) (g t : List UInt8) (hg : Gap g) {R : RL} (hR : Scans t R) : Scans (l ++ (g ++ t)) (addR [] (l.length + g.length) R) := by
  have hall : skipC false l = l.length := by
    have h1 := skipC_le false l
    have h2 := congrArg List.length hl
    rw [List.length_drop, List.length_nil] at h2; omega
  have hsk := skip_all g t hg l false hall
  have hdr : ∀ m, (l ++ (g ++ t)).drop (l.length + (g.length + m)) = t.drop m := by
    intro m; rw [List.drop_append, List.drop_of_length_le (by omega), List.nil_append, List.drop_append, List.drop_of_length_le (by omega), List.nil_append]; congr 1; omega
  cases hR with
  | nil _ h => exact .nil _ (by rw [hsk, hdr]; exact h)
  | bad _ c r h he =>
    have := Scans.bad (l ++ (g ++ t)) c r (by rw [hsk, hdr]; exact h) he
    rw [hsk] at this
    show Scans _ (.fail _ (skipC false t + (l.length + g.length)))
    rw [show skipC false t + (l.length + g.length) = l.length + (g.length + skipC false t) by omega]; exact this
  | tok _ c r R h he hR =>
    have := Scans.tok (l ++ (g ++ t)) c r R (by rw [hsk, hdr]; exact h) he hR
    rw [hsk] at this
    cases R with
    | done us => exact this
    | fail e k =>
      show Scans _ (.fail e (k + (tokL (c :: r)).text.length + skipC false t + (l.length + g.length)))
      rw [show k + (tokL (c :: r)).text.length + skipC false t + (l.length + g.length) = k + (tokL (c :: r)).text.length + (l.length + (g.length + skipC false t)) by omega]; exact this
/-- TWO TEXTS WITH A GAP BETWEEN. -/
theorem glue {l : List UInt8} {R0 : RL} (h : Scans l R0) (g t : List UInt8) (hg : Gap g) {R : RL} (hR : Scans t R) : ∀ ts, R0 = .done ts → Scans (l ++ (g ++ t)) (addR ts (l.length + g.length) R) := by
  induction h with
  | nil l h => intro ts e; cases e; exact glue0 h g t hg hR
  | bad l c r h he => intro ts e; cases e
  | tok l c r R1 h he hR1 ih =>
    intro ts e
    cases hRR : R1 with
    | fail e' k => rw [hRR] at e; cases e
    | done us =>
      rw [hRR] at e
      have e2 : tokL (c :: r) :: us = ts := by injection e
      have ih2 := ih us hRR
      have hlt : skipC false l < l.length := by
        have h2 := congrArg List.length h
        rw [List.length_drop, List.length_cons] at h2; omega
      have hlen : (c :: r).length = l.length - skipC false l := by rw [← h, List.length_drop]
      obtain ⟨_, _, htl⟩ := tok_self c r he
      obtain ⟨⟨b, gr, rfl, hb⟩, _⟩ := hg
      have hst : tokL (c :: (r ++ (b :: gr ++ t))) = tokL (c :: r) := by
        have := tok_stable b hb c r (gr ++ t)
        simpa using this
      have hsk := skip_part (b :: gr ++ t) l false hlt
      have h3 : (l ++ (b :: gr ++ t)).drop (skipC false (l ++ (b :: gr ++ t))) = c :: (r ++ (b :: gr ++ t)) := by
        rw [hsk, List.drop_append_of_le_length (by omega), h]; rfl
      have := Scans.tok (l ++ (b :: gr ++ t)) c (r ++ (b :: gr ++ t)) _ h3 (by rw [hst]; exact he) (by
        rw [hst, ← List.cons_append, List.drop_append_of_le_length htl]; exact ih2)
      rw [hst, hsk] at this
      rw [← e2]
      cases R with
      | done vs => exact this
      | fail e k =>
        have hd : ((c :: r).drop (tokL (c :: r)).text.length).length = (c :: r).length - (tokL (c :: r)).text.length := List.length_drop
        show Scans _ (.fail e (k + (l.length + (b :: gr).length)))
        rw [show k + (l.length + (b :: gr).length) = k + (((c :: r).drop (tokL (c :: r)).text.length).length + (b :: gr).length) + (tokL (c :: r)).text.length + skipC false l by rw [hd]; omega]
        exact this
theorem gap1 : Gap [35, 32, 97, 32, 110, 111, 116, 101, 10] := by
  refine ⟨⟨_, _, rfl, brk35⟩, fun b t => ?_⟩
  cases b <;> simp [skipC] <;> omega
theorem gap2 : Gap [10, 35, 32, 97, 32, 110, 111, 116, 101, 10] := by
  refine ⟨⟨_, _, rfl, brk10⟩, fun b t => ?_⟩
  cases b <;> simp [skipC, blank] <;> omega
end Lx
end Go.Proofs.YtaekbgljbgmchaaGreatDoor
namespace Go.Proofs.YtaekbgljbgmchaaGreatDoor
open Go.RowKit
namespace Lx
/-- Texts one behind the other, a blank between two. -/
def joinB : List ByteArray → List UInt8
  | [] => []
  | x :: r => x.data.toList ++ r.flatMap (fun y => 32 :: y.data.toList)
theorem joinB_first (l : List ByteArray) (h : 0 < l.length) : joinB (l.take 1) = l[0].data.toList := by
  cases l with
  | nil => simp at h
  | cons x r => simp [joinB]
theorem joinB_next (l : List ByteArray) (k : Nat) (h : k < l.length) (hk : 0 < k) : joinB (l.take (k + 1)) = joinB (l.take k) ++ (32 :: l[k].data.toList) := by
  rw [List.take_succ_eq_append_getElem h]
  cases hl : l.take k with
  | nil => exfalso; have h2 := congrArg List.length hl; rw [List.length_take, List.length_nil] at h2; omega
  | cons x r => simp [joinB]
theorem joinB_take_le (l : List ByteArray) (k : Nat) : (joinB (l.take k)).length ≤ (joinB l).length := by
  cases l with
  | nil => simp
  | cons x r =>
    cases k with
    | zero => simp [joinB]
    | succ k =>
      simp only [List.take_succ_cons, joinB, List.length_append]
      have h1 : (r.flatMap (fun y => 32 :: y.data.toList)) = (r.take k).flatMap (fun y => 32 :: y.data.toList) ++ (r.drop k).flatMap (fun y => 32 :: y.data.toList) := by
        rw [← List.flatMap_append, List.take_append_drop]
      rw [h1, List.length_append]; omega
end Lx
/-- A token of this text lies at a place. -/
def TokAt (w : World) (b off : Nat) (x : ByteArray) : Prop := ∃ k n p : Int, w.cell? ⟨b, off, none⟩ = some (.int .i64 k) ∧ w.cell? ⟨b, off + 1, none⟩ = some (.string x) ∧ w.cell? ⟨b, off + 2, none⟩ = some (.int .i64 n) ∧ w.cell? ⟨b, off + 3, none⟩ = some (.int .i64 p)
/-- Tokens of these texts lie there, one behind the other. -/
def TextsAt (w : World) (b off : Nat) (l : List ByteArray) : Prop := ∀ (j : Nat) (h : j < l.length), TokAt w b (off + j * 4) l[j]
theorem kept_box {wr W1 : World} {b : Nat} {c0 c1 c2 c3 : Value} (h : Lib.OthersKept 5 (some b) (wr.alloc (.cells #[c0, c1, c2, c3] 57)) W1) (hne : b < wr.heap.size) : W1.cell? ⟨wr.heap.size, 1, none⟩ = some c1 ∧ W1.frozen? ⟨wr.heap.size, 1, none⟩ = false := by
  have h1 := h wr.heap.size (.cells #[c0, c1, c2, c3] 57 (0, 0)) (heap_alloc_new wr _) (by intro e; cases e; omega) (by intro c fz e; cases e)
  constructor
  · simp [World.cell?, h1]
  · simp [World.frozen?, h1]
theorem IsBuilderF_lt {T e : TypeId} {B b : Nat} {bs : List Value} {w : World} (h : Lib.IsBuilderF T e B b bs w) : b < w.heap.size := h.elim (fun x => x.lt) (fun x => x.lt)
theorem text_le (l : List ByteArray) (k : Nat) (h : k < l.length) : (Lx.joinB (l.take k)).length + 1 ≤ (Lx.joinB l).length + 1 ∧ l[k].size ≤ (Lx.joinB l).length := by
  have h1 := Lx.joinB_take_le l k
  have h2 := Lx.joinB_take_le l (k + 1)
  refine ⟨by omega, ?_⟩
  have e : l[k].size = l[k].data.toList.length := by simp
  by_cases hk : 0 < k
  · rw [Lx.joinB_next l k h hk] at h2
    simp only [List.length_append, List.length_cons] at h2; omega
  · obtain rfl : k = 0 := by omega
    rw [show 0 + 1 = 1 from rfl, Lx.joinB_first l h] at h2; omega
set_option maxRecDepth 100000 in
set_option maxHeartbeats 1000000 in
theorem join_any (l : List ByteArray) (b off c : Nat) (w : World) (hb : b < w.heap.size) (hn : l.length ≤ 1000000) (ht : TextsAt w b off l) (hlen : (Lx.joinB l).length ≤ 1000000000) :
    Calls Tryz.prog 27 #[.slice (some ⟨b, off, none⟩) l.length c] w fun e w' => e = .returned (.string ⟨(Lx.joinB l).toArray⟩) ∧ Below w.heap.size w w' := by
  go_enter Tryz.func27, Tryz.ntmps27
  go_wp2
  go_loopw [8] (fun i wr => ∃ k : Nat, k ≤ l.length ∧ i = .int .i64 k ∧ Lib.IsBuilderF 96 5 w.heap.size w.heap.size (Lib.byteCells (Lx.joinB (l.take k))) wr ∧ Below w.heap.size w wr)
    (fun i _ => l.length - (intOf i).toNat)
  case atStart => exact ⟨0, by omega, rfl, Lib.IsBuilderF.of (Lib.fresh_isBuilder 96 5 w), (Below.refl _ w).alloc (Nat.le_refl _) _⟩
  case round =>
    obtain ⟨k, hk, rfl, hI, hbw⟩ := hrel
    have hsz := hbw.size
    by_cases hlt : k < l.length
    · obtain ⟨tk, tn, tp, c0, c1, c2, c3⟩ := ht k hlt
      rw [← hbw.cell (p := ⟨b, _, none⟩) hb] at c0 c1 c2 c3
      have hlb := IsBuilderF_lt hI
      obtain ⟨hl1, hl2⟩ := text_le l k hlt
      by_cases hk0 : 0 < k
      · have HJ := hid (Lx.joinB_next l k hlt hk0)
        go_wp2_with (first
          | (go_at_call 59; refine (Tryz.Builder_WriteByte_k w.heap.size w.heap.size _ 32 _ (hI.elim (fun x => .inl (x.alloc _)) (fun x => .inr (x.alloc _))) (by rw [Lib.byteCells_length]; omega) (by simp; omega)).mono ?_; rintro e W1 ⟨rfl, h1, b1, k1⟩; obtain ⟨kb1, kb2⟩ := kept_box k1 hlb; have hz1 : w.heap.size ≤ W1.heap.size := (by have := b1.size; simp at this; omega))
          | (go_at_call 60; refine (Tryz.Builder_WriteString_k w.heap.size w.heap.size _ l[k] _ (.inr h1) (by rw [List.length_append, Lib.byteCells_length]; simp; omega) hz1).mono ?_; rintro e W2 ⟨rfl, h2, b2, k2⟩))
        go_roundw
        case rel =>
          refine ⟨k + 1, by omega, by go_num, ?_, ((hbw.alloc hsz _).trans b1).trans b2⟩
          rw [HJ.out]
          have e : Lib.byteCells (Lx.joinB (l.take k) ++ (32 :: l[k].data.toList)) = Lib.byteCells (Lx.joinB (l.take k)) ++ [.int .u8 32] ++ Lib.strCells l[k] := by
            simp [Lib.byteCells, Lib.strCells]
          rw [e]
          exact Or.inr h2
        case measure => simp [intOf]; omega
      · obtain rfl : k = 0 := by omega
        have HJ := hid (Lx.joinB_first l hlt)
        simp only [Nat.zero_mul, Nat.add_zero] at c0 c1 c2 c3
        go_wp2_with (go_at_call 60; refine (Tryz.Builder_WriteString_k w.heap.size w.heap.size _ l[0] _ (hI.elim (fun x => .inl (x.alloc _)) (fun x => .inr (x.alloc _))) (by rw [Lib.byteCells_length]; omega) (by simp; omega)).mono ?_; rintro e W2 ⟨rfl, h2, b2, k2⟩)
        go_roundw
        case rel =>
          refine ⟨1, by omega, by go_num, ?_, (hbw.alloc hsz _).trans b2⟩
          rw [HJ.out]
          have e : Lib.byteCells (l[0].data.toList) = Lib.byteCells (Lx.joinB (l.take 0)) ++ Lib.strCells l[0] := by
            simp [Lib.byteCells, Lib.strCells, Lx.joinB]
          rw [e]
          exact Or.inr h2
        case measure => simp [intOf]; omega
    · have hk1 : k = l.length := by omega
      rw [show l.take k = l by rw [hk1]; simp] at hI
      have hk2 : l.length ≤ k := by omega
      clear hk1
      go_wp2_with (go_at_call 61; refine (Tryz.Builder_String_any_k w.heap.size w.heap.size _ _ hI (by omega)).mono ?_; rintro e W1 ⟨rfl, _, b1, _⟩)
      go_ret
      exact ⟨rfl, hbw.trans b1⟩
end Go.Proofs.YtaekbgljbgmchaaGreatDoor
namespace Go.Proofs.YtaekbgljbgmchaaGreatDoor
open Go.RowKit
namespace Lx
theorem tok_facts (s : ByteArray) (a : Nat) (ha : a < s.size) (he : (tokOut s a).err = 0) : (tokOut s a).pos = a ∧ (tokOut s a).kind ≠ 5 ∧ (tokOut s a).text = s.extract a (a + (tokOut s a).text.size) := by
  have hx : ∀ b, a ≤ b → b ≤ s.size → s.extract a b = s.extract a (a + (s.extract a b).size) := by
    intro b h1 h2
    have : (s.extract a b).size = b - a := by simp; omega
    rw [this, show a + (b - a) = b by omega]
  cases hl : letter s[a]
  · cases hd : digit s[a]
    · rw [tokOut_sign s a ha hl hd] at he ⊢
      have hle := signLen_le s a ha
      unfold signOut at he ⊢
      split
      · rename_i h; rw [if_pos h] at he; simp [bad] at he
      · exact ⟨rfl, by show (4 : Int) ≠ 5; decide, hx _ (by omega) hle⟩
    · rw [tokOut_digit s a ha hl hd] at he ⊢
      have hle := spanEnd_le digit s a (by omega)
      have hge := le_spanEnd digit s a
      unfold numOut at he ⊢
      split
      · rename_i h; rw [if_pos h] at he; simp [bad] at he
      · rename_i h1; rw [if_neg h1] at he
        split
        · exact ⟨rfl, by show (2 : Int) ≠ 5; decide, hx _ hge hle⟩
        · rename_i h2; rw [if_neg h2] at he; simp [bad] at he
  · rw [tokOut_letter s a ha hl] at he ⊢
    have hle := spanEnd_le nameByte s a (by omega)
    have hge := le_spanEnd nameByte s a
    unfold nameOut at he ⊢
    split
    · exact ⟨rfl, by show (3 : Int) ≠ 5; decide, hx _ hge hle⟩
    · rename_i h1; rw [if_neg h1] at he
      split
      · rename_i h2; rw [if_pos h2] at he; simp [bad] at he
      · exact ⟨rfl, by show (1 : Int) ≠ 5; decide, hx _ hge hle⟩
/-- Tokens stand one behind the other from a place on, with nothing but blanks and notes between. -/
def Chain (s : ByteArray) : Nat → List Out → Prop
  | k, [] => s.size ≤ skip s k
  | k, o :: r => o.pos = skip s k ∧ o.pos < s.size ∧ o.err = 0 ∧ o = tokOut s o.pos ∧ Chain s (o.pos + o.text.size) r
theorem scanF_chain (s : ByteArray) : ∀ (f k : Nat) (acc l : List Out), s.size ≤ skip s k + f → scanF s f (skip s k) acc = .done l → ∃ r, l = acc ++ r ∧ Chain s k r := by
  intro f
  induction f with
  | zero => intro k acc l hf h; simp only [scanF] at h; injection h with h; exact ⟨[], by simp [h], by show s.size ≤ _; omega⟩
  | succ f ih =>
    intro k acc l hf h
    simp only [scanF] at h
    split at h
    · rename_i hlt
      split at h
      · rename_i he
        have hto := tok_ok s _ hlt he
        have hp := tok_facts s _ hlt he
        obtain ⟨r, h1, h2⟩ := ih _ _ _ (by have := le_skip s (skip s k + (tokOut s (skip s k)).text.size); omega) h
        refine ⟨tokOut s (skip s k) :: r, by rw [h1]; simp, hp.1, by rw [hp.1]; exact hlt, he, by rw [hp.1], ?_⟩
        rw [hp.1]; exact h2
      · cases h
    · rename_i hlt
      injection h with h
      exact ⟨[], by simp [h], by show s.size ≤ _; omega⟩
theorem join_flat (l : List ByteArray) : joinB (l ++ [⟨#[]⟩]) = l.flatMap fun x => x.data.toList ++ [32] := by
  have h : ∀ r : List ByteArray, (r ++ [(⟨#[]⟩ : ByteArray)]).flatMap (fun y => 32 :: y.data.toList) = 32 :: (r.flatMap fun x => x.data.toList ++ [32]) := by
    intro r
    induction r with
    | nil => simp
    | cons x r ih => rw [List.cons_append, List.flatMap_cons, ih, List.flatMap_cons]; simp
  cases l with
  | nil => simp [joinB]
  | cons x r => rw [List.cons_append]; simp only [joinB]; rw [h, List.flatMap_cons]; simp
theorem again_outs (s : ByteArray) (l : List Out) (h : scan s = .done l) : ∃ l', scan ⟨(joinB ((l ++ [endTok s]).map fun o => o.text)).toArray⟩ = .done l' ∧ l'.map ofOut = l.map ofOut := by
  obtain ⟨R, h1, h2⟩ := scan_told s
  rw [h] at h2
  cases R with
  | fail e k => exact h2.elim
  | done ts =>
    obtain ⟨o, h3, h4⟩ := h2
    rw [List.nil_append] at h3
    subst h3
    have hg := good_of h1 ts rfl
    have ha := again ts hg
    have e : (ByteArray.mk (joinB ((l ++ [endTok s]).map fun o => o.text)).toArray).data.toList = ts.flatMap fun t => t.text ++ [32] := by
      have e1 : ((l ++ [endTok s]).map fun o => o.text) = (l.map fun o => o.text) ++ [⟨#[]⟩] := by simp [endTok]
      rw [e1, join_flat, ← h4]
      simp [List.flatMap_map, ofOut]
    rw [← e] at ha
    have hf := scan_of _ _ ha
    generalize scan ⟨(joinB ((l ++ [endTok s]).map fun o => o.text)).toArray⟩ = S at hf
    cases S with
    | fail e k => exact hf.elim
    | done l' =>
      obtain ⟨o, h5, h6⟩ := hf
      rw [List.nil_append] at h5
      exact ⟨l', rfl, by rw [h5, h6, h4]⟩
theorem chain_inc (s : ByteArray) : ∀ (l : List Out) (k : Nat), Chain s k l → (∀ o ∈ l, k ≤ o.pos ∧ o.pos < s.size) ∧ l.Pairwise (fun a b => a.pos < b.pos) := by
  intro l
  induction l with
  | nil => intro k _; exact ⟨by simp, .nil⟩
  | cons o r ih =>
    intro k h
    obtain ⟨h1, h2, h3, h4, h5⟩ := h
    have hk : k ≤ o.pos := by rw [h1]; exact le_skip s k
    have hz : 1 ≤ o.text.size := by rw [h4]; exact (tok_ok s _ h2 (by rw [← h4]; exact h3)).1
    obtain ⟨i1, i2⟩ := ih _ h5
    refine ⟨fun x hx => ?_, List.pairwise_cons.2 ⟨fun x hx => ?_, i2⟩⟩
    · rcases List.mem_cons.1 hx with rfl | hx
      · exact ⟨hk, h2⟩
      · have := i1 x hx; omega
    · have := i1 x hx; omega
/-- The places of a text's tokens rise. -/
theorem outs_inc (s : ByteArray) (l : List Out) (h : scan s = .done l) : (l ++ [endTok s]).Pairwise (fun a b => a.pos < b.pos) := by
  obtain ⟨r, h1, h2⟩ := scanF_chain s s.size 0 [] l (by omega) h
  rw [List.nil_append] at h1
  subst h1
  obtain ⟨i1, i2⟩ := chain_inc s l 0 h2
  refine List.pairwise_append.2 ⟨i2, by simp, fun a ha b hb => ?_⟩
  rw [List.mem_singleton] at hb
  subst hb
  exact (i1 a ha).2
/-- The tokens of bytes of which the parts are known. -/
theorem scan_list (s : ByteArray) (ts : List T) (h : Scans s.data.toList (.done ts)) : ∃ l, scan s = .done l ∧ l.map ofOut = ts := by
  have hf := scan_of s _ h
  generalize hS : scan s = R at hf
  cases R with
  | fail e k => exact hf.elim
  | done l =>
    obtain ⟨o, h5, h6⟩ := hf
    rw [List.nil_append] at h5
    exact ⟨l, rfl, by rw [h5, h6]⟩
theorem tok_step (c : UInt8) (r : List UInt8) (t : T) (ts : List T) (hb : blank c = false) (h35 : c ≠ 35) (ht : tokL (c :: r) = t) (he : t.err = 0) (hR : Scans ((c :: r).drop t.text.length) (.done ts)) : Scans (c :: r) (.done (t :: ts)) := by
  have h0 := skip_zero c r hb h35
  have := Scans.tok (c :: r) c r (.done ts) (by rw [h0]; rfl) (by rw [ht]; exact he) (by rw [ht]; exact hR)
  rw [ht] at this
  exact this
end Lx
end Go.Proofs.YtaekbgljbgmchaaGreatDoor
namespace Go.Proofs.YtaekbgljbgmchaaGreatDoor
open Go.RowKit
open Lx (Out)
open Pz
namespace Pz
def rp {α : Type} : Nat → List α → List α
  | 0, _ => []
  | n + 1, x => x ++ rp n x
theorem rp_snoc {α : Type} (n : Nat) (x : List α) : rp (n + 1) x = rp n x ++ x := by
  induction n with
  | zero => simp [rp]
  | succ n ih =>
    show x ++ rp (n + 1) x = (x ++ rp n x) ++ x
    rw [ih, List.append_assoc]
theorem rp_len {α : Type} (n : Nat) (x : List α) : (rp n x).length = n * x.length := by
  induction n with
  | zero => simp [rp]
  | succ n ih => rw [rp, List.length_append, ih, Nat.succ_mul]; omega
end Pz
end Go.Proofs.YtaekbgljbgmchaaGreatDoor
namespace Go.Proofs.YtaekbgljbgmchaaGreatDoor
open Go.RowKit
open Lx (Out)
open Pz
open Lx (ofOut Scans tok_step blank_step scan_list outs_inc endTok)
namespace Pz
def deepE (op sh : List UInt8) (n : Nat) : ByteArray := ⟨(rp n op ++ ([97, 46, 120] ++ rp n sh)).toArray⟩
def deepP (n : Nat) : ByteArray := ⟨(([116, 104, 114, 101, 97, 100, 32, 114, 32, 42, 32] ++ (rp n [123, 32, 108, 111, 111, 112, 32] ++ ([123] ++ (rp n [125] ++ [125]))) : List UInt8)).toArray⟩
theorem tok_of {o : Out} {t : Lx.T} (h : ofOut o = t) (y : ByteArray) (hy : y.data.toList = t.text) : Tok o t.kind y := by
  subst h
  exact ⟨rfl, ByteArray.ext (Array.toList_inj.1 hy.symm)⟩
theorem kind_of {o : Out} {t : Lx.T} (h : ofOut o = t) : o.kind = t.kind := by subst h; rfl
theorem text_of {o : Out} {t : Lx.T} (h : ofOut o = t) : o.text.data.toList = t.text := by subst h; rfl
/-- Places that rise. -/
def Ups (d : Int) (l : List Out) : Prop := ∀ (i : Nat) (h : i < l.length), d + i ≤ (l[i].pos : Int)
theorem Ups.head {d : Int} {o : Out} {l : List Out} (h : Ups d (o :: l)) : d ≤ o.pos := by have := h 0 (by simp); simpa using this
theorem Ups.tail {d : Int} {o : Out} {l : List Out} (h : Ups d (o :: l)) : Ups (d + 1) l := fun i hi => by have := h (i + 1) (by simpa using hi); simp at this; omega
theorem Ups.weak {d e : Int} {l : List Out} (h : Ups d l) (hd : e ≤ d) : Ups e l := fun i hi => by have := h i hi; omega
theorem ups_of : ∀ (l : List Out) (d : Nat), (∀ o ∈ l, d ≤ o.pos) → l.Pairwise (fun a b => a.pos < b.pos) → Ups d l := by
  intro l
  induction l with
  | nil => intro d _ _ i h; simp at h
  | cons o l ih =>
    intro d hd hp i hi
    rw [List.pairwise_cons] at hp
    cases i with
    | zero => have := hd o (by simp); simp; omega
    | succ i =>
      have := ih (d + 1) (fun x hx => by have := hp.1 x hx; have := hd o (by simp); omega) hp.2 i (by simpa using hi)
      simp only [List.getElem_cons_succ]
      push_cast at this ⊢
      omega
theorem par_of : ∀ (n : Nat) (d : Int) (l : List Out) (R : List Lx.T), l.map ofOut = rp n [(⟨4, [40], 0, 0⟩ : Lx.T)] ++ ([(⟨1, [97], 0, 0⟩ : Lx.T), (⟨4, [46], 0, 0⟩ : Lx.T), (⟨1, [120], 0, 0⟩ : Lx.T)] ++ (rp n [(⟨4, [41], 0, 0⟩ : Lx.T)] ++ R)) → Ups d l → ∃ r, Par n d l r ∧ r.map ofOut = R := by
  intro n
  induction n with
  | zero =>
    intro d l R h _
    rcases l with _ | ⟨a, _ | ⟨p, _ | ⟨x, r⟩⟩⟩
    · simp [rp] at h
    · simp [rp] at h
    · simp [rp] at h
    · simp only [rp, List.nil_append, List.cons_append, List.map_cons, List.cons.injEq] at h
      obtain ⟨h1, h2, h3, h4⟩ := h
      exact ⟨r, .base (kind_of h1) (tok_of h2 s_dot rfl) (kind_of h3), h4⟩
  | succ n ih =>
    intro d l R h hu
    rcases l with _ | ⟨o, l⟩
    · cases h
    · rw [rp_snoc n [(⟨4, [41], 0, 0⟩ : Lx.T)], List.append_assoc] at h
      simp only [rp, List.cons_append, List.nil_append, List.map_cons, List.cons.injEq] at h
      obtain ⟨r, h1, h2⟩ := ih (d + 1) l ((⟨4, [41], 0, 0⟩ : Lx.T) :: R) h.2 hu.tail
      rcases r with _ | ⟨c, r⟩
      · cases h2
      · simp only [List.map_cons, List.cons.injEq] at h2
        exact ⟨r, .step (tok_of h.1 s_lpar rfl) hu.head (tok_of h2.1 s_rpar rfl) h1, h2.2⟩
theorem bng_of (y : ByteArray) (t : Lx.T) (hk : t.kind = 4) (hy : y.data.toList = t.text) : ∀ (n : Nat) (d : Int) (l : List Out) (R : List Lx.T), l.map ofOut = rp n [t] ++ ([(⟨1, [97], 0, 0⟩ : Lx.T), (⟨4, [46], 0, 0⟩ : Lx.T), (⟨1, [120], 0, 0⟩ : Lx.T)] ++ R) → Ups d l → ∃ r, Bng y n d l r ∧ r.map ofOut = R := by
  intro n
  induction n with
  | zero =>
    intro d l R h _
    rcases l with _ | ⟨a, _ | ⟨p, _ | ⟨x, r⟩⟩⟩
    · simp [rp] at h
    · simp [rp] at h
    · simp [rp] at h
    · simp only [rp, List.nil_append, List.cons_append, List.map_cons, List.cons.injEq] at h
      obtain ⟨h1, h2, h3, h4⟩ := h
      exact ⟨r, .base (kind_of h1) (tok_of h2 s_dot rfl) (kind_of h3), h4⟩
  | succ n ih =>
    intro d l R h hu
    rcases l with _ | ⟨o, l⟩
    · cases h
    · simp only [rp, List.cons_append, List.nil_append, List.map_cons, List.cons.injEq] at h
      obtain ⟨r, h1, h2⟩ := ih (d + 1) l R h.2 hu.tail
      have ht := tok_of h.1 y hy
      rw [hk] at ht
      exact ⟨r, .step ht hu.head h1, h2⟩
theorem mul_of : ∀ (n : Nat) (d : Int) (l : List Out) (R : List Lx.T), l.map ofOut = rp n [(⟨2, [50], 2, 0⟩ : Lx.T), (⟨4, [42], 0, 0⟩ : Lx.T)] ++ ([(⟨1, [97], 0, 0⟩ : Lx.T), (⟨4, [46], 0, 0⟩ : Lx.T), (⟨1, [120], 0, 0⟩ : Lx.T)] ++ R) → Ups d l → ∃ r, Mul n d l r ∧ r.map ofOut = R := by
  intro n
  induction n with
  | zero =>
    intro d l R h _
    rcases l with _ | ⟨a, _ | ⟨p, _ | ⟨x, r⟩⟩⟩
    · simp [rp] at h
    · simp [rp] at h
    · simp [rp] at h
    · simp only [rp, List.nil_append, List.cons_append, List.map_cons, List.cons.injEq] at h
      obtain ⟨h1, h2, h3, h4⟩ := h
      exact ⟨r, .base (kind_of h1) (tok_of h2 s_dot rfl) (kind_of h3), h4⟩
  | succ n ih =>
    intro d l R h hu
    rcases l with _ | ⟨k, _ | ⟨o, l⟩⟩
    · cases h
    · simp [rp] at h
    · simp only [rp, List.cons_append, List.nil_append, List.map_cons, List.cons.injEq] at h
      obtain ⟨r, h1, h2⟩ := ih (d + 1) l R h.2.2 (hu.tail.tail.weak (by omega))
      exact ⟨r, .step (kind_of h.1) (tok_of h.2.1 s_star rfl) (by have := hu.tail.head; omega) h1, h2⟩
theorem nb_of : ∀ (n : Nat) (d : Int) (l : List Out) (R : List Lx.T), 1 ≤ d → l.map ofOut = rp n [(⟨4, [123], 0, 0⟩ : Lx.T), (⟨3, [108, 111, 111, 112], 0, 0⟩ : Lx.T)] ++ ([(⟨4, [123], 0, 0⟩ : Lx.T), (⟨4, [125], 0, 0⟩ : Lx.T)] ++ (rp n [(⟨4, [125], 0, 0⟩ : Lx.T)] ++ R)) → Ups d l → ∃ r, Nb n l r ∧ r.map ofOut = R := by
  intro n
  induction n with
  | zero =>
    intro d l R hd h hu
    rcases l with _ | ⟨a, _ | ⟨p, r⟩⟩
    · simp [rp] at h
    · simp [rp] at h
    · simp only [rp, List.nil_append, List.cons_append, List.map_cons, List.cons.injEq] at h
      obtain ⟨h1, h2, h4⟩ := h
      exact ⟨r, .base (tok_of h1 s_lbr rfl) (by have := hu.head; omega) (tok_of h2 s_rbr rfl), h4⟩
  | succ n ih =>
    intro d l R hd h hu
    rcases l with _ | ⟨o, _ | ⟨k, l⟩⟩
    · cases h
    · simp [rp] at h
    · rw [rp_snoc n [(⟨4, [125], 0, 0⟩ : Lx.T)], List.append_assoc] at h
      simp only [rp, List.cons_append, List.nil_append, List.map_cons, List.cons.injEq] at h
      obtain ⟨r, h1, h2⟩ := ih (d + 1 + 1) l ((⟨4, [125], 0, 0⟩ : Lx.T) :: R) (by omega) h.2.2 hu.tail.tail
      rcases r with _ | ⟨c, r⟩
      · cases h2
      · simp only [List.map_cons, List.cons.injEq] at h2
        exact ⟨r, .step (tok_of h.1 s_lbr rfl) (by have := hu.head; omega) (tok_of h.2.1 k_loop rfl) (tok_of h2.1 s_rbr rfl) h1, h2.2⟩
theorem sc_nil : Scans [] (.done []) := .nil [] rfl
theorem sc_sign (c : UInt8) (hb : Lx.blank c = false ∧ c ≠ 35) (t : Lx.T) (ht : ∀ r, Lx.tokL (c :: r) = t) (he : t.err = 0) (h1 : t.text.length = 1) : ∀ (n : Nat) (l : List UInt8) (ts : List Lx.T), Scans l (.done ts) → Scans (rp n [c] ++ l) (.done (rp n [t] ++ ts)) := by
  intro n
  induction n with
  | zero => intro l ts h; exact h
  | succ n ih => intro l ts h; exact tok_step c _ t _ hb.1 hb.2 (ht _) he (by rw [h1]; exact ih l ts h)
theorem sc_path (l : List UInt8) (ts : List Lx.T) (hl : Lx.tokL (120 :: l) = (⟨1, [120], 0, 0⟩ : Lx.T)) (h : Scans l (.done ts)) : Scans ([97, 46, 120] ++ l) (.done ([(⟨1, [97], 0, 0⟩ : Lx.T), (⟨4, [46], 0, 0⟩ : Lx.T), (⟨1, [120], 0, 0⟩ : Lx.T)] ++ ts)) := by
  refine tok_step 97 _ (⟨1, [97], 0, 0⟩ : Lx.T) _ (by decide) (by decide) rfl rfl ?_
  refine tok_step 46 _ (⟨4, [46], 0, 0⟩ : Lx.T) _ (by decide) (by decide) rfl rfl ?_
  exact tok_step 120 _ (⟨1, [120], 0, 0⟩ : Lx.T) _ (by decide) (by decide) hl rfl h
theorem x_rp (n : Nat) : Lx.tokL (120 :: rp n [41]) = (⟨1, [120], 0, 0⟩ : Lx.T) := by cases n <;> rfl
theorem sc_par (n : Nat) : Scans (rp n [40] ++ ([97, 46, 120] ++ rp n [41])) (.done (rp n [(⟨4, [40], 0, 0⟩ : Lx.T)] ++ ([(⟨1, [97], 0, 0⟩ : Lx.T), (⟨4, [46], 0, 0⟩ : Lx.T), (⟨1, [120], 0, 0⟩ : Lx.T)] ++ rp n [(⟨4, [41], 0, 0⟩ : Lx.T)]))) := by
  refine sc_sign 40 ⟨by decide, by decide⟩ _ (fun r => rfl) rfl rfl n _ _ (sc_path _ _ (x_rp n) ?_)
  have := sc_sign 41 ⟨by decide, by decide⟩ (⟨4, [41], 0, 0⟩ : Lx.T) (fun r => rfl) rfl rfl n [] [] sc_nil
  simpa using this
theorem sc_bang (n : Nat) : Scans (rp n [33] ++ ([97, 46, 120] ++ [])) (.done (rp n [(⟨4, [33], 0, 0⟩ : Lx.T)] ++ ([(⟨1, [97], 0, 0⟩ : Lx.T), (⟨4, [46], 0, 0⟩ : Lx.T), (⟨1, [120], 0, 0⟩ : Lx.T)] ++ []))) := by
  induction n with
  | zero => exact sc_path _ _ rfl sc_nil
  | succ n ih => exact tok_step 33 _ (⟨4, [33], 0, 0⟩ : Lx.T) _ (by decide) (by decide) (by cases n <;> rfl) rfl ih
theorem sc_minus (n : Nat) : Scans (rp n [45] ++ ([97, 46, 120] ++ [])) (.done (rp n [(⟨4, [45], 0, 0⟩ : Lx.T)] ++ ([(⟨1, [97], 0, 0⟩ : Lx.T), (⟨4, [46], 0, 0⟩ : Lx.T), (⟨1, [120], 0, 0⟩ : Lx.T)] ++ []))) :=
  sc_sign 45 ⟨by decide, by decide⟩ _ (fun r => rfl) rfl rfl n _ _ (sc_path _ _ rfl sc_nil)
theorem sc_mul (n : Nat) : Scans (rp n [50, 32, 42, 32] ++ ([97, 46, 120] ++ [])) (.done (rp n [(⟨2, [50], 2, 0⟩ : Lx.T), (⟨4, [42], 0, 0⟩ : Lx.T)] ++ ([(⟨1, [97], 0, 0⟩ : Lx.T), (⟨4, [46], 0, 0⟩ : Lx.T), (⟨1, [120], 0, 0⟩ : Lx.T)] ++ []))) := by
  induction n with
  | zero => exact sc_path _ _ rfl sc_nil
  | succ n ih =>
    refine tok_step 50 _ (⟨2, [50], 2, 0⟩ : Lx.T) _ (by decide) (by decide) rfl rfl ?_
    refine blank_step ?_ _ rfl
    refine tok_step 42 _ (⟨4, [42], 0, 0⟩ : Lx.T) _ (by decide) (by decide) rfl rfl ?_
    exact blank_step ih _ rfl
theorem sc_deepP (n : Nat) : Scans ([116, 104, 114, 101, 97, 100, 32, 114, 32, 42, 32] ++ (rp n [123, 32, 108, 111, 111, 112, 32] ++ ([123] ++ (rp n [125] ++ [125])))) (.done ([(⟨3, [116, 104, 114, 101, 97, 100], 0, 0⟩ : Lx.T), (⟨1, [114], 0, 0⟩ : Lx.T), (⟨4, [42], 0, 0⟩ : Lx.T)] ++ (rp n [(⟨4, [123], 0, 0⟩ : Lx.T), (⟨3, [108, 111, 111, 112], 0, 0⟩ : Lx.T)] ++ ([(⟨4, [123], 0, 0⟩ : Lx.T), (⟨4, [125], 0, 0⟩ : Lx.T)] ++ (rp n [(⟨4, [125], 0, 0⟩ : Lx.T)] ++ []))))) := by
  refine tok_step 116 _ (⟨3, [116, 104, 114, 101, 97, 100], 0, 0⟩ : Lx.T) _ (by decide) (by decide) rfl rfl ?_
  refine blank_step ?_ _ rfl
  refine tok_step 114 _ (⟨1, [114], 0, 0⟩ : Lx.T) _ (by decide) (by decide) rfl rfl ?_
  refine blank_step ?_ _ rfl
  refine tok_step 42 _ (⟨4, [42], 0, 0⟩ : Lx.T) _ (by decide) (by decide) rfl rfl ?_
  refine blank_step ?_ _ rfl
  have hin : Scans ([123] ++ (rp n [125] ++ [125])) (.done ([(⟨4, [123], 0, 0⟩ : Lx.T), (⟨4, [125], 0, 0⟩ : Lx.T)] ++ (rp n [(⟨4, [125], 0, 0⟩ : Lx.T)] ++ []))) := by
    refine tok_step 123 _ (⟨4, [123], 0, 0⟩ : Lx.T) _ (by decide) (by decide) rfl rfl ?_
    have := sc_sign 125 ⟨by decide, by decide⟩ (⟨4, [125], 0, 0⟩ : Lx.T) (fun r => rfl) rfl rfl (n + 1) [] [] sc_nil
    rw [rp_snoc, List.append_nil, List.append_nil] at this
    simpa [rp] using this
  show Scans (rp n [123, 32, 108, 111, 111, 112, 32] ++ _) (.done (rp n [(⟨4, [123], 0, 0⟩ : Lx.T), (⟨3, [108, 111, 111, 112], 0, 0⟩ : Lx.T)] ++ _))
  obtain ⟨L, hL⟩ : ∃ L : List UInt8, [123] ++ (rp n [125] ++ [125]) = L := ⟨_, rfl⟩
  rw [hL] at hin ⊢
  clear hL
  generalize ([(⟨4, [123], 0, 0⟩ : Lx.T), (⟨4, [125], 0, 0⟩ : Lx.T)] ++ (rp n [(⟨4, [125], 0, 0⟩ : Lx.T)] ++ [])) = M at hin ⊢
  induction n with
  | zero => exact hin
  | succ n ih =>
    refine tok_step 123 _ (⟨4, [123], 0, 0⟩ : Lx.T) _ (by decide) (by decide) rfl rfl ?_
    refine blank_step ?_ _ rfl
    refine tok_step 108 _ (⟨3, [108, 111, 111, 112], 0, 0⟩ : Lx.T) _ (by decide) (by decide) rfl rfl ?_
    exact blank_step ih _ rfl
/-- The reader of a text whose tokens are known. -/
theorem reader_of (s : ByteArray) (ts : List Lx.T) (h : Scans s.data.toList (.done ts)) : ∃ l, reader s = ⟨l, 0, 0, 0⟩ ∧ l.map ofOut = ts ++ [(⟨5, [], 0, 0⟩ : Lx.T)] ∧ Ups 0 l := by
  obtain ⟨l, h1, h2⟩ := scan_list s ts h
  obtain ⟨h3, h4, -⟩ := Lx.of_done s l h1
  refine ⟨l ++ [endTok s], ?_, by rw [List.map_append, h2]; rfl, ups_of _ 0 (fun _ _ => Nat.zero_le _) (outs_inc s l h1)⟩
  unfold reader
  rw [h4, if_pos rfl, h3]
theorem end_of {r : List Out} (h : r.map ofOut = [(⟨5, [], 0, 0⟩ : Lx.T)]) : ∃ z, r = [z] ∧ z.kind = 5 ∧ z.text = e0 := by
  rcases r with _ | ⟨z, _ | ⟨y, r⟩⟩
  · cases h
  · simp only [List.map_cons, List.map_nil, List.cons.injEq, and_true] at h
    have := tok_of h e0 rfl
    exact ⟨z, rfl, this.1, this.2⟩
  · simp at h
theorem stops_end {z : Out} (h : z.text = e0) : Stops [z] := by
  unfold Stops operOf
  simp only [List.headD_cons, is_of h]
  decide
/-- What is asked of an expression of so many levels. -/
def DeepOk (n : Nat) (r : Int × Int) : Prop := (n ≤ 64 → r = (0, 0)) ∧ (64 < n → r.1 = 41 ∧ 64 ≤ r.2)
theorem deep_ok (n : Nat) (x : Ex × S) (h1 : n ≤ 64 → ∃ e z, x = (e, ⟨[z], 0, 0, 0⟩) ∧ z.kind = 5) (h2 : 64 < n → Bad x.2) : DeepOk n (wholeOf x).2 := by
  constructor
  · intro h
    obtain ⟨e, z, rfl, hz⟩ := h1 h
    unfold wholeOf atEnd
    rw [if_pos (show (S.mk [z] 0 0 0).hd.kind = 5 from hz), if_pos rfl]
  · intro h
    have hb := (h2 h).keep (ek_atEnd x.2)
    unfold wholeOf
    rw [if_neg (by rw [hb.1]; decide)]
    exact hb
theorem no_bang (l : List Out) (h : ∀ o ∈ l, o.kind = 1 → o.text.data.toList = [97] ∨ o.text.data.toList = [120]) : ∀ a ∈ l, a.kind = 1 → is a s_bang = false := by
  intro a ha hk
  unfold is
  rw [ByteArray.toList_eq, ByteArray.toList_eq]
  rcases h a ha hk with h | h <;> rw [h] <;> rfl
theorem names_of {l : List Out} {ts : List Lx.T} (h : l.map ofOut = ts) (ht : ∀ t ∈ ts, t.kind = 1 → t.text = [97] ∨ t.text = [120]) : ∀ o ∈ l, o.kind = 1 → o.text.data.toList = [97] ∨ o.text.data.toList = [120] := fun o ho hk => ht (ofOut o) (by rw [← h]; exact List.mem_map_of_mem ho) hk
theorem mem_rp {α : Type} {n : Nat} {x : List α} {t : α} (h : t ∈ rp n x) : t ∈ x := by
  induction n with
  | zero => cases h
  | succ n ih => exact (List.mem_append.1 h).elim id ih
theorem len_map {l : List Out} {ts : List Lx.T} (h : l.map ofOut = ts) : l.length = ts.length := by rw [← h]; simp
theorem deep0 (n : Nat) : DeepOk n (wholeOf (Pz.expr (reader (deepE [40] [41] n)))).2 := by
  obtain ⟨l, h1, h2, h3⟩ := reader_of (deepE [40] [41] n) _ (by unfold deepE; exact sc_par n)
  rw [List.append_assoc, List.append_assoc] at h2
  obtain ⟨r, hp, hr⟩ := par_of n 0 l [(⟨5, [], 0, 0⟩ : Lx.T)] h2 h3
  obtain ⟨z, rfl, hz5, hze⟩ := end_of hr
  have hlen := len_map h2
  simp only [List.length_append, rp_len, List.length_cons, List.length_nil] at hlen
  rw [h1]
  unfold Pz.expr fuel
  refine deep_ok n _ (fun hn => ?_) (fun hn => par_deep hp _ 0 (by show _ ≤ 3 * l.length + 10; omega) (by omega) (by omega) (by omega))
  obtain ⟨e, he⟩ := par_ok hp (3 * l.length + 10) 0 (by omega) (by omega) (stops_end hze) (no_bang l (names_of h2 (by
    intro t ht hk
    simp only [List.mem_append, List.mem_cons, List.not_mem_nil, or_false] at ht
    rcases ht with ht | (rfl | rfl | rfl) | ht | rfl
    · have := mem_rp ht; simp at this; subst this; cases hk
    · exact .inl rfl
    · cases hk
    · exact .inr rfl
    · have := mem_rp ht; simp at this; subst this; cases hk
    · cases hk)))
  exact ⟨e, z, he, hz5⟩
theorem deep1 (n : Nat) : DeepOk n (wholeOf (Pz.expr (reader (deepE [33] [] n)))).2 := by
  have hrp : rp n ([] : List UInt8) = [] := by induction n with | zero => rfl | succ n ih => rw [rp, ih]; rfl
  obtain ⟨l, h1, h2, h3⟩ := reader_of (deepE [33] [] n) _ (by unfold deepE; rw [hrp]; exact sc_bang n)
  rw [List.append_assoc, List.append_assoc] at h2
  obtain ⟨r, hp, hr⟩ := bng_of s_bang (⟨4, [33], 0, 0⟩ : Lx.T) rfl rfl n 0 l [(⟨5, [], 0, 0⟩ : Lx.T)] h2 h3
  obtain ⟨z, rfl, hz5, hze⟩ := end_of hr
  have hlen := len_map h2
  simp only [List.length_append, rp_len, List.length_cons, List.length_nil] at hlen
  rw [h1]
  unfold Pz.expr fuel
  refine deep_ok n _ (fun hn => ?_) (fun hn => bang_deep hp _ 1 0 (by omega) (by show _ ≤ 3 * l.length + 10; omega) (by omega) (by omega) (by omega))
  obtain ⟨e, he⟩ := bang_ok hp (3 * l.length + 10) 1 0 (by omega) (by omega) (by omega) (stops_end hze) (no_bang l (names_of h2 (by
    intro t ht hk
    simp only [List.mem_append, List.mem_cons, List.not_mem_nil, or_false, false_or] at ht
    rcases ht with ht | (rfl | rfl | rfl) | rfl
    · have := mem_rp ht; simp at this; subst this; cases hk
    · exact .inl rfl
    · cases hk
    · exact .inr rfl
    · cases hk)))
  exact ⟨e, z, he, hz5⟩
theorem deep2 (n : Nat) : DeepOk n (wholeOf (Pz.expr (reader (deepE [45] [] n)))).2 := by
  have hrp : rp n ([] : List UInt8) = [] := by induction n with | zero => rfl | succ n ih => rw [rp, ih]; rfl
  obtain ⟨l, h1, h2, h3⟩ := reader_of (deepE [45] [] n) _ (by unfold deepE; rw [hrp]; exact sc_minus n)
  rw [List.append_assoc, List.append_assoc] at h2
  obtain ⟨r, hp, hr⟩ := bng_of s_minus (⟨4, [45], 0, 0⟩ : Lx.T) rfl rfl n 0 l [(⟨5, [], 0, 0⟩ : Lx.T)] h2 h3
  obtain ⟨z, rfl, hz5, hze⟩ := end_of hr
  have hlen := len_map h2
  simp only [List.length_append, rp_len, List.length_cons, List.length_nil] at hlen
  have hb : (S.mk l 0 0 0).sees s_bang = false := by
    have h := hp
    cases h with
    | base ha hp' hx =>
      simp only [rp, List.nil_append, List.cons_append, List.map_cons, List.cons.injEq] at h2
      refine name_not ?_
      unfold is
      rw [ByteArray.toList_eq, ByteArray.toList_eq, text_of h2.1]; rfl
    | step ho hd t =>
      simp only [rp, List.nil_append, List.cons_append, List.map_cons, List.cons.injEq] at h2
      refine name_not ?_
      unfold is
      rw [ByteArray.toList_eq, ByteArray.toList_eq, text_of h2.1]; rfl
  rw [h1]
  unfold Pz.expr fuel
  refine deep_ok n _ (fun hn => ?_) (fun hn => bad_of_term hb (minus_deep hp _ 0 (by show _ ≤ 3 * l.length + 9; omega) (by omega) (by omega) (by omega)))
  obtain ⟨e, he⟩ := expr_of_term (f := 3 * l.length + 8) (lv := 1) hb (stops_end hze) (minus_ok hp (3 * l.length + 9) 0 (by omega) (by omega))
  exact ⟨e, z, he, hz5⟩
theorem deep3 (n : Nat) : DeepOk n (wholeOf (Pz.expr (reader (deepE [50, 32, 42, 32] [] n)))).2 := by
  have hrp : rp n ([] : List UInt8) = [] := by induction n with | zero => rfl | succ n ih => rw [rp, ih]; rfl
  obtain ⟨l, h1, h2, h3⟩ := reader_of (deepE [50, 32, 42, 32] [] n) _ (by unfold deepE; rw [hrp]; exact sc_mul n)
  rw [List.append_assoc, List.append_assoc] at h2
  obtain ⟨r, hp, hr⟩ := mul_of n 0 l [(⟨5, [], 0, 0⟩ : Lx.T)] h2 h3
  obtain ⟨z, rfl, hz5, hze⟩ := end_of hr
  have hlen := len_map h2
  simp only [List.length_append, rp_len, List.length_cons, List.length_nil] at hlen
  have hb : (S.mk l 0 0 0).sees s_bang = false := by
    have h := hp
    cases h with
    | base ha hp' hx =>
      simp only [rp, List.nil_append, List.cons_append, List.map_cons, List.cons.injEq] at h2
      refine name_not ?_
      unfold is
      rw [ByteArray.toList_eq, ByteArray.toList_eq, text_of h2.1]; rfl
    | step hk ho hd t =>
      simp only [rp, List.nil_append, List.cons_append, List.map_cons, List.cons.injEq] at h2
      refine name_not ?_
      unfold is
      rw [ByteArray.toList_eq, ByteArray.toList_eq, text_of h2.1]; rfl
  rw [h1]
  unfold Pz.expr fuel
  refine deep_ok n _ (fun hn => ?_) (fun hn => bad_of_term hb (mul_deep hp _ 0 (by show _ ≤ 3 * l.length + 9; omega) (by omega) (by omega) (by omega)))
  obtain ⟨e, he⟩ := expr_of_term (f := 3 * l.length + 8) (lv := 1) hb (stops_end hze) (mul_ok hp (3 * l.length + 9) 0 (by omega) (by omega))
  exact ⟨e, z, he, hz5⟩
/-- What is asked of a thread with so many loops, one within the other. -/
def DeepOkP (n : Nat) (r : Int × Int) : Prop := (n ≤ 63 → r = (0, 0)) ∧ (63 < n → r.1 = 41 ∧ 0 < r.2)
theorem deepP_ok (n : Nat) : DeepOkP n (wholeOfP (Pz.program (reader (deepP n)))).2 := by
  obtain ⟨l, h1, h2, h3⟩ := reader_of (deepP n) _ (by unfold deepP; exact sc_deepP n)
  rcases l with _ | ⟨t, _ | ⟨a, _ | ⟨b, l⟩⟩⟩
  · cases h2
  · simp at h2
  · simp at h2
  rw [List.append_assoc, List.append_assoc, List.append_assoc, List.append_assoc] at h2
  simp only [List.cons_append, List.nil_append, List.map_cons, List.cons.injEq] at h2
  obtain ⟨e1, e2, e3, h2⟩ := h2
  obtain ⟨r, hp, hr⟩ := nb_of n 3 l [(⟨5, [], 0, 0⟩ : Lx.T)] (by omega) h2 (h3.tail.tail.tail.weak (by omega))
  obtain ⟨z, rfl, hz5, hze⟩ := end_of hr
  have hlen := len_map h2
  simp only [List.length_append, rp_len, List.length_cons, List.length_nil] at hlen
  have hrd := thread_reads (3 * (l.length + 3) + 10) (l.length + 2) t a b l (tok_of e1 k_thread rfl) (kind_of e2) (tok_of e3 s_star rfl)
  have hs : (Pz.program (reader (deepP n))).2 = (progF (3 * (l.length + 3) + 10) (l.length + 2 + 1) [] [] ⟨t :: a :: b :: l, 0, 0, 0⟩).2 := by rw [h1]; rfl
  rw [hrd] at hs
  constructor
  · intro hn
    obtain ⟨e, he⟩ := nb_ok hp (3 * (l.length + 3) + 10) 0 (by omega) (by omega)
    rw [he, prog_end _ _ _ _ _ hze] at hs
    unfold wholeOfP atEnd
    rw [hs, if_pos (show (S.mk [z] 0 0 0).hd.kind = 5 from hz5), if_pos rfl]
  · intro hn
    have hb := nb_deep hp (3 * (l.length + 3) + 10) 0 (by omega) (by omega) (by omega)
    have hb2 : Bad1 (atEnd (Pz.program (reader (deepP n))).2) := by
      rw [hs]
      exact (hb.keep (ek.progF _ _ _ _ _)).keep (ek_atEnd _)
    unfold wholeOfP
    rw [if_neg (by rw [hb2.1]; decide)]
    exact hb2
end Pz
end Go.Proofs.YtaekbgljbgmchaaGreatDoor
namespace Go.Proofs.YtaekbgljbgmchaaGreatDoor
open Go.RowKit
open Lx (Out)
open Pz
theorem app_list (a b : ByteArray) : (a ++ b).data.toList = a.data.toList ++ b.data.toList := by simp
set_option maxRecDepth 100000 in
set_option maxHeartbeats 2000000 in
theorem deepWalk_0 (nn : Nat) (w : World) (hn : nn ≤ 80) (c a f p : Int)
    (h10 : ∀ s V, Below w.heap.size w V → s.size ≤ 1000 → s.data.toList = rp nn [40] ++ ([97, 46, 120] ++ rp nn [41]) → Calls Tryz.prog 10 #[.string s] V fun r w' => (∃ op mon name n ad len cp pos, r = .returned (.tuple #[.agg #[.int .i64 op, .string mon, .string name, .int .i64 n, .slice ad len cp, .int .i64 pos], .int .i64 c, .int .i64 a])) ∧ Below V.heap.size V w')
    (h14 : ∀ s V, Below w.heap.size w V → s.size ≤ 1000 → s.data.toList = [116, 104, 114, 101, 97, 100, 32, 114, 32, 42, 32] ++ (rp nn [123, 32, 108, 111, 111, 112, 32] ++ ([123] ++ (rp nn [125] ++ [125]))) → Calls Tryz.prog 14 #[.string s] V fun r w' => (∃ a1 n1 k1 a2 n2 k2, r = .returned (.tuple #[.agg #[.slice a1 n1 k1, .slice a2 n2 k2], .int .i64 f, .int .i64 p])) ∧ Below V.heap.size V w')
    (hnum : ∀ e V, Calls Tryz.prog 13 #[.int .i64 e] V fun r w' => r = .returned (.int .i64 e) ∧ w' = V)
    (hlive : ∀ V, Below w.heap.size w V → Calls Tryz.prog 9 #[] V fun r w' => r = .returned (.bool true) ∧ Below V.heap.size V w')
    (hc : (nn ≤ 64 ∧ c = 0) ∨ (64 < nn ∧ c = 41 ∧ 64 ≤ a)) (hf : (nn ≤ 63 ∧ f = 0) ∨ (63 < nn ∧ f = 41 ∧ 0 < p)) : Calls Tryz.prog 8 #[.int .i64 (nn : Int), .int .i64 0] w fun r w' => r = .returned (.bool true) ∧ Below w.heap.size w w' := by
  have hn0 : decide ((nn : Int) < 0) = false := by simp
  have hn80 : decide ((80 : Int) < (nn : Int)) = false := by simp; omega
  go_enter Tryz.func8, Tryz.ntmps8
  go_wp2
  go_loopw [7, 8, 9] (fun vs vt vi wr => ∃ (k : Nat) (X Y : ByteArray), k ≤ nn ∧ vs = .string X ∧ vt = .string Y ∧ vi = .int .i64 (k : Int) ∧ Hid (X.data.toList = rp k [40] ∧ Y.data.toList = [116, 104, 114, 101, 97, 100, 32, 114, 32, 42, 32] ++ rp k [123, 32, 108, 111, 111, 112, 32]) ∧ X.size ≤ 1 * k ∧ Y.size ≤ 11 + 7 * k ∧ Below w.heap.size w wr) (fun _ _ i _ => nn - (intOf i).toNat)
  case atStart => exact ⟨0, _, _, by omega, rfl, rfl, rfl, ⟨rfl, rfl⟩, Nat.le_refl _, Nat.le_refl _, ((Below.refl _ w).al le_rfl' _).al le_rfl' _⟩
  case round =>
    obtain ⟨k, X, Y, hk, rfl, rfl, rfl, HXY, hX, hY, hB⟩ := hrel
    by_cases hlt : k < nn
    · have hlt' : (k : Int) < (nn : Int) := by omega
      have z1 : ¬ 9223372036854775807 < X.size + 1 := by omega
      have z2 : ¬ 9223372036854775807 < Y.size + 7 := by omega
      go_wp2
      go_roundw
      case rel =>
        refine ⟨k + 1, _, _, by omega, rfl, rfl, by go_num, ⟨?_, ?_⟩, ?_, ?_, hB⟩
        · rw [app_list, HXY.out.1, rp_snoc]
        · rw [app_list, HXY.out.2, rp_snoc, List.append_assoc]
        · rw [ByteArray.size_append]; show X.size + 1 ≤ _; omega
        · rw [ByteArray.size_append]; show Y.size + 7 ≤ _; omega
      case measure => simp [intOf]; omega
    · have hkd : decide ((k : Int) < (nn : Int)) = false := by simp; omega
      have hkn : k = nn := by omega
      subst hkn
      have z1 : ¬ 9223372036854775807 < X.size + 3 := by omega
      have z2 : ¬ 9223372036854775807 < Y.size + 1 := by omega
      go_wp2
      go_loopw [7, 8, 10] (fun vs vt vi wr => ∃ (j : Nat) (X' Y' : ByteArray), j ≤ k ∧ vs = .string X' ∧ vt = .string Y' ∧ vi = .int .i64 (j : Int) ∧ Hid (X'.data.toList = rp k [40] ++ ([97, 46, 120] ++ rp j [41]) ∧ Y'.data.toList = [116, 104, 114, 101, 97, 100, 32, 114, 32, 42, 32] ++ (rp k [123, 32, 108, 111, 111, 112, 32] ++ ([123] ++ rp j [125]))) ∧ X'.size ≤ 1 * k + 3 + 1 * j ∧ Y'.size ≤ 12 + 7 * k + j ∧ Below w.heap.size w wr) (fun _ _ i _ => k - (intOf i).toNat)
      case atStart => exact ⟨0, _, _, by omega, rfl, rfl, rfl, ⟨by rw [app_list, HXY.out.1]; rfl, by rw [app_list, HXY.out.2, List.append_assoc]; rfl⟩, by rw [ByteArray.size_append]; show X.size + 3 ≤ _; omega, by rw [ByteArray.size_append]; show Y.size + 1 ≤ _; omega, hB⟩
      case round =>
        clear HXY hX hY hB z1 z2 hlt
        obtain ⟨j, X', Y', hj, rfl, rfl, rfl, HXY, hX, hY, hB⟩ := hrel
        by_cases hlt : j < k
        · have hlt' : (j : Int) < (k : Int) := by omega
          have z1 : ¬ 9223372036854775807 < X'.size + 1 := by omega
          have z2 : ¬ 9223372036854775807 < Y'.size + 1 := by omega
          have z3 : ¬ 9223372036854775807 < X'.size := by omega
          go_wp2
          go_roundw
          case rel =>
            refine ⟨j + 1, _, _, by omega, rfl, rfl, by go_num, ⟨?_, ?_⟩, ?_, ?_, hB⟩
            · first | rw [app_list, HXY.out.1, rp_snoc]; simp | (rw [HXY.out.1, rp_snoc]; simp)
            · rw [app_list, HXY.out.2, rp_snoc]; simp
            · first | (rw [ByteArray.size_append]; show X'.size + 1 ≤ _; omega) | omega
            · rw [ByteArray.size_append]; show Y'.size + 1 ≤ _; omega
          case measure => simp [intOf]; omega
        · have hjd : decide ((j : Int) < (k : Int)) = false := by simp; omega
          have hjk : j = k := by omega
          subst hjk
          have z2 : ¬ 9223372036854775807 < Y'.size + 1 := by omega
          obtain ⟨wx, hwx⟩ : ∃ wx : World, wx = wr := ⟨_, rfl⟩
          subst hwx
          have B := hB
          have hX1 : ∀ V, Below w.heap.size w V → Calls Tryz.prog 10 #[.string X'] V fun r w' => (∃ op mon name n ad len cp pos, r = .returned (.tuple #[.agg #[.int .i64 op, .string mon, .string name, .int .i64 n, .slice ad len cp, .int .i64 pos], .int .i64 c, .int .i64 a])) ∧ Below V.heap.size V w' := fun V hV => h10 X' V hV (by omega) HXY.out.1
          have hX2 : ∀ V, Below w.heap.size w V → Calls Tryz.prog 14 #[.string (Y' ++ ⟨#[125]⟩)] V fun r w' => (∃ a1 n1 k1 a2 n2 k2, r = .returned (.tuple #[.agg #[.slice a1 n1 k1, .slice a2 n2 k2], .int .i64 f, .int .i64 p])) ∧ Below V.heap.size V w' := fun V hV => h14 _ V hV (by rw [ByteArray.size_append]; show Y'.size + 1 ≤ _; omega) (by rw [app_list, HXY.out.2]; simp)
          clear h10 h14 HXY hX hY hB hlt hjd
          rcases hc with ⟨h64, rfl⟩ | ⟨h64, rfl, ha⟩
          · have hn64 : decide ((64 : Int) < (j : Int)) = false := by simp; omega
            rcases hf with ⟨h63, rfl⟩ | ⟨h63, rfl, hp⟩
            · have hn65 : decide ((64 : Int) < (j : Int) + 1) = false := by simp; omega
              go_wp2_with (first
                | (go_at_call 10; (with_reducible refine (hX1 _ B).mono ?_); rintro r w1 ⟨⟨xop, xmon, xname, xn, xad, xlen, xcp, xpos, rfl⟩, bb⟩; have B := B.tr le_rfl' bb; have B := B.al le_rfl' (.cells #[.int .i64 xop, .string xmon, .string xname, .int .i64 xn, .slice xad xlen xcp, .int .i64 xpos] 25))
                | (go_at_call 14; (with_reducible refine (hX2 _ B).mono ?_); rintro r w2 ⟨⟨a1, n1, k1, a2, n2, k2, rfl⟩, bb⟩; have B := B.tr le_rfl' bb; have B := B.al le_rfl' (.cells #[.slice a1 n1 k1, .slice a2 n2 k2] 37))
                | (go_at_call 13; (with_reducible refine (hnum _ _).mono ?_); rintro r w' ⟨rfl, hw'⟩; subst hw')
                | (go_at_call 9; (with_reducible refine (hlive _ B).mono ?_); rintro r w5 ⟨rfl, bb⟩; have B := B.tr le_rfl' bb))
              go_ret
              exact ⟨rfl, B⟩
            · have hn65 : (64 : Int) < (j : Int) + 1 := by omega
              go_wp2_with (first
                | (go_at_call 10; (with_reducible refine (hX1 _ B).mono ?_); rintro r w1 ⟨⟨xop, xmon, xname, xn, xad, xlen, xcp, xpos, rfl⟩, bb⟩; have B := B.tr le_rfl' bb; have B := B.al le_rfl' (.cells #[.int .i64 xop, .string xmon, .string xname, .int .i64 xn, .slice xad xlen xcp, .int .i64 xpos] 25))
                | (go_at_call 14; (with_reducible refine (hX2 _ B).mono ?_); rintro r w2 ⟨⟨a1, n1, k1, a2, n2, k2, rfl⟩, bb⟩; have B := B.tr le_rfl' bb; have B := B.al le_rfl' (.cells #[.slice a1 n1 k1, .slice a2 n2 k2] 37))
                | (go_at_call 13; (with_reducible refine (hnum _ _).mono ?_); rintro r w' ⟨rfl, hw'⟩; subst hw')
                | (go_at_call 9; (with_reducible refine (hlive _ B).mono ?_); rintro r w5 ⟨rfl, bb⟩; have B := B.tr le_rfl' bb))
              go_ret
              exact ⟨rfl, B⟩
          · obtain ⟨rfl, hp⟩ : f = 41 ∧ 0 < p := by rcases hf with h | h; (omega); exact h.2
            have hn64 : (64 : Int) < (j : Int) := by omega
            go_wp2_with (first
              | (go_at_call 10; (with_reducible refine (hX1 _ B).mono ?_); rintro r w1 ⟨⟨xop, xmon, xname, xn, xad, xlen, xcp, xpos, rfl⟩, bb⟩; have B := B.tr le_rfl' bb; have B := B.al le_rfl' (.cells #[.int .i64 xop, .string xmon, .string xname, .int .i64 xn, .slice xad xlen xcp, .int .i64 xpos] 25))
              | (go_at_call 14; (with_reducible refine (hX2 _ B).mono ?_); rintro r w2 ⟨⟨a1, n1, k1, a2, n2, k2, rfl⟩, bb⟩; have B := B.tr le_rfl' bb; have B := B.al le_rfl' (.cells #[.slice a1 n1 k1, .slice a2 n2 k2] 37))
              | (go_at_call 13; (with_reducible refine (hnum _ _).mono ?_); rintro r w' ⟨rfl, hw'⟩; subst hw')
              | (go_at_call 9; (with_reducible refine (hlive _ B).mono ?_); rintro r w5 ⟨rfl, bb⟩; have B := B.tr le_rfl' bb))
            go_ret
            exact ⟨rfl, B⟩
set_option maxRecDepth 100000 in
set_option maxHeartbeats 2000000 in
theorem deepWalk_1 (nn : Nat) (w : World) (hn : nn ≤ 80) (c a f p : Int)
    (h10 : ∀ s V, Below w.heap.size w V → s.size ≤ 1000 → s.data.toList = rp nn [33] ++ ([97, 46, 120] ++ rp nn []) → Calls Tryz.prog 10 #[.string s] V fun r w' => (∃ op mon name n ad len cp pos, r = .returned (.tuple #[.agg #[.int .i64 op, .string mon, .string name, .int .i64 n, .slice ad len cp, .int .i64 pos], .int .i64 c, .int .i64 a])) ∧ Below V.heap.size V w')
    (h14 : ∀ s V, Below w.heap.size w V → s.size ≤ 1000 → s.data.toList = [116, 104, 114, 101, 97, 100, 32, 114, 32, 42, 32] ++ (rp nn [123, 32, 108, 111, 111, 112, 32] ++ ([123] ++ (rp nn [125] ++ [125]))) → Calls Tryz.prog 14 #[.string s] V fun r w' => (∃ a1 n1 k1 a2 n2 k2, r = .returned (.tuple #[.agg #[.slice a1 n1 k1, .slice a2 n2 k2], .int .i64 f, .int .i64 p])) ∧ Below V.heap.size V w')
    (hnum : ∀ e V, Calls Tryz.prog 13 #[.int .i64 e] V fun r w' => r = .returned (.int .i64 e) ∧ w' = V)
    (hlive : ∀ V, Below w.heap.size w V → Calls Tryz.prog 9 #[] V fun r w' => r = .returned (.bool true) ∧ Below V.heap.size V w')
    (hc : (nn ≤ 64 ∧ c = 0) ∨ (64 < nn ∧ c = 41 ∧ 64 ≤ a)) (hf : (nn ≤ 63 ∧ f = 0) ∨ (63 < nn ∧ f = 41 ∧ 0 < p)) : Calls Tryz.prog 8 #[.int .i64 (nn : Int), .int .i64 1] w fun r w' => r = .returned (.bool true) ∧ Below w.heap.size w w' := by
  have hn0 : decide ((nn : Int) < 0) = false := by simp
  have hn80 : decide ((80 : Int) < (nn : Int)) = false := by simp; omega
  go_enter Tryz.func8, Tryz.ntmps8
  go_wp2
  go_loopw [7, 8, 9] (fun vs vt vi wr => ∃ (k : Nat) (X Y : ByteArray), k ≤ nn ∧ vs = .string X ∧ vt = .string Y ∧ vi = .int .i64 (k : Int) ∧ Hid (X.data.toList = rp k [33] ∧ Y.data.toList = [116, 104, 114, 101, 97, 100, 32, 114, 32, 42, 32] ++ rp k [123, 32, 108, 111, 111, 112, 32]) ∧ X.size ≤ 1 * k ∧ Y.size ≤ 11 + 7 * k ∧ Below w.heap.size w wr) (fun _ _ i _ => nn - (intOf i).toNat)
  case atStart => exact ⟨0, _, _, by omega, rfl, rfl, rfl, ⟨rfl, rfl⟩, Nat.le_refl _, Nat.le_refl _, ((Below.refl _ w).al le_rfl' _).al le_rfl' _⟩
  case round =>
    obtain ⟨k, X, Y, hk, rfl, rfl, rfl, HXY, hX, hY, hB⟩ := hrel
    by_cases hlt : k < nn
    · have hlt' : (k : Int) < (nn : Int) := by omega
      have z1 : ¬ 9223372036854775807 < X.size + 1 := by omega
      have z2 : ¬ 9223372036854775807 < Y.size + 7 := by omega
      go_wp2
      go_roundw
      case rel =>
        refine ⟨k + 1, _, _, by omega, rfl, rfl, by go_num, ⟨?_, ?_⟩, ?_, ?_, hB⟩
        · rw [app_list, HXY.out.1, rp_snoc]
        · rw [app_list, HXY.out.2, rp_snoc, List.append_assoc]
        · rw [ByteArray.size_append]; show X.size + 1 ≤ _; omega
        · rw [ByteArray.size_append]; show Y.size + 7 ≤ _; omega
      case measure => simp [intOf]; omega
    · have hkd : decide ((k : Int) < (nn : Int)) = false := by simp; omega
      have hkn : k = nn := by omega
      subst hkn
      have z1 : ¬ 9223372036854775807 < X.size + 3 := by omega
      have z2 : ¬ 9223372036854775807 < Y.size + 1 := by omega
      go_wp2
      go_loopw [7, 8, 10] (fun vs vt vi wr => ∃ (j : Nat) (X' Y' : ByteArray), j ≤ k ∧ vs = .string X' ∧ vt = .string Y' ∧ vi = .int .i64 (j : Int) ∧ Hid (X'.data.toList = rp k [33] ++ ([97, 46, 120] ++ rp j []) ∧ Y'.data.toList = [116, 104, 114, 101, 97, 100, 32, 114, 32, 42, 32] ++ (rp k [123, 32, 108, 111, 111, 112, 32] ++ ([123] ++ rp j [125]))) ∧ X'.size ≤ 1 * k + 3 + 0 * j ∧ Y'.size ≤ 12 + 7 * k + j ∧ Below w.heap.size w wr) (fun _ _ i _ => k - (intOf i).toNat)
      case atStart => exact ⟨0, _, _, by omega, rfl, rfl, rfl, ⟨by rw [app_list, HXY.out.1]; rfl, by rw [app_list, HXY.out.2, List.append_assoc]; rfl⟩, by rw [ByteArray.size_append]; show X.size + 3 ≤ _; omega, by rw [ByteArray.size_append]; show Y.size + 1 ≤ _; omega, hB⟩
      case round =>
        clear HXY hX hY hB z1 z2 hlt
        obtain ⟨j, X', Y', hj, rfl, rfl, rfl, HXY, hX, hY, hB⟩ := hrel
        by_cases hlt : j < k
        · have hlt' : (j : Int) < (k : Int) := by omega
          have z1 : ¬ 9223372036854775807 < X'.size + 0 := by omega
          have z2 : ¬ 9223372036854775807 < Y'.size + 1 := by omega
          have z3 : ¬ 9223372036854775807 < X'.size := by omega
          go_wp2
          go_roundw
          case rel =>
            refine ⟨j + 1, _, _, by omega, rfl, rfl, by go_num, ⟨?_, ?_⟩, ?_, ?_, hB⟩
            · first | rw [app_list, HXY.out.1, rp_snoc]; simp | (rw [HXY.out.1, rp_snoc]; simp)
            · rw [app_list, HXY.out.2, rp_snoc]; simp
            · first | (rw [ByteArray.size_append]; show X'.size + 0 ≤ _; omega) | omega
            · rw [ByteArray.size_append]; show Y'.size + 1 ≤ _; omega
          case measure => simp [intOf]; omega
        · have hjd : decide ((j : Int) < (k : Int)) = false := by simp; omega
          have hjk : j = k := by omega
          subst hjk
          have z2 : ¬ 9223372036854775807 < Y'.size + 1 := by omega
          obtain ⟨wx, hwx⟩ : ∃ wx : World, wx = wr := ⟨_, rfl⟩
          subst hwx
          have B := hB
          have hX1 : ∀ V, Below w.heap.size w V → Calls Tryz.prog 10 #[.string X'] V fun r w' => (∃ op mon name n ad len cp pos, r = .returned (.tuple #[.agg #[.int .i64 op, .string mon, .string name, .int .i64 n, .slice ad len cp, .int .i64 pos], .int .i64 c, .int .i64 a])) ∧ Below V.heap.size V w' := fun V hV => h10 X' V hV (by omega) HXY.out.1
          have hX2 : ∀ V, Below w.heap.size w V → Calls Tryz.prog 14 #[.string (Y' ++ ⟨#[125]⟩)] V fun r w' => (∃ a1 n1 k1 a2 n2 k2, r = .returned (.tuple #[.agg #[.slice a1 n1 k1, .slice a2 n2 k2], .int .i64 f, .int .i64 p])) ∧ Below V.heap.size V w' := fun V hV => h14 _ V hV (by rw [ByteArray.size_append]; show Y'.size + 1 ≤ _; omega) (by rw [app_list, HXY.out.2]; simp)
          clear h10 h14 HXY hX hY hB hlt hjd
          rcases hc with ⟨h64, rfl⟩ | ⟨h64, rfl, ha⟩
          · have hn64 : decide ((64 : Int) < (j : Int)) = false := by simp; omega
            rcases hf with ⟨h63, rfl⟩ | ⟨h63, rfl, hp⟩
            · have hn65 : decide ((64 : Int) < (j : Int) + 1) = false := by simp; omega
              go_wp2_with (first
                | (go_at_call 10; (with_reducible refine (hX1 _ B).mono ?_); rintro r w1 ⟨⟨xop, xmon, xname, xn, xad, xlen, xcp, xpos, rfl⟩, bb⟩; have B := B.tr le_rfl' bb; have B := B.al le_rfl' (.cells #[.int .i64 xop, .string xmon, .string xname, .int .i64 xn, .slice xad xlen xcp, .int .i64 xpos] 25))
                | (go_at_call 14; (with_reducible refine (hX2 _ B).mono ?_); rintro r w2 ⟨⟨a1, n1, k1, a2, n2, k2, rfl⟩, bb⟩; have B := B.tr le_rfl' bb; have B := B.al le_rfl' (.cells #[.slice a1 n1 k1, .slice a2 n2 k2] 37))
                | (go_at_call 13; (with_reducible refine (hnum _ _).mono ?_); rintro r w' ⟨rfl, hw'⟩; subst hw')
                | (go_at_call 9; (with_reducible refine (hlive _ B).mono ?_); rintro r w5 ⟨rfl, bb⟩; have B := B.tr le_rfl' bb))
              go_ret
              exact ⟨rfl, B⟩
            · have hn65 : (64 : Int) < (j : Int) + 1 := by omega
              go_wp2_with (first
                | (go_at_call 10; (with_reducible refine (hX1 _ B).mono ?_); rintro r w1 ⟨⟨xop, xmon, xname, xn, xad, xlen, xcp, xpos, rfl⟩, bb⟩; have B := B.tr le_rfl' bb; have B := B.al le_rfl' (.cells #[.int .i64 xop, .string xmon, .string xname, .int .i64 xn, .slice xad xlen xcp, .int .i64 xpos] 25))
                | (go_at_call 14; (with_reducible refine (hX2 _ B).mono ?_); rintro r w2 ⟨⟨a1, n1, k1, a2, n2, k2, rfl⟩, bb⟩; have B := B.tr le_rfl' bb; have B := B.al le_rfl' (.cells #[.slice a1 n1 k1, .slice a2 n2 k2] 37))
                | (go_at_call 13; (with_reducible refine (hnum _ _).mono ?_); rintro r w' ⟨rfl, hw'⟩; subst hw')
                | (go_at_call 9; (with_reducible refine (hlive _ B).mono ?_); rintro r w5 ⟨rfl, bb⟩; have B := B.tr le_rfl' bb))
              go_ret
              exact ⟨rfl, B⟩
          · obtain ⟨rfl, hp⟩ : f = 41 ∧ 0 < p := by rcases hf with h | h; (omega); exact h.2
            have hn64 : (64 : Int) < (j : Int) := by omega
            go_wp2_with (first
              | (go_at_call 10; (with_reducible refine (hX1 _ B).mono ?_); rintro r w1 ⟨⟨xop, xmon, xname, xn, xad, xlen, xcp, xpos, rfl⟩, bb⟩; have B := B.tr le_rfl' bb; have B := B.al le_rfl' (.cells #[.int .i64 xop, .string xmon, .string xname, .int .i64 xn, .slice xad xlen xcp, .int .i64 xpos] 25))
              | (go_at_call 14; (with_reducible refine (hX2 _ B).mono ?_); rintro r w2 ⟨⟨a1, n1, k1, a2, n2, k2, rfl⟩, bb⟩; have B := B.tr le_rfl' bb; have B := B.al le_rfl' (.cells #[.slice a1 n1 k1, .slice a2 n2 k2] 37))
              | (go_at_call 13; (with_reducible refine (hnum _ _).mono ?_); rintro r w' ⟨rfl, hw'⟩; subst hw')
              | (go_at_call 9; (with_reducible refine (hlive _ B).mono ?_); rintro r w5 ⟨rfl, bb⟩; have B := B.tr le_rfl' bb))
            go_ret
            exact ⟨rfl, B⟩
set_option maxRecDepth 100000 in
set_option maxHeartbeats 2000000 in
theorem deepWalk_2 (nn : Nat) (w : World) (hn : nn ≤ 80) (c a f p : Int)
    (h10 : ∀ s V, Below w.heap.size w V → s.size ≤ 1000 → s.data.toList = rp nn [45] ++ ([97, 46, 120] ++ rp nn []) → Calls Tryz.prog 10 #[.string s] V fun r w' => (∃ op mon name n ad len cp pos, r = .returned (.tuple #[.agg #[.int .i64 op, .string mon, .string name, .int .i64 n, .slice ad len cp, .int .i64 pos], .int .i64 c, .int .i64 a])) ∧ Below V.heap.size V w')
    (h14 : ∀ s V, Below w.heap.size w V → s.size ≤ 1000 → s.data.toList = [116, 104, 114, 101, 97, 100, 32, 114, 32, 42, 32] ++ (rp nn [123, 32, 108, 111, 111, 112, 32] ++ ([123] ++ (rp nn [125] ++ [125]))) → Calls Tryz.prog 14 #[.string s] V fun r w' => (∃ a1 n1 k1 a2 n2 k2, r = .returned (.tuple #[.agg #[.slice a1 n1 k1, .slice a2 n2 k2], .int .i64 f, .int .i64 p])) ∧ Below V.heap.size V w')
    (hnum : ∀ e V, Calls Tryz.prog 13 #[.int .i64 e] V fun r w' => r = .returned (.int .i64 e) ∧ w' = V)
    (hlive : ∀ V, Below w.heap.size w V → Calls Tryz.prog 9 #[] V fun r w' => r = .returned (.bool true) ∧ Below V.heap.size V w')
    (hc : (nn ≤ 64 ∧ c = 0) ∨ (64 < nn ∧ c = 41 ∧ 64 ≤ a)) (hf : (nn ≤ 63 ∧ f = 0) ∨ (63 < nn ∧ f = 41 ∧ 0 < p)) : Calls Tryz.prog 8 #[.int .i64 (nn : Int), .int .i64 2] w fun r w' => r = .returned (.bool true) ∧ Below w.heap.size w w' := by
  have hn0 : decide ((nn : Int) < 0) = false := by simp
  have hn80 : decide ((80 : Int) < (nn : Int)) = false := by simp; omega
  go_enter Tryz.func8, Tryz.ntmps8
  go_wp2
  go_loopw [7, 8, 9] (fun vs vt vi wr => ∃ (k : Nat) (X Y : ByteArray), k ≤ nn ∧ vs = .string X ∧ vt = .string Y ∧ vi = .int .i64 (k : Int) ∧ Hid (X.data.toList = rp k [45] ∧ Y.data.toList = [116, 104, 114, 101, 97, 100, 32, 114, 32, 42, 32] ++ rp k [123, 32, 108, 111, 111, 112, 32]) ∧ X.size ≤ 1 * k ∧ Y.size ≤ 11 + 7 * k ∧ Below w.heap.size w wr) (fun _ _ i _ => nn - (intOf i).toNat)
  case atStart => exact ⟨0, _, _, by omega, rfl, rfl, rfl, ⟨rfl, rfl⟩, Nat.le_refl _, Nat.le_refl _, ((Below.refl _ w).al le_rfl' _).al le_rfl' _⟩
  case round =>
    obtain ⟨k, X, Y, hk, rfl, rfl, rfl, HXY, hX, hY, hB⟩ := hrel
    by_cases hlt : k < nn
    · have hlt' : (k : Int) < (nn : Int) := by omega
      have z1 : ¬ 9223372036854775807 < X.size + 1 := by omega
      have z2 : ¬ 9223372036854775807 < Y.size + 7 := by omega
      go_wp2
      go_roundw
      case rel =>
        refine ⟨k + 1, _, _, by omega, rfl, rfl, by go_num, ⟨?_, ?_⟩, ?_, ?_, hB⟩
        · rw [app_list, HXY.out.1, rp_snoc]
        · rw [app_list, HXY.out.2, rp_snoc, List.append_assoc]
        · rw [ByteArray.size_append]; show X.size + 1 ≤ _; omega
        · rw [ByteArray.size_append]; show Y.size + 7 ≤ _; omega
      case measure => simp [intOf]; omega
    · have hkd : decide ((k : Int) < (nn : Int)) = false := by simp; omega
      have hkn : k = nn := by omega
      subst hkn
      have z1 : ¬ 9223372036854775807 < X.size + 3 := by omega
      have z2 : ¬ 9223372036854775807 < Y.size + 1 := by omega
      go_wp2
      go_loopw [7, 8, 10] (fun vs vt vi wr => ∃ (j : Nat) (X' Y' : ByteArray), j ≤ k ∧ vs = .string X' ∧ vt = .string Y' ∧ vi = .int .i64 (j : Int) ∧ Hid (X'.data.toList = rp k [45] ++ ([97, 46, 120] ++ rp j []) ∧ Y'.data.toList = [116, 104, 114, 101, 97, 100, 32, 114, 32, 42, 32] ++ (rp k [123, 32, 108, 111, 111, 112, 32] ++ ([123] ++ rp j [125]))) ∧ X'.size ≤ 1 * k + 3 + 0 * j ∧ Y'.size ≤ 12 + 7 * k + j ∧ Below w.heap.size w wr) (fun _ _ i _ => k - (intOf i).toNat)
      case atStart => exact ⟨0, _, _, by omega, rfl, rfl, rfl, ⟨by rw [app_list, HXY.out.1]; rfl, by rw [app_list, HXY.out.2, List.append_assoc]; rfl⟩, by rw [ByteArray.size_append]; show X.size + 3 ≤ _; omega, by rw [ByteArray.size_append]; show Y.size + 1 ≤ _; omega, hB⟩
      case round =>
        clear HXY hX hY hB z1 z2 hlt
        obtain ⟨j, X', Y', hj, rfl, rfl, rfl, HXY, hX, hY, hB⟩ := hrel
        by_cases hlt : j < k
        · have hlt' : (j : Int) < (k : Int) := by omega
          have z1 : ¬ 9223372036854775807 < X'.size + 0 := by omega
          have z2 : ¬ 9223372036854775807 < Y'.size + 1 := by omega
          have z3 : ¬ 9223372036854775807 < X'.size := by omega
          go_wp2
          go_roundw
          case rel =>
            refine ⟨j + 1, _, _, by omega, rfl, rfl, by go_num, ⟨?_, ?_⟩, ?_, ?_, hB⟩
            · first | rw [app_list, HXY.out.1, rp_snoc]; simp | (rw [HXY.out.1, rp_snoc]; simp)
            · rw [app_list, HXY.out.2, rp_snoc]; simp
            · first | (rw [ByteArray.size_append]; show X'.size + 0 ≤ _; omega) | omega
            · rw [ByteArray.size_append]; show Y'.size + 1 ≤ _; omega
          case measure => simp [intOf]; omega
        · have hjd : decide ((j : Int) < (k : Int)) = false := by simp; omega
          have hjk : j = k := by omega
          subst hjk
          have z2 : ¬ 9223372036854775807 < Y'.size + 1 := by omega
          obtain ⟨wx, hwx⟩ : ∃ wx : World, wx = wr := ⟨_, rfl⟩
          subst hwx
          have B := hB
          have hX1 : ∀ V, Below w.heap.size w V → Calls Tryz.prog 10 #[.string X'] V fun r w' => (∃ op mon name n ad len cp pos, r = .returned (.tuple #[.agg #[.int .i64 op, .string mon, .string name, .int .i64 n, .slice ad len cp, .int .i64 pos], .int .i64 c, .int .i64 a])) ∧ Below V.heap.size V w' := fun V hV => h10 X' V hV (by omega) HXY.out.1
          have hX2 : ∀ V, Below w.heap.size w V → Calls Tryz.prog 14 #[.string (Y' ++ ⟨#[125]⟩)] V fun r w' => (∃ a1 n1 k1 a2 n2 k2, r = .returned (.tuple #[.agg #[.slice a1 n1 k1, .slice a2 n2 k2], .int .i64 f, .int .i64 p])) ∧ Below V.heap.size V w' := fun V hV => h14 _ V hV (by rw [ByteArray.size_append]; show Y'.size + 1 ≤ _; omega) (by rw [app_list, HXY.out.2]; simp)
          clear h10 h14 HXY hX hY hB hlt hjd
          rcases hc with ⟨h64, rfl⟩ | ⟨h64, rfl, ha⟩
          · have hn64 : decide ((64 : Int) < (j : Int)) = false := by simp; omega
            rcases hf with ⟨h63, rfl⟩ | ⟨h63, rfl, hp⟩
            · have hn65 : decide ((64 : Int) < (j : Int) + 1) = false := by simp; omega
              go_wp2_with (first
                | (go_at_call 10; (with_reducible refine (hX1 _ B).mono ?_); rintro r w1 ⟨⟨xop, xmon, xname, xn, xad, xlen, xcp, xpos, rfl⟩, bb⟩; have B := B.tr le_rfl' bb; have B := B.al le_rfl' (.cells #[.int .i64 xop, .string xmon, .string xname, .int .i64 xn, .slice xad xlen xcp, .int .i64 xpos] 25))
                | (go_at_call 14; (with_reducible refine (hX2 _ B).mono ?_); rintro r w2 ⟨⟨a1, n1, k1, a2, n2, k2, rfl⟩, bb⟩; have B := B.tr le_rfl' bb; have B := B.al le_rfl' (.cells #[.slice a1 n1 k1, .slice a2 n2 k2] 37))
                | (go_at_call 13; (with_reducible refine (hnum _ _).mono ?_); rintro r w' ⟨rfl, hw'⟩; subst hw')
                | (go_at_call 9; (with_reducible refine (hlive _ B).mono ?_); rintro r w5 ⟨rfl, bb⟩; have B := B.tr le_rfl' bb))
              go_ret
              exact ⟨rfl, B⟩
            · have hn65 : (64 : Int) < (j : Int) + 1 := by omega
              go_wp2_with (first
                | (go_at_call 10; (with_reducible refine (hX1 _ B).mono ?_); rintro r w1 ⟨⟨xop, xmon, xname, xn, xad, xlen, xcp, xpos, rfl⟩, bb⟩; have B := B.tr le_rfl' bb; have B := B.al le_rfl' (.cells #[.int .i64 xop, .string xmon, .string xname, .int .i64 xn, .slice xad xlen xcp, .int .i64 xpos] 25))
                | (go_at_call 14; (with_reducible refine (hX2 _ B).mono ?_); rintro r w2 ⟨⟨a1, n1, k1, a2, n2, k2, rfl⟩, bb⟩; have B := B.tr le_rfl' bb; have B := B.al le_rfl' (.cells #[.slice a1 n1 k1, .slice a2 n2 k2] 37))
                | (go_at_call 13; (with_reducible refine (hnum _ _).mono ?_); rintro r w' ⟨rfl, hw'⟩; subst hw')
                | (go_at_call 9; (with_reducible refine (hlive _ B).mono ?_); rintro r w5 ⟨rfl, bb⟩; have B := B.tr le_rfl' bb))
              go_ret
              exact ⟨rfl, B⟩
          · obtain ⟨rfl, hp⟩ : f = 41 ∧ 0 < p := by rcases hf with h | h; (omega); exact h.2
            have hn64 : (64 : Int) < (j : Int) := by omega
            go_wp2_with (first
              | (go_at_call 10; (with_reducible refine (hX1 _ B).mono ?_); rintro r w1 ⟨⟨xop, xmon, xname, xn, xad, xlen, xcp, xpos, rfl⟩, bb⟩; have B := B.tr le_rfl' bb; have B := B.al le_rfl' (.cells #[.int .i64 xop, .string xmon, .string xname, .int .i64 xn, .slice xad xlen xcp, .int .i64 xpos] 25))
              | (go_at_call 14; (with_reducible refine (hX2 _ B).mono ?_); rintro r w2 ⟨⟨a1, n1, k1, a2, n2, k2, rfl⟩, bb⟩; have B := B.tr le_rfl' bb; have B := B.al le_rfl' (.cells #[.slice a1 n1 k1, .slice a2 n2 k2] 37))
              | (go_at_call 13; (with_reducible refine (hnum _ _).mono ?_); rintro r w' ⟨rfl, hw'⟩; subst hw')
              | (go_at_call 9; (with_reducible refine (hlive _ B).mono ?_); rintro r w5 ⟨rfl, bb⟩; have B := B.tr le_rfl' bb))
            go_ret
            exact ⟨rfl, B⟩
set_option maxRecDepth 100000 in
set_option maxHeartbeats 2000000 in
theorem deepWalk_3 (nn : Nat) (w : World) (hn : nn ≤ 80) (c a f p : Int)
    (h10 : ∀ s V, Below w.heap.size w V → s.size ≤ 1000 → s.data.toList = rp nn [50, 32, 42, 32] ++ ([97, 46, 120] ++ rp nn []) → Calls Tryz.prog 10 #[.string s] V fun r w' => (∃ op mon name n ad len cp pos, r = .returned (.tuple #[.agg #[.int .i64 op, .string mon, .string name, .int .i64 n, .slice ad len cp, .int .i64 pos], .int .i64 c, .int .i64 a])) ∧ Below V.heap.size V w')
    (h14 : ∀ s V, Below w.heap.size w V → s.size ≤ 1000 → s.data.toList = [116, 104, 114, 101, 97, 100, 32, 114, 32, 42, 32] ++ (rp nn [123, 32, 108, 111, 111, 112, 32] ++ ([123] ++ (rp nn [125] ++ [125]))) → Calls Tryz.prog 14 #[.string s] V fun r w' => (∃ a1 n1 k1 a2 n2 k2, r = .returned (.tuple #[.agg #[.slice a1 n1 k1, .slice a2 n2 k2], .int .i64 f, .int .i64 p])) ∧ Below V.heap.size V w')
    (hnum : ∀ e V, Calls Tryz.prog 13 #[.int .i64 e] V fun r w' => r = .returned (.int .i64 e) ∧ w' = V)
    (hlive : ∀ V, Below w.heap.size w V → Calls Tryz.prog 9 #[] V fun r w' => r = .returned (.bool true) ∧ Below V.heap.size V w')
    (hc : (nn ≤ 64 ∧ c = 0) ∨ (64 < nn ∧ c = 41 ∧ 64 ≤ a)) (hf : (nn ≤ 63 ∧ f = 0) ∨ (63 < nn ∧ f = 41 ∧ 0 < p)) : Calls Tryz.prog 8 #[.int .i64 (nn : Int), .int .i64 3] w fun r w' => r = .returned (.bool true) ∧ Below w.heap.size w w' := by
  have hn0 : decide ((nn : Int) < 0) = false := by simp
  have hn80 : decide ((80 : Int) < (nn : Int)) = false := by simp; omega
  go_enter Tryz.func8, Tryz.ntmps8
  go_wp2
  go_loopw [7, 8, 9] (fun vs vt vi wr => ∃ (k : Nat) (X Y : ByteArray), k ≤ nn ∧ vs = .string X ∧ vt = .string Y ∧ vi = .int .i64 (k : Int) ∧ Hid (X.data.toList = rp k [50, 32, 42, 32] ∧ Y.data.toList = [116, 104, 114, 101, 97, 100, 32, 114, 32, 42, 32] ++ rp k [123, 32, 108, 111, 111, 112, 32]) ∧ X.size ≤ 4 * k ∧ Y.size ≤ 11 + 7 * k ∧ Below w.heap.size w wr) (fun _ _ i _ => nn - (intOf i).toNat)
  case atStart => exact ⟨0, _, _, by omega, rfl, rfl, rfl, ⟨rfl, rfl⟩, Nat.le_refl _, Nat.le_refl _, ((Below.refl _ w).al le_rfl' _).al le_rfl' _⟩
  case round =>
    obtain ⟨k, X, Y, hk, rfl, rfl, rfl, HXY, hX, hY, hB⟩ := hrel
    by_cases hlt : k < nn
    · have hlt' : (k : Int) < (nn : Int) := by omega
      have z1 : ¬ 9223372036854775807 < X.size + 4 := by omega
      have z2 : ¬ 9223372036854775807 < Y.size + 7 := by omega
      go_wp2
      go_roundw
      case rel =>
        refine ⟨k + 1, _, _, by omega, rfl, rfl, by go_num, ⟨?_, ?_⟩, ?_, ?_, hB⟩
        · rw [app_list, HXY.out.1, rp_snoc]
        · rw [app_list, HXY.out.2, rp_snoc, List.append_assoc]
        · rw [ByteArray.size_append]; show X.size + 4 ≤ _; omega
        · rw [ByteArray.size_append]; show Y.size + 7 ≤ _; omega
      case measure => simp [intOf]; omega
    · have hkd : decide ((k : Int) < (nn : Int)) = false := by simp; omega
      have hkn : k = nn := by omega
      subst hkn
      have z1 : ¬ 9223372036854775807 < X.size + 3 := by omega
      have z2 : ¬ 9223372036854775807 < Y.size + 1 := by omega
      go_wp2
      go_loopw [7, 8, 10] (fun vs vt vi wr => ∃ (j : Nat) (X' Y' : ByteArray), j ≤ k ∧ vs = .string X' ∧ vt = .string Y' ∧ vi = .int .i64 (j : Int) ∧ Hid (X'.data.toList = rp k [50, 32, 42, 32] ++ ([97, 46, 120] ++ rp j []) ∧ Y'.data.toList = [116, 104, 114, 101, 97, 100, 32, 114, 32, 42, 32] ++ (rp k [123, 32, 108, 111, 111, 112, 32] ++ ([123] ++ rp j [125]))) ∧ X'.size ≤ 4 * k + 3 + 0 * j ∧ Y'.size ≤ 12 + 7 * k + j ∧ Below w.heap.size w wr) (fun _ _ i _ => k - (intOf i).toNat)
      case atStart => exact ⟨0, _, _, by omega, rfl, rfl, rfl, ⟨by rw [app_list, HXY.out.1]; rfl, by rw [app_list, HXY.out.2, List.append_assoc]; rfl⟩, by rw [ByteArray.size_append]; show X.size + 3 ≤ _; omega, by rw [ByteArray.size_append]; show Y.size + 1 ≤ _; omega, hB⟩
      case round =>
        clear HXY hX hY hB z1 z2 hlt
        obtain ⟨j, X', Y', hj, rfl, rfl, rfl, HXY, hX, hY, hB⟩ := hrel
        by_cases hlt : j < k
        · have hlt' : (j : Int) < (k : Int) := by omega
          have z1 : ¬ 9223372036854775807 < X'.size + 0 := by omega
          have z2 : ¬ 9223372036854775807 < Y'.size + 1 := by omega
          have z3 : ¬ 9223372036854775807 < X'.size := by omega
          go_wp2
          go_roundw
          case rel =>
            refine ⟨j + 1, _, _, by omega, rfl, rfl, by go_num, ⟨?_, ?_⟩, ?_, ?_, hB⟩
            · first | rw [app_list, HXY.out.1, rp_snoc]; simp | (rw [HXY.out.1, rp_snoc]; simp)
            · rw [app_list, HXY.out.2, rp_snoc]; simp
            · first | (rw [ByteArray.size_append]; show X'.size + 0 ≤ _; omega) | omega
            · rw [ByteArray.size_append]; show Y'.size + 1 ≤ _; omega
          case measure => simp [intOf]; omega
        · have hjd : decide ((j : Int) < (k : Int)) = false := by simp; omega
          have hjk : j = k := by omega
          subst hjk
          have z2 : ¬ 9223372036854775807 < Y'.size + 1 := by omega
          obtain ⟨wx, hwx⟩ : ∃ wx : World, wx = wr := ⟨_, rfl⟩
          subst hwx
          have B := hB
          have hX1 : ∀ V, Below w.heap.size w V → Calls Tryz.prog 10 #[.string X'] V fun r w' => (∃ op mon name n ad len cp pos, r = .returned (.tuple #[.agg #[.int .i64 op, .string mon, .string name, .int .i64 n, .slice ad len cp, .int .i64 pos], .int .i64 c, .int .i64 a])) ∧ Below V.heap.size V w' := fun V hV => h10 X' V hV (by omega) HXY.out.1
          have hX2 : ∀ V, Below w.heap.size w V → Calls Tryz.prog 14 #[.string (Y' ++ ⟨#[125]⟩)] V fun r w' => (∃ a1 n1 k1 a2 n2 k2, r = .returned (.tuple #[.agg #[.slice a1 n1 k1, .slice a2 n2 k2], .int .i64 f, .int .i64 p])) ∧ Below V.heap.size V w' := fun V hV => h14 _ V hV (by rw [ByteArray.size_append]; show Y'.size + 1 ≤ _; omega) (by rw [app_list, HXY.out.2]; simp)
          clear h10 h14 HXY hX hY hB hlt hjd
          rcases hc with ⟨h64, rfl⟩ | ⟨h64, rfl, ha⟩
          · have hn64 : decide ((64 : Int) < (j : Int)) = false := by simp; omega
            rcases hf with ⟨h63, rfl⟩ | ⟨h63, rfl, hp⟩
            · have hn65 : decide ((64 : Int) < (j : Int) + 1) = false := by simp; omega
              go_wp2_with (first
                | (go_at_call 10; (with_reducible refine (hX1 _ B).mono ?_); rintro r w1 ⟨⟨xop, xmon, xname, xn, xad, xlen, xcp, xpos, rfl⟩, bb⟩; have B := B.tr le_rfl' bb; have B := B.al le_rfl' (.cells #[.int .i64 xop, .string xmon, .string xname, .int .i64 xn, .slice xad xlen xcp, .int .i64 xpos] 25))
                | (go_at_call 14; (with_reducible refine (hX2 _ B).mono ?_); rintro r w2 ⟨⟨a1, n1, k1, a2, n2, k2, rfl⟩, bb⟩; have B := B.tr le_rfl' bb; have B := B.al le_rfl' (.cells #[.slice a1 n1 k1, .slice a2 n2 k2] 37))
                | (go_at_call 13; (with_reducible refine (hnum _ _).mono ?_); rintro r w' ⟨rfl, hw'⟩; subst hw')
                | (go_at_call 9; (with_reducible refine (hlive _ B).mono ?_); rintro r w5 ⟨rfl, bb⟩; have B := B.tr le_rfl' bb))
              go_ret
              exact ⟨rfl, B⟩
            · have hn65 : (64 : Int) < (j : Int) + 1 := by omega
              go_wp2_with (first
                | (go_at_call 10; (with_reducible refine (hX1 _ B).mono ?_); rintro r w1 ⟨⟨xop, xmon, xname, xn, xad, xlen, xcp, xpos, rfl⟩, bb⟩; have B := B.tr le_rfl' bb; have B := B.al le_rfl' (.cells #[.int .i64 xop, .string xmon, .string xname, .int .i64 xn, .slice xad xlen xcp, .int .i64 xpos] 25))
                | (go_at_call 14; (with_reducible refine (hX2 _ B).mono ?_); rintro r w2 ⟨⟨a1, n1, k1, a2, n2, k2, rfl⟩, bb⟩; have B := B.tr le_rfl' bb; have B := B.al le_rfl' (.cells #[.slice a1 n1 k1, .slice a2 n2 k2] 37))
                | (go_at_call 13; (with_reducible refine (hnum _ _).mono ?_); rintro r w' ⟨rfl, hw'⟩; subst hw')
                | (go_at_call 9; (with_reducible refine (hlive _ B).mono ?_); rintro r w5 ⟨rfl, bb⟩; have B := B.tr le_rfl' bb))
              go_ret
              exact ⟨rfl, B⟩
          · obtain ⟨rfl, hp⟩ : f = 41 ∧ 0 < p := by rcases hf with h | h; (omega); exact h.2
            have hn64 : (64 : Int) < (j : Int) := by omega
            go_wp2_with (first
              | (go_at_call 10; (with_reducible refine (hX1 _ B).mono ?_); rintro r w1 ⟨⟨xop, xmon, xname, xn, xad, xlen, xcp, xpos, rfl⟩, bb⟩; have B := B.tr le_rfl' bb; have B := B.al le_rfl' (.cells #[.int .i64 xop, .string xmon, .string xname, .int .i64 xn, .slice xad xlen xcp, .int .i64 xpos] 25))
              | (go_at_call 14; (with_reducible refine (hX2 _ B).mono ?_); rintro r w2 ⟨⟨a1, n1, k1, a2, n2, k2, rfl⟩, bb⟩; have B := B.tr le_rfl' bb; have B := B.al le_rfl' (.cells #[.slice a1 n1 k1, .slice a2 n2 k2] 37))
              | (go_at_call 13; (with_reducible refine (hnum _ _).mono ?_); rintro r w' ⟨rfl, hw'⟩; subst hw')
              | (go_at_call 9; (with_reducible refine (hlive _ B).mono ?_); rintro r w5 ⟨rfl, bb⟩; have B := B.tr le_rfl' bb))
            go_ret
            exact ⟨rfl, B⟩
end Go.Proofs.YtaekbgljbgmchaaGreatDoor
namespace Go.Proofs.YtaekbgljbgmchaaGreatDoor
open Go.RowKit
open Lx (Out)
open Pz
/-- What parse.Expr hands back, but for the tree. -/
theorem expr_code (s : ByteArray) (c a : Int) (w : World) (hs : s.size ≤ 20000) (hE : HasErr w) (hO : Opers w) (h : (wholeOf (Pz.expr (reader s))).2 = (c, a)) : Calls Tryz.prog 10 #[.string s] w fun r w' => (∃ op mon name n ad len cp pos, r = .returned (.tuple #[.agg #[.int .i64 op, .string mon, .string name, .int .i64 n, .slice ad len cp, .int .i64 pos], .int .i64 c, .int .i64 a])) ∧ Below w.heap.size w w' := by
  refine (parseExpr_any s w hs hE hO).mono ?_
  rintro r w1 ⟨⟨op, mon, name, n, ad, cp, kids, pos, rfl, hclr, hBy⟩, b1⟩
  rw [h]
  exact ⟨⟨_, _, _, _, _, _, _, _, rfl⟩, b1⟩
theorem prog_code (s : ByteArray) (c a : Int) (w : World) (hs : s.size ≤ 20000) (hE : HasErr w) (hO : Opers w) (h : (wholeOfP (Pz.program (reader s))).2 = (c, a)) : Calls Tryz.prog 14 #[.string s] w fun r w' => (∃ a1 n1 k1 a2 n2 k2, r = .returned (.tuple #[.agg #[.slice a1 n1 k1, .slice a2 n2 k2], .int .i64 c, .int .i64 a])) ∧ Below w.heap.size w w' := by
  refine (parse_any s w hs hE hO).mono ?_
  rintro r w1 ⟨⟨mad, mcp, lm, rad, rcp, lr, rfl, hclr, hBy⟩, b1⟩
  rw [h]
  exact ⟨⟨_, _, _, _, _, _, rfl⟩, b1⟩
theorem bytes_eq {a : ByteArray} {l : List UInt8} (h : a.data.toList = l) : a = ⟨l.toArray⟩ := ByteArray.ext (by rw [← h])
theorem parseDeep_0 (nn : Nat) (w : World) (hn : nn ≤ 80) (hE : HasErr w) (hO : Opers w) : Calls Tryz.prog 8 #[.int .i64 (nn : Int), .int .i64 0] w fun r w' => r = .returned (.bool true) ∧ Below w.heap.size w w' := by
  obtain ⟨c, a, hca⟩ : ∃ c a, (wholeOf (Pz.expr (reader (deepE [40] [41] nn)))).2 = (c, a) := ⟨_, _, rfl⟩
  obtain ⟨f, p, hfp⟩ : ∃ f p, (wholeOfP (Pz.program (reader (deepP nn)))).2 = (f, p) := ⟨_, _, rfl⟩
  have h1 := deep0 nn
  have h2 := deepP_ok nn
  rw [hca] at h1
  rw [hfp] at h2
  refine deepWalk_0 nn w hn c a f p (fun s V hV hs hl => expr_code s c a V (by omega) (hE.after hV) (hO.below hV) ?_) (fun s V hV hs hl => prog_code s f p V (by omega) (hE.after hV) (hO.below hV) ?_) num_c (fun V hV => live_any V (hE.after hV) (hO.below hV)) ?_ ?_
  · rw [bytes_eq hl]; exact hca
  · rw [bytes_eq hl]; exact hfp
  · rcases Nat.lt_or_ge 64 nn with h | h
    · exact .inr ⟨h, h1.2 h⟩
    · have := h1.1 h; simp only [Prod.mk.injEq] at this; exact .inl ⟨h, this.1⟩
  · rcases Nat.lt_or_ge 63 nn with h | h
    · exact .inr ⟨h, h2.2 h⟩
    · have := h2.1 h; simp only [Prod.mk.injEq] at this; exact .inl ⟨h, this.1⟩
theorem parseDeep_1 (nn : Nat) (w : World) (hn : nn ≤ 80) (hE : HasErr w) (hO : Opers w) : Calls Tryz.prog 8 #[.int .i64 (nn : Int), .int .i64 1] w fun r w' => r = .returned (.bool true) ∧ Below w.heap.size w w' := by
  obtain ⟨c, a, hca⟩ : ∃ c a, (wholeOf (Pz.expr (reader (deepE [33] [] nn)))).2 = (c, a) := ⟨_, _, rfl⟩
  obtain ⟨f, p, hfp⟩ : ∃ f p, (wholeOfP (Pz.program (reader (deepP nn)))).2 = (f, p) := ⟨_, _, rfl⟩
  have h1 := deep1 nn
  have h2 := deepP_ok nn
  rw [hca] at h1
  rw [hfp] at h2
  refine deepWalk_1 nn w hn c a f p (fun s V hV hs hl => expr_code s c a V (by omega) (hE.after hV) (hO.below hV) ?_) (fun s V hV hs hl => prog_code s f p V (by omega) (hE.after hV) (hO.below hV) ?_) num_c (fun V hV => live_any V (hE.after hV) (hO.below hV)) ?_ ?_
  · rw [bytes_eq hl]; exact hca
  · rw [bytes_eq hl]; exact hfp
  · rcases Nat.lt_or_ge 64 nn with h | h
    · exact .inr ⟨h, h1.2 h⟩
    · have := h1.1 h; simp only [Prod.mk.injEq] at this; exact .inl ⟨h, this.1⟩
  · rcases Nat.lt_or_ge 63 nn with h | h
    · exact .inr ⟨h, h2.2 h⟩
    · have := h2.1 h; simp only [Prod.mk.injEq] at this; exact .inl ⟨h, this.1⟩
theorem parseDeep_2 (nn : Nat) (w : World) (hn : nn ≤ 80) (hE : HasErr w) (hO : Opers w) : Calls Tryz.prog 8 #[.int .i64 (nn : Int), .int .i64 2] w fun r w' => r = .returned (.bool true) ∧ Below w.heap.size w w' := by
  obtain ⟨c, a, hca⟩ : ∃ c a, (wholeOf (Pz.expr (reader (deepE [45] [] nn)))).2 = (c, a) := ⟨_, _, rfl⟩
  obtain ⟨f, p, hfp⟩ : ∃ f p, (wholeOfP (Pz.program (reader (deepP nn)))).2 = (f, p) := ⟨_, _, rfl⟩
  have h1 := deep2 nn
  have h2 := deepP_ok nn
  rw [hca] at h1
  rw [hfp] at h2
  refine deepWalk_2 nn w hn c a f p (fun s V hV hs hl => expr_code s c a V (by omega) (hE.after hV) (hO.below hV) ?_) (fun s V hV hs hl => prog_code s f p V (by omega) (hE.after hV) (hO.below hV) ?_) num_c (fun V hV => live_any V (hE.after hV) (hO.below hV)) ?_ ?_
  · rw [bytes_eq hl]; exact hca
  · rw [bytes_eq hl]; exact hfp
  · rcases Nat.lt_or_ge 64 nn with h | h
    · exact .inr ⟨h, h1.2 h⟩
    · have := h1.1 h; simp only [Prod.mk.injEq] at this; exact .inl ⟨h, this.1⟩
  · rcases Nat.lt_or_ge 63 nn with h | h
    · exact .inr ⟨h, h2.2 h⟩
    · have := h2.1 h; simp only [Prod.mk.injEq] at this; exact .inl ⟨h, this.1⟩
theorem parseDeep_3 (nn : Nat) (w : World) (hn : nn ≤ 80) (hE : HasErr w) (hO : Opers w) : Calls Tryz.prog 8 #[.int .i64 (nn : Int), .int .i64 3] w fun r w' => r = .returned (.bool true) ∧ Below w.heap.size w w' := by
  obtain ⟨c, a, hca⟩ : ∃ c a, (wholeOf (Pz.expr (reader (deepE [50, 32, 42, 32] [] nn)))).2 = (c, a) := ⟨_, _, rfl⟩
  obtain ⟨f, p, hfp⟩ : ∃ f p, (wholeOfP (Pz.program (reader (deepP nn)))).2 = (f, p) := ⟨_, _, rfl⟩
  have h1 := deep3 nn
  have h2 := deepP_ok nn
  rw [hca] at h1
  rw [hfp] at h2
  refine deepWalk_3 nn w hn c a f p (fun s V hV hs hl => expr_code s c a V (by omega) (hE.after hV) (hO.below hV) ?_) (fun s V hV hs hl => prog_code s f p V (by omega) (hE.after hV) (hO.below hV) ?_) num_c (fun V hV => live_any V (hE.after hV) (hO.below hV)) ?_ ?_
  · rw [bytes_eq hl]; exact hca
  · rw [bytes_eq hl]; exact hfp
  · rcases Nat.lt_or_ge 64 nn with h | h
    · exact .inr ⟨h, h1.2 h⟩
    · have := h1.1 h; simp only [Prod.mk.injEq] at this; exact .inl ⟨h, this.1⟩
  · rcases Nat.lt_or_ge 63 nn with h | h
    · exact .inr ⟨h, h2.2 h⟩
    · have := h2.1 h; simp only [Prod.mk.injEq] at this; exact .inl ⟨h, this.1⟩
set_option maxRecDepth 100000 in
set_option maxHeartbeats 2000000 in
theorem parseDeep_walk (n kind : Int) (w : World) (hE : HasErr w) (hO : Opers w) : Calls Tryz.prog 8 #[.int .i64 n, .int .i64 kind] w fun r w' => r = .returned (.bool true) ∧ Below w.heap.size w w' := by
  by_cases hin : (0 ≤ n ∧ n ≤ 80) ∧ 0 ≤ kind ∧ kind ≤ 3
  · obtain ⟨⟨h1, h2⟩, h3, h4⟩ := hin
    obtain ⟨nn, rfl⟩ : ∃ nn : Nat, n = (nn : Int) := ⟨n.toNat, by omega⟩
    have hn : nn ≤ 80 := by omega
    have hk : kind = 0 ∨ kind = 1 ∨ kind = 2 ∨ kind = 3 := by omega
    rcases hk with rfl | rfl | rfl | rfl
    · exact parseDeep_0 nn w hn hE hO
    · exact parseDeep_1 nn w hn hE hO
    · exact parseDeep_2 nn w hn hE hO
    · exact parseDeep_3 nn w hn hE hO
  · have hl := live_any w hE hO
    by_cases c1 : n < 0
    · go_enter Tryz.func8, Tryz.ntmps8
      go_wp2_with (go_at_call 9; (with_reducible refine hl.mono ?_); rintro r w1 ⟨rfl, bb⟩)
      go_ret
      exact ⟨rfl, bb⟩
    · have d1 : decide (n < 0) = false := by simp; omega
      by_cases c2 : 80 < n
      · go_enter Tryz.func8, Tryz.ntmps8
        go_wp2_with (go_at_call 9; (with_reducible refine hl.mono ?_); rintro r w1 ⟨rfl, bb⟩)
        go_ret
        exact ⟨rfl, bb⟩
      · have d2 : decide (80 < n) = false := by simp; omega
        by_cases c3 : kind < 0
        · go_enter Tryz.func8, Tryz.ntmps8
          go_wp2_with (go_at_call 9; (with_reducible refine hl.mono ?_); rintro r w1 ⟨rfl, bb⟩)
          go_ret
          exact ⟨rfl, bb⟩
        · have d3 : decide (kind < 0) = false := by simp; omega
          have c4 : 3 < kind := by omega
          go_enter Tryz.func8, Tryz.ntmps8
          go_wp2_with (go_at_call 9; (with_reducible refine hl.mono ?_); rintro r w1 ⟨rfl, bb⟩)
          go_ret
          exact ⟨rfl, bb⟩
end Go.Proofs.YtaekbgljbgmchaaGreatDoor
namespace Go.Proofs.YtaekbgljbgmchaaGreatDoor
open Go.ChangeShapes Go.WideShapes Go.ChangeAt Go.RowKit Go.Deep Go.Joins
theorem own : ownKnob Tryz.prog.godebug = none := by kernel_rfl
theorem laidOut : laidOutB Tryz.prog = true := by kernel_rfl
theorem gER : Tryz.prog.globalNamed "strconv.ErrRange" = some 5 := by kernel_rfl
theorem gERType : (Tryz.prog.globals[5]?).map (·.type) = some 117 := by kernel_rfl
theorem starE : "*" ++ "errors.errorString" = "*errors.errorString" := by decide
theorem rowErr (u : TypeId) (h : Tryz.prog.typeName? 3 u = some "*errors.errorString") : u = 244 :=
  typeName_ptr_named (nm := "errors.errorString") (by rw [starE]; kernel_rfl) (by kernel_rfl) (by decide) u (by rw [starE]; exact h)
theorem cellsE : Tryz.prog.cellsOf 246 = 1 := by kernel_rfl
theorem cellsS : Tryz.prog.cellsOf 9 = 1 := by kernel_rfl
theorem lt_of_cell {w : World} {b o : Nat} {v : Value} (h : w.cell? ⟨b, o, none⟩ = some v) : b < w.heap.size := by
  rcases Nat.lt_or_ge b w.heap.size with h1 | h1
  · exact h1
  · exfalso
    have h2 : w.heap[b]? = none := by rw [Array.getElem?_eq_none_iff]; exact h1
    simp [World.cell?, h2] at h
theorem hasErr_of {W : World} (h : laidMet Tryz.prog Rows.parseDeepRow.laid W) : HasErr W := by
  obtain ⟨a, s, hv, -, -, -⟩ := laid_sentinel h.tail.tail.tail gER gERType Tryz.underlying117 rowErr Tryz.underlying244 Tryz.underlying246 rfl rfl Tryz.underlying9 cellsE cellsS
  have h0 := World.var?_cell gER hv 0
  have h1 : W.cell? ⟨5, 0, none⟩ = some (.iface 244 (.pointer (some a))) := by simpa using h0
  exact ⟨_, _, h1, lt_of_cell h1⟩
/-- The table of operators, row for row. -/
def opRows : List (List UInt8 × Int × Int × Int × Int) := [([124, 124], 17, 1, 1, 2), ([38, 38], 16, 2, 2, 3), ([61, 61], 10, 4, 5, 5), ([33, 61], 11, 4, 5, 5), ([60], 12, 4, 5, 5), ([60, 61], 13, 4, 5, 5), ([62], 14, 4, 5, 5), ([62, 61], 15, 4, 5, 5), ([43], 8, 5, 5, 6), ([45], 9, 5, 5, 6)]
theorem ops_at (k : Nat) (hk : k < 10) (l : List (DataW Unit)) (h : (Rows.laid_vigil_parse_operators : DataW Unit) = .agg l) : ∃ x0 x1 x2 x3 x4, opRows[k]? = some (x0, x1, x2, x3, x4) ∧ l[k]? = some (.agg [.lit (.string x0), .lit (.int .i64 x1), .lit (.int .i64 x2), .lit (.int .i64 x3), .lit (.int .i64 x4)]) := by
  have h' := h
  unfold Rows.laid_vigil_parse_operators at h'
  injection h' with h'
  subst h'
  have hc : k = 0 ∨ k = 1 ∨ k = 2 ∨ k = 3 ∨ k = 4 ∨ k = 5 ∨ k = 6 ∨ k = 7 ∨ k = 8 ∨ k = 9 := by omega
  rcases hc with rfl | rfl | rfl | rfl | rfl | rfl | rfl | rfl | rfl | rfl <;> exact ⟨_, _, _, _, _, rfl, rfl⟩
set_option maxRecDepth 100000 in
theorem ops_cells {W : World} {cs : Array Value} {fuel : Nat} {p : List MemPlace} (hv : W.var? Tryz.prog "vigil/parse.operators" = some cs) (hd : DataW.trod (fun _ => ()) Tryz.prog W 0 (fun _ => true) false fuel 193 cs.toList = some (Rows.laid_vigil_parse_operators, p)) (k : Nat) (hk : k < 10) :
    ∃ x0 x1 x2 x3 x4, opRows[k]? = some (x0, x1, x2, x3, x4) ∧ W.cell? ⟨2, k * 5, none⟩ = some (.string ⟨x0.toArray⟩) ∧ W.cell? ⟨2, k * 5 + 1, none⟩ = some (.int .i64 x1) ∧ W.cell? ⟨2, k * 5 + 2, none⟩ = some (.int .i64 x2) ∧ W.cell? ⟨2, k * 5 + 3, none⟩ = some (.int .i64 x3) ∧ W.cell? ⟨2, k * 5 + 4, none⟩ = some (.int .i64 x4) := by
  obtain ⟨xs, m, rfl, hx, hlen, hxl, hE⟩ := DataW.trod_array Tryz.underlying193 hd
  have hx1 : (Rows.laid_vigil_parse_operators : DataW Unit) = .agg (xs.map (·.1)) := congrArg Prod.fst hx
  obtain ⟨x0, x1, x2, x3, x4, hrow, hat⟩ := ops_at k hk _ hx1
  refine ⟨x0, x1, x2, x3, x4, hrow, ?_⟩
  have hE := hE k hk
  rw [show Tryz.prog.cellsOf 162 = 5 from by kernel_rfl] at hE
  obtain ⟨y, hy⟩ : ∃ y, xs[k]? = some y := ⟨xs[k], List.getElem?_eq_getElem (by omega)⟩
  rw [hy] at hE
  have hy1 : y.1 = .agg [.lit (.string x0), .lit (.int .i64 x1), .lit (.int .i64 x2), .lit (.int .i64 x3), .lit (.int .i64 x4)] := by
    rw [List.getElem?_map, hy] at hat
    simpa using hat
  obtain ⟨zs, m2, _, rfl, hl2, hzl, hf⟩ := DataW.trod_struct Tryz.underlying162 hE
  rw [show Tryz.prog.cellsOf 162 = 5 from by kernel_rfl] at hl2
  have hzl : zs.length = 5 := hzl
  have hz1 : zs.map (·.1) = [.lit (.string x0), .lit (.int .i64 x1), .lit (.int .i64 x2), .lit (.int .i64 x3), .lit (.int .i64 x4)] := by simpa using hy1
  have gc : ∀ i, i < 5 → W.cell? ⟨2, k * 5 + i, none⟩ = ((cs.toList.drop (k * 5)).take 5)[i]? := by
    intro i hi
    rw [World.var?_cell (g := 2) (by kernel_rfl) hv, List.getElem?_take, if_pos hi, List.getElem?_drop, Array.getElem?_toList]
  generalize (cs.toList.drop (k * 5)).take 5 = seg at hl2 hf gc
  obtain ⟨s0, s1, s2, s3, s4, rfl⟩ : ∃ s0 s1 s2 s3 s4, seg = [s0, s1, s2, s3, s4] := by
    match seg, hl2 with
    | [s0, s1, s2, s3, s4], _ => exact ⟨s0, s1, s2, s3, s4, rfl⟩
  obtain ⟨z0, z1, z2, z3, z4, rfl⟩ : ∃ z0 z1 z2 z3 z4, zs = [z0, z1, z2, z3, z4] := by
    match zs, hzl with
    | [z0, z1, z2, z3, z4], _ => exact ⟨z0, z1, z2, z3, z4, rfl⟩
  simp only [List.map_cons, List.map_nil, List.cons.injEq, and_true] at hz1
  obtain ⟨e0, e1, e2, e3, e4⟩ := hz1
  have g0 : DataW.trod (fun _ => ()) Tryz.prog W 0 (fun _ => true) false m2 9 [s0] = some z0 := by
    have q : DataW.trod (fun _ => ()) Tryz.prog W 0 (fun _ => true) false m2 9 (([s0, s1, s2, s3, s4].drop 0).take (Tryz.prog.cellsOf 9)) = some z0 := hf 0 _ rfl
    rw [show Tryz.prog.cellsOf 9 = 1 from by kernel_rfl] at q
    exact q
  have g1 : DataW.trod (fun _ => ()) Tryz.prog W 0 (fun _ => true) false m2 3 [s1] = some z1 := by
    have q : DataW.trod (fun _ => ()) Tryz.prog W 0 (fun _ => true) false m2 3 (([s0, s1, s2, s3, s4].drop 1).take (Tryz.prog.cellsOf 3)) = some z1 := hf 1 _ rfl
    rw [show Tryz.prog.cellsOf 3 = 1 from by kernel_rfl] at q
    exact q
  have g2 : DataW.trod (fun _ => ()) Tryz.prog W 0 (fun _ => true) false m2 3 [s2] = some z2 := by
    have q : DataW.trod (fun _ => ()) Tryz.prog W 0 (fun _ => true) false m2 3 (([s0, s1, s2, s3, s4].drop 2).take (Tryz.prog.cellsOf 3)) = some z2 := hf 2 _ rfl
    rw [show Tryz.prog.cellsOf 3 = 1 from by kernel_rfl] at q
    exact q
  have g3 : DataW.trod (fun _ => ()) Tryz.prog W 0 (fun _ => true) false m2 3 [s3] = some z3 := by
    have q : DataW.trod (fun _ => ()) Tryz.prog W 0 (fun _ => true) false m2 3 (([s0, s1, s2, s3, s4].drop 3).take (Tryz.prog.cellsOf 3)) = some z3 := hf 3 _ rfl
    rw [show Tryz.prog.cellsOf 3 = 1 from by kernel_rfl] at q
    exact q
  have g4 : DataW.trod (fun _ => ()) Tryz.prog W 0 (fun _ => true) false m2 3 [s4] = some z4 := by
    have q : DataW.trod (fun _ => ()) Tryz.prog W 0 (fun _ => true) false m2 3 (([s0, s1, s2, s3, s4].drop 4).take (Tryz.prog.cellsOf 3)) = some z4 := hf 4 _ rfl
    rw [show Tryz.prog.cellsOf 3 = 1 from by kernel_rfl] at q
    exact q
  obtain ⟨b0, q0, r0, _⟩ := DataW.trod_string Tryz.underlying9 g0
  rw [r0] at e0
  simp at q0 e0
  subst q0
  have e0' : b0 = ⟨x0.toArray⟩ := ByteArray.ext (by rw [← e0])
  subst e0'
  obtain ⟨b1, q1, r1, _⟩ := DataW.trod_int Tryz.underlying3 g1
  rw [r1] at e1
  simp at q1 e1
  subst q1 e1
  obtain ⟨b2, q2, r2, _⟩ := DataW.trod_int Tryz.underlying3 g2
  rw [r2] at e2
  simp at q2 e2
  subst q2 e2
  obtain ⟨b3, q3, r3, _⟩ := DataW.trod_int Tryz.underlying3 g3
  rw [r3] at e3
  simp at q3 e3
  subst q3 e3
  obtain ⟨b4, q4, r4, _⟩ := DataW.trod_int Tryz.underlying3 g4
  rw [r4] at e4
  simp at q4 e4
  subst q4 e4
  exact ⟨gc 0 (by omega), gc 1 (by omega), gc 2 (by omega), gc 3 (by omega), gc 4 (by omega)⟩
theorem opers_of {W : World} (h : laidMet Tryz.prog Rows.parseDeepRow.laid W) : Opers W := by
  have h5 : laidMet Tryz.prog (Rows.parseDeepRow.laid.drop 5) W := h.tail.tail.tail.tail.tail
  obtain ⟨ps, ⟨g, t, cs, fuel, p, q, hg, ht, hv, hd, _, _⟩, _⟩ := h5
  obtain rfl : g = 2 := Option.some.inj (hg.symm.trans (show Tryz.prog.globalNamed "vigil/parse.operators" = some 2 by kernel_rfl))
  obtain rfl : t = 193 := Option.some.inj (ht.symm.trans (show (Tryz.prog.globals[2]?).map (·.type) = some 193 by kernel_rfl))
  have H := ops_cells hv hd
  refine ⟨fun i hi => ?_, ?_⟩
  · obtain ⟨k, j, hk, hj, rfl⟩ : ∃ k j, k < 10 ∧ j < 5 ∧ i = k * 5 + j := ⟨i / 5, i % 5, by omega, by omega, by omega⟩
    obtain ⟨x0, x1, x2, x3, x4, hr, h0, h1, h2, h3, h4⟩ := H k hk
    have hc : k = 0 ∨ k = 1 ∨ k = 2 ∨ k = 3 ∨ k = 4 ∨ k = 5 ∨ k = 6 ∨ k = 7 ∨ k = 8 ∨ k = 9 := by omega
    have hcj : j = 0 ∨ j = 1 ∨ j = 2 ∨ j = 3 ∨ j = 4 := by omega
    rcases hc with rfl | rfl | rfl | rfl | rfl | rfl | rfl | rfl | rfl | rfl <;> (cases hr; rcases hcj with rfl | rfl | rfl | rfl | rfl <;> first | exact h0 | exact h1 | exact h2 | exact h3 | exact h4)
  · obtain ⟨x0, x1, x2, x3, x4, hr, h0, -⟩ := H 0 (by omega)
    exact lt_of_cell h0
def setCells (c : Array Value) : Obj → Obj
  | .cells _ t frozen => .cells c t frozen
  | o => o
/-- So many blocks has the settled world. -/
noncomputable def low : Nat := (World.holding Tryz.prog default ⟨#[], #[], []⟩).heap.size
/-- The settled world with two blocks more, each an errors.errorString; the six variables as their initialisers lay them. -/
noncomputable def laidWorld (os : Os) : World :=
  let w0 := World.holding Tryz.prog os ⟨#[.cells #[.string ⟨#[105, 110, 118, 97, 108, 105, 100, 32, 115, 121, 110, 116, 97, 120]⟩] 246, .cells #[.string ⟨#[118, 97, 108, 117, 101, 32, 111, 117, 116, 32, 111, 102, 32, 114, 97, 110, 103, 101]⟩] 246], #[], []⟩
  { w0 with heap := ((((((w0.heap.modify 4 (setCells #[.iface 244 (.pointer (some ⟨low, 0, none⟩))])).modify 5 (setCells #[.iface 244 (.pointer (some ⟨low + 1, 0, none⟩))])).modify 3 (setCells #[.int .u64 1, .int .u64 10, .int .u64 100, .int .u64 1000, .int .u64 10000, .int .u64 100000, .int .u64 1000000, .int .u64 10000000, .int .u64 100000000, .int .u64 1000000000, .int .u64 10000000000, .int .u64 100000000000, .int .u64 1000000000000, .int .u64 10000000000000, .int .u64 100000000000000, .int .u64 1000000000000000, .int .u64 10000000000000000, .int .u64 100000000000000000, .int .u64 1000000000000000000, .int .u64 10000000000000000000])).modify 6 (setCells #[.int .u8 0, .int .u8 1, .int .u8 28, .int .u8 2, .int .u8 29, .int .u8 14, .int .u8 24, .int .u8 3, .int .u8 30, .int .u8 22, .int .u8 20, .int .u8 15, .int .u8 25, .int .u8 17, .int .u8 4, .int .u8 8, .int .u8 31, .int .u8 27, .int .u8 13, .int .u8 23, .int .u8 21, .int .u8 19, .int .u8 16, .int .u8 7, .int .u8 26, .int .u8 12, .int .u8 18, .int .u8 6, .int .u8 11, .int .u8 5, .int .u8 10, .int .u8 9])).modify 7 (setCells #[.int .u8 0, .int .u8 1, .int .u8 56, .int .u8 2, .int .u8 57, .int .u8 49, .int .u8 28, .int .u8 3, .int .u8 61, .int .u8 58, .int .u8 42, .int .u8 50, .int .u8 38, .int .u8 29, .int .u8 17, .int .u8 4, .int .u8 62, .int .u8 47, .int .u8 59, .int .u8 36, .int .u8 45, .int .u8 43, .int .u8 51, .int .u8 22, .int .u8 53, .int .u8 39, .int .u8 33, .int .u8 30, .int .u8 24, .int .u8 18, .int .u8 12, .int .u8 5, .int .u8 63, .int .u8 55, .int .u8 48, .int .u8 27, .int .u8 60, .int .u8 41, .int .u8 37, .int .u8 16, .int .u8 46, .int .u8 35, .int .u8 44, .int .u8 21, .int .u8 52, .int .u8 32, .int .u8 23, .int .u8 11, .int .u8 54, .int .u8 26, .int .u8 40, .int .u8 15, .int .u8 34, .int .u8 20, .int .u8 31, .int .u8 10, .int .u8 25, .int .u8 14, .int .u8 19, .int .u8 9, .int .u8 13, .int .u8 8, .int .u8 7, .int .u8 6])).modify 2 (setCells #[.string ⟨#[124, 124]⟩, .int .i64 17, .int .i64 1, .int .i64 1, .int .i64 2, .string ⟨#[38, 38]⟩, .int .i64 16, .int .i64 2, .int .i64 2, .int .i64 3, .string ⟨#[61, 61]⟩, .int .i64 10, .int .i64 4, .int .i64 5, .int .i64 5, .string ⟨#[33, 61]⟩, .int .i64 11, .int .i64 4, .int .i64 5, .int .i64 5, .string ⟨#[60]⟩, .int .i64 12, .int .i64 4, .int .i64 5, .int .i64 5, .string ⟨#[60, 61]⟩, .int .i64 13, .int .i64 4, .int .i64 5, .int .i64 5, .string ⟨#[62]⟩, .int .i64 14, .int .i64 4, .int .i64 5, .int .i64 5, .string ⟨#[62, 61]⟩, .int .i64 15, .int .i64 4, .int .i64 5, .int .i64 5, .string ⟨#[43]⟩, .int .i64 8, .int .i64 5, .int .i64 5, .int .i64 6, .string ⟨#[45]⟩, .int .i64 9, .int .i64 5, .int .i64 5, .int .i64 6])) }
theorem laid_met (os : Os) (args : Array Value) : laidMet Tryz.prog Rows.parseDeepRow.laid ((laidWorld os).forCall (fun _ _ => 0) ⟨#[], args, []⟩).memory :=
  laidMet_of_run' 8 (by kernel_rfl) (by kernel_rfl)
theorem weights_each {H : Type} {P : Program} {t : TypeId} {ts : List TypeId} {d : DataW H} {ds : List (DataW H)} (h : (DataW.weightsEach P (t :: ts) (d :: ds)).all (· ≤ reachBytes) = true) : (∀ k ∈ d.weights P t, k ≤ reachBytes) ∧ (DataW.weightsEach P ts ds).all (· ≤ reachBytes) = true := by
  rw [DataW.weightsEach, List.all_append, Bool.and_eq_true] at h
  exact ⟨fun k hk => by simpa using List.all_eq_true.1 h.1 k hk, h.2⟩
end Go.Proofs.YtaekbgljbgmchaaGreatDoor
namespace Go.Proofs.YtaekbgljbgmchaaGreatDoor
open Go.ChangeShapes Go.WideShapes Go.ChangeAt Go.RowKit Go.Deep Go.Joins
open Go.ChangeMaps (open_string shut_string)
set_option maxRecDepth 100000 in
theorem parseDeep_contract (H : Type) (enc : TypeId × Value → H) (W : World) (base : Nat) (args : Array Value) (ds gs : List (DataW H)) (before : List MemPlace)
    (hval : ∀ (j : Nat) t v, Tryz.f8.params[j]? = some t → args[j]? = some v → Value.okWide Tryz.prog W .any base t v)
    (hW : DataW.Whole enc Tryz.prog Tryz.f8.params.toList Rows.parseDeepSpec.vars false W args.toList ds gs before)
    (_ : (DataW.weightsEach Tryz.prog (Tryz.f8.params.toList ++ Rows.parseDeepSpec.plain.varTypes Tryz.prog) (ds ++ gs)).all (· ≤ reachBytes) = true)
    (hL : laidMetH Tryz.prog Rows.parseDeepRow.laid W) :
    Calls Tryz.prog 8 args W fun e W' => ∃ v, e = .returned v ∧ Rows.parseDeepSpec.post enc Tryz.prog Tryz.f8 false true false false W args v W' := by
  have hE := hasErr_of (show laidMet Tryz.prog Rows.parseDeepRow.laid W from hL)
  have hO := opers_of (show laidMet Tryz.prog Rows.parseDeepRow.laid W from hL)
  have hW' := hW
  obtain ⟨p, q, hA0, hV, rfl, hfz, hnd⟩ := hW
  have hA : DataW.TrodAll enc Tryz.prog W 0 (fun _ => true) true Tryz.f8.params.toList args.toList ds p := hA0
  rw [Tryz.params8] at hA hval
  obtain ⟨v0, v1, d0, d1, p0, p1, rfl, rfl, rfl, h0, h1⟩ := trodAll_two hA
  obtain ⟨rfl, rfl⟩ := trodVars_none hV
  clear hA0
  obtain ⟨x0, rfl, rfl, rfl, hx0⟩ := open_int Tryz.underlying3 (hval 0 3 v0 rfl rfl) h0
  obtain ⟨x1, rfl, rfl, rfl, hx1⟩ := open_int Tryz.underlying3 (hval 1 3 v1 rfl rfl) h1
  simp only [List.append_nil] at hW'
  refine (parseDeep_walk x0 x1 W  hE hO).mono fun e W' ⟨he, hnx⟩ => ?_
  subst he
  refine ⟨_, rfl, _, _, _, [], [], [], hW', ?_, ?_, rfl, hnx.frame _, fun h => by cases h⟩
  · exact trodAll_mk1 (shut_bool Tryz.underlying4 true)
  · exact trodAll_mk2 (shut_int Tryz.underlying3 hx0) (shut_int Tryz.underlying3 hx1)
theorem parseDeep_reads (os : Os) {H : Type} (enc : TypeId × Value → H) : ∃ places, DataW.whole enc Tryz.prog ((laidWorld os).forCall (fun _ _ => 0) ⟨#[], #[Value.int .i64 0, Value.int .i64 0], []⟩).memory Tryz.f8.params.toList Rows.parseDeepSpec.vars false #[Value.int .i64 0, Value.int .i64 0].toList 8 = some ([.lit (.int .i64 0), .lit (.int .i64 0)], [], places) :=
  ⟨[], by kernel_rfl⟩
set_option maxRecDepth 100000 in
theorem parseDeep_lifted (os : Os) (started : os.Started) (H : Type) (enc : TypeId × Value → H) (F : Stop.Interp) :
    ReturnsInHanded {} Tryz.checked os 8 .any ((OpenSpec.ofChange Rows.parseDeepSpec).preRow enc Tryz.prog Tryz.f8 Rows.parseDeepRow.domain false Rows.parseDeepRow.laid) (((OpenSpec.ofChange Rows.parseDeepSpec).at F).post enc Tryz.prog Tryz.f8 false true false false) := by
  obtain ⟨places, hx⟩ := parseDeep_reads os enc
  refine returnsInHanded_of_row (C := Tryz.checked) (s := OpenSpec.ofChange Rows.parseDeepSpec) own started (by kernel_rfl) Tryz.func8
    (witness_row_at (enc := enc) (C := Tryz.checked) false (laidWorld os) #[Value.int .i64 0, Value.int .i64 0] rfl (by kernel_rfl) (by kernel_rfl) (by kernel_rfl)
      (OpenSpec.preRow_of_cond 8 hx (by kernel_rfl) (fun k hk => by cases hk) (by kernel_rfl) (laid_met os _))) ?_
  intro W base args ds gs before hval hW _ _ hsz hL _ _
  exact parseDeep_contract H enc W base args ds gs before hval hW hsz hL
theorem parseDeep_said : Rows.ParseDeepSaid :=
  OpenClaim.holds_of_cond 8 Tryz.f8 rfl rfl rfl rfl rfl rfl rfl ⟨rfl, rfl, rfl, rfl, rfl⟩ rfl rfl rfl rfl rfl (by kernel_rfl) Tryz.func8 (by kernel_rfl)
    (of_decide_eq_true (by kernel_rfl)) (by unfold Func.isWrapper; first | (rw [if_pos (by decide +kernel)]; kernel_rfl) | (rw [if_neg (by decide +kernel)]; exact ⟨rfl, rfl⟩))
    (fun os started H enc _ F => by rw [OpenClaim.pre_eq_preRow]; exact parseDeep_lifted os started H enc F)
theorem parseDeep_plain (f : FuncId) (fn : Func) (hf : Tryz.pinned.checked.prog.funcNamed "vigil/vigillaw04.ParseDeep" = some f) (hfn : Tryz.pinned.checked.prog.funcs[f]? = some fn) :
    true = Tryz.pinned.checked.prog.looks [] ∧ ∀ (j : Nat) t, fn.params[j]? = some t → Tryz.pinned.checked.prog.wantsStandIn t = false := by
  obtain rfl : f = 8 := Option.some.inj ((show Tryz.prog.funcNamed "vigil/vigillaw04.ParseDeep" = some 8 by kernel_rfl).symm.trans hf) |>.symm
  obtain rfl : fn = Tryz.f8 := (Option.some.inj (Tryz.func8.symm.trans hfn)).symm
  refine ⟨by kernel_rfl, fun j t ht => ?_⟩
  rw [Tryz.params8] at ht
  obtain rfl : t = 3 := by simpa using Array.mem_of_getElem? ht
  exact (show Tryz.prog.wantsStandIn 3 = false by kernel_rfl)
theorem parseDeep_card : Rows.ParseDeepCardSaid :=
  Claim7.holds_tied_plain_at .later [] _ _ _ _ parseDeep_said (fun _ h => by cases h) (by kernel_rfl) (fun _ h => by cases h) parseDeep_row_tie rfl ⟨rfl, rfl⟩ (by kernel_rfl) rfl parseDeep_plain (by kernel_rfl)
end Go.Proofs.YtaekbgljbgmchaaGreatDoor
