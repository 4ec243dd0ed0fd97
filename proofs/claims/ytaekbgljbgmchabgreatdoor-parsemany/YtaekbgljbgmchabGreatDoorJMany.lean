/-
  For every number and every kind the statement ParseMany hands back true: as many monitors, variables, methods, threads, branches as may be, and more.
  Condition: the six listed variables (ErrSyntax and ErrRange of strconv; uint64pow10 of internal/strconv; deBruijn32tab and deBruijn64tab of math/bits; operators of package parse) hold at the start what the program's own text lays there (the card ties them to the pruned copy of the project; nothing is said of its other packages).
-/
import Derived.Test.YtaekbgljbgmchabGreatDoorPzPw
import Derived.Test.YtaekbgljbgmchabGreatDoorPzMt
import Derived.Test.YtaekbgljbgmchabGreatDoorPzMr
import Derived.Test.YtaekbgljbgmchabGreatDoorPzSt
import Derived.Test.YtaekbgljbgmchabGreatDoorPzA
import Derived.Test.YtaekbgljbgmchabGreatDoorLxH
import Derived.Test.YtaekbgljbgmchabGreatDoorPzC
import Derived.Test.YtaekbgljbgmchabGreatDoorCards
import Derived.Test.YtaekbgljbgmchabGreatDoorTie
import Derived.Test.YtaekbgljbgmchabGreatDoorPzE
import Derived.ProofKit
import Derived.OpenShut
import Derived.LaidLaws
import Derived.Deep.DeepHandedRow
import Derived.Stop.LaidErr
import Derived.SizedLaws
namespace Go.Proofs.YtaekbgljbgmchabGreatDoor
open Go.RowKit
open Lx (Out)
open Pz
theorem le_monitor (f : Nat) (s : S) : Le s (Pz.monitor f s).2 := (le_take s 1).trans (le_enclosed _ _ _ _ (le_members f _))
theorem le_role (f : Nat) (s : S) : Le s (Pz.role f s).2 := by
  unfold Pz.role
  dsimp only
  split
  · exact ((le_take s 1).trans (le_pass _)).trans (le_blockF f _)
  · exact ((le_take s 1).trans (le_take _ 2)).trans (le_blockF f _)
theorem Bd.of_le {s s' : S} (h : Bd s) (hl : Le s s') : Bd s' := ⟨by rw [hl.1]; exact h.1, by have := h.2; have := hl.2; rw [hl.1]; omega⟩
theorem method_c (f b g cap : Nat) (toks : List Out) (s : S) (w : World) (h : At b g cap toks s w) (hO : Opers w) (hb2 : b ≠ 0) (hB : Bd s) (hF : 3 * s.rest.length + 3 ≤ f) : Calls Tryz.prog 45 #[.pointer (some ⟨b, 0, none⟩)] w (MeBk b g cap toks (Pz.method f s) w) :=
  method_any (blockF f (s.take 1).2) b g cap toks s w h (fun W hW kW => block_any f b g cap toks (s.take 1).2 W hW (hO.kp kW hb2) hb2 (hB.of_le (le_take s 1)) (by have := (le_take s 1).2; omega))
theorem role_c (f b g cap : Nat) (toks : List Out) (s : S) (w : World) (h : At b g cap toks s w) (hO : Opers w) (hb2 : b ≠ 0) (hB : Bd s) (hF : 3 * s.rest.length + 3 ≤ f) : Calls Tryz.prog 20 #[.pointer (some ⟨b, 0, none⟩)] w (RoBk b g cap toks (Pz.role f s) w) :=
  role_any (blockF f (s.take 1).2.pass) (blockF f ((s.take 1).2.take 2).2) b g cap toks s w h
    (fun _ W hW kW => block_any f b g cap toks (s.take 1).2.pass W hW (hO.kp kW hb2) hb2 (hB.of_le ((le_take s 1).trans (le_pass _))) (by have := ((le_take s 1).trans (le_pass _)).2; omega))
    (fun _ W hW kW => block_any f b g cap toks ((s.take 1).2.take 2).2 W hW (hO.kp kW hb2) hb2 (hB.of_le ((le_take s 1).trans (le_take _ 2))) (by have := ((le_take s 1).trans (le_take (s.take 1).2 2)).2; omega))
theorem monitor_c (f b g cap : Nat) (toks : List Out) (s : S) (w : World) (h : At b g cap toks s w) (hn : Nn toks) (hO : Opers w) (hb2 : b ≠ 0) (hB : Bd s) (hF : 3 * s.rest.length + 3 ≤ f) : Calls Tryz.prog 18 #[.pointer (some ⟨b, 0, none⟩)] w (MoBk b g cap toks (Pz.monitor f s) w) := by
  have hT := hB.of_le (le_take s 1)
  have hTl := (le_take s 1).2
  have hen := enter_len (s.take 1).2 s_lbr
  refine monitor_any (enclosed s_lbr (members f) s_rbr (s.take 1).2) b g cap toks s w h (fun W hW kW => ?_)
  refine enclosed_members (.func (.func 28) #[.pointer (some ⟨b, 0, none⟩)] #[]) (within s_lbr (members f) (s.take 1).2) s_lbr s_rbr b g cap toks (s.take 1).2 W hW (fun V hV kV => ?_)
  refine within_members (members f) s_lbr b g cap toks (s.take 1).2 V hV ⟨hT.1, by have := hT.2; omega⟩ (by rw [(le_members f _).1, enter_opn]) (fun U hU kU => ?_)
  refine members_any f b g cap toks ((s.take 1).2.enter s_lbr) U hU hn (fun s' X hl hlt hX kX => ?_)
  exact method_c f b g cap toks s' X hX ((((hO.kp kW hb2).kp kV hb2).kp kU hb2).kp kX hb2) hb2 ⟨by rw [hl.1, enter_opn]; have := hT.1; omega, by rw [hl.1, enter_opn]; have := hT.2; omega⟩ (by omega)
set_option maxRecDepth 100000 in
set_option maxHeartbeats 2000000 in
theorem parse_any (s : ByteArray) (w : World) (hs : s.size ≤ 20000) (hE : HasErr w) (hO : Opers w) :
    Calls Tryz.prog 5 #[.string s] w fun r w' => PrOut (wholeOfP (Pz.program (reader s))) w r w' ∧ Below w.heap.size w w' := by
  have bR := newB w #[.slice none 0 0, .slice none 0 0] 28
  have h1 := newReader_any s (w.alloc (.cells #[.slice none 0 0, .slice none 0 0] 28)) hs (hE.alloc _)
  have hO1 := hO.al (.cells #[.slice none 0 0, .slice none 0 0] 28)
  have h35 : ∀ b g cap toks W, At b g cap toks (reader s) W → Nn toks → b ≠ 0 → Opers W → (reader s).rest.length ≤ 20001 → Calls Tryz.prog 9 #[.pointer (some ⟨b, 0, none⟩), .func (.func 10) #[.pointer (some ⟨b, 0, none⟩)] #[]] W fun r w' => PrOut (wholeOfP (Pz.program (reader s))) W r w' ∧ Kp b W w' := fun b g cap toks W hA hn hb hOW hl => by
    have h0 : (reader s).opn = 0 := by unfold reader; split <;> rfl
    have hB : Bd (reader s) := ⟨by rw [h0]; decide, by rw [h0]; omega⟩
    refine whole_prog (Pz.program (reader s)) b g cap toks (reader s) W hA (fun V hV kV => ?_)
    refine program_any (fuel (reader s)) b g cap toks (reader s) V hV (le_monitor _) (le_role _) (fun s' X hl hlt hX kX => ?_) (fun s' X hl hlt hX kX => ?_)
    · exact monitor_c _ b g cap toks s' X hX hn ((hOW.kp kV hb).kp kX hb) hb (hB.of_le hl) (by unfold fuel; omega)
    · exact role_c _ b g cap toks s' X hX ((hOW.kp kV hb).kp kX hb) hb (hB.of_le hl) (by unfold fuel; omega)
  obtain ⟨X, hX⟩ : ∃ X, wholeOfP (Pz.program (reader s)) = X := ⟨_, rfl⟩
  simp only [hX] at h35
  rw [hX]
  clear hX
  go_enter Tryz.func5, Tryz.ntmps5
  go_wp2_with (first
      | (go_at_call 8; (with_reducible refine h1.mono ?_); rintro r w1 ⟨b, g, gcap, toks, rfl, A, hnn, hb, hg, hlen, hre, b1⟩; have bR := bel_box bR b1; have hO2 := hO1.below b1; have hl2 := hO.2; simp only [World.size_alloc] at hb; have hb2 : b ≠ 0 := (by omega); have hne : w.heap.size ≠ b := (by omega); have B1 := (bel_al w (.cells #[.slice none 0 0, .slice none 0 0] 28)).trans (b1.mono (by simp)); have hz1 := ltB bR)
      | (go_at_call 9; (with_reducible refine (h35 b g gcap toks _ A hnn hb2 hO2 hlen).mono ?_); rintro r w3 ⟨⟨mad, mcp, lm, rad, rcp, lr, rfl, hclr, hBy⟩, k⟩; have bR := k.box bR hne; obtain ⟨x0, x1, xf, xl⟩ := two bR))
  refine bodyPost_ret (v := .tuple #[.agg #[.slice mad lm.length mcp, .slice rad lr.length rcp], .int .i64 X.2.1, .int .i64 X.2.2]) ?_ rfl ⟨⟨mad, mcp, lm, rad, rcp, lr, rfl, hclr, ?_⟩, ?_⟩
  · simp [results, Tryz.results5, go_sem, x0, x1]
  · refine (Pr.By.kq hBy ?_).mono (Nat.le_of_lt hz1)
    repeat (first | with_reducible refine Kq.set ?_ (.inl (from_not hz1)) _ | with_reducible refine Kq.al ?_ _)
    with_reducible exact Kq.refl _ _
  · repeat (refine Below.setCell ?_ (by simp) _)
    exact B1.trans ⟨k.os, k.tape, k.output, k.size, fun i hi => k.block i (by omega) (by omega)⟩
end Go.Proofs.YtaekbgljbgmchabGreatDoor
namespace Go.Proofs.YtaekbgljbgmchabGreatDoor
open Go.RowKit
open Lx (Out)
open Pz
namespace Pz
def opOf : Ex → Int | .mk op _ _ _ _ _ _ _ => op
def nOf : Ex → Int | .mk _ _ _ n _ _ _ _ => n
def kidsOf : Ex → List Ex | .mk _ _ _ _ _ _ kids _ => kids
def bodyLen (r : Ro) : Nat := r.body.body.length
end Pz
theorem live1 : (wholeOf (Pz.expr (reader ⟨#[97, 46, 120, 32, 43, 32, 50, 32, 42, 32, 97, 46, 121]⟩))).2 = (0, 0) ∧ opOf (wholeOf (Pz.expr (reader ⟨#[97, 46, 120, 32, 43, 32, 50, 32, 42, 32, 97, 46, 121]⟩))).1 = 8 ∧ (kidsOf (wholeOf (Pz.expr (reader ⟨#[97, 46, 120, 32, 43, 32, 50, 32, 42, 32, 97, 46, 121]⟩))).1).map opOf = [4, 7] ∧ (kidsOf (wholeOf (Pz.expr (reader ⟨#[97, 46, 120, 32, 43, 32, 50, 32, 42, 32, 97, 46, 121]⟩))).1).map nOf = [0, 2] := ⟨by kernel_rfl, by kernel_rfl, by kernel_rfl, by kernel_rfl⟩
theorem live2 : (wholeOfP (Pz.program (reader ⟨#[116, 104, 114, 101, 97, 100, 32, 116, 32, 49, 32, 123, 32, 115, 107, 105, 112, 32, 125]⟩))).2 = (40, 18) := by kernel_rfl
theorem live3 : (wholeOfP (Pz.program (reader ⟨#[116, 104, 114, 101, 97, 100, 32, 116, 32, 42, 32, 123, 32, 115, 107, 105, 112, 59, 32, 125]⟩))).2 = (0, 0) ∧ (wholeOfP (Pz.program (reader ⟨#[116, 104, 114, 101, 97, 100, 32, 116, 32, 42, 32, 123, 32, 115, 107, 105, 112, 59, 32, 125]⟩))).1.roles.map (fun r => (r.star, bodyLen r)) = [(true, 1)] := ⟨by kernel_rfl, by kernel_rfl⟩
theorem kid_row {n₀ : Nat} {W : World} {ad : Option Addr} {cap : Nat} {l : List Ex} (h : SlAt 6 Ex.cells n₀ W ad cap l) (h1 : l.map opOf = [4, 7]) (h2 : l.map nOf = [0, 2]) : ∃ g off, ad = some ⟨g, off, none⟩ ∧ l.length = 2 ∧ g < n₀ ∧ W.cell? ⟨g, off + 6, none⟩ = some (.int .i64 7) ∧ W.cell? ⟨g, off + 9, none⟩ = some (.int .i64 2) := by
  rcases l with _ | ⟨x, _ | ⟨⟨op, mon, name, n, kad, kcap, kids, pos⟩, _ | ⟨y, l⟩⟩⟩
  · simp at h1
  · simp at h1
  · obtain ⟨-, -, h | ⟨g, off, rfl, hg, hr⟩⟩ := h
    · cases h
    · simp [opOf, nOf] at h1 h2
      obtain ⟨-, rfl⟩ := h1
      obtain ⟨-, rfl⟩ := h2
      refine ⟨g, off, rfl, rfl, hg, ?_, ?_⟩
      · have := hr 1 (by simp) 0 (by omega); simpa [Ex.cells] using this
      · have := hr 1 (by simp) 3 (by omega); simpa [Ex.cells] using this
  · simp at h1
theorem role_row {n₀ : Nat} {W : World} {ad : Option Addr} {cap : Nat} {l : List Ro} (h : SlAt 5 Ro.cells n₀ W ad cap l) (h1 : (l.map Ro.clr).map (fun r => (r.star, bodyLen r)) = [(true, 1)]) : ∃ g off bad bcp, ad = some ⟨g, off, none⟩ ∧ l.length = 1 ∧ g < n₀ ∧ W.cell? ⟨g, off + 1, none⟩ = some (.bool true) ∧ W.cell? ⟨g, off + 3, none⟩ = some (.slice bad 1 bcp) := by
  rcases l with _ | ⟨⟨nm, star, cnt, ⟨bad, bcp, body⟩, pos⟩, _ | ⟨y, l⟩⟩
  · simp at h1
  · obtain ⟨-, -, h | ⟨g, off, rfl, hg, hr⟩⟩ := h
    · cases h
    · simp [bodyLen, Ro.clr, Bl.clr, Bl.body, St.clrL_eq] at h1
      obtain ⟨rfl, hb⟩ := h1
      refine ⟨g, off, bad, bcp, rfl, rfl, hg, ?_, ?_⟩
      · have := hr 0 (by simp) 1 (by omega); simpa [Ro.cells] using this
      · have := hr 0 (by simp) 3 (by omega); simpa [Ro.cells, Bl.slice, Bl.body, hb] using this
  · simp at h1
theorem opOf_clr (e : Ex) : opOf e.clr = opOf e := by cases e; rw [Ex.clr]; rfl
theorem nOf_clr (e : Ex) : nOf e.clr = nOf e := by cases e; rw [Ex.clr]; rfl
theorem expr1 (w : World) (hE : HasErr w) (hO : Opers w) : Calls Tryz.prog 7 #[.string ⟨#[97, 46, 120, 32, 43, 32, 50, 32, 42, 32, 97, 46, 121]⟩] w fun r w' => (∃ mon name n g off cp pos, r = .returned (.tuple #[.agg #[.int .i64 8, .string mon, .string name, .int .i64 n, .slice (some ⟨g, off, none⟩) 2 cp, .int .i64 pos], .int .i64 0, .int .i64 0]) ∧ g < w'.heap.size ∧ w'.cell? ⟨g, off + 6, none⟩ = some (.int .i64 7) ∧ w'.cell? ⟨g, off + 9, none⟩ = some (.int .i64 2)) ∧ Below w.heap.size w w' := by
  refine (parseExpr_any ⟨#[97, 46, 120, 32, 43, 32, 50, 32, 42, 32, 97, 46, 121]⟩ w (by decide) hE hO).mono ?_
  rintro r w1 ⟨⟨op, mon, name, n, ad, cp, kids, pos, rfl, hclr, hBy⟩, b1⟩
  obtain ⟨l1, l2, l3, l4⟩ := live1
  rw [← hclr] at l2 l3 l4
  rw [l1]
  rw [opOf_clr] at l2
  rw [Ex.clr] at l3 l4
  simp only [kidsOf, Ex.clrL_eq, List.map_map] at l3 l4
  rw [show opOf ∘ Ex.clr = opOf from funext opOf_clr] at l3
  rw [show nOf ∘ Ex.clr = nOf from funext nOf_clr] at l4
  have hsl := (Ex.Is.down hBy.is).2.1
  obtain ⟨g, off, rfl, hl, hg, c1, c2⟩ := kid_row hsl l3 l4
  have l2 : op = 8 := l2
  subst l2
  rw [hl]
  exact ⟨⟨mon, name, n, g, off, cp, pos, rfl, hg, c1, c2⟩, b1⟩
theorem Pr.By.is {Q : Nat → Bool} {w : World} {e : Pr} (h : e.By Q w) : e.Is w.heap.size w := Pr.Is.carry (fun k o v hv => (only_cell Q w k o v hv).2.2) h
theorem prog2 (w : World) (hE : HasErr w) (hO : Opers w) : Calls Tryz.prog 5 #[.string ⟨#[116, 104, 114, 101, 97, 100, 32, 116, 32, 49, 32, 123, 32, 115, 107, 105, 112, 32, 125]⟩] w fun r w' => (∃ a1 a2 n1 n2 k1 k2, r = .returned (.tuple #[.agg #[.slice a1 n1 k1, .slice a2 n2 k2], .int .i64 40, .int .i64 18])) ∧ Below w.heap.size w w' := by
  refine (parse_any ⟨#[116, 104, 114, 101, 97, 100, 32, 116, 32, 49, 32, 123, 32, 115, 107, 105, 112, 32, 125]⟩ w (by decide) hE hO).mono ?_
  rintro r w1 ⟨⟨mad, mcp, lm, rad, rcp, lr, rfl, hclr, hBy⟩, b1⟩
  rw [live2]
  exact ⟨⟨_, _, _, _, _, _, rfl⟩, b1⟩
theorem prog3 (w : World) (hE : HasErr w) (hO : Opers w) : Calls Tryz.prog 5 #[.string ⟨#[116, 104, 114, 101, 97, 100, 32, 116, 32, 42, 32, 123, 32, 115, 107, 105, 112, 59, 32, 125]⟩] w fun r w' => (∃ a1 n1 k1 g off rcp bad bcp, r = .returned (.tuple #[.agg #[.slice a1 n1 k1, .slice (some ⟨g, off, none⟩) 1 rcp], .int .i64 0, .int .i64 0]) ∧ g < w'.heap.size ∧ w'.cell? ⟨g, off + 1, none⟩ = some (.bool true) ∧ w'.cell? ⟨g, off + 3, none⟩ = some (.slice bad 1 bcp)) ∧ Below w.heap.size w w' := by
  refine (parse_any ⟨#[116, 104, 114, 101, 97, 100, 32, 116, 32, 42, 32, 123, 32, 115, 107, 105, 112, 59, 32, 125]⟩ w (by decide) hE hO).mono ?_
  rintro r w1 ⟨⟨mad, mcp, lm, rad, rcp, lr, rfl, hclr, hBy⟩, b1⟩
  obtain ⟨l1, l2⟩ := live3
  rw [← hclr] at l2
  rw [l1]
  obtain ⟨g, off, bad, bcp, rfl, hl, hg, c1, c2⟩ := role_row hBy.is.2.1 l2
  dsimp only at hl
  rw [hl]
  exact ⟨⟨_, _, _, g, off, rcp, bad, bcp, rfl, hg, c1, c2⟩, b1⟩
set_option maxRecDepth 100000 in
set_option maxHeartbeats 2000000 in
theorem num_c (e : Int) (w : World) : Calls Tryz.prog 6 #[.int .i64 e] w fun r w' => r = .returned (.int .i64 e) ∧ w' = w := by
  go_enter Tryz.func6, Tryz.ntmps6
  go_wp2
  go_ret
  exact ⟨rfl, rfl⟩
set_option maxRecDepth 100000 in
set_option maxHeartbeats 2000000 in
theorem live_any (w : World) (hE : HasErr w) (hO : Opers w) : Calls Tryz.prog 4 #[] w fun r w' => r = .returned (.bool true) ∧ Below w.heap.size w w' := by
  go_enter Tryz.func4, Tryz.ntmps4
  go_wp2_with (first
      | (go_at_call 7; (with_reducible refine (expr1 _ hE hO).mono ?_); rintro r w1 ⟨⟨mon, name, n, g, off, cp, pos, rfl, hg, c1, c2⟩, b1⟩; have E1 := hE.after b1; have O1 := hO.below b1)
      | (go_at_call 5; (with_reducible refine (prog2 _ (E1.alloc _) (O1.al _)).mono ?_); rintro r w2 ⟨⟨p1, p2, m1, m2, k1, k2, rfl⟩, b2⟩; have E2 := (E1.alloc _).after b2; have O2 := (O1.al _).below b2; have B12 : Below w1.heap.size w1 w2 := Below.trans (bel_al w1 _) (b2.mono (by simp)); have bE := bel_box (newB w1 _ _) b2; have c1 := (Below.cell B12 (p := ⟨g, off + 6, none⟩) hg).trans c1; have c2 := (Below.cell B12 (p := ⟨g, off + 9, none⟩) hg).trans c2; have hg := Nat.lt_of_lt_of_le hg B12.size)
      | (go_at_call 5; (with_reducible refine (prog3 _ (E2.alloc _) (O2.al _)).mono ?_); rintro r w3 ⟨⟨p3, m3, k3, g3, off3, rcp, bad, bcp, rfl, hg3, d1, d2⟩, b3⟩; have B23 : Below w2.heap.size w2 w3 := Below.trans (bel_al w2 _) (b3.mono (by simp)); have bE := bel_box bE B23; have c1 := (Below.cell B23 (p := ⟨g, off + 6, none⟩) hg).trans c1; have c2 := (Below.cell B23 (p := ⟨g, off + 9, none⟩) hg).trans c2; have hg := Nat.lt_of_lt_of_le hg B23.size; have B34 := bel_al w3 (.cells #[.slice p3 m3 k3, .slice (some ⟨g3, off3, none⟩) 1 rcp] 28); have bP := newB w3 #[.slice p3 m3 k3, .slice (some ⟨g3, off3, none⟩) 1 rcp] 28; have bE := bel_box bE B34; have c1 := (Below.cell B34 (p := ⟨g, off + 6, none⟩) hg).trans c1; have c2 := (Below.cell B34 (p := ⟨g, off + 9, none⟩) hg).trans c2; have d1 := (Below.cell B34 (p := ⟨g3, off3 + 1, none⟩) hg3).trans d1; have d2 := (Below.cell B34 (p := ⟨g3, off3 + 3, none⟩) hg3).trans d2; obtain ⟨x0, x1, x2, x3, x4, x5, xf, xl⟩ := six bE; obtain ⟨y0, y1, yf, yl⟩ := two bP; have B := (b1.trans (B12.mono b1.size)).trans ((B23.mono (Nat.le_trans b1.size B12.size)).trans (B34.mono (Nat.le_trans b1.size (Nat.le_trans B12.size B23.size)))))
      | (go_at_call 6; (with_reducible refine (num_c _ _).mono ?_); rintro r w4 ⟨rfl, rfl⟩))
  go_ret
  exact ⟨rfl, B⟩
end Go.Proofs.YtaekbgljbgmchabGreatDoor
namespace Go.Proofs.YtaekbgljbgmchabGreatDoor
open Go.RowKit
open Lx (Out)
open Pz
namespace Pz
/-- A relation that the four small steps keep. -/
structure Cl (Q : S → S → Prop) : Prop where
  refl : ∀ s, Q s s
  trans : ∀ {a b c}, Q a b → Q b c → Q a c
  fail : ∀ s e a, Q s (s.fail e a)
  pass : ∀ s, Q s s.pass
  more : ∀ s, Q s s.more
  less : ∀ s, Q s s.less
namespace Cl
variable {Q : S → S → Prop} (C : Cl Q)
include C
theorem refuse (s : S) (e : Int) : Q s (s.refuse e) := C.fail _ _ _
theorem want (s : S) (x : ByteArray) : Q s (s.want x) := by
  unfold S.want; split
  · exact C.pass s
  · exact C.trans (C.refuse s 40) (C.pass _)
theorem take (s : S) (k : Int) : Q s (s.take k).2 := by
  unfold S.take; split
  · exact C.pass s
  · exact C.refuse s 40
theorem path (s : S) : Q s (path s).2 := C.trans (C.trans (C.take s 1) (C.want _ _)) (C.take _ 1)
theorem enter (s : S) (x : ByteArray) : Q s (s.enter x) := by
  unfold S.enter
  refine C.trans (C.trans ?_ (C.want _ _)) (C.more _)
  split
  · exact C.refuse s 41
  · exact C.refl s
theorem within {α : Type} (sign : ByteArray) (rd : S → α × S) (h : ∀ s, Q s (rd s).2) (s : S) : Q s (within sign rd s).2 := C.trans (C.trans (C.enter s sign) (h _)) (C.less _)
theorem enclosed {α : Type} (a c : ByteArray) (rd : S → α × S) (h : ∀ s, Q s (rd s).2) (s : S) : Q s (enclosed a rd c s).2 := C.trans (C.within a rd h s) (C.want _ _)
theorem full (s : S) (b : Bool) : Q s (s.full b) := by
  unfold S.full
  refine C.trans ?_ (C.pass _)
  cases b
  · exact C.refl s
  · exact C.refuse s 6
theorem oneMore {α : Type} (l : List α) (most : Nat) (rd : S → α × S) (h : ∀ s, Q s (rd s).2) (s : S) : Q s (oneMore l most rd s).2 := C.trans (C.full s _) (h _)
theorem several {α : Type} (word : ByteArray) (most : Nat) (rd : S → α × S) (h : ∀ s, Q s (rd s).2) : ∀ (f : Nat) (l : List α) (s : S), Q s (several word most rd f l s).2 := by
  intro f
  induction f with
  | zero => intro l s; exact C.refl _
  | succ f ih =>
    intro l s
    rw [Pz.several]
    split
    · exact C.trans (C.oneMore l most rd h s) (ih _ _)
    · exact C.refl _
theorem expr (f : Nat) : (∀ l s, Q s (exprAt f l s).2) ∧ (∀ l x own s, Q s (loop f l x own s).2) ∧ (∀ s, Q s (term f s).2) := by
  induction f with
  | zero => exact ⟨fun l s => by rw [exprAt]; exact C.refl _, fun l x own s => by rw [loop]; exact C.refl _, fun s => by rw [term]; exact C.refl _⟩
  | succ f ih =>
    obtain ⟨h1, h2, h3⟩ := ih
    refine ⟨fun l s => ?_, fun l x own s => ?_, fun s => ?_⟩
    · rw [exprAt]
      split
      · exact C.trans (C.within _ _ (h1 _) s) (h2 _ _ _ _)
      · exact C.trans (h3 s) (h2 _ _ _ _)
    · rw [loop]
      split
      · exact C.refl _
      · exact C.trans (C.trans (C.pass s) (h1 _ _)) (h2 _ _ _ _)
    · rw [term]
      split
      · split
        · exact C.trans (C.pass s) (C.within _ _ h3 _)
        · exact C.pass s
      · split
        · exact C.path s
        · split
          · exact C.within _ _ h3 s
          · split
            · exact C.enclosed _ _ _ (h1 _) s
            · split
              · exact C.pass s
              · exact C.want _ _
theorem stmt (rx : S → Ex × S) (rb : S → Bl × S) (hx : ∀ s, Q s (rx s).2) (hb : ∀ s, Q s (rb s).2) (k : Nat) (s : S) : Q s (stmt rx rb k s).2 := by
  unfold Pz.stmt
  split
  · exact C.trans (C.want _ _) (C.want _ _)
  · exact C.trans (C.trans (C.trans (C.path s) (C.want _ _)) (hx _)) (C.want _ _)
  · unfold stIf
    simp only
    split
    · exact C.trans (C.trans (C.trans (C.trans (C.want _ _) (hx _)) (hb _)) (C.pass _)) (hb _)
    · exact C.trans (C.trans (C.want _ _) (hx _)) (hb _)
  · exact C.trans (C.trans (C.want _ _) (hx _)) (hb _)
  · exact C.trans (C.want _ _) (hb _)
  · exact C.trans (C.oneMore [] 8 rb hb s) (C.several _ _ _ hb _ _ _)
  · exact C.trans (C.trans (C.want _ _) (C.take _ _)) (hb _)
  · exact C.trans (C.trans (C.want _ _) (C.path _)) (C.want _ _)
  · unfold stWait
    simp only
    split
    · refine C.trans (C.trans (C.trans (C.want s k_wait) (C.take _ 1)) (C.take _ 2)) (C.trans ?_ (C.want _ _))
      split
      · exact C.fail _ _ _
      · exact C.refl _
    · exact C.trans (C.trans (C.want _ _) (C.take _ _)) (C.want _ _)
  · exact C.trans (C.trans (C.want _ _) (C.take _ _)) (C.want _ _)
  · exact C.trans (C.trans (C.want _ _) (C.take _ _)) (C.want _ _)
theorem block (rd : S → Bl × S) (h : ∀ s, Q s (rd s).2) (s : S) : Q s (block rd s).2 := C.enclosed _ _ rd h s
theorem stmts (f : Nat) : ∀ (l : List St) (s : S), Q s (stmtsF f l s).2 := by
  induction f with
  | zero => intro l s; exact C.refl _
  | succ f ih =>
    intro l s
    rw [stmtsF]
    split
    · exact C.refl _
    · exact C.trans (C.stmt _ _ (fun s => (C.expr f).1 1 s) (fun s => C.block _ (fun s => ih [] s) s) _ s) (ih _ _)
theorem blockF (f : Nat) (s : S) : Q s (blockF f s).2 := C.block _ (fun s => C.stmts f [] s) s
theorem integer (s : S) : Q s (integer s).2 := by
  unfold Pz.integer; split
  · exact C.trans (C.pass s) (C.take _ _)
  · exact C.take _ _
theorem truth (s : S) : Q s (truth s).2 := by
  unfold Pz.truth; split
  · exact C.pass s
  · exact C.want _ _
theorem bounds (s : S) : Q s (bounds s).2 := by
  have h : Q s (Pz.integer ((Pz.integer s).2.want s_dots)).2 := C.trans (C.trans (C.integer s) (C.want _ _)) (C.integer _)
  unfold Pz.bounds
  simp only
  split
  · exact C.trans h (C.fail _ _ _)
  · exact h
theorem typed (s : S) : Q s (typed s).2 := by
  unfold Pz.typed; split
  · exact C.trans (C.trans (C.pass s) (C.want _ _)) (C.truth _)
  · split
    · exact C.trans (C.trans (C.pass s) (C.want _ _)) (C.integer _)
    · exact C.trans (C.trans (C.bounds s) (C.want _ _)) (C.integer _)
theorem vari (s : S) : Q s (vari s).2 := C.trans (C.trans (C.trans (C.take s 1) (C.want _ _)) (C.typed _)) (C.want _ _)
theorem method (f : Nat) (s : S) : Q s (method f s).2 := C.trans (C.take s 1) (C.blockF f _)
theorem members (f : Nat) (s : S) : Q s (members f s).2 := C.trans (C.several _ _ _ C.vari _ _ _) (C.several _ _ _ (C.method f) _ _ _)
theorem monitor (f : Nat) (s : S) : Q s (monitor f s).2 := C.trans (C.take s 1) (C.enclosed _ _ _ (C.members f) _)
theorem role (f : Nat) (s : S) : Q s (role f s).2 := by
  unfold Pz.role
  simp only
  split
  · exact C.trans (C.trans (C.take s 1) (C.pass _)) (C.blockF f _)
  · exact C.trans (C.trans (C.take s 1) (C.take _ _)) (C.blockF f _)
theorem progF (g : Nat) : ∀ (f : Nat) (m : List Mo) (r : List Ro) (s : S), Q s (progF g f m r s).2 := by
  intro f
  induction f with
  | zero => intro m r s; exact C.refl _
  | succ f ih =>
    intro m r s
    rw [Pz.progF]
    split
    · exact C.trans (C.oneMore m 8 _ (C.monitor g) s) (ih _ _ _)
    · split
      · exact C.trans (C.oneMore r 8 _ (C.role g) s) (ih _ _ _)
      · exact C.refl _
end Cl
/-- The first error stays. -/
def Ek (s s' : S) : Prop := s.err ≠ 0 → s'.err = s.err ∧ s'.pos = s.pos
theorem ek : Cl Ek where
  refl _ _ := ⟨rfl, rfl⟩
  trans h k h0 := by obtain ⟨a, b⟩ := h h0; obtain ⟨c, d⟩ := k (by rw [a]; exact h0); exact ⟨c.trans a, d.trans b⟩
  fail s e a h := by unfold S.fail; rw [if_neg h]; exact ⟨rfl, rfl⟩
  pass s h := by unfold S.pass; split <;> exact ⟨rfl, rfl⟩
  more _ _ := ⟨rfl, rfl⟩
  less _ _ := ⟨rfl, rfl⟩
theorem ek_atEnd (s : S) : Ek s (atEnd s) := by
  unfold atEnd; split
  · exact ek.refl s
  · exact ek.refuse s 40
end Pz
end Go.Proofs.YtaekbgljbgmchabGreatDoor
namespace Go.Proofs.YtaekbgljbgmchabGreatDoor
open Go.RowKit
open Lx (Out)
open Pz
namespace Pz
theorem is_of {o : Out} {y : ByteArray} (h : o.text = y) (x : ByteArray) : is o x = (y.data.toList == x.data.toList) := by unfold is; rw [h, ByteArray.toList_eq, ByteArray.toList_eq]
/-- A sign or a word. -/
def Tok (o : Out) (k : Int) (y : ByteArray) : Prop := o.kind = k ∧ o.text = y
theorem enter_deep (s : S) (x : ByteArray) (hs : s.sees x = true) (ho : s.opn = 64) (he : s.err = 0) : (s.enter x).err = 41 ∧ (s.enter x).pos = s.hd.pos := by
  have hr : (s.refuse 41).err = 41 ∧ (s.refuse 41).pos = s.hd.pos := by unfold S.refuse S.fail; rw [if_pos he]; exact ⟨rfl, rfl⟩
  have hw := ek.want (s.refuse 41) x (by rw [hr.1]; decide)
  unfold S.enter
  rw [hs, ho]
  exact ⟨hw.1.trans hr.1, hw.2.trans hr.2⟩
theorem enter_fine (o : Out) (l : List Out) (opn : Int) (x : ByteArray) (hx : is o x = true) (hk : o.kind ≠ 5) (ho : opn ≠ 64) : (S.mk (o :: l) opn 0 0).enter x = ⟨l, opn + 1, 0, 0⟩ := by
  have hb : (opn == 64) = false := by simpa using ho
  have hp : (S.mk (o :: l) opn 0 0).pass = ⟨l, opn, 0, 0⟩ := by unfold S.pass; rw [if_neg (by exact hk)]; rfl
  have hs : (S.mk (o :: l) opn 0 0).sees x = true := hx
  unfold S.enter S.want
  simp only [hb, Bool.and_false, Bool.false_eq_true, if_false]
  rw [hs, if_pos rfl, hp]
  rfl
theorem want_fine (o : Out) (l : List Out) (opn : Int) (x : ByteArray) (hx : is o x = true) (hk : o.kind ≠ 5) : (S.mk (o :: l) opn 0 0).want x = ⟨l, opn, 0, 0⟩ := by
  have hs : (S.mk (o :: l) opn 0 0).sees x = true := hx
  unfold S.want
  rw [hs, if_pos rfl]
  unfold S.pass
  rw [if_neg (by exact hk)]; rfl
theorem take_fine (o : Out) (l : List Out) (opn k : Int) (hk : o.kind = k) (h5 : o.kind ≠ 5) : (S.mk (o :: l) opn 0 0).take k = (o, ⟨l, opn, 0, 0⟩) := by
  unfold S.take
  rw [if_pos (by exact hk)]
  unfold S.pass
  rw [if_neg (by exact h5)]; rfl
theorem pass_fine (o : Out) (l : List Out) (opn : Int) (h5 : o.kind ≠ 5) : (S.mk (o :: l) opn 0 0).pass = ⟨l, opn, 0, 0⟩ := by
  unfold S.pass
  rw [if_neg (by exact h5)]; rfl
/-- No operator follows. -/
def Stops (r : List Out) : Prop := (operOf (r.headD noTok)).op = 0
theorem loop_stop (f : Nat) (l : Nat) (x : Ex) (own : Nat) (r : List Out) (opn e p : Int) (h : Stops r) : loop (f + 1) l x own ⟨r, opn, e, p⟩ = (x, ⟨r, opn, e, p⟩) := by
  rw [loop, if_pos (.inl h)]
theorem not_lt (l : Nat) (s : S) (h : s.sees s_bang = false) (f : Nat) : exprAt (f + 1) l s = loop f l (term f s).1 6 (term f s).2 := by
  rw [exprAt, h, Bool.and_false, if_neg (by simp)]
theorem term_path (f : Nat) (a d x : Out) (r : List Out) (opn : Int) (ha : a.kind = 1) (hd : Tok d 4 s_dot) (hx : x.kind = 1) : ∃ e, term (f + 1) ⟨a :: d :: x :: r, opn, 0, 0⟩ = (e, ⟨r, opn, 0, 0⟩) := by
  have hp : (path ⟨a :: d :: x :: r, opn, 0, 0⟩).2 = ⟨r, opn, 0, 0⟩ := by
    unfold path
    rw [take_fine a _ opn 1 ha (by rw [ha]; decide)]
    show ((S.mk (d :: x :: r) opn 0 0).want s_dot |>.take 1).2 = _
    rw [want_fine d _ opn s_dot (by rw [is_of hd.2]; decide) (by rw [hd.1]; decide), take_fine x _ opn 1 hx (by rw [hx]; decide)]
  rw [term, if_neg (by show ¬ a.kind = 2; rw [ha]; decide), if_pos (by exact ha), hp]
  exact ⟨_, rfl⟩
/-- a.x in so many parentheses, and what follows. -/
inductive Par : Nat → Int → List Out → List Out → Prop
  | base {d : Int} {a p x : Out} {r : List Out} (ha : a.kind = 1) (hp : Tok p 4 s_dot) (hx : x.kind = 1) : Par 0 d (a :: p :: x :: r) r
  | step {d : Int} {n : Nat} {o c : Out} {l r : List Out} (ho : Tok o 4 s_lpar) (hd : d ≤ o.pos) (hc : Tok c 4 s_rpar) (t : Par n (d + 1) l (c :: r)) : Par (n + 1) d (o :: l) r
/-- a.x behind so many signs. -/
inductive Bng (y : ByteArray) : Nat → Int → List Out → List Out → Prop
  | base {d : Int} {a p x : Out} {r : List Out} (ha : a.kind = 1) (hp : Tok p 4 s_dot) (hx : x.kind = 1) : Bng y 0 d (a :: p :: x :: r) r
  | step {d : Int} {n : Nat} {o : Out} {l r : List Out} (ho : Tok o 4 y) (hd : d ≤ o.pos) (t : Bng y n (d + 1) l r) : Bng y (n + 1) d (o :: l) r
/-- a.x behind so many numbers with their signs. -/
inductive Mul : Nat → Int → List Out → List Out → Prop
  | base {d : Int} {a p x : Out} {r : List Out} (ha : a.kind = 1) (hp : Tok p 4 s_dot) (hx : x.kind = 1) : Mul 0 d (a :: p :: x :: r) r
  | step {d : Int} {n : Nat} {k o : Out} {l r : List Out} (hk : k.kind = 2) (ho : Tok o 4 s_star) (hd : d ≤ o.pos) (t : Mul n (d + 1) l r) : Mul (n + 1) d (k :: o :: l) r
theorem stops_rpar {c : Out} {r : List Out} (hc : Tok c 4 s_rpar) : Stops (c :: r) := by
  unfold Stops operOf
  simp only [List.headD_cons, is_of hc.2]
  decide
theorem name_not {a : Out} {l : List Out} {opn : Int} {x : ByteArray} (h : is a x = false) : (S.mk (a :: l) opn 0 0).sees x = false := h
theorem expr_base (f lv : Nat) (a d x : Out) (r : List Out) (opn : Int) (ha : a.kind = 1) (hb : is a s_bang = false) (hd : Tok d 4 s_dot) (hx : x.kind = 1) (hr : Stops r) : ∃ e, exprAt (f + 2) lv ⟨a :: d :: x :: r, opn, 0, 0⟩ = (e, ⟨r, opn, 0, 0⟩) := by
  obtain ⟨e, he⟩ := term_path f a d x r opn ha hd hx
  refine ⟨e, ?_⟩
  rw [not_lt _ _ (name_not hb), he]
  exact loop_stop _ _ _ _ _ _ _ _ hr
theorem lp_term (f : Nat) (o : Out) (l : List Out) (opn : Int) (ho : Tok o 4 s_lpar) : exprAt (f + 2) 1 ⟨o :: l, opn, 0, 0⟩ = loop (f + 1) 1 (enclosed s_lpar (exprAt f 1) s_rpar ⟨o :: l, opn, 0, 0⟩).1 6 (enclosed s_lpar (exprAt f 1) s_rpar ⟨o :: l, opn, 0, 0⟩).2 := by
  rw [not_lt _ _ (name_not (by rw [is_of ho.2]; decide))]
  rw [term, if_neg (by show ¬ o.kind = 2; rw [ho.1]; decide), if_neg (by show ¬ o.kind = 1; rw [ho.1]; decide), name_not (by rw [is_of ho.2]; decide), if_neg (by simp), show (S.mk (o :: l) opn 0 0).sees s_lpar = true from by show is o s_lpar = true; rw [is_of ho.2]; decide, if_pos rfl]
theorem par_ok {n : Nat} {d : Int} {l r : List Out} (h : Par n d l r) : ∀ (f : Nat) (opn : Int), 2 * n + 2 ≤ f → opn + n ≤ 64 → Stops r → (∀ a ∈ l, a.kind = 1 → is a s_bang = false) → ∃ e, exprAt f 1 ⟨l, opn, 0, 0⟩ = (e, ⟨r, opn, 0, 0⟩) := by
  induction h with
  | base ha hp hx =>
    intro f opn hf _ hr hb
    obtain ⟨f, rfl⟩ : ∃ g, f = g + 2 := ⟨f - 2, by omega⟩
    exact expr_base f 1 _ _ _ _ opn ha (hb _ (by simp) ha) hp hx hr
  | step ho hd hc t ih =>
    intro f opn hf hn hr hb
    obtain ⟨f, rfl⟩ : ∃ g, f = g + 2 := ⟨f - 2, by omega⟩
    obtain ⟨e, he⟩ := ih f (opn + 1) (by omega) (by omega) (stops_rpar hc) (fun a ha => hb a (List.mem_cons_of_mem _ ha))
    refine ⟨e, ?_⟩
    rw [lp_term f _ _ _ ho]
    unfold enclosed within
    rw [enter_fine _ _ _ _ (by rw [is_of ho.2]; decide) (by rw [ho.1]; decide) (by omega), he]
    show loop (f + 1) 1 e 6 ((S.mk _ (opn + 1 - 1) 0 0).want s_rpar) = _
    rw [show opn + 1 - 1 = opn by omega, want_fine _ _ _ _ (by rw [is_of hc.2]; decide) (by rw [hc.1]; decide)]
    exact loop_stop _ _ _ _ _ _ _ _ hr
/-- Too deep: the error is told at a place that is no smaller. -/
def Bad (s : S) : Prop := s.err = 41 ∧ 64 ≤ s.pos
theorem Bad.keep {s s' : S} (h : Bad s) (k : Ek s s') : Bad s' := by
  obtain ⟨a, b⟩ := k (by rw [h.1]; decide)
  exact ⟨a.trans h.1, by rw [b]; exact h.2⟩
theorem par_deep {n : Nat} {d : Int} {l r : List Out} (h : Par n d l r) : ∀ (f : Nat) (opn : Int), 2 * n + 2 ≤ f → 64 < opn + n → opn ≤ 64 → opn ≤ d → Bad (exprAt f 1 ⟨l, opn, 0, 0⟩).2 := by
  induction h with
  | base ha hp hx => intro f opn hf h1 h2; omega
  | @step d n o c l r ho hd hc t ih =>
    intro f opn hf hn h64 hle
    obtain ⟨f, rfl⟩ : ∃ g, f = g + 2 := ⟨f - 2, by omega⟩
    rw [lp_term f _ _ _ ho]
    refine Bad.keep ?_ ((ek.expr (f + 1)).2.1 _ _ _ _)
    unfold enclosed
    refine Bad.keep ?_ (ek.want _ _)
    unfold within
    refine Bad.keep ?_ (ek.less _)
    by_cases h4 : opn = 64
    · refine Bad.keep ?_ ((ek.expr f).1 1 _)
      have := enter_deep (S.mk (o :: l) opn 0 0) s_lpar (show is o s_lpar = true from by rw [is_of ho.2]; decide) h4 rfl
      exact ⟨this.1, by rw [this.2]; show (64 : Int) ≤ o.pos; omega⟩
    · rw [enter_fine _ _ _ _ (by rw [is_of ho.2]; decide) (by rw [ho.1]; decide) h4]
      exact ih f (opn + 1) (by omega) (by omega) (by omega) (by omega)
theorem bang_expr (f lv : Nat) (hlv : lv ≤ 3) (o : Out) (l : List Out) (opn : Int) (ho : Tok o 4 s_bang) : exprAt (f + 1) lv ⟨o :: l, opn, 0, 0⟩ = loop f lv (prefixed 5 0 s_bang (exprAt f 3) o.pos ⟨o :: l, opn, 0, 0⟩).1 3 (prefixed 5 0 s_bang (exprAt f 3) o.pos ⟨o :: l, opn, 0, 0⟩).2 := by
  rw [exprAt, show (S.mk (o :: l) opn 0 0).sees s_bang = true from by show is o s_bang = true; rw [is_of ho.2]; decide, show decide (lv ≤ 3) = true from by simpa using hlv, Bool.and_self, if_pos rfl]
  rfl
theorem bang_ok {n : Nat} {d : Int} {l r : List Out} (h : Bng s_bang n d l r) : ∀ (f lv : Nat) (opn : Int), lv ≤ 3 → 2 * n + 2 ≤ f → opn + n ≤ 64 → Stops r → (∀ a ∈ l, a.kind = 1 → is a s_bang = false) → ∃ e, exprAt f lv ⟨l, opn, 0, 0⟩ = (e, ⟨r, opn, 0, 0⟩) := by
  induction h with
  | base ha hp hx =>
    intro f lv opn _ hf _ hr hb
    obtain ⟨f, rfl⟩ : ∃ g, f = g + 2 := ⟨f - 2, by omega⟩
    exact expr_base f lv _ _ _ _ opn ha (hb _ (by simp) ha) hp hx hr
  | step ho hd t ih =>
    intro f lv opn hlv hf hn hr hb
    obtain ⟨f, rfl⟩ : ∃ g, f = g + 2 := ⟨f - 2, by omega⟩
    obtain ⟨e, he⟩ := ih (f + 1) 3 (opn + 1) (by omega) (by omega) (by omega) hr (fun a ha => hb a (List.mem_cons_of_mem _ ha))
    rw [bang_expr (f + 1) lv hlv _ _ _ ho]
    unfold prefixed within
    rw [enter_fine _ _ _ _ (by rw [is_of ho.2]; decide) (by rw [ho.1]; decide) (by omega), he]
    show ∃ e', loop (f + 1) lv _ 3 (S.mk _ (opn + 1 - 1) 0 0) = _
    rw [show opn + 1 - 1 = opn by omega]
    exact ⟨_, loop_stop _ _ _ _ _ _ _ _ hr⟩
theorem bang_deep {n : Nat} {d : Int} {l r : List Out} (h : Bng s_bang n d l r) : ∀ (f lv : Nat) (opn : Int), lv ≤ 3 → 2 * n + 2 ≤ f → 64 < opn + n → opn ≤ 64 → opn ≤ d → Bad (exprAt f lv ⟨l, opn, 0, 0⟩).2 := by
  induction h with
  | base ha hp hx => intro f lv opn _ hf h1 h2; omega
  | @step d n o l r ho hd t ih =>
    intro f lv opn hlv hf hn h64 hle
    obtain ⟨f, rfl⟩ : ∃ g, f = g + 1 := ⟨f - 1, by omega⟩
    rw [bang_expr f lv hlv _ _ _ ho]
    refine Bad.keep ?_ ((ek.expr f).2.1 _ _ _ _)
    unfold prefixed within
    refine Bad.keep ?_ (ek.less _)
    by_cases h4 : opn = 64
    · refine Bad.keep ?_ ((ek.expr f).1 3 _)
      have := enter_deep (S.mk (o :: l) opn 0 0) s_bang (show is o s_bang = true from by rw [is_of ho.2]; decide) h4 rfl
      exact ⟨this.1, by rw [this.2]; show (64 : Int) ≤ o.pos; omega⟩
    · rw [enter_fine _ _ _ _ (by rw [is_of ho.2]; decide) (by rw [ho.1]; decide) h4]
      exact ih f 3 (opn + 1) (by omega) (by omega) (by omega) (by omega) (by omega)
theorem minus_term (f : Nat) (o : Out) (l : List Out) (opn : Int) (ho : Tok o 4 s_minus) : term (f + 1) ⟨o :: l, opn, 0, 0⟩ = prefixed 6 0 s_minus (term f) o.pos ⟨o :: l, opn, 0, 0⟩ := by
  rw [term, if_neg (by show ¬ o.kind = 2; rw [ho.1]; decide), if_neg (by show ¬ o.kind = 1; rw [ho.1]; decide), show (S.mk (o :: l) opn 0 0).sees s_minus = true from by show is o s_minus = true; rw [is_of ho.2]; decide, if_pos rfl]
  rfl
theorem minus_ok {n : Nat} {d : Int} {l r : List Out} (h : Bng s_minus n d l r) : ∀ (f : Nat) (opn : Int), n + 1 ≤ f → opn + n ≤ 64 → ∃ e, term f ⟨l, opn, 0, 0⟩ = (e, ⟨r, opn, 0, 0⟩) := by
  induction h with
  | base ha hp hx =>
    intro f opn hf _
    obtain ⟨f, rfl⟩ : ∃ g, f = g + 1 := ⟨f - 1, by omega⟩
    exact term_path f _ _ _ _ opn ha hp hx
  | step ho hd t ih =>
    intro f opn hf hn
    obtain ⟨f, rfl⟩ : ∃ g, f = g + 1 := ⟨f - 1, by omega⟩
    obtain ⟨e, he⟩ := ih f (opn + 1) (by omega) (by omega)
    rw [minus_term f _ _ _ ho]
    unfold prefixed within
    rw [enter_fine _ _ _ _ (by rw [is_of ho.2]; decide) (by rw [ho.1]; decide) (by omega), he]
    show ∃ e', (_, S.mk _ (opn + 1 - 1) 0 0) = _
    rw [show opn + 1 - 1 = opn by omega]
    exact ⟨_, rfl⟩
theorem minus_deep {n : Nat} {d : Int} {l r : List Out} (h : Bng s_minus n d l r) : ∀ (f : Nat) (opn : Int), n + 1 ≤ f → 64 < opn + n → opn ≤ 64 → opn ≤ d → Bad (term f ⟨l, opn, 0, 0⟩).2 := by
  induction h with
  | base ha hp hx => intro f opn hf h1 h2; omega
  | @step d n o l r ho hd t ih =>
    intro f opn hf hn h64 hle
    obtain ⟨f, rfl⟩ : ∃ g, f = g + 1 := ⟨f - 1, by omega⟩
    rw [minus_term f _ _ _ ho]
    unfold prefixed within
    refine Bad.keep ?_ (ek.less _)
    by_cases h4 : opn = 64
    · refine Bad.keep ?_ ((ek.expr f).2.2 _)
      have := enter_deep (S.mk (o :: l) opn 0 0) s_minus (show is o s_minus = true from by rw [is_of ho.2]; decide) h4 rfl
      exact ⟨this.1, by rw [this.2]; show (64 : Int) ≤ o.pos; omega⟩
    · rw [enter_fine _ _ _ _ (by rw [is_of ho.2]; decide) (by rw [ho.1]; decide) h4]
      exact ih f (opn + 1) (by omega) (by omega) (by omega) (by omega)
theorem mul_term (f : Nat) (k o : Out) (l : List Out) (opn : Int) (hk : k.kind = 2) (ho : Tok o 4 s_star) : term (f + 1) ⟨k :: o :: l, opn, 0, 0⟩ = prefixed 7 k.n s_star (term f) k.pos ⟨o :: l, opn, 0, 0⟩ := by
  rw [term, if_pos (by exact hk), pass_fine _ _ _ (by rw [hk]; decide), show (S.mk (o :: l) opn 0 0).sees s_star = true from by show is o s_star = true; rw [is_of ho.2]; decide, if_pos rfl]
  rfl
theorem mul_ok {n : Nat} {d : Int} {l r : List Out} (h : Mul n d l r) : ∀ (f : Nat) (opn : Int), n + 1 ≤ f → opn + n ≤ 64 → ∃ e, term f ⟨l, opn, 0, 0⟩ = (e, ⟨r, opn, 0, 0⟩) := by
  induction h with
  | base ha hp hx =>
    intro f opn hf _
    obtain ⟨f, rfl⟩ : ∃ g, f = g + 1 := ⟨f - 1, by omega⟩
    exact term_path f _ _ _ _ opn ha hp hx
  | step hk ho hd t ih =>
    intro f opn hf hn
    obtain ⟨f, rfl⟩ : ∃ g, f = g + 1 := ⟨f - 1, by omega⟩
    obtain ⟨e, he⟩ := ih f (opn + 1) (by omega) (by omega)
    rw [mul_term f _ _ _ _ hk ho]
    unfold prefixed within
    rw [enter_fine _ _ _ _ (by rw [is_of ho.2]; decide) (by rw [ho.1]; decide) (by omega), he]
    show ∃ e', (_, S.mk _ (opn + 1 - 1) 0 0) = _
    rw [show opn + 1 - 1 = opn by omega]
    exact ⟨_, rfl⟩
theorem mul_deep {n : Nat} {d : Int} {l r : List Out} (h : Mul n d l r) : ∀ (f : Nat) (opn : Int), n + 1 ≤ f → 64 < opn + n → opn ≤ 64 → opn ≤ d → Bad (term f ⟨l, opn, 0, 0⟩).2 := by
  induction h with
  | base ha hp hx => intro f opn hf h1 h2; omega
  | @step d n k o l r hk ho hd t ih =>
    intro f opn hf hn h64 hle
    obtain ⟨f, rfl⟩ : ∃ g, f = g + 1 := ⟨f - 1, by omega⟩
    rw [mul_term f _ _ _ _ hk ho]
    unfold prefixed within
    refine Bad.keep ?_ (ek.less _)
    by_cases h4 : opn = 64
    · refine Bad.keep ?_ ((ek.expr f).2.2 _)
      have := enter_deep (S.mk (o :: l) opn 0 0) s_star (show is o s_star = true from by rw [is_of ho.2]; decide) h4 rfl
      exact ⟨this.1, by rw [this.2]; show (64 : Int) ≤ o.pos; omega⟩
    · rw [enter_fine _ _ _ _ (by rw [is_of ho.2]; decide) (by rw [ho.1]; decide) h4]
      exact ih f (opn + 1) (by omega) (by omega) (by omega) (by omega)
theorem expr_of_term {f lv : Nat} {s : S} (hb : s.sees s_bang = false) {r : List Out} {opn : Int} (hr : Stops r) (h : ∃ e, term (f + 1) s = (e, ⟨r, opn, 0, 0⟩)) : ∃ e, exprAt (f + 2) lv s = (e, ⟨r, opn, 0, 0⟩) := by
  obtain ⟨e, he⟩ := h
  refine ⟨e, ?_⟩
  rw [not_lt _ _ hb, he]
  exact loop_stop _ _ _ _ _ _ _ _ hr
theorem bad_of_term {f lv : Nat} {s : S} (hb : s.sees s_bang = false) (h : Bad (term f s).2) : Bad (exprAt (f + 1) lv s).2 := by
  rw [not_lt _ _ hb]
  exact h.keep ((ek.expr f).2.1 _ _ _ _)
/-- Empty blocks, one within the other, each of a loop. -/
inductive Nb : Nat → List Out → List Out → Prop
  | base {o c : Out} {r : List Out} (ho : Tok o 4 s_lbr) (hp : 0 < o.pos) (hc : Tok c 4 s_rbr) : Nb 0 (o :: c :: r) r
  | step {n : Nat} {o k c : Out} {l r : List Out} (ho : Tok o 4 s_lbr) (hp : 0 < o.pos) (hk : Tok k 3 k_loop) (hc : Tok c 4 s_rbr) (t : Nb n l (c :: r)) : Nb (n + 1) (o :: k :: l) r
theorem stmts_stop (f : Nat) (l : List St) (c : Out) (r : List Out) (opn : Int) (hc : Tok c 4 s_rbr) : stmtsF (f + 1) l ⟨c :: r, opn, 0, 0⟩ = (bl l, ⟨c :: r, opn, 0, 0⟩) := by
  have : kindOf c = 0 := by unfold kindOf; rw [if_neg (by rw [hc.1]; decide)]; simp only [is_of hc.2]; decide
  rw [stmtsF, if_pos (by exact this)]
theorem stmts_loop (f : Nat) (l : List St) (k : Out) (t : List Out) (opn : Int) (hk : Tok k 3 k_loop) : stmtsF (f + 1) l ⟨k :: t, opn, 0, 0⟩ = stmtsF f (l ++ [stAt (st 5 e0 e0 0 exZ [(block (stmtsF f []) ⟨t, opn, 0, 0⟩).1] 0) k.pos]) (block (stmtsF f []) ⟨t, opn, 0, 0⟩).2 := by
  have h5 : kindOf k = 5 := by unfold kindOf; rw [if_neg (by rw [hk.1]; decide)]; simp only [is_of hk.2]; decide
  rw [stmtsF]
  show (if kindOf k = 0 then _ else stmtsF f (l ++ [stAt (stmt _ _ (kindOf k) _).1 k.pos]) (stmt _ _ (kindOf k) _).2) = _
  rw [h5, if_neg (by decide)]
  unfold stmt stLoop
  simp only
  rw [want_fine _ _ _ _ (by rw [is_of hk.2]; decide) (by rw [hk.1]; decide)]
theorem nb_ok {n : Nat} {l r : List Out} (h : Nb n l r) : ∀ (f : Nat) (opn : Int), 2 * n + 1 ≤ f → opn + n + 1 ≤ 64 → ∃ e, block (stmtsF f []) ⟨l, opn, 0, 0⟩ = (e, ⟨r, opn, 0, 0⟩) := by
  induction h with
  | base ho hp hc =>
    intro f opn hf hn
    obtain ⟨f, rfl⟩ : ∃ g, f = g + 1 := ⟨f - 1, by omega⟩
    unfold block enclosed within
    rw [enter_fine _ _ _ _ (by rw [is_of ho.2]; decide) (by rw [ho.1]; decide) (by omega), stmts_stop f _ _ _ _ hc]
    show ∃ e, (_, (S.mk _ (opn + 1 - 1) 0 0).want s_rbr) = _
    rw [show opn + 1 - 1 = opn by omega, want_fine _ _ _ _ (by rw [is_of hc.2]; decide) (by rw [hc.1]; decide)]
    exact ⟨_, rfl⟩
  | step ho hp hk hc t ih =>
    intro f opn hf hn
    obtain ⟨f, rfl⟩ : ∃ g, f = g + 2 := ⟨f - 2, by omega⟩
    obtain ⟨e, he⟩ := ih (f + 1) (opn + 1) (by omega) (by omega)
    unfold block enclosed within
    rw [enter_fine _ _ _ _ (by rw [is_of ho.2]; decide) (by rw [ho.1]; decide) (by omega), stmts_loop _ _ _ _ _ hk, he, stmts_stop f _ _ _ _ hc]
    show ∃ e, (_, (S.mk _ (opn + 1 - 1) 0 0).want s_rbr) = _
    rw [show opn + 1 - 1 = opn by omega, want_fine _ _ _ _ (by rw [is_of hc.2]; decide) (by rw [hc.1]; decide)]
    exact ⟨_, rfl⟩
def Bad1 (s : S) : Prop := s.err = 41 ∧ 0 < s.pos
theorem Bad1.keep {s s' : S} (h : Bad1 s) (k : Ek s s') : Bad1 s' := by
  obtain ⟨a, b⟩ := k (by rw [h.1]; decide)
  exact ⟨a.trans h.1, by rw [b]; exact h.2⟩
theorem nb_deep {n : Nat} {l r : List Out} (h : Nb n l r) : ∀ (f : Nat) (opn : Int), 2 * n + 1 ≤ f → 64 < opn + n + 1 → opn ≤ 64 → Bad1 (block (stmtsF f []) ⟨l, opn, 0, 0⟩).2 := by
  induction h with
  | @base o c r ho hp hc =>
    intro f opn hf hn h64
    unfold block enclosed
    refine Bad1.keep ?_ (ek.want _ _)
    unfold within
    refine Bad1.keep ?_ (ek.less _)
    refine Bad1.keep ?_ (ek.stmts f _ _)
    have := enter_deep (S.mk (o :: c :: r) opn 0 0) s_lbr (show is o s_lbr = true from by rw [is_of ho.2]; decide) (by show opn = 64; omega) rfl
    exact ⟨this.1, by rw [this.2]; show (0 : Int) < o.pos; omega⟩
  | @step n o k c l r ho hp hk hc t ih =>
    intro f opn hf hn h64
    obtain ⟨f, rfl⟩ : ∃ g, f = g + 1 := ⟨f - 1, by omega⟩
    unfold block enclosed
    refine Bad1.keep ?_ (ek.want _ _)
    unfold within
    refine Bad1.keep ?_ (ek.less _)
    by_cases h4 : opn = 64
    · refine Bad1.keep ?_ (ek.stmts _ _ _)
      have := enter_deep (S.mk (o :: k :: l) opn 0 0) s_lbr (show is o s_lbr = true from by rw [is_of ho.2]; decide) h4 rfl
      exact ⟨this.1, by rw [this.2]; show (0 : Int) < o.pos; omega⟩
    · rw [enter_fine _ _ _ _ (by rw [is_of ho.2]; decide) (by rw [ho.1]; decide) h4, stmts_loop _ _ _ _ _ hk]
      exact (ih f (opn + 1) (by omega) (by omega) (by omega)).keep (ek.stmts f _ _)
/-- A thread with such blocks. -/
theorem thread_reads (g f : Nat) (t a b : Out) (l : List Out) (ht : Tok t 3 k_thread) (ha : a.kind = 1) (hb : Tok b 4 s_star) : (progF g (f + 1) [] [] ⟨t :: a :: b :: l, 0, 0, 0⟩).2 = (progF g f [] [⟨a.text, true, 0, (block (stmtsF g []) ⟨l, 0, 0, 0⟩).1, a.pos⟩] (block (stmtsF g []) ⟨l, 0, 0, 0⟩).2).2 := by
  rw [progF, show (S.mk (t :: a :: b :: l) 0 0 0).sees k_monitor = false from by show is t k_monitor = false; rw [is_of ht.2]; decide, if_neg (by simp), show (S.mk (t :: a :: b :: l) 0 0 0).sees k_thread = true from by show is t k_thread = true; rw [is_of ht.2]; decide, if_pos rfl]
  have hfull : (S.mk (t :: a :: b :: l) 0 0 0).full (decide (8 ≤ ([] : List Ro).length)) = ⟨a :: b :: l, 0, 0, 0⟩ := by
    show (S.mk (t :: a :: b :: l) 0 0 0).pass = _
    exact pass_fine _ _ _ (by rw [ht.1]; decide)
  have hrole : role g ⟨a :: b :: l, 0, 0, 0⟩ = (⟨a.text, true, 0, (block (stmtsF g []) ⟨l, 0, 0, 0⟩).1, a.pos⟩, (block (stmtsF g []) ⟨l, 0, 0, 0⟩).2) := by
    unfold role
    rw [take_fine a _ 0 1 ha (by rw [ha]; decide)]
    simp only
    rw [show (S.mk (b :: l) 0 0 0).sees s_star = true from by show is b s_star = true; rw [is_of hb.2]; decide, if_pos rfl, pass_fine _ _ _ (by rw [hb.1]; decide)]
    rfl
  unfold oneMore
  rw [hfull, hrole]
  rfl
theorem prog_end (g f : Nat) (m : List Mo) (r : List Ro) (z : Out) (hz : z.text = e0) : progF g f m r ⟨[z], 0, 0, 0⟩ = (pr m r, ⟨[z], 0, 0, 0⟩) := by
  cases f with
  | zero => rfl
  | succ f => rw [progF, show (S.mk [z] 0 0 0).sees k_monitor = false from by show is z k_monitor = false; rw [is_of hz]; decide, if_neg (by simp), show (S.mk [z] 0 0 0).sees k_thread = false from by show is z k_thread = false; rw [is_of hz]; decide, if_neg (by simp)]
end Pz
end Go.Proofs.YtaekbgljbgmchabGreatDoor
namespace Go.Proofs.YtaekbgljbgmchabGreatDoor
open Go.RowKit
namespace Lx
/-- A token without its place, and an error's number. -/
structure T where
  kind : Int
  text : List UInt8
  n : Int
  err : Int
def badT (e : Int) : T := ⟨0, [], 0, e⟩
def nameT (x : List UInt8) : T := if words.contains x then ⟨3, x, 0, 0⟩ else if 32 < x.length then badT 12 else ⟨1, x, 0, 0⟩
def numT (x : List UInt8) : T := if 1 < x.length ∧ x.head? = some 48 then badT 11 else if decVal x ≤ 9223372036854775807 then ⟨2, x, (decVal x : Nat), 0⟩ else badT 11
def second : List UInt8 → Int
  | _ :: d :: _ => (d.toNat : Int)
  | _ => 0
def signT (l : List UInt8) : T := match l with
  | [] => badT 10
  | c :: _ => if signLen (c.toNat : Int) (second l) = 0 then badT 10 else ⟨4, l.take (signLen (c.toNat : Int) (second l)), 0, 0⟩
/-- The token at the head of a list of bytes. -/
def tokL (l : List UInt8) : T := match l with
  | [] => badT 10
  | c :: _ => if letter c then nameT (l.takeWhile nameByte) else if digit c then numT (l.takeWhile digit) else signT l
def ofOut (o : Out) : T := ⟨o.kind, o.text.data.toList, o.n, o.err⟩
theorem tokL_out (s : ByteArray) (a : Nat) (ha : a < s.size) : tokL (s.data.toList.drop a) = ofOut (tokOut s a) := by
  have hdc := drop_cons s a ha
  cases hl : letter s[a]
  · cases hd : digit s[a]
    · rw [tokOut_sign s a ha hl hd]
      have hsec : second (s.data.toList.drop a) = byteAt s (a + 1) := by
        rw [hdc]
        by_cases h1 : a + 1 < s.size
        · rw [drop_cons s (a + 1) h1, byteAt_lt s (a + 1) h1]; rfl
        · rw [drop_over s (a + 1) (by omega), byteAt_over s (a + 1) h1]; rfl
      have hb := byteAt_lt s a ha
      have e : tokL (s.data.toList.drop a) = signT (s.data.toList.drop a) := by rw [hdc]; simp [tokL, hl, hd]
      rw [e]
      have e2 : signT (s.data.toList.drop a) = if signLen (byteAt s a) (byteAt s (a + 1)) = 0 then badT 10 else ⟨4, (s.data.toList.drop a).take (signLen (byteAt s a) (byteAt s (a + 1))), 0, 0⟩ := by
        rw [← hsec, hb]; rw [hdc]; rfl
      rw [e2]
      unfold signOut
      by_cases h0 : signLen (byteAt s a) (byteAt s (a + 1)) = 0
      · rw [if_pos h0, if_pos h0]; rfl
      · rw [if_neg h0, if_neg h0]
        simp only [ofOut, extract_list, Nat.add_sub_cancel_left]
    · rw [tokOut_digit s a ha hl hd]
      have e : tokL (s.data.toList.drop a) = numT ((s.data.toList.drop a).takeWhile digit) := by rw [hdc]; simp [tokL, hl, hd]
      rw [e, ← extract_span]
      have hh : (s.extract a (spanEnd digit s a)).data.toList.head? = some s[a] := by rw [extract_span, hdc]; simp [hd]
      have hsz : (s.extract a (spanEnd digit s a)).data.toList.length = (s.extract a (spanEnd digit s a)).size := by rw [Array.length_toList]; rfl
      have hb := byteAt_lt s a ha
      unfold numT numOut
      rw [hh, hsz, hb]
      have e48 : (some s[a] = some (48 : UInt8)) ↔ ((s[a].toNat : Int) = 48) := by
        constructor
        · intro h; rw [Option.some.inj h]; decide
        · intro h; rw [show s[a] = 48 from u8_eq _ 48 h]
      simp only [e48]
      split
      · rfl
      · split <;> rfl
  · rw [tokOut_letter s a ha hl]
    have e : tokL (s.data.toList.drop a) = nameT ((s.data.toList.drop a).takeWhile nameByte) := by rw [hdc]; simp [tokL, hl]
    rw [e, ← extract_span]
    have hsz : (s.extract a (spanEnd nameByte s a)).data.toList.length = (s.extract a (spanEnd nameByte s a)).size := by rw [Array.length_toList]; rfl
    unfold nameT nameOut word
    rw [hsz, ByteArray.toList_eq]
    split
    · rfl
    · split <;> rfl
/-- How a list of bytes is told. -/
inductive RL where
  | done (l : List T)
  | fail (e : Int) (k : Nat)
def consR (t : T) (m : Nat) : RL → RL
  | .done l => .done (t :: l)
  | .fail e k => .fail e (k + t.text.length + m)
inductive Scans : List UInt8 → RL → Prop
  | nil (l : List UInt8) (h : l.drop (skipC false l) = []) : Scans l (.done [])
  | bad (l : List UInt8) (c : UInt8) (r : List UInt8) (h : l.drop (skipC false l) = c :: r) (he : (tokL (c :: r)).err ≠ 0) : Scans l (.fail (tokL (c :: r)).err (skipC false l))
  | tok (l : List UInt8) (c : UInt8) (r : List UInt8) (R : RL) (h : l.drop (skipC false l) = c :: r) (he : (tokL (c :: r)).err = 0) (hR : Scans ((c :: r).drop (tokL (c :: r)).text.length) R) : Scans l (consR (tokL (c :: r)) (skipC false l) R)
theorem Scans.det {l : List UInt8} {R R' : RL} (h : Scans l R) (h' : Scans l R') : R = R' := by
  induction h generalizing R' with
  | nil l h =>
    cases h' with
    | nil => rfl
    | bad _ c r h2 => rw [h] at h2; cases h2
    | tok _ c r R h2 => rw [h] at h2; cases h2
  | bad l c r h he =>
    cases h' with
    | nil _ h2 => rw [h] at h2; cases h2
    | bad _ c' r' h2 => rw [h] at h2; cases h2; rfl
    | tok _ c' r' R h2 he2 => rw [h] at h2; cases h2; exact absurd he2 he
  | tok l c r R h he hR ih =>
    cases h' with
    | nil _ h2 => rw [h] at h2; cases h2
    | bad _ c' r' h2 he2 => rw [h] at h2; cases h2; exact absurd he he2
    | tok _ c' r' R2 h2 he2 hR2 => rw [h] at h2; cases h2; rw [ih hR2]
/-- What the scan from a place on tells, behind acc, is what is told of the bytes from there on. -/
def Fits (acc : List Out) (k : Nat) : ScanR → RL → Prop
  | .done l, .done ts => ∃ o, l = acc ++ o ∧ o.map ofOut = ts
  | .fail e j, .fail e' k' => e = e' ∧ j = k + k'
  | _, _ => False
theorem scan_fits (s : ByteArray) : ∀ (f k : Nat) (acc : List Out), k ≤ s.size → s.size ≤ skip s k + f → ∃ R, Scans (s.data.toList.drop k) R ∧ Fits acc k (scanF s f (skip s k) acc) R := by
  intro f
  have hdd : ∀ k, (s.data.toList.drop k).drop (skipC false (s.data.toList.drop k)) = s.data.toList.drop (skip s k) := by intro k; rw [List.drop_drop]; rfl
  induction f with
  | zero =>
    intro k acc hk hf
    refine ⟨.done [], .nil _ ?_, [], by simp, rfl⟩
    rw [hdd, drop_over s _ (by omega)]
  | succ f ih =>
    intro k acc hk hf
    by_cases hlt : skip s k < s.size
    · have hcons : (s.data.toList.drop k).drop (skipC false (s.data.toList.drop k)) = s[skip s k] :: s.data.toList.drop (skip s k + 1) := by rw [hdd, drop_cons s _ hlt]
      have htok : tokL (s[skip s k] :: s.data.toList.drop (skip s k + 1)) = ofOut (tokOut s (skip s k)) := by rw [← drop_cons s _ hlt]; exact tokL_out s _ hlt
      by_cases he : (tokOut s (skip s k)).err = 0
      · have hto := tok_ok s _ hlt he
        have hlen : (tokOut s (skip s k)).text.data.toList.length = (tokOut s (skip s k)).text.size := by rw [Array.length_toList]; rfl
        obtain ⟨R, hS, hF⟩ := ih (skip s k + (tokOut s (skip s k)).text.size) (acc ++ [tokOut s (skip s k)]) hto.2 (by have := le_skip s (skip s k + (tokOut s (skip s k)).text.size); omega)
        have hS2 : Scans ((s[skip s k] :: s.data.toList.drop (skip s k + 1)).drop (tokL (s[skip s k] :: s.data.toList.drop (skip s k + 1))).text.length) R := by
          rw [htok, ← drop_cons s _ hlt, List.drop_drop]
          show Scans (s.data.toList.drop (skip s k + (tokOut s (skip s k)).text.data.toList.length)) R
          rw [hlen]; exact hS
        refine ⟨_, .tok _ _ _ R hcons (by rw [htok]; exact he) hS2, ?_⟩
        rw [scanF, if_pos hlt, if_pos he]
        cases hR : R with
        | done ts =>
          rw [hR] at hF
          cases hsc : scanF s f (skip s (skip s k + (tokOut s (skip s k)).text.size)) (acc ++ [tokOut s (skip s k)]) with
          | done l =>
            rw [hsc] at hF
            obtain ⟨o, h1, h2⟩ := hF
            exact ⟨tokOut s (skip s k) :: o, by rw [h1]; simp, by rw [List.map_cons, h2, htok]⟩
          | fail e j => rw [hsc] at hF; exact hF.elim
        | fail e' k' =>
          rw [hR] at hF
          cases hsc : scanF s f (skip s (skip s k + (tokOut s (skip s k)).text.size)) (acc ++ [tokOut s (skip s k)]) with
          | done l => rw [hsc] at hF; exact hF.elim
          | fail e j =>
            rw [hsc] at hF
            obtain ⟨h1, h2⟩ := hF
            refine ⟨h1, ?_⟩
            rw [htok]
            show j = k + (k' + (tokOut s (skip s k)).text.data.toList.length + skipC false (s.data.toList.drop k))
            rw [hlen, h2]
            unfold skip; omega
      · refine ⟨_, .bad _ _ _ hcons (by rw [htok]; exact he), ?_⟩
        rw [scanF, if_pos hlt, if_neg he]
        exact ⟨by rw [htok]; rfl, rfl⟩
    · refine ⟨.done [], .nil _ (by rw [hdd, drop_over s _ (by omega)]), ?_⟩
      rw [scanF, if_neg hlt]
      exact ⟨[], by simp, rfl⟩
/-- A whole text's. -/
theorem scan_told (s : ByteArray) : ∃ R, Scans s.data.toList R ∧ Fits [] 0 (scan s) R := by
  have := scan_fits s s.size 0 [] (by omega) (by omega)
  simpa [scan] using this
theorem scan_of (s : ByteArray) (R : RL) (h : Scans s.data.toList R) : Fits [] 0 (scan s) R := by
  obtain ⟨R', h1, h2⟩ := scan_told s
  rw [h.det h1]; exact h2
end Lx
end Go.Proofs.YtaekbgljbgmchabGreatDoor
namespace Go.Proofs.YtaekbgljbgmchabGreatDoor
open Go.RowKit
namespace Lx
/-- A byte that ends every token ahead of it, as the end does. -/
def Brk (h : UInt8) : Prop := nameByte h = false ∧ digit h = false ∧ ∀ c : Int, signLen c (h.toNat : Int) = signLen c 0
theorem brk32 : Brk 32 := ⟨by decide, by decide, fun c => by simp only [show ((32 : UInt8).toNat : Int) = 32 from rfl]; unfold signLen; (repeat' split) <;> simp_all <;> omega⟩
theorem brk35 : Brk 35 := ⟨by decide, by decide, fun c => by simp only [show ((35 : UInt8).toNat : Int) = 35 from rfl]; unfold signLen; (repeat' split) <;> simp_all <;> omega⟩
theorem brk10 : Brk 10 := ⟨by decide, by decide, fun c => by simp only [show ((10 : UInt8).toNat : Int) = 10 from rfl]; unfold signLen; (repeat' split) <;> simp_all <;> omega⟩
theorem takeWhile_brk (p : UInt8 → Bool) (h : UInt8) (hp : p h = false) (l r : List UInt8) : (l ++ h :: r).takeWhile p = l.takeWhile p := by
  induction l with
  | nil => simp [hp]
  | cons c l ih => cases hc : p c <;> simp [hc, ih]
theorem signLen_two (c d : Int) : signLen c d ≤ 2 := by unfold signLen; (repeat' split) <;> omega
theorem signLen_end (c : UInt8) : signLen (c.toNat : Int) 0 ≤ 1 := by
  unfold signLen
  (repeat' split) <;> simp_all <;> omega
theorem signLen_one (c : UInt8) (d : Int) (h : signLen (c.toNat : Int) d = 1) : signLen (c.toNat : Int) 0 = 1 := by
  unfold signLen at h ⊢
  (repeat' split at h) <;> simp_all
theorem tok_stable (h : UInt8) (hb : Brk h) (c : UInt8) (l r : List UInt8) : tokL ((c :: l) ++ h :: r) = tokL (c :: l) := by
  have e : ∀ x, tokL (c :: x) = if letter c then nameT ((c :: x).takeWhile nameByte) else if digit c then numT ((c :: x).takeWhile digit) else signT (c :: x) := fun _ => rfl
  rw [List.cons_append, e, e, ← List.cons_append, takeWhile_brk nameByte h hb.1, takeWhile_brk digit h hb.2.1]
  split
  · rfl
  · split
    · rfl
    · cases l with
      | nil =>
        show (if signLen (c.toNat : Int) (h.toNat : Int) = 0 then badT 10 else ⟨4, ([c] ++ h :: r).take (signLen (c.toNat : Int) (h.toNat : Int)), 0, 0⟩) = (if signLen (c.toNat : Int) 0 = 0 then badT 10 else ⟨4, [c].take (signLen (c.toNat : Int) 0), 0, 0⟩)
        rw [hb.2.2, List.take_append_of_le_length (by simpa using signLen_end c)]
      | cons d l =>
        show (if signLen (c.toNat : Int) (d.toNat : Int) = 0 then badT 10 else ⟨4, ((c :: d :: l) ++ h :: r).take (signLen (c.toNat : Int) (d.toNat : Int)), 0, 0⟩) = (if signLen (c.toNat : Int) (d.toNat : Int) = 0 then badT 10 else ⟨4, (c :: d :: l).take (signLen (c.toNat : Int) (d.toNat : Int)), 0, 0⟩)
        rw [List.take_append_of_le_length (by have := signLen_two (c.toNat : Int) (d.toNat : Int); simp; omega)]
theorem takeWhile_self (p : UInt8 → Bool) (l : List UInt8) : (l.takeWhile p).takeWhile p = l.takeWhile p := by
  induction l with
  | nil => rfl
  | cons c l ih => cases hc : p c <;> simp [hc, ih]
theorem nameT_text (x : List UInt8) (h : (nameT x).err = 0) : (nameT x).text = x := by
  unfold nameT at h ⊢; split
  · rfl
  · rename_i hw; rw [if_neg hw] at h; split
    · rename_i h2; rw [if_pos h2] at h; simp [badT] at h
    · rfl
theorem numT_text (x : List UInt8) (h : (numT x).err = 0) : (numT x).text = x := by
  unfold numT at h ⊢; split
  · rename_i h2; rw [if_pos h2] at h; simp [badT] at h
  · rename_i h1; rw [if_neg h1] at h; split
    · rfl
    · rename_i h2; rw [if_neg h2] at h; simp [badT] at h
/-- A token's own text tells it; it begins as the list does. -/
theorem tok_self (c : UInt8) (l : List UInt8) (h : (tokL (c :: l)).err = 0) : tokL (tokL (c :: l)).text = tokL (c :: l) ∧ (∃ r, (tokL (c :: l)).text = c :: r) ∧ (tokL (c :: l)).text.length ≤ (c :: l).length := by
  have e : ∀ x, tokL (c :: x) = if letter c then nameT ((c :: x).takeWhile nameByte) else if digit c then numT ((c :: x).takeWhile digit) else signT (c :: x) := fun _ => rfl
  rw [e] at h ⊢
  cases hl : letter c
  · cases hd : digit c
    · simp only [hl, hd, Bool.false_eq_true, if_false] at h ⊢
      have es : ∀ x, tokL (c :: x) = signT (c :: x) := fun x => by rw [e]; simp [hl, hd]
      cases l with
      | nil =>
        have e1 : signT [c] = if signLen (c.toNat : Int) 0 = 0 then badT 10 else ⟨4, [c].take (signLen (c.toNat : Int) 0), 0, 0⟩ := rfl
        have h1 := signLen_end c
        rw [e1] at h ⊢
        by_cases h0 : signLen (c.toNat : Int) 0 = 0
        · rw [if_pos h0] at h; simp [badT] at h
        · have h2 : signLen (c.toNat : Int) 0 = 1 := by omega
          rw [if_neg h0, h2]
          refine ⟨?_, ⟨[], rfl⟩, by simp⟩
          show tokL [c] = _
          rw [es, e1, if_neg h0, h2]
      | cons d l =>
        have e1 : ∀ x, signT (c :: d :: x) = if signLen (c.toNat : Int) (d.toNat : Int) = 0 then badT 10 else ⟨4, (c :: d :: x).take (signLen (c.toNat : Int) (d.toNat : Int)), 0, 0⟩ := fun _ => rfl
        have h1 := signLen_two (c.toNat : Int) (d.toNat : Int)
        rw [e1] at h ⊢
        by_cases h0 : signLen (c.toNat : Int) (d.toNat : Int) = 0
        · rw [if_pos h0] at h; simp [badT] at h
        · rw [if_neg h0]
          by_cases h2 : signLen (c.toNat : Int) (d.toNat : Int) = 1
          · rw [h2]
            refine ⟨?_, ⟨[], rfl⟩, by simp⟩
            show tokL [c] = _
            have h3 := signLen_one c _ h2
            rw [es]
            show (if signLen (c.toNat : Int) 0 = 0 then badT 10 else ⟨4, [c].take (signLen (c.toNat : Int) 0), 0, 0⟩) = _
            rw [h3]; rfl
          · have h2' : signLen (c.toNat : Int) (d.toNat : Int) = 2 := by omega
            rw [h2']
            refine ⟨?_, ⟨[d], rfl⟩, by simp⟩
            show tokL [c, d] = _
            rw [es, e1, if_neg h0, h2']; rfl
    · simp only [hl, hd, Bool.false_eq_true, if_false, if_true] at h ⊢
      rw [numT_text _ h]
      have hx : (c :: l).takeWhile digit = c :: l.takeWhile digit := by simp [hd]
      refine ⟨?_, ⟨_, hx⟩, (List.takeWhile_sublist _).length_le⟩
      have hs := takeWhile_self digit (c :: l)
      rw [hx] at hs ⊢
      rw [e, hs]; simp [hl, hd]
  · simp only [hl, if_true] at h ⊢
    rw [nameT_text _ h]
    have hx : (c :: l).takeWhile nameByte = c :: l.takeWhile nameByte := by simp [nameByte, hl]
    refine ⟨?_, ⟨_, hx⟩, (List.takeWhile_sublist _).length_le⟩
    have hs := takeWhile_self nameByte (c :: l)
    rw [hx] at hs ⊢
    rw [e, hs]; simp [hl]
theorem skip_head : ∀ (l : List UInt8) (b : Bool) (c : UInt8) (r : List UInt8), l.drop (skipC b l) = c :: r → blank c = false ∧ c ≠ 35 := by
  intro l
  induction l with
  | nil => intro b c r h; simp at h
  | cons x l ih =>
    intro b c r h
    cases b with
    | true =>
      simp only [skipC] at h
      split at h
      · exact ih false c r (by simpa using h)
      · exact ih true c r (by simpa using h)
    | false =>
      simp only [skipC] at h
      split at h
      · exact ih true c r (by simpa using h)
      · rename_i h35
        split at h
        · exact ih false c r (by simpa using h)
        · rename_i hb
          simp at h
          rw [← h.1]
          exact ⟨by simpa using hb, h35⟩
def Good (t : T) : Prop := t.err = 0 ∧ tokL t.text = t ∧ ∃ c r, t.text = c :: r ∧ blank c = false ∧ c ≠ 35
theorem good_of {l : List UInt8} {R : RL} (h : Scans l R) : ∀ ts, R = .done ts → ∀ t ∈ ts, Good t := by
  induction h with
  | nil l h => intro ts e t ht; cases e; simp at ht
  | bad l c r h he => intro ts e; cases e
  | tok l c r R h he hR ih =>
    intro ts e t ht
    cases hRR : R with
    | fail e' k => rw [hRR] at e; cases e
    | done us =>
      rw [hRR] at e
      have e2 : tokL (c :: r) :: us = ts := by injection e
      rw [← e2] at ht
      rcases List.mem_cons.1 ht with rfl | ht
      · obtain ⟨h1, ⟨r', h2⟩, _⟩ := tok_self c r he
        obtain ⟨h3, h4⟩ := skip_head _ _ _ _ h
        exact ⟨he, h1, c, r', h2, h3, h4⟩
      · exact ih us hRR t ht
theorem skip_zero (c : UInt8) (l : List UInt8) (h : blank c = false) (h35 : c ≠ 35) : skipC false (c :: l) = 0 := by simp [skipC, h, h35]
theorem blank_step {l : List UInt8} {R : RL} (h : Scans l R) : ∀ ts, R = .done ts → Scans (32 :: l) (.done ts) := by
  have hs : ∀ l, skipC false (32 :: l) = skipC false l + 1 := fun l => by simp [skipC, blank]
  cases h with
  | nil _ h => intro ts e; cases e; exact .nil _ (by rw [hs]; simpa using h)
  | bad _ c r h he => intro ts e; cases e
  | tok _ c r R h he hR =>
    intro ts e
    cases hRR : R with
    | fail e' k => rw [hRR] at e; cases e
    | done us =>
      rw [hRR] at e hR
      have := Scans.tok (32 :: l) c r (.done us) (by rw [hs]; simpa using h) he hR
      rw [← e]; exact this
/-- TOLD AGAIN. -/
theorem again (ts : List T) (h : ∀ t ∈ ts, Good t) : Scans (ts.flatMap fun t => t.text ++ [32]) (.done ts) := by
  induction ts with
  | nil => exact .nil _ (by simp)
  | cons t ts ih =>
    obtain ⟨h0, h1, c, r, h2, h3, h4⟩ := h t (by simp)
    have hrest := blank_step (ih (fun t ht => h t (by simp [ht]))) ts rfl
    have e1 : ((t :: ts).flatMap fun t => t.text ++ [32]) = (c :: r) ++ 32 :: (ts.flatMap fun t => t.text ++ [32]) := by
      rw [List.flatMap_cons, h2]; simp
    have hst := tok_stable 32 brk32 c r (ts.flatMap fun t => t.text ++ [32])
    rw [← h2, h1] at hst
    have hsk : skipC false ((c :: r) ++ 32 :: (ts.flatMap fun t => t.text ++ [32])) = 0 := skip_zero c _ h3 h4
    rw [e1]
    have := Scans.tok ((c :: r) ++ 32 :: (ts.flatMap fun t => t.text ++ [32])) c (r ++ 32 :: (ts.flatMap fun t => t.text ++ [32])) (.done ts) (by rw [hsk]; rfl)
      (by rw [← List.cons_append, ← h2, hst]; exact h0) (by rw [← List.cons_append, ← h2, hst]; simpa using hrest)
    rw [← List.cons_append, ← h2, hst] at this
    rw [← h2]
    exact this
/-- What is passed over between two texts. -/
def Gap (g : List UInt8) : Prop := (∃ b r, g = b :: r ∧ Brk b) ∧ ∀ (b : Bool) (t : List UInt8), skipC b (g ++ t) = g.length + skipC false t
theorem skip_all (g t : List UInt8) (hg : Gap g) : ∀ (l : List UInt8) (b : Bool), skipC b l = l.length → skipC b (l ++ (g ++ t)) = l.length + (g.length + skipC false t) := by
  intro l
  induction l with
  | nil => intro b _; simpa using hg.2 b t
  | cons x l ih =>
    intro b h
    cases b with
    | true =>
      simp only [skipC, List.length_cons] at h
      simp only [List.cons_append, skipC, List.length_cons]
      split at h
      · rename_i h10; rw [if_pos h10, ih false (by omega)]; omega
      · rename_i h10; rw [if_neg h10, ih true (by omega)]; omega
    | false =>
      simp only [skipC, List.length_cons] at h
      simp only [List.cons_append, skipC, List.length_cons]
      split at h
      · rename_i h35; rw [if_pos h35, ih true (by omega)]; omega
      · rename_i h35
        rw [if_neg h35]
        split at h
        · rename_i hb; rw [if_pos hb, ih false (by omega)]; omega
        · omega
theorem skip_part (x : List UInt8) : ∀ (l : List UInt8) (b : Bool), skipC b l < l.length → skipC b (l ++ x) = skipC b l := by
  intro l
  induction l with
  | nil => intro b h; simp at h
  | cons y l ih =>
    intro b h
    cases b with
    | true =>
      simp only [skipC, List.length_cons] at h
      simp only [List.cons_append, skipC]
      split at h
      · rename_i h10; rw [if_pos h10, if_pos h10, ih false (by omega)]
      · rename_i h10; rw [if_neg h10, if_neg h10, ih true (by omega)]
    | false =>
      simp only [skipC, List.length_cons] at h
      simp only [List.cons_append, skipC]
      split at h
      · rename_i h35; rw [if_pos h35, if_pos h35, ih true (by omega)]
      · rename_i h35
        rw [if_neg h35, if_neg h35]
        split at h
        · rename_i hb; rw [if_pos hb, if_pos hb, ih false (by omega)]
        · rename_i hb; rw [if_neg hb, if_neg hb]
def addR (ts : List T) (m : Nat) : RL → RL
  | .done us => .done (ts ++ us)
  | .fail e k => .fail e (k + m)
theorem glue0 {l : List UInt8} (hl : l.drop (skipC false l) = []) (g t : List UInt8) (hg : Gap g) {R : RL} (hR : Scans t R) : Scans (l ++ (g ++ t)) (addR [] (l.length + g.length) R) := by
  have hall : skipC false l = l.length := by
    have h1 := skipC_le false l
    have h2 := congrArg List.length hl
    rw [List.length_drop, List.length_nil] at h2; omega
  have hsk := skip_all g t hg l false hall
  have hdr : ∀ m, (l ++ (g ++ t)).drop (l.length + (g.length + m)) = t.drop m := by
    intro m; rw [List.drop_append, List.drop_of_length_le (by omega), List.nil_append, List.drop_append, List.drop_of_length_le (by omega), List.nil_append]; congr 1; omega
  cases hR with
  | nil _ h => exact .nil _ (by rw [hsk, hdr]; exact h)
  | bad _ c r h he =>
    have := Scans.bad (l ++ (g ++ t)) c r (by rw [hsk, hdr]; exact h) he
    rw [hsk] at this
    show Scans _ (.fail _ (skipC false t + (l.length + g.length)))
    rw [show skipC false t + (l.length + g.length) = l.length + (g.length + skipC false t) by omega]; exact this
  | tok _ c r R h he hR =>
    have := Scans.tok (l ++ (g ++ t)) c r R (by rw [hsk, hdr]; exact h) he hR
    rw [hsk] at this
    cases R with
    | done us => exact this
    | fail e k =>
      show Scans _ (.fail e (k + (tokL (c :: r)).text.length + skipC false t + (l.length + g.length)))
      rw [show k + (tokL (c :: r)).text.length + skipC false t + (l.length + g.length) = k + (tokL (c :: r)).text.length + (l.length + (g.length + skipC false t)) by omega]; exact this
/-- TWO TEXTS WITH A GAP BETWEEN. -/
theorem glue {l : List UInt8} {R0 : RL} (h : Scans l R0) (g t : List UInt8) (hg : Gap g) {R : RL} (hR : Scans t R) : ∀ ts, R0 = .done ts → Scans (l ++ (g ++ t)) (addR ts (l.length + g.length) R) := by
  induction h with
  | nil l h => intro ts e; cases e; exact glue0 h g t hg hR
  | bad l c r h he => intro ts e; cases e
  | tok l c r R1 h he hR1 ih =>
    intro ts e
    cases hRR : R1 with
    | fail e' k => rw [hRR] at e; cases e
    | done us =>
      rw [hRR] at e
      have e2 : tokL (c :: r) :: us = ts := by injection e
      have ih2 := ih us hRR
      have hlt : skipC false l < l.length := by
        have h2 := congrArg List.length h
        rw [List.length_drop, List.length_cons] at h2; omega
      have hlen : (c :: r).length = l.length - skipC false l := by rw [← h, List.length_drop]
      obtain ⟨_, _, htl⟩ := tok_self c r he
      obtain ⟨⟨b, gr, rfl, hb⟩, _⟩ := hg
      have hst : tokL (c :: (r ++ (b :: gr ++ t))) = tokL (c :: r) := by
        have := tok_stable b hb c r (gr ++ t)
        simpa using this
      have hsk := skip_part (b :: gr ++ t) l false hlt
      have h3 : (l ++ (b :: gr ++ t)).drop (skipC false (l ++ (b :: gr ++ t))) = c :: (r ++ (b :: gr ++ t)) := by
        rw [hsk, List.drop_append_of_le_length (by omega), h]; rfl
      have := Scans.tok (l ++ (b :: gr ++ t)) c (r ++ (b :: gr ++ t)) _ h3 (by rw [hst]; exact he) (by
        rw [hst, ← List.cons_append, List.drop_append_of_le_length htl]; exact ih2)
      rw [hst, hsk] at this
      rw [← e2]
      cases R with
      | done vs => exact this
      | fail e k =>
        have hd : ((c :: r).drop (tokL (c :: r)).text.length).length = (c :: r).length - (tokL (c :: r)).text.length := List.length_drop
        show Scans _ (.fail e (k + (l.length + (b :: gr).length)))
        rw [show k + (l.length + (b :: gr).length) = k + (((c :: r).drop (tokL (c :: r)).text.length).length + (b :: gr).length) + (tokL (c :: r)).text.length + skipC false l by rw [hd]; omega]
        exact this
theorem gap1 : Gap [35, 32, 97, 32, 110, 111, 116, 101, 10] := by
  refine ⟨⟨_, _, rfl, brk35⟩, fun b t => ?_⟩
  cases b <;> simp [skipC] <;> omega
theorem gap2 : Gap [10, 35, 32, 97, 32, 110, 111, 116, 101, 10] := by
  refine ⟨⟨_, _, rfl, brk10⟩, fun b t => ?_⟩
  cases b <;> simp [skipC, blank] <;> omega
end Lx
end Go.Proofs.YtaekbgljbgmchabGreatDoor
namespace Go.Proofs.YtaekbgljbgmchabGreatDoor
open Go.RowKit
open Lx (Out)
open Pz
namespace Pz
def rp {α : Type} : Nat → List α → List α
  | 0, _ => []
  | n + 1, x => x ++ rp n x
theorem rp_snoc {α : Type} (n : Nat) (x : List α) : rp (n + 1) x = rp n x ++ x := by
  induction n with
  | zero => simp [rp]
  | succ n ih =>
    show x ++ rp (n + 1) x = (x ++ rp n x) ++ x
    rw [ih, List.append_assoc]
theorem rp_len {α : Type} (n : Nat) (x : List α) : (rp n x).length = n * x.length := by
  induction n with
  | zero => simp [rp]
  | succ n ih => rw [rp, List.length_append, ih, Nat.succ_mul]; omega
end Pz
end Go.Proofs.YtaekbgljbgmchabGreatDoor
namespace Go.Proofs.YtaekbgljbgmchabGreatDoor
open Go.RowKit
open Lx (Out)
open Pz
open Lx (ofOut Scans blank_step)
namespace Lx
theorem scan_list (s : ByteArray) (ts : List T) (h : Scans s.data.toList (.done ts)) : ∃ l, scan s = .done l ∧ l.map ofOut = ts := by
  have hf := scan_of s _ h
  generalize hS : scan s = R at hf
  cases R with
  | fail e k => exact hf.elim
  | done l =>
    obtain ⟨o, h5, h6⟩ := hf
    rw [List.nil_append] at h5
    exact ⟨l, rfl, by rw [h5, h6]⟩
theorem tok_step (c : UInt8) (r : List UInt8) (t : T) (ts : List T) (hb : blank c = false) (h35 : c ≠ 35) (ht : tokL (c :: r) = t) (he : t.err = 0) (hR : Scans ((c :: r).drop t.text.length) (.done ts)) : Scans (c :: r) (.done (t :: ts)) := by
  have h0 := skip_zero c r hb h35
  have := Scans.tok (c :: r) c r (.done ts) (by rw [h0]; rfl) (by rw [ht]; exact he) (by rw [ht]; exact hR)
  rw [ht] at this
  exact this
end Lx
open Lx (tok_step scan_list endTok)
namespace Pz
theorem tok_of {o : Out} {t : Lx.T} (h : ofOut o = t) (y : ByteArray) (hy : y.data.toList = t.text) : Tok o t.kind y := by
  subst h
  exact ⟨rfl, ByteArray.ext (Array.toList_inj.1 hy.symm)⟩
theorem kind_of {o : Out} {t : Lx.T} (h : ofOut o = t) : o.kind = t.kind := by subst h; rfl
theorem reader_of (s : ByteArray) (ts : List Lx.T) (h : Scans s.data.toList (.done ts)) : ∃ l, reader s = ⟨l, 0, 0, 0⟩ ∧ l.map ofOut = ts ++ [(⟨5, [], 0, 0⟩ : Lx.T)] := by
  obtain ⟨l, h1, h2⟩ := scan_list s ts h
  obtain ⟨h3, h4, -⟩ := Lx.of_done s l h1
  refine ⟨l ++ [endTok s], ?_, by rw [List.map_append, h2]; rfl⟩
  unfold reader
  rw [h4, if_pos rfl, h3]
theorem end_of {r : List Out} (h : r.map ofOut = [(⟨5, [], 0, 0⟩ : Lx.T)]) : ∃ z, r = [z] ∧ z.kind = 5 ∧ z.text = e0 := by
  rcases r with _ | ⟨z, _ | ⟨y, r⟩⟩
  · cases h
  · simp only [List.map_cons, List.map_nil, List.cons.injEq, and_true] at h
    have := tok_of h e0 rfl
    exact ⟨z, rfl, this.1, this.2⟩
  · simp at h
theorem len_map {l : List Out} {ts : List Lx.T} (h : l.map ofOut = ts) : l.length = ts.length := by rw [← h]; simp
/-- A row of like groups of tokens, and what follows. -/
theorem groups_of (G : List Lx.T) : ∀ (n : Nat) (l : List Out) (R : List Lx.T), l.map ofOut = rp n G ++ R → ∃ gs r, l = List.flatten gs ++ r ∧ gs.length = n ∧ (∀ g ∈ gs, g.map ofOut = G) ∧ r.map ofOut = R := by
  intro n
  induction n with
  | zero => intro l R h; exact ⟨[], l, rfl, rfl, by simp, h⟩
  | succ n ih =>
    intro l R h
    rw [rp, List.append_assoc] at h
    obtain ⟨a, b, rfl, ha, hb⟩ := List.map_eq_append_iff.1 h
    obtain ⟨gs, r, rfl, h2, h3, h4⟩ := ih b R hb
    exact ⟨a :: gs, r, by simp, by simp [h2], fun g hg => by rcases List.mem_cons.1 hg with rfl | hg; (exact ha); exact h3 g hg, h4⟩
/-- Too many. -/
def Many (s : S) : Prop := s.err = 6
theorem Many.keep {s s' : S} (h : Many s) (k : Ek s s') : Many s' := (k (by rw [h]; decide)).1.trans h
theorem full_many (s : S) (he : s.err = 0) : Many (s.full true) := by
  have hr : (s.refuse 6).err = 6 := by unfold S.refuse S.fail; rw [if_pos he]
  exact Many.keep (s := s.refuse 6) hr (ek.pass _)
theorem full_fine (o : Out) (l : List Out) (opn : Int) (h5 : o.kind ≠ 5) : (S.mk (o :: l) opn 0 0).full false = ⟨l, opn, 0, 0⟩ := pass_fine o l opn h5
/-- A group that read takes up whole. -/
def Grp {α : Type} (word : ByteArray) (rd : S → α × S) (opn : Int) (g : List Out) : Prop := ∃ w body, g = w :: body ∧ is w word = true ∧ w.kind ≠ 5 ∧ ∀ t, ∃ x, rd ⟨body ++ t, opn, 0, 0⟩ = (x, ⟨t, opn, 0, 0⟩)
theorem several_ok {α : Type} (word : ByteArray) (most : Nat) (rd : S → α × S) (opn : Int) (t : List Out) (ht : is (t.headD noTok) word = false) : ∀ (gs : List (List Out)) (f : Nat) (l : List α), (∀ g ∈ gs, Grp word rd opn g) → gs.length ≤ f → l.length + gs.length ≤ most → ∃ x, several word most rd f l ⟨gs.flatten ++ t, opn, 0, 0⟩ = (x, ⟨t, opn, 0, 0⟩) := by
  intro gs
  induction gs with
  | nil =>
    intro f l _ _ _
    refine ⟨l, ?_⟩
    cases f with
    | zero => rfl
    | succ f => rw [several, show (S.mk (List.flatten [] ++ t) opn 0 0).sees word = false from ht, if_neg (by simp)]; rfl
  | cons g gs ih =>
    intro f l hg hf hl
    obtain ⟨w, body, rfl, h1, h2, h3⟩ := hg g (by simp)
    obtain ⟨f, rfl⟩ : ∃ k, f = k + 1 := ⟨f - 1, by simp at hf; omega⟩
    obtain ⟨x, hx⟩ := h3 (gs.flatten ++ t)
    simp only [List.length_cons] at hf hl
    rw [several]
    simp only [List.flatten_cons, List.cons_append, List.append_assoc]
    rw [show (S.mk (w :: (body ++ (gs.flatten ++ t))) opn 0 0).sees word = true from h1, if_pos rfl]
    unfold oneMore
    rw [show decide (most ≤ l.length) = false from by simp; omega, full_fine _ _ _ h2, hx]
    exact ih f _ (fun g hg' => hg g (List.mem_cons_of_mem _ hg')) (by omega) (by simp; omega)
theorem several_many {α : Type} (word : ByteArray) (most : Nat) (rd : S → α × S) (opn : Int) (t : List Out) (hrd : ∀ s, Ek s (rd s).2) : ∀ (gs : List (List Out)) (f : Nat) (l : List α), (∀ g ∈ gs, Grp word rd opn g) → gs.length ≤ f → l.length ≤ most → most < l.length + gs.length → Many (several word most rd f l ⟨gs.flatten ++ t, opn, 0, 0⟩).2 := by
  intro gs
  induction gs with
  | nil => intro f l _ _ h1 h2; simp at h2; omega
  | cons g gs ih =>
    intro f l hg hf hl hm
    obtain ⟨w, body, rfl, h1, h2, h3⟩ := hg g (by simp)
    obtain ⟨f, rfl⟩ : ∃ k, f = k + 1 := ⟨f - 1, by simp at hf; omega⟩
    obtain ⟨x, hx⟩ := h3 (gs.flatten ++ t)
    simp only [List.length_cons] at hf hm
    rw [several]
    simp only [List.flatten_cons, List.cons_append, List.append_assoc]
    rw [show (S.mk (w :: (body ++ (gs.flatten ++ t))) opn 0 0).sees word = true from h1, if_pos rfl]
    unfold oneMore
    by_cases h8 : most ≤ l.length
    · rw [show decide (most ≤ l.length) = true from by simpa using h8]
      exact ((full_many _ rfl).keep (hrd _)).keep (ek.several word most rd hrd _ _ _)
    · rw [show decide (most ≤ l.length) = false from by simpa using h8, full_fine _ _ _ h2, hx]
      exact ih f _ (fun g hg' => hg g (List.mem_cons_of_mem _ hg')) (by omega) (by simp; omega) (by simp; omega)
theorem sees_hd {o : Out} {l : List Out} {opn : Int} {x : ByteArray} {b : Bool} (h : is o x = b) : (S.mk (o :: l) opn 0 0).sees x = b := h
theorem progM_ok (g : Nat) (z : Out) (hz : z.text = e0) (r : List Ro) : ∀ (gs : List (List Out)) (f : Nat) (m : List Mo), (∀ q ∈ gs, Grp k_monitor (monitor g) 0 q) → gs.length ≤ f → m.length + gs.length ≤ 8 → ∃ x, progF g f m r ⟨gs.flatten ++ [z], 0, 0, 0⟩ = (x, ⟨[z], 0, 0, 0⟩) := by
  intro gs
  induction gs with
  | nil => intro f m _ _ _; exact ⟨_, prog_end g f m r z hz⟩
  | cons q gs ih =>
    intro f m hg hf hl
    obtain ⟨w, body, rfl, h1, h2, h3⟩ := hg q (by simp)
    obtain ⟨f, rfl⟩ : ∃ k, f = k + 1 := ⟨f - 1, by simp at hf; omega⟩
    obtain ⟨x, hx⟩ := h3 (gs.flatten ++ [z])
    simp only [List.length_cons] at hf hl
    rw [progF]
    simp only [List.flatten_cons, List.cons_append, List.append_assoc]
    rw [sees_hd h1, if_pos rfl]
    unfold oneMore
    rw [show decide (8 ≤ m.length) = false from by simp; omega, full_fine _ _ _ h2, hx]
    exact ih f _ (fun g hg' => hg g (List.mem_cons_of_mem _ hg')) (by omega) (by simp; omega)
theorem progM_many (g : Nat) (z : Out) (r : List Ro) : ∀ (gs : List (List Out)) (f : Nat) (m : List Mo), (∀ q ∈ gs, Grp k_monitor (monitor g) 0 q) → gs.length ≤ f → m.length ≤ 8 → 8 < m.length + gs.length → Many (progF g f m r ⟨gs.flatten ++ [z], 0, 0, 0⟩).2 := by
  intro gs
  induction gs with
  | nil => intro f m _ _ h1 h2; simp at h2; omega
  | cons q gs ih =>
    intro f m hg hf hl hm
    obtain ⟨w, body, rfl, h1, h2, h3⟩ := hg q (by simp)
    obtain ⟨f, rfl⟩ : ∃ k, f = k + 1 := ⟨f - 1, by simp at hf; omega⟩
    obtain ⟨x, hx⟩ := h3 (gs.flatten ++ [z])
    simp only [List.length_cons] at hf hm
    rw [progF]
    simp only [List.flatten_cons, List.cons_append, List.append_assoc]
    rw [sees_hd h1, if_pos rfl]
    unfold oneMore
    by_cases h8 : 8 ≤ m.length
    · rw [show decide (8 ≤ m.length) = true from by simpa using h8]
      exact ((full_many _ rfl).keep (ek.monitor g _)).keep (ek.progF g _ _ _ _)
    · rw [show decide (8 ≤ m.length) = false from by simpa using h8, full_fine _ _ _ h2, hx]
      exact ih f _ (fun g hg' => hg g (List.mem_cons_of_mem _ hg')) (by omega) (by simp; omega) (by simp; omega)
theorem progT_ok (g : Nat) (z : Out) (hz : z.text = e0) (m : List Mo) : ∀ (gs : List (List Out)) (f : Nat) (r : List Ro), (∀ q ∈ gs, Grp k_thread (role g) 0 q) → (∀ q ∈ gs, ∀ w b, q = w :: b → is w k_monitor = false) → gs.length ≤ f → r.length + gs.length ≤ 8 → ∃ x, progF g f m r ⟨gs.flatten ++ [z], 0, 0, 0⟩ = (x, ⟨[z], 0, 0, 0⟩) := by
  intro gs
  induction gs with
  | nil => intro f r _ _ _ _; exact ⟨_, prog_end g f m r z hz⟩
  | cons q gs ih =>
    intro f r hg hw hf hl
    obtain ⟨w, body, rfl, h1, h2, h3⟩ := hg q (by simp)
    obtain ⟨f, rfl⟩ : ∃ k, f = k + 1 := ⟨f - 1, by simp at hf; omega⟩
    obtain ⟨x, hx⟩ := h3 (gs.flatten ++ [z])
    simp only [List.length_cons] at hf hl
    rw [progF]
    simp only [List.flatten_cons, List.cons_append, List.append_assoc]
    rw [sees_hd (hw _ (by simp) w body rfl), if_neg (by simp), sees_hd h1, if_pos rfl]
    unfold oneMore
    rw [show decide (8 ≤ r.length) = false from by simp; omega, full_fine _ _ _ h2, hx]
    exact ih f _ (fun g hg' => hg g (List.mem_cons_of_mem _ hg')) (fun g hg' => hw g (List.mem_cons_of_mem _ hg')) (by omega) (by simp; omega)
theorem progT_many (g : Nat) (z : Out) (m : List Mo) : ∀ (gs : List (List Out)) (f : Nat) (r : List Ro), (∀ q ∈ gs, Grp k_thread (role g) 0 q) → (∀ q ∈ gs, ∀ w b, q = w :: b → is w k_monitor = false) → gs.length ≤ f → r.length ≤ 8 → 8 < r.length + gs.length → Many (progF g f m r ⟨gs.flatten ++ [z], 0, 0, 0⟩).2 := by
  intro gs
  induction gs with
  | nil => intro f r _ _ _ h1 h2; simp at h2; omega
  | cons q gs ih =>
    intro f r hg hw hf hl hm
    obtain ⟨w, body, rfl, h1, h2, h3⟩ := hg q (by simp)
    obtain ⟨f, rfl⟩ : ∃ k, f = k + 1 := ⟨f - 1, by simp at hf; omega⟩
    obtain ⟨x, hx⟩ := h3 (gs.flatten ++ [z])
    simp only [List.length_cons] at hf hm
    rw [progF]
    simp only [List.flatten_cons, List.cons_append, List.append_assoc]
    rw [sees_hd (hw _ (by simp) w body rfl), if_neg (by simp), sees_hd h1, if_pos rfl]
    unfold oneMore
    by_cases h8 : 8 ≤ r.length
    · rw [show decide (8 ≤ r.length) = true from by simpa using h8]
      exact ((full_many _ rfl).keep (ek.role g _)).keep (ek.progF g _ _ _ _)
    · rw [show decide (8 ≤ r.length) = false from by simpa using h8, full_fine _ _ _ h2, hx]
      exact ih f _ (fun g hg' => hg g (List.mem_cons_of_mem _ hg')) (fun g hg' => hw g (List.mem_cons_of_mem _ hg')) (by omega) (by simp; omega) (by simp; omega)
/-- An empty block. -/
theorem block_empty (g : Nat) (hg : 1 ≤ g) (a b : Out) (t : List Out) (opn : Int) (ho : opn ≠ 64) (ha : Tok a 4 s_lbr) (hb : Tok b 4 s_rbr) : ∃ x, block (stmtsF g []) ⟨a :: b :: t, opn, 0, 0⟩ = (x, ⟨t, opn, 0, 0⟩) := by
  obtain ⟨g, rfl⟩ : ∃ k, g = k + 1 := ⟨g - 1, by omega⟩
  unfold block enclosed within
  rw [enter_fine _ _ _ _ (by rw [is_of ha.2]; decide) (by rw [ha.1]; decide) ho, stmts_stop g _ _ _ _ hb]
  show ∃ e, (_, (S.mk _ (opn + 1 - 1) 0 0).want s_rbr) = _
  rw [show opn + 1 - 1 = opn by omega, want_fine _ _ _ _ (by rw [is_of hb.2]; decide) (by rw [hb.1]; decide)]
  exact ⟨_, rfl⟩
/-- What stands in the braces of a monitor. -/
theorem monitor_in (g : Nat) (n a : Out) (l t : List Out) (x : Mo) (b : Out) (hn : n.kind = 1) (ha : Tok a 4 s_lbr) (hb : Tok b 4 s_rbr) (h : members g ⟨l, 1, 0, 0⟩ = (x, ⟨b :: t, 1, 0, 0⟩)) : ∃ y, monitor g ⟨n :: a :: l, 0, 0, 0⟩ = (y, ⟨t, 0, 0, 0⟩) := by
  unfold monitor
  rw [take_fine n _ 0 1 hn (by rw [hn]; decide)]
  unfold enclosed within
  simp only
  rw [enter_fine _ _ _ _ (by rw [is_of ha.2]; decide) (by rw [ha.1]; decide) (by decide)]
  rw [show (0 : Int) + 1 = 1 from rfl, h]
  show ∃ y, (_, (S.mk (b :: t) (1 - 1) 0 0).want s_rbr) = _
  rw [show (1 : Int) - 1 = 0 from rfl, want_fine _ _ _ _ (by rw [is_of hb.2]; decide) (by rw [hb.1]; decide)]
  exact ⟨_, rfl⟩
theorem several_none {α : Type} (word : ByteArray) (most : Nat) (rd : S → α × S) (f : Nat) (l : List α) (s : S) (h : s.sees word = false) : several word most rd f l s = (l, s) := by
  cases f with
  | zero => rfl
  | succ f => rw [several, h, if_neg (by simp)]
theorem rbr_not {b : Out} (hb : Tok b 4 s_rbr) : is b k_var = false ∧ is b k_method = false ∧ is b k_or = false := by
  refine ⟨?_, ?_, ?_⟩ <;> rw [is_of hb.2] <;> decide
theorem members_none (g : Nat) (b : Out) (t : List Out) (opn : Int) (hb : Tok b 4 s_rbr) : ∃ x, members g ⟨b :: t, opn, 0, 0⟩ = (x, ⟨b :: t, opn, 0, 0⟩) := by
  unfold members
  simp only
  rw [several_none _ _ _ _ _ _ (sees_hd (rbr_not hb).1), several_none _ _ _ _ _ _ (sees_hd (rbr_not hb).2.1)]
  exact ⟨_, rfl⟩
theorem grp_mon (g : Nat) (q : List Out) (h : q.map ofOut = [(⟨3, [109, 111, 110, 105, 116, 111, 114], 0, 0⟩ : Lx.T), (⟨1, [109], 0, 0⟩ : Lx.T), (⟨4, [123], 0, 0⟩ : Lx.T), (⟨4, [125], 0, 0⟩ : Lx.T)]) : Grp k_monitor (monitor g) 0 q := by
  rcases q with _ | ⟨a0, _ | ⟨a1, _ | ⟨a2, _ | ⟨a3, _ | ⟨y, r⟩⟩⟩⟩⟩
  · simp at h
  · simp at h
  · simp at h
  · simp at h
  · simp only [List.map_cons, List.map_nil, List.cons.injEq, and_true] at h
    obtain ⟨h0, h1, h2, h3⟩ := h
    have hm := tok_of h0 k_monitor rfl
    refine ⟨a0, [a1, a2, a3], rfl, by rw [is_of hm.2]; decide, by rw [hm.1]; decide, fun t => ?_⟩
    obtain ⟨x, hx⟩ := members_none g a3 t 1 (tok_of h3 s_rbr rfl)
    exact monitor_in g a1 a2 (a3 :: t) t x a3 (kind_of h1) (tok_of h2 s_lbr rfl) (tok_of h3 s_rbr rfl) hx
  · simp at h
theorem grp_met (g : Nat) (hg : 1 ≤ g) (q : List Out) (h : q.map ofOut = [(⟨3, [109, 101, 116, 104, 111, 100], 0, 0⟩ : Lx.T), (⟨1, [102], 0, 0⟩ : Lx.T), (⟨4, [123], 0, 0⟩ : Lx.T), (⟨4, [125], 0, 0⟩ : Lx.T)]) : Grp k_method (method g) 1 q := by
  rcases q with _ | ⟨a0, _ | ⟨a1, _ | ⟨a2, _ | ⟨a3, _ | ⟨y, r⟩⟩⟩⟩⟩
  · simp at h
  · simp at h
  · simp at h
  · simp at h
  · simp only [List.map_cons, List.map_nil, List.cons.injEq, and_true] at h
    obtain ⟨h0, h1, h2, h3⟩ := h
    have hm := tok_of h0 k_method rfl
    refine ⟨a0, [a1, a2, a3], rfl, by rw [is_of hm.2]; decide, by rw [hm.1]; decide, fun t => ?_⟩
    obtain ⟨x, hx⟩ := block_empty g hg a2 a3 t 1 (by decide) (tok_of h2 s_lbr rfl) (tok_of h3 s_rbr rfl)
    show ∃ y, method g ⟨a1 :: a2 :: a3 :: t, 1, 0, 0⟩ = _
    unfold method
    rw [take_fine a1 _ 1 1 (kind_of h1) (by rw [kind_of h1]; decide)]
    unfold blockF
    simp only
    rw [hx]
    exact ⟨_, rfl⟩
  · simp at h
theorem grp_thr (g : Nat) (hg : 1 ≤ g) (q : List Out) (h : q.map ofOut = [(⟨3, [116, 104, 114, 101, 97, 100], 0, 0⟩ : Lx.T), (⟨1, [116], 0, 0⟩ : Lx.T), (⟨4, [42], 0, 0⟩ : Lx.T), (⟨4, [123], 0, 0⟩ : Lx.T), (⟨4, [125], 0, 0⟩ : Lx.T)]) : Grp k_thread (role g) 0 q ∧ ∀ w b, q = w :: b → is w k_monitor = false := by
  rcases q with _ | ⟨a0, _ | ⟨a1, _ | ⟨a2, _ | ⟨a3, _ | ⟨a4, _ | ⟨y, r⟩⟩⟩⟩⟩⟩
  · simp at h
  · simp at h
  · simp at h
  · simp at h
  · simp at h
  · simp only [List.map_cons, List.map_nil, List.cons.injEq, and_true] at h
    obtain ⟨h0, h1, h2, h3, h4⟩ := h
    have hm := tok_of h0 k_thread rfl
    refine ⟨⟨a0, [a1, a2, a3, a4], rfl, by rw [is_of hm.2]; decide, by rw [hm.1]; decide, fun t => ?_⟩, fun w b e => by cases e; rw [is_of hm.2]; decide⟩
    obtain ⟨x, hx⟩ := block_empty g hg a3 a4 t 0 (by decide) (tok_of h3 s_lbr rfl) (tok_of h4 s_rbr rfl)
    have hs := tok_of h2 s_star rfl
    show ∃ y, role g ⟨a1 :: a2 :: a3 :: a4 :: t, 0, 0, 0⟩ = _
    unfold role
    rw [take_fine a1 _ 0 1 (kind_of h1) (by rw [kind_of h1]; decide)]
    simp only
    rw [sees_hd (show is a2 s_star = true from by rw [is_of hs.2]; decide), if_pos rfl, pass_fine _ _ _ (by rw [hs.1]; decide)]
    unfold blockF
    rw [hx]
    exact ⟨_, rfl⟩
  · simp at h
theorem grp_or (g : Nat) (hg : 1 ≤ g) (q : List Out) (h : q.map ofOut = [(⟨3, [111, 114], 0, 0⟩ : Lx.T), (⟨4, [123], 0, 0⟩ : Lx.T), (⟨4, [125], 0, 0⟩ : Lx.T)]) : Grp k_or (block (stmtsF g [])) 1 q := by
  rcases q with _ | ⟨a0, _ | ⟨a1, _ | ⟨a2, _ | ⟨y, r⟩⟩⟩⟩
  · simp at h
  · simp at h
  · simp at h
  · simp only [List.map_cons, List.map_nil, List.cons.injEq, and_true] at h
    obtain ⟨h0, h1, h2⟩ := h
    have hm := tok_of h0 k_or rfl
    refine ⟨a0, [a1, a2], rfl, by rw [is_of hm.2]; decide, by rw [hm.1]; decide, fun t => ?_⟩
    exact block_empty g hg a1 a2 t 1 (by decide) (tok_of h1 s_lbr rfl) (tok_of h2 s_rbr rfl)
  · simp at h
theorem grp_var  (q : List Out) (h : q.map ofOut = [(⟨3, [118, 97, 114], 0, 0⟩ : Lx.T), (⟨1, [118], 0, 0⟩ : Lx.T), (⟨4, [58], 0, 0⟩ : Lx.T), (⟨3, [105, 110, 116], 0, 0⟩ : Lx.T), (⟨4, [61], 0, 0⟩ : Lx.T), (⟨2, [48], 0, 0⟩ : Lx.T), (⟨4, [59], 0, 0⟩ : Lx.T)]) : Grp k_var vari 1 q := by
  rcases q with _ | ⟨a0, _ | ⟨a1, _ | ⟨a2, _ | ⟨a3, _ | ⟨a4, _ | ⟨a5, _ | ⟨a6, _ | ⟨y, r⟩⟩⟩⟩⟩⟩⟩⟩
  · simp at h
  · simp at h
  · simp at h
  · simp at h
  · simp at h
  · simp at h
  · simp at h
  · simp only [List.map_cons, List.map_nil, List.cons.injEq, and_true] at h
    obtain ⟨h0, h1, h2, h3, h4, h5, h6⟩ := h
    have hm := tok_of h0 k_var rfl
    refine ⟨a0, [a1, a2, a3, a4, a5, a6], rfl, by rw [is_of hm.2]; decide, by rw [hm.1]; decide, fun t => ?_⟩
    have t2 := tok_of h2 s_colon rfl
    have t3 := tok_of h3 k_int rfl
    have t4 := tok_of h4 s_eq rfl
    have t5 := kind_of h5
    have t6 := tok_of h6 s_semi rfl
    have e5 : is a5 s_minus = false := by
      have := tok_of h5 ⟨#[48]⟩ rfl
      rw [is_of this.2]; decide
    show ∃ y, vari ⟨a1 :: a2 :: a3 :: a4 :: a5 :: a6 :: t, 1, 0, 0⟩ = _
    have hty : ∃ v, typed ⟨a3 :: a4 :: a5 :: a6 :: t, 1, 0, 0⟩ = (v, ⟨a6 :: t, 1, 0, 0⟩) := by
      unfold typed
      rw [sees_hd (show is a3 k_bool = false from by rw [is_of t3.2]; decide), if_neg (by simp), sees_hd (show is a3 k_int = true from by rw [is_of t3.2]; decide), if_pos rfl, pass_fine _ _ _ (by rw [t3.1]; decide), want_fine _ _ _ _ (by rw [is_of t4.2]; decide) (by rw [t4.1]; decide)]
      unfold integer
      rw [sees_hd e5, if_neg (by simp), take_fine a5 _ 1 2 t5 (by rw [t5]; decide)]
      exact ⟨_, rfl⟩
    obtain ⟨v, hv⟩ := hty
    unfold vari
    rw [take_fine a1 _ 1 1 (kind_of h1) (by rw [kind_of h1]; decide)]
    simp only
    rw [want_fine _ _ _ _ (by rw [is_of t2.2]; decide) (by rw [t2.1]; decide), hv]
    simp only
    rw [want_fine _ _ _ _ (by rw [is_of t6.2]; decide) (by rw [t6.1]; decide)]
    exact ⟨_, rfl⟩
  · simp at h
theorem sc_nil : Scans [] (.done []) := .nil [] rfl
theorem sc_rp (one : List UInt8) (G : List Lx.T) (h1 : ∀ l ts, Scans l (.done ts) → Scans (one ++ l) (.done (G ++ ts))) : ∀ (n : Nat) (l : List UInt8) (ts : List Lx.T), Scans l (.done ts) → Scans (rp n one ++ l) (.done (rp n G ++ ts)) := by
  intro n
  induction n with
  | zero => intro l ts h; exact h
  | succ n ih => intro l ts h; rw [rp, rp, List.append_assoc, List.append_assoc]; exact h1 _ _ (ih l ts h)
theorem sc_one0 (l : List UInt8) (ts : List Lx.T) (h : Scans l (.done ts)) : Scans ([109, 111, 110, 105, 116, 111, 114, 32, 109, 32, 123, 32, 125] ++ l) (.done ([(⟨3, [109, 111, 110, 105, 116, 111, 114], 0, 0⟩ : Lx.T), (⟨1, [109], 0, 0⟩ : Lx.T), (⟨4, [123], 0, 0⟩ : Lx.T), (⟨4, [125], 0, 0⟩ : Lx.T)] ++ ts)) := by
  refine tok_step 109 _ (⟨3, [109, 111, 110, 105, 116, 111, 114], 0, 0⟩ : Lx.T) _ (by decide) (by decide) rfl rfl ?_
  refine blank_step ?_ _ rfl
  refine tok_step 109 _ (⟨1, [109], 0, 0⟩ : Lx.T) _ (by decide) (by decide) rfl rfl ?_
  refine blank_step ?_ _ rfl
  refine tok_step 123 _ (⟨4, [123], 0, 0⟩ : Lx.T) _ (by decide) (by decide) rfl rfl ?_
  refine blank_step ?_ _ rfl
  refine tok_step 125 _ (⟨4, [125], 0, 0⟩ : Lx.T) _ (by decide) (by decide) rfl rfl ?_
  exact h
theorem sc_one1 (l : List UInt8) (ts : List Lx.T) (h : Scans l (.done ts)) : Scans ([118, 97, 114, 32, 118, 32, 58, 32, 105, 110, 116, 32, 61, 32, 48, 59] ++ l) (.done ([(⟨3, [118, 97, 114], 0, 0⟩ : Lx.T), (⟨1, [118], 0, 0⟩ : Lx.T), (⟨4, [58], 0, 0⟩ : Lx.T), (⟨3, [105, 110, 116], 0, 0⟩ : Lx.T), (⟨4, [61], 0, 0⟩ : Lx.T), (⟨2, [48], 0, 0⟩ : Lx.T), (⟨4, [59], 0, 0⟩ : Lx.T)] ++ ts)) := by
  refine tok_step 118 _ (⟨3, [118, 97, 114], 0, 0⟩ : Lx.T) _ (by decide) (by decide) rfl rfl ?_
  refine blank_step ?_ _ rfl
  refine tok_step 118 _ (⟨1, [118], 0, 0⟩ : Lx.T) _ (by decide) (by decide) rfl rfl ?_
  refine blank_step ?_ _ rfl
  refine tok_step 58 _ (⟨4, [58], 0, 0⟩ : Lx.T) _ (by decide) (by decide) rfl rfl ?_
  refine blank_step ?_ _ rfl
  refine tok_step 105 _ (⟨3, [105, 110, 116], 0, 0⟩ : Lx.T) _ (by decide) (by decide) rfl rfl ?_
  refine blank_step ?_ _ rfl
  refine tok_step 61 _ (⟨4, [61], 0, 0⟩ : Lx.T) _ (by decide) (by decide) rfl rfl ?_
  refine blank_step ?_ _ rfl
  refine tok_step 48 _ (⟨2, [48], 0, 0⟩ : Lx.T) _ (by decide) (by decide) rfl rfl ?_
  refine tok_step 59 _ (⟨4, [59], 0, 0⟩ : Lx.T) _ (by decide) (by decide) rfl rfl ?_
  exact h
theorem sc_one2 (l : List UInt8) (ts : List Lx.T) (h : Scans l (.done ts)) : Scans ([109, 101, 116, 104, 111, 100, 32, 102, 32, 123, 32, 125] ++ l) (.done ([(⟨3, [109, 101, 116, 104, 111, 100], 0, 0⟩ : Lx.T), (⟨1, [102], 0, 0⟩ : Lx.T), (⟨4, [123], 0, 0⟩ : Lx.T), (⟨4, [125], 0, 0⟩ : Lx.T)] ++ ts)) := by
  refine tok_step 109 _ (⟨3, [109, 101, 116, 104, 111, 100], 0, 0⟩ : Lx.T) _ (by decide) (by decide) rfl rfl ?_
  refine blank_step ?_ _ rfl
  refine tok_step 102 _ (⟨1, [102], 0, 0⟩ : Lx.T) _ (by decide) (by decide) rfl rfl ?_
  refine blank_step ?_ _ rfl
  refine tok_step 123 _ (⟨4, [123], 0, 0⟩ : Lx.T) _ (by decide) (by decide) rfl rfl ?_
  refine blank_step ?_ _ rfl
  refine tok_step 125 _ (⟨4, [125], 0, 0⟩ : Lx.T) _ (by decide) (by decide) rfl rfl ?_
  exact h
theorem sc_one3 (l : List UInt8) (ts : List Lx.T) (h : Scans l (.done ts)) : Scans ([116, 104, 114, 101, 97, 100, 32, 116, 32, 42, 32, 123, 32, 125] ++ l) (.done ([(⟨3, [116, 104, 114, 101, 97, 100], 0, 0⟩ : Lx.T), (⟨1, [116], 0, 0⟩ : Lx.T), (⟨4, [42], 0, 0⟩ : Lx.T), (⟨4, [123], 0, 0⟩ : Lx.T), (⟨4, [125], 0, 0⟩ : Lx.T)] ++ ts)) := by
  refine tok_step 116 _ (⟨3, [116, 104, 114, 101, 97, 100], 0, 0⟩ : Lx.T) _ (by decide) (by decide) rfl rfl ?_
  refine blank_step ?_ _ rfl
  refine tok_step 116 _ (⟨1, [116], 0, 0⟩ : Lx.T) _ (by decide) (by decide) rfl rfl ?_
  refine blank_step ?_ _ rfl
  refine tok_step 42 _ (⟨4, [42], 0, 0⟩ : Lx.T) _ (by decide) (by decide) rfl rfl ?_
  refine blank_step ?_ _ rfl
  refine tok_step 123 _ (⟨4, [123], 0, 0⟩ : Lx.T) _ (by decide) (by decide) rfl rfl ?_
  refine blank_step ?_ _ rfl
  refine tok_step 125 _ (⟨4, [125], 0, 0⟩ : Lx.T) _ (by decide) (by decide) rfl rfl ?_
  exact h
theorem sc_one4 (l : List UInt8) (ts : List Lx.T) (h : Scans l (.done ts)) : Scans ([32, 111, 114, 32, 123, 32, 125] ++ l) (.done ([(⟨3, [111, 114], 0, 0⟩ : Lx.T), (⟨4, [123], 0, 0⟩ : Lx.T), (⟨4, [125], 0, 0⟩ : Lx.T)] ++ ts)) := by
  refine blank_step ?_ _ rfl
  refine tok_step 111 _ (⟨3, [111, 114], 0, 0⟩ : Lx.T) _ (by decide) (by decide) rfl rfl ?_
  refine blank_step ?_ _ rfl
  refine tok_step 123 _ (⟨4, [123], 0, 0⟩ : Lx.T) _ (by decide) (by decide) rfl rfl ?_
  refine blank_step ?_ _ rfl
  refine tok_step 125 _ (⟨4, [125], 0, 0⟩ : Lx.T) _ (by decide) (by decide) rfl rfl ?_
  exact h
def manyB0 (n : Nat) : List UInt8 := rp n [109, 111, 110, 105, 116, 111, 114, 32, 109, 32, 123, 32, 125]
theorem sc_many0 (n : Nat) : Scans (manyB0 n) (.done (rp n [(⟨3, [109, 111, 110, 105, 116, 111, 114], 0, 0⟩ : Lx.T), (⟨1, [109], 0, 0⟩ : Lx.T), (⟨4, [123], 0, 0⟩ : Lx.T), (⟨4, [125], 0, 0⟩ : Lx.T)])) := by
  unfold manyB0
  have := sc_rp _ _ sc_one0 n [] [] sc_nil
  rw [List.append_nil, List.append_nil] at this
  exact this
def manyB1 (n : Nat) : List UInt8 := [109, 111, 110, 105, 116, 111, 114, 32, 109, 32, 123] ++ (rp n [118, 97, 114, 32, 118, 32, 58, 32, 105, 110, 116, 32, 61, 32, 48, 59] ++ [125])
theorem sc_many1 (n : Nat) : Scans (manyB1 n) (.done ([(⟨3, [109, 111, 110, 105, 116, 111, 114], 0, 0⟩ : Lx.T), (⟨1, [109], 0, 0⟩ : Lx.T), (⟨4, [123], 0, 0⟩ : Lx.T)] ++ (rp n [(⟨3, [118, 97, 114], 0, 0⟩ : Lx.T), (⟨1, [118], 0, 0⟩ : Lx.T), (⟨4, [58], 0, 0⟩ : Lx.T), (⟨3, [105, 110, 116], 0, 0⟩ : Lx.T), (⟨4, [61], 0, 0⟩ : Lx.T), (⟨2, [48], 0, 0⟩ : Lx.T), (⟨4, [59], 0, 0⟩ : Lx.T)] ++ [(⟨4, [125], 0, 0⟩ : Lx.T)]))) := by
  unfold manyB1
  refine tok_step 109 _ (⟨3, [109, 111, 110, 105, 116, 111, 114], 0, 0⟩ : Lx.T) _ (by decide) (by decide) rfl rfl ?_
  refine blank_step ?_ _ rfl
  refine tok_step 109 _ (⟨1, [109], 0, 0⟩ : Lx.T) _ (by decide) (by decide) rfl rfl ?_
  refine blank_step ?_ _ rfl
  refine tok_step 123 _ (⟨4, [123], 0, 0⟩ : Lx.T) _ (by decide) (by decide) rfl rfl ?_
  exact sc_rp _ _ sc_one1 n _ _ (tok_step 125 _ (⟨4, [125], 0, 0⟩ : Lx.T) _ (by decide) (by decide) rfl rfl sc_nil)
def manyB2 (n : Nat) : List UInt8 := [109, 111, 110, 105, 116, 111, 114, 32, 109, 32, 123] ++ (rp n [109, 101, 116, 104, 111, 100, 32, 102, 32, 123, 32, 125] ++ [125])
theorem sc_many2 (n : Nat) : Scans (manyB2 n) (.done ([(⟨3, [109, 111, 110, 105, 116, 111, 114], 0, 0⟩ : Lx.T), (⟨1, [109], 0, 0⟩ : Lx.T), (⟨4, [123], 0, 0⟩ : Lx.T)] ++ (rp n [(⟨3, [109, 101, 116, 104, 111, 100], 0, 0⟩ : Lx.T), (⟨1, [102], 0, 0⟩ : Lx.T), (⟨4, [123], 0, 0⟩ : Lx.T), (⟨4, [125], 0, 0⟩ : Lx.T)] ++ [(⟨4, [125], 0, 0⟩ : Lx.T)]))) := by
  unfold manyB2
  refine tok_step 109 _ (⟨3, [109, 111, 110, 105, 116, 111, 114], 0, 0⟩ : Lx.T) _ (by decide) (by decide) rfl rfl ?_
  refine blank_step ?_ _ rfl
  refine tok_step 109 _ (⟨1, [109], 0, 0⟩ : Lx.T) _ (by decide) (by decide) rfl rfl ?_
  refine blank_step ?_ _ rfl
  refine tok_step 123 _ (⟨4, [123], 0, 0⟩ : Lx.T) _ (by decide) (by decide) rfl rfl ?_
  exact sc_rp _ _ sc_one2 n _ _ (tok_step 125 _ (⟨4, [125], 0, 0⟩ : Lx.T) _ (by decide) (by decide) rfl rfl sc_nil)
def manyB3 (n : Nat) : List UInt8 := rp n [116, 104, 114, 101, 97, 100, 32, 116, 32, 42, 32, 123, 32, 125]
theorem sc_many3 (n : Nat) : Scans (manyB3 n) (.done (rp n [(⟨3, [116, 104, 114, 101, 97, 100], 0, 0⟩ : Lx.T), (⟨1, [116], 0, 0⟩ : Lx.T), (⟨4, [42], 0, 0⟩ : Lx.T), (⟨4, [123], 0, 0⟩ : Lx.T), (⟨4, [125], 0, 0⟩ : Lx.T)])) := by
  unfold manyB3
  have := sc_rp _ _ sc_one3 n [] [] sc_nil
  rw [List.append_nil, List.append_nil] at this
  exact this
def manyB4 (n : Nat) : List UInt8 := [116, 104, 114, 101, 97, 100, 32, 116, 32, 42, 32, 123, 32, 99, 104, 111, 111, 115, 101, 32, 123, 32, 125] ++ (rp n [32, 111, 114, 32, 123, 32, 125] ++ [125])
theorem sc_many4 (n : Nat) : Scans (manyB4 n) (.done ([(⟨3, [116, 104, 114, 101, 97, 100], 0, 0⟩ : Lx.T), (⟨1, [116], 0, 0⟩ : Lx.T), (⟨4, [42], 0, 0⟩ : Lx.T), (⟨4, [123], 0, 0⟩ : Lx.T), (⟨3, [99, 104, 111, 111, 115, 101], 0, 0⟩ : Lx.T), (⟨4, [123], 0, 0⟩ : Lx.T), (⟨4, [125], 0, 0⟩ : Lx.T)] ++ (rp n [(⟨3, [111, 114], 0, 0⟩ : Lx.T), (⟨4, [123], 0, 0⟩ : Lx.T), (⟨4, [125], 0, 0⟩ : Lx.T)] ++ [(⟨4, [125], 0, 0⟩ : Lx.T)]))) := by
  unfold manyB4
  refine tok_step 116 _ (⟨3, [116, 104, 114, 101, 97, 100], 0, 0⟩ : Lx.T) _ (by decide) (by decide) rfl rfl ?_
  refine blank_step ?_ _ rfl
  refine tok_step 116 _ (⟨1, [116], 0, 0⟩ : Lx.T) _ (by decide) (by decide) rfl rfl ?_
  refine blank_step ?_ _ rfl
  refine tok_step 42 _ (⟨4, [42], 0, 0⟩ : Lx.T) _ (by decide) (by decide) rfl rfl ?_
  refine blank_step ?_ _ rfl
  refine tok_step 123 _ (⟨4, [123], 0, 0⟩ : Lx.T) _ (by decide) (by decide) rfl rfl ?_
  refine blank_step ?_ _ rfl
  refine tok_step 99 _ (⟨3, [99, 104, 111, 111, 115, 101], 0, 0⟩ : Lx.T) _ (by decide) (by decide) rfl rfl ?_
  refine blank_step ?_ _ rfl
  refine tok_step 123 _ (⟨4, [123], 0, 0⟩ : Lx.T) _ (by decide) (by decide) rfl rfl ?_
  refine blank_step ?_ _ rfl
  refine tok_step 125 _ (⟨4, [125], 0, 0⟩ : Lx.T) _ (by decide) (by decide) rfl rfl ?_
  exact sc_rp _ _ sc_one4 n _ _ (tok_step 125 _ (⟨4, [125], 0, 0⟩ : Lx.T) _ (by decide) (by decide) rfl rfl sc_nil)
/-- What is asked of a text with so many. -/
def ManyOk (most n : Nat) (c : Int) : Prop := (n ≤ most → c = 0) ∧ (most < n → c = 6)
theorem many_ok (most n : Nat) (x : Pr × S) (h1 : n ≤ most → ∃ z, x.2 = ⟨[z], 0, 0, 0⟩ ∧ z.kind = 5) (h2 : most < n → Many x.2) : ManyOk most n (wholeOfP x).2.1 := by
  constructor
  · intro h
    obtain ⟨z, hx, hz⟩ := h1 h
    unfold wholeOfP atEnd
    rw [hx, if_pos (show (S.mk [z] 0 0 0).hd.kind = 5 from hz), if_pos rfl]
  · intro h
    have hb := (h2 h).keep (ek_atEnd x.2)
    unfold wholeOfP
    rw [if_neg (by rw [hb]; decide)]
    exact hb
theorem many0 (n : Nat) : ManyOk 8 n (wholeOfP (Pz.program (reader ⟨(manyB0 n).toArray⟩))).2.1 := by
  obtain ⟨l, h1, h2⟩ := reader_of ⟨(manyB0 n).toArray⟩ _ (sc_many0 n)
  obtain ⟨gs, r, rfl, hgl, hg, hr⟩ := groups_of [(⟨3, [109, 111, 110, 105, 116, 111, 114], 0, 0⟩ : Lx.T), (⟨1, [109], 0, 0⟩ : Lx.T), (⟨4, [123], 0, 0⟩ : Lx.T), (⟨4, [125], 0, 0⟩ : Lx.T)] n l [(⟨5, [], 0, 0⟩ : Lx.T)] h2
  obtain ⟨z, rfl, hz5, hze⟩ := end_of hr
  have hlen := len_map h2
  simp only [List.length_append, rp_len, List.length_cons, List.length_nil] at hlen
  rw [h1]
  unfold Pz.program fuel
  obtain ⟨F, hF⟩ : ∃ F, (S.mk (gs.flatten ++ [z]) 0 0 0).rest.length = F := ⟨_, rfl⟩
  have hF2 : gs.length ≤ F := by rw [← hF]; show _ ≤ (gs.flatten ++ [z]).length; rw [List.length_append]; simp only [List.length_cons, List.length_nil]; omega
  rw [hF]
  have hG := fun q hq => grp_mon (3 * F + 10) q (hg q hq)
  refine many_ok 8 n _ (fun hn => ?_) (fun hn => ?_)
  · obtain ⟨x, hx⟩ := progM_ok (3 * F + 10) z hze [] gs F [] hG hF2 (by simp; omega)
    exact ⟨z, by rw [hx], hz5⟩
  · exact progM_many (3 * F + 10) z [] gs F [] hG hF2 (by simp) (by simp; omega)
theorem many3 (n : Nat) : ManyOk 8 n (wholeOfP (Pz.program (reader ⟨(manyB3 n).toArray⟩))).2.1 := by
  obtain ⟨l, h1, h2⟩ := reader_of ⟨(manyB3 n).toArray⟩ _ (sc_many3 n)
  obtain ⟨gs, r, rfl, hgl, hg, hr⟩ := groups_of [(⟨3, [116, 104, 114, 101, 97, 100], 0, 0⟩ : Lx.T), (⟨1, [116], 0, 0⟩ : Lx.T), (⟨4, [42], 0, 0⟩ : Lx.T), (⟨4, [123], 0, 0⟩ : Lx.T), (⟨4, [125], 0, 0⟩ : Lx.T)] n l [(⟨5, [], 0, 0⟩ : Lx.T)] h2
  obtain ⟨z, rfl, hz5, hze⟩ := end_of hr
  have hlen := len_map h2
  simp only [List.length_append, rp_len, List.length_cons, List.length_nil] at hlen
  rw [h1]
  unfold Pz.program fuel
  obtain ⟨F, hF⟩ : ∃ F, (S.mk (gs.flatten ++ [z]) 0 0 0).rest.length = F := ⟨_, rfl⟩
  have hF2 : gs.length ≤ F := by rw [← hF]; show _ ≤ (gs.flatten ++ [z]).length; rw [List.length_append]; simp only [List.length_cons, List.length_nil]; omega
  rw [hF]
  have hG := fun q hq => grp_thr (3 * F + 10) (by omega) q (hg q hq)
  refine many_ok 8 n _ (fun hn => ?_) (fun hn => ?_)
  · obtain ⟨x, hx⟩ := progT_ok (3 * F + 10) z hze [] gs F [] (fun q hq => (hG q hq).1) (fun q hq => (hG q hq).2) hF2 (by simp; omega)
    exact ⟨z, by rw [hx], hz5⟩
  · exact progT_many (3 * F + 10) z [] gs F [] (fun q hq => (hG q hq).1) (fun q hq => (hG q hq).2) hF2 (by simp) (by simp; omega)
theorem many1 (n : Nat) : ManyOk 16 n (wholeOfP (Pz.program (reader ⟨(manyB1 n).toArray⟩))).2.1 := by
  obtain ⟨l, h1, h2⟩ := reader_of ⟨(manyB1 n).toArray⟩ _ (sc_many1 n)
  rcases l with _ | ⟨w, _ | ⟨nm, _ | ⟨a, l⟩⟩⟩
  · simp at h2
  · simp at h2
  · simp at h2
  rw [List.append_assoc, List.append_assoc] at h2
  simp only [List.cons_append, List.nil_append, List.map_cons, List.cons.injEq] at h2
  obtain ⟨e1, e2, e3, h2⟩ := h2
  obtain ⟨gs, r, rfl, hgl, hg, hr⟩ := groups_of [(⟨3, [118, 97, 114], 0, 0⟩ : Lx.T), (⟨1, [118], 0, 0⟩ : Lx.T), (⟨4, [58], 0, 0⟩ : Lx.T), (⟨3, [105, 110, 116], 0, 0⟩ : Lx.T), (⟨4, [61], 0, 0⟩ : Lx.T), (⟨2, [48], 0, 0⟩ : Lx.T), (⟨4, [59], 0, 0⟩ : Lx.T)] n l [(⟨4, [125], 0, 0⟩ : Lx.T), (⟨5, [], 0, 0⟩ : Lx.T)] h2
  rcases r with _ | ⟨b, r⟩
  · simp at hr
  simp only [List.map_cons, List.cons.injEq] at hr
  have hb := tok_of hr.1 s_rbr rfl
  obtain ⟨z, rfl, hz5, hze⟩ := end_of hr.2
  have hlen := len_map h2
  simp only [List.length_append, rp_len, List.length_cons, List.length_nil] at hlen
  have hF2 : gs.length ≤ (gs.flatten ++ b :: [z]).length := by rw [List.length_append]; simp only [List.length_cons, List.length_nil]; omega
  have hw := tok_of e1 k_monitor rfl
  have ha := tok_of e3 s_lbr rfl
  obtain ⟨G, hGd⟩ : ∃ G, fuel ⟨w :: nm :: a :: (gs.flatten ++ b :: [z]), 0, 0, 0⟩ = G := ⟨_, rfl⟩
  have hG1 : 1 ≤ G := by rw [← hGd]; unfold fuel; omega
  have hpr : ∃ f m, (Pz.program ⟨w :: nm :: a :: (gs.flatten ++ b :: [z]), 0, 0, 0⟩).2 = (progF G f m [] (Pz.monitor G ⟨nm :: a :: (gs.flatten ++ b :: [z]), 0, 0, 0⟩).2).2 := by
    unfold Pz.program
    rw [hGd]
    show ∃ f m, (progF G ((nm :: a :: (gs.flatten ++ b :: [z])).length + 1) [] [] _).2 = _
    rw [progF, sees_hd (show is w k_monitor = true from by rw [is_of hw.2]; decide), if_pos rfl]
    unfold oneMore
    rw [show decide (8 ≤ ([] : List Mo).length) = false from rfl, full_fine _ _ _ (by rw [hw.1]; decide)]
    exact ⟨_, _, rfl⟩
  obtain ⟨f, m, hpr⟩ := hpr
  rw [h1]
  refine many_ok 16 n _ (fun hn => ?_) (fun hn => ?_)
  · rw [hpr]
    have hm : ∃ x, members G ⟨gs.flatten ++ b :: [z], 1, 0, 0⟩ = (x, ⟨b :: [z], 1, 0, 0⟩) := by
      obtain ⟨x, hx⟩ := several_ok k_var 16 vari 1 (b :: [z]) (rbr_not hb).1 gs (gs.flatten ++ b :: [z]).length [] (fun q hq => grp_var q (hg q hq)) hF2 (by simp; omega)
      unfold members
      simp only
      rw [hx]
      simp only
      rw [several_none _ _ _ _ _ _ (sees_hd (rbr_not hb).2.1)]
      exact ⟨_, rfl⟩
    obtain ⟨x, hx⟩ := hm
    obtain ⟨y, hy⟩ := monitor_in G nm a _ [z] x b (kind_of e2) ha hb hx
    rw [hy, prog_end _ _ _ _ _ hze]
    exact ⟨z, rfl, hz5⟩
  · rw [hpr]
    have hm : Many (members G ⟨gs.flatten ++ b :: [z], 1, 0, 0⟩).2 := by
      have := several_many k_var 16 vari 1 (b :: [z]) ek.vari gs (gs.flatten ++ b :: [z]).length [] (fun q hq => grp_var q (hg q hq)) hF2 (by simp) (by simp; omega)
      exact this.keep (ek.several _ _ _ (ek.method G) _ _ _)
    refine Many.keep ?_ (ek.progF _ _ _ _ _)
    unfold Pz.monitor
    rw [take_fine nm _ 0 1 (kind_of e2) (by rw [kind_of e2]; decide)]
    unfold enclosed within
    simp only
    rw [enter_fine _ _ _ _ (by rw [is_of ha.2]; decide) (by rw [ha.1]; decide) (by decide), show (0 : Int) + 1 = 1 from rfl]
    exact (hm.keep (ek.less _)).keep (ek.want _ _)
theorem many2 (n : Nat) : ManyOk 16 n (wholeOfP (Pz.program (reader ⟨(manyB2 n).toArray⟩))).2.1 := by
  obtain ⟨l, h1, h2⟩ := reader_of ⟨(manyB2 n).toArray⟩ _ (sc_many2 n)
  rcases l with _ | ⟨w, _ | ⟨nm, _ | ⟨a, l⟩⟩⟩
  · simp at h2
  · simp at h2
  · simp at h2
  rw [List.append_assoc, List.append_assoc] at h2
  simp only [List.cons_append, List.nil_append, List.map_cons, List.cons.injEq] at h2
  obtain ⟨e1, e2, e3, h2⟩ := h2
  obtain ⟨gs, r, rfl, hgl, hg, hr⟩ := groups_of [(⟨3, [109, 101, 116, 104, 111, 100], 0, 0⟩ : Lx.T), (⟨1, [102], 0, 0⟩ : Lx.T), (⟨4, [123], 0, 0⟩ : Lx.T), (⟨4, [125], 0, 0⟩ : Lx.T)] n l [(⟨4, [125], 0, 0⟩ : Lx.T), (⟨5, [], 0, 0⟩ : Lx.T)] h2
  rcases r with _ | ⟨b, r⟩
  · simp at hr
  simp only [List.map_cons, List.cons.injEq] at hr
  have hb := tok_of hr.1 s_rbr rfl
  obtain ⟨z, rfl, hz5, hze⟩ := end_of hr.2
  have hlen := len_map h2
  simp only [List.length_append, rp_len, List.length_cons, List.length_nil] at hlen
  have hF2 : gs.length ≤ (gs.flatten ++ b :: [z]).length := by rw [List.length_append]; simp only [List.length_cons, List.length_nil]; omega
  have hv : (S.mk (gs.flatten ++ b :: [z]) 1 0 0).sees k_var = false := by
    cases gs with
    | nil => exact sees_hd (rbr_not hb).1
    | cons q gs =>
      have hq := hg q (by simp)
      rcases q with _ | ⟨a0, q⟩
      · simp at hq
      · simp only [List.map_cons, List.cons.injEq] at hq
        have hm := tok_of hq.1 k_method rfl
        exact sees_hd (show is a0 k_var = false from by rw [is_of hm.2]; decide)
  have hw := tok_of e1 k_monitor rfl
  have ha := tok_of e3 s_lbr rfl
  obtain ⟨G, hGd⟩ : ∃ G, fuel ⟨w :: nm :: a :: (gs.flatten ++ b :: [z]), 0, 0, 0⟩ = G := ⟨_, rfl⟩
  have hG1 : 1 ≤ G := by rw [← hGd]; unfold fuel; omega
  have hpr : ∃ f m, (Pz.program ⟨w :: nm :: a :: (gs.flatten ++ b :: [z]), 0, 0, 0⟩).2 = (progF G f m [] (Pz.monitor G ⟨nm :: a :: (gs.flatten ++ b :: [z]), 0, 0, 0⟩).2).2 := by
    unfold Pz.program
    rw [hGd]
    show ∃ f m, (progF G ((nm :: a :: (gs.flatten ++ b :: [z])).length + 1) [] [] _).2 = _
    rw [progF, sees_hd (show is w k_monitor = true from by rw [is_of hw.2]; decide), if_pos rfl]
    unfold oneMore
    rw [show decide (8 ≤ ([] : List Mo).length) = false from rfl, full_fine _ _ _ (by rw [hw.1]; decide)]
    exact ⟨_, _, rfl⟩
  obtain ⟨f, m, hpr⟩ := hpr
  rw [h1]
  refine many_ok 16 n _ (fun hn => ?_) (fun hn => ?_)
  · rw [hpr]
    have hm : ∃ x, members G ⟨gs.flatten ++ b :: [z], 1, 0, 0⟩ = (x, ⟨b :: [z], 1, 0, 0⟩) := by
      obtain ⟨x, hx⟩ := several_ok k_method 16 (method G) 1 (b :: [z]) (rbr_not hb).2.1 gs (gs.flatten ++ b :: [z]).length [] (fun q hq => grp_met G hG1 q (hg q hq)) hF2 (by simp; omega)
      unfold members
      simp only
      rw [several_none _ _ _ _ _ _ hv]
      simp only
      rw [hx]
      exact ⟨_, rfl⟩
    obtain ⟨x, hx⟩ := hm
    obtain ⟨y, hy⟩ := monitor_in G nm a _ [z] x b (kind_of e2) ha hb hx
    rw [hy, prog_end _ _ _ _ _ hze]
    exact ⟨z, rfl, hz5⟩
  · rw [hpr]
    have hm : Many (members G ⟨gs.flatten ++ b :: [z], 1, 0, 0⟩).2 := by
      have := several_many k_method 16 (method G) 1 (b :: [z]) (ek.method G) gs (gs.flatten ++ b :: [z]).length [] (fun q hq => grp_met G hG1 q (hg q hq)) hF2 (by simp) (by simp; omega)
      unfold members
      simp only
      rw [several_none _ _ _ _ _ _ hv]
      exact this
    refine Many.keep ?_ (ek.progF _ _ _ _ _)
    unfold Pz.monitor
    rw [take_fine nm _ 0 1 (kind_of e2) (by rw [kind_of e2]; decide)]
    unfold enclosed within
    simp only
    rw [enter_fine _ _ _ _ (by rw [is_of ha.2]; decide) (by rw [ha.1]; decide) (by decide), show (0 : Int) + 1 = 1 from rfl]
    exact (hm.keep (ek.less _)).keep (ek.want _ _)
theorem choose_in (g : Nat) (hg : 1 ≤ g) (k a b : Out) (gs : List (List Out)) (t : List Out) (hk : Tok k 3 k_choose) (ha : Tok a 4 s_lbr) (hb : Tok b 4 s_rbr) (hgs : ∀ q ∈ gs, q.map ofOut = [(⟨3, [111, 114], 0, 0⟩ : Lx.T), (⟨4, [123], 0, 0⟩ : Lx.T), (⟨4, [125], 0, 0⟩ : Lx.T)]) (hlen : gs.length ≤ (gs.flatten ++ t).length) (ht : is (t.headD noTok) k_or = false) : (1 + gs.length ≤ 8 → ∃ x, stChoose (block (stmtsF g [])) ⟨k :: a :: b :: (gs.flatten ++ t), 1, 0, 0⟩ = (x, ⟨t, 1, 0, 0⟩)) ∧ (8 < 1 + gs.length → Many (stChoose (block (stmtsF g [])) ⟨k :: a :: b :: (gs.flatten ++ t), 1, 0, 0⟩).2) := by
  obtain ⟨x, hx⟩ := block_empty g hg a b (gs.flatten ++ t) 1 (by decide) ha hb
  have hone : oneMore [] 8 (block (stmtsF g [])) ⟨k :: a :: b :: (gs.flatten ++ t), 1, 0, 0⟩ = ([x], ⟨gs.flatten ++ t, 1, 0, 0⟩) := by
    unfold oneMore
    rw [show decide (8 ≤ ([] : List Bl).length) = false from rfl, full_fine _ _ _ (by rw [hk.1]; decide), hx]
    rfl
  have hG := fun q hq => grp_or g hg q (hgs q hq)
  unfold stChoose
  simp only
  rw [hone]
  simp only
  constructor
  · intro h
    obtain ⟨y, hy⟩ := several_ok k_or 8 (block (stmtsF g [])) 1 t ht gs (gs.flatten ++ t).length [x] hG hlen (by simp; omega)
    rw [hy]
    exact ⟨_, rfl⟩
  · intro h
    exact several_many k_or 8 (block (stmtsF g [])) 1 t (fun s => ek.block _ (fun s => ek.stmts g [] s) s) gs (gs.flatten ++ t).length [x] hG hlen (by simp) (by simp; omega)
theorem many4 (n : Nat) : ManyOk 7 n (wholeOfP (Pz.program (reader ⟨(manyB4 n).toArray⟩))).2.1 := by
  obtain ⟨l, h1, h2⟩ := reader_of ⟨(manyB4 n).toArray⟩ _ (sc_many4 n)
  rcases l with _ | ⟨w, _ | ⟨nm, _ | ⟨st, _ | ⟨o, _ | ⟨k, _ | ⟨a, _ | ⟨c, l⟩⟩⟩⟩⟩⟩⟩
  · simp at h2
  · simp at h2
  · simp at h2
  · simp at h2
  · simp at h2
  · simp at h2
  · simp at h2
  rw [List.append_assoc, List.append_assoc] at h2
  simp only [List.cons_append, List.nil_append, List.map_cons, List.cons.injEq] at h2
  obtain ⟨e1, e2, e3, e4, e5, e6, e7, h2⟩ := h2
  obtain ⟨gs, r, rfl, hgl, hg, hr⟩ := groups_of [(⟨3, [111, 114], 0, 0⟩ : Lx.T), (⟨4, [123], 0, 0⟩ : Lx.T), (⟨4, [125], 0, 0⟩ : Lx.T)] n l [(⟨4, [125], 0, 0⟩ : Lx.T), (⟨5, [], 0, 0⟩ : Lx.T)] h2
  rcases r with _ | ⟨b, r⟩
  · simp at hr
  simp only [List.map_cons, List.cons.injEq] at hr
  have hb := tok_of hr.1 s_rbr rfl
  obtain ⟨z, rfl, hz5, hze⟩ := end_of hr.2
  have hlen := len_map h2
  simp only [List.length_append, rp_len, List.length_cons, List.length_nil] at hlen
  have hF2 : gs.length ≤ (gs.flatten ++ b :: [z]).length := by rw [List.length_append]; simp only [List.length_cons, List.length_nil]; omega
  have hw := tok_of e1 k_thread rfl
  have hs := tok_of e3 s_star rfl
  have ho := tok_of e4 s_lbr rfl
  have hk := tok_of e5 k_choose rfl
  obtain ⟨G, hGd⟩ : ∃ G, fuel ⟨w :: nm :: st :: o :: k :: a :: c :: (gs.flatten ++ b :: [z]), 0, 0, 0⟩ = G + 2 := ⟨_, rfl⟩
  have hG1 : 1 ≤ G := by unfold fuel at hGd; simp only [List.length_cons] at hGd; omega
  have hch := choose_in (G + 1) (by omega) k a c gs (b :: [z]) hk (tok_of e6 s_lbr rfl) (tok_of e7 s_rbr rfl) hg hF2 (rbr_not hb).2.2
  have h6 : kindOf k = 6 := by unfold kindOf; rw [if_neg (by rw [hk.1]; decide)]; simp only [is_of hk.2]; decide
  have hst : ∃ l, (stmtsF (G + 2) [] ⟨k :: a :: c :: (gs.flatten ++ b :: [z]), 1, 0, 0⟩) = stmtsF (G + 1) l (stChoose (block (stmtsF (G + 1) [])) ⟨k :: a :: c :: (gs.flatten ++ b :: [z]), 1, 0, 0⟩).2 := by
    rw [stmtsF]
    show ∃ l, (if kindOf k = 0 then _ else stmtsF (G + 1) ([] ++ [stAt (stmt _ _ (kindOf k) _).1 k.pos]) (stmt _ _ (kindOf k) _).2) = _
    rw [h6, if_neg (by decide)]
    exact ⟨_, rfl⟩
  obtain ⟨ls, hst⟩ := hst
  have hpr : ∃ f rr, (Pz.program ⟨w :: nm :: st :: o :: k :: a :: c :: (gs.flatten ++ b :: [z]), 0, 0, 0⟩).2 = (progF (G + 2) f [] rr ((stmtsF (G + 2) [] ⟨k :: a :: c :: (gs.flatten ++ b :: [z]), 1, 0, 0⟩).2.less.want s_rbr)).2 := by
    unfold Pz.program
    rw [hGd]
    have := thread_reads (G + 2) (nm :: st :: o :: k :: a :: c :: (gs.flatten ++ b :: [z])).length w nm st (o :: k :: a :: c :: (gs.flatten ++ b :: [z])) hw (kind_of e2) hs
    have hbl : (block (stmtsF (G + 2) []) ⟨o :: k :: a :: c :: (gs.flatten ++ b :: [z]), 0, 0, 0⟩).2 = (stmtsF (G + 2) [] ⟨k :: a :: c :: (gs.flatten ++ b :: [z]), 1, 0, 0⟩).2.less.want s_rbr := by
      unfold block enclosed within
      rw [enter_fine _ _ _ _ (by rw [is_of ho.2]; decide) (by rw [ho.1]; decide) (by decide), show (0 : Int) + 1 = 1 from rfl]
    rw [hbl] at this
    exact ⟨_, _, this⟩
  obtain ⟨f, rr, hpr⟩ := hpr
  rw [h1]
  refine many_ok 7 n _ (fun hn => ?_) (fun hn => ?_)
  · obtain ⟨x, hx⟩ := hch.1 (by omega)
    rw [hpr, hst, hx, stmts_stop G _ _ _ _ hb]
    refine ⟨z, ?_, hz5⟩
    show (progF _ _ _ _ ((S.mk (b :: [z]) (1 - 1) 0 0).want s_rbr)).2 = _
    rw [show (1 : Int) - 1 = 0 from rfl, want_fine _ _ _ _ (by rw [is_of hb.2]; decide) (by rw [hb.1]; decide), prog_end _ _ _ _ _ hze]
  · rw [hpr, hst]
    exact ((((hch.2 (by omega)).keep (ek.stmts _ _ _)).keep (ek.less _)).keep (ek.want _ _)).keep (ek.progF _ _ _ _ _)
end Pz
end Go.Proofs.YtaekbgljbgmchabGreatDoor
namespace Go.Proofs.YtaekbgljbgmchabGreatDoor
open Go.RowKit
open Lx (Out)
open Pz
theorem app_list (a b : ByteArray) : (a ++ b).data.toList = a.data.toList ++ b.data.toList := by simp
set_option maxRecDepth 100000 in
set_option maxHeartbeats 2000000 in
theorem manyWalk_0 (nn : Nat) (w : World) (hn : nn ≤ 30) (c : Int)
    (h5 : ∀ s V, Below w.heap.size w V → s.size ≤ 1000 → s.data.toList = rp nn [109, 111, 110, 105, 116, 111, 114, 32, 109, 32, 123, 32, 125] → Calls Tryz.prog 5 #[.string s] V fun r w' => (∃ a a1 n1 k1 a2 n2 k2, r = .returned (.tuple #[.agg #[.slice a1 n1 k1, .slice a2 n2 k2], .int .i64 c, .int .i64 a])) ∧ Below V.heap.size V w')
    (hnum : ∀ e V, Calls Tryz.prog 6 #[.int .i64 e] V fun r w' => r = .returned (.int .i64 e) ∧ w' = V)
    (hlive : ∀ V, Below w.heap.size w V → Calls Tryz.prog 4 #[] V fun r w' => r = .returned (.bool true) ∧ Below V.heap.size V w')
    (hc : (nn ≤ 8 ∧ c = 0) ∨ (8 < nn ∧ c = 6)) : Calls Tryz.prog 3 #[.int .i64 (nn : Int), .int .i64 0] w fun r w' => r = .returned (.bool true) ∧ Below w.heap.size w w' := by
  have hn0 : decide ((nn : Int) < 0) = false := by simp
  have hn30 : decide ((30 : Int) < (nn : Int)) = false := by simp; omega
  go_enter Tryz.func3, Tryz.ntmps3
  go_wp2
  go_loopw [9, 10] (fun vs vi wr => ∃ (k : Nat) (X : ByteArray), k ≤ nn ∧ vs = .string X ∧ vi = .int .i64 (k : Int) ∧ Hid (X.data.toList = rp k [109, 111, 110, 105, 116, 111, 114, 32, 109, 32, 123, 32, 125]) ∧ X.size ≤ 0 + 13 * k ∧ Below w.heap.size w wr) (fun _ i _ => nn - (intOf i).toNat)
  case atStart => exact ⟨0, _, by omega, rfl, rfl, rfl, Nat.le_refl _, ((((Below.refl _ w).al le_rfl' _).al le_rfl' _).al le_rfl' _).al le_rfl' _⟩
  case round =>
    obtain ⟨k, X, hk, rfl, rfl, HX, hX0, hB⟩ := hrel
    by_cases hlt : k < nn
    · have hlt' : (k : Int) < (nn : Int) := by omega
      have z1 : ¬ 9223372036854775807 < X.size + 13 := by omega
      go_wp2
      go_roundw
      case rel =>
        refine ⟨k + 1, _, by omega, rfl, by go_num, ?_, ?_, hB⟩
        · show _ = _; rw [app_list, HX.out, rp_snoc]
        · rw [ByteArray.size_append]; show X.size + 13 ≤ _; omega
      case measure => simp [intOf]; omega
    · have hkd : decide ((k : Int) < (nn : Int)) = false := by simp; omega
      have hkn : k = nn := by omega
      subst hkn
      have z1 : ¬ 9223372036854775807 < X.size + 0 := by omega
      have z2 : ¬ 9223372036854775807 < X.size := by omega
      obtain ⟨wx, hwx⟩ : ∃ wx : World, wx = wr := ⟨_, rfl⟩
      subst hwx
      have B := hB
      have hX : ∀ V, Below w.heap.size w V → Calls Tryz.prog 5 #[.string (X ++ ⟨#[]⟩)] V fun r w' => (∃ a a1 n1 k1 a2 n2 k2, r = .returned (.tuple #[.agg #[.slice a1 n1 k1, .slice a2 n2 k2], .int .i64 c, .int .i64 a])) ∧ Below V.heap.size V w' := fun V hV => h5 _ V hV (by rw [ByteArray.size_append]; show X.size + 0 ≤ _; omega) (by rw [app_list, HX.out]; exact List.append_nil _)
      clear h5 HX hX0 hB hlt
      rcases hc with ⟨hm, rfl⟩ | ⟨hm, rfl⟩
      · have hm1 : decide ((8 : Int) < (k : Int)) = false := by simp; omega
        have hm2 : (k : Int) ≤ 8 := by omega
        go_wp2_with (first
          | (go_at_call 5; (with_reducible refine (hX _ B).mono ?_); rintro r w2 ⟨⟨a, a1, n1, k1, a2, n2, k2, rfl⟩, bb⟩; have B := B.tr le_rfl' bb; have B := B.al le_rfl' (.cells #[.slice a1 n1 k1, .slice a2 n2 k2] 28))
          | (go_at_call 6; (with_reducible refine (hnum _ _).mono ?_); rintro r w' ⟨rfl, hw'⟩; subst hw')
          | (go_at_call 4; (with_reducible refine (hlive _ B).mono ?_); rintro r w5 ⟨rfl, bb⟩; have B := B.tr le_rfl' bb))
        go_ret
        exact ⟨rfl, B⟩
      · have hm1 : (8 : Int) < (k : Int) := by omega
        have hm2 : decide ((k : Int) ≤ 8) = false := by simp; omega
        go_wp2_with (first
          | (go_at_call 5; (with_reducible refine (hX _ B).mono ?_); rintro r w2 ⟨⟨a, a1, n1, k1, a2, n2, k2, rfl⟩, bb⟩; have B := B.tr le_rfl' bb; have B := B.al le_rfl' (.cells #[.slice a1 n1 k1, .slice a2 n2 k2] 28))
          | (go_at_call 6; (with_reducible refine (hnum _ _).mono ?_); rintro r w' ⟨rfl, hw'⟩; subst hw')
          | (go_at_call 4; (with_reducible refine (hlive _ B).mono ?_); rintro r w5 ⟨rfl, bb⟩; have B := B.tr le_rfl' bb))
        go_ret
        exact ⟨rfl, B⟩
set_option maxRecDepth 100000 in
set_option maxHeartbeats 2000000 in
theorem manyWalk_1 (nn : Nat) (w : World) (hn : nn ≤ 30) (c : Int)
    (h5 : ∀ s V, Below w.heap.size w V → s.size ≤ 1000 → s.data.toList = [109, 111, 110, 105, 116, 111, 114, 32, 109, 32, 123] ++ (rp nn [118, 97, 114, 32, 118, 32, 58, 32, 105, 110, 116, 32, 61, 32, 48, 59] ++ [125]) → Calls Tryz.prog 5 #[.string s] V fun r w' => (∃ a a1 n1 k1 a2 n2 k2, r = .returned (.tuple #[.agg #[.slice a1 n1 k1, .slice a2 n2 k2], .int .i64 c, .int .i64 a])) ∧ Below V.heap.size V w')
    (hnum : ∀ e V, Calls Tryz.prog 6 #[.int .i64 e] V fun r w' => r = .returned (.int .i64 e) ∧ w' = V)
    (hlive : ∀ V, Below w.heap.size w V → Calls Tryz.prog 4 #[] V fun r w' => r = .returned (.bool true) ∧ Below V.heap.size V w')
    (hc : (nn ≤ 16 ∧ c = 0) ∨ (16 < nn ∧ c = 6)) : Calls Tryz.prog 3 #[.int .i64 (nn : Int), .int .i64 1] w fun r w' => r = .returned (.bool true) ∧ Below w.heap.size w w' := by
  have hn0 : decide ((nn : Int) < 0) = false := by simp
  have hn30 : decide ((30 : Int) < (nn : Int)) = false := by simp; omega
  go_enter Tryz.func3, Tryz.ntmps3
  go_wp2
  go_loopw [9, 10] (fun vs vi wr => ∃ (k : Nat) (X : ByteArray), k ≤ nn ∧ vs = .string X ∧ vi = .int .i64 (k : Int) ∧ Hid (X.data.toList = [109, 111, 110, 105, 116, 111, 114, 32, 109, 32, 123] ++ rp k [118, 97, 114, 32, 118, 32, 58, 32, 105, 110, 116, 32, 61, 32, 48, 59]) ∧ X.size ≤ 11 + 16 * k ∧ Below w.heap.size w wr) (fun _ i _ => nn - (intOf i).toNat)
  case atStart => exact ⟨0, _, by omega, rfl, rfl, rfl, Nat.le_refl _, ((((Below.refl _ w).al le_rfl' _).al le_rfl' _).al le_rfl' _).al le_rfl' _⟩
  case round =>
    obtain ⟨k, X, hk, rfl, rfl, HX, hX0, hB⟩ := hrel
    by_cases hlt : k < nn
    · have hlt' : (k : Int) < (nn : Int) := by omega
      have z1 : ¬ 9223372036854775807 < X.size + 16 := by omega
      go_wp2
      go_roundw
      case rel =>
        refine ⟨k + 1, _, by omega, rfl, by go_num, ?_, ?_, hB⟩
        · show _ = _; rw [app_list, HX.out, rp_snoc]; simp
        · rw [ByteArray.size_append]; show X.size + 16 ≤ _; omega
      case measure => simp [intOf]; omega
    · have hkd : decide ((k : Int) < (nn : Int)) = false := by simp; omega
      have hkn : k = nn := by omega
      subst hkn
      have z1 : ¬ 9223372036854775807 < X.size + 1 := by omega
      have z2 : ¬ 9223372036854775807 < X.size := by omega
      obtain ⟨wx, hwx⟩ : ∃ wx : World, wx = wr := ⟨_, rfl⟩
      subst hwx
      have B := hB
      have hX : ∀ V, Below w.heap.size w V → Calls Tryz.prog 5 #[.string (X ++ ⟨#[125]⟩)] V fun r w' => (∃ a a1 n1 k1 a2 n2 k2, r = .returned (.tuple #[.agg #[.slice a1 n1 k1, .slice a2 n2 k2], .int .i64 c, .int .i64 a])) ∧ Below V.heap.size V w' := fun V hV => h5 _ V hV (by rw [ByteArray.size_append]; show X.size + 1 ≤ _; omega) (by rw [app_list, HX.out]; simp)
      clear h5 HX hX0 hB hlt
      rcases hc with ⟨hm, rfl⟩ | ⟨hm, rfl⟩
      · have hm1 : decide ((16 : Int) < (k : Int)) = false := by simp; omega
        have hm2 : (k : Int) ≤ 16 := by omega
        go_wp2_with (first
          | (go_at_call 5; (with_reducible refine (hX _ B).mono ?_); rintro r w2 ⟨⟨a, a1, n1, k1, a2, n2, k2, rfl⟩, bb⟩; have B := B.tr le_rfl' bb; have B := B.al le_rfl' (.cells #[.slice a1 n1 k1, .slice a2 n2 k2] 28))
          | (go_at_call 6; (with_reducible refine (hnum _ _).mono ?_); rintro r w' ⟨rfl, hw'⟩; subst hw')
          | (go_at_call 4; (with_reducible refine (hlive _ B).mono ?_); rintro r w5 ⟨rfl, bb⟩; have B := B.tr le_rfl' bb))
        go_ret
        exact ⟨rfl, B⟩
      · have hm1 : (16 : Int) < (k : Int) := by omega
        have hm2 : decide ((k : Int) ≤ 16) = false := by simp; omega
        go_wp2_with (first
          | (go_at_call 5; (with_reducible refine (hX _ B).mono ?_); rintro r w2 ⟨⟨a, a1, n1, k1, a2, n2, k2, rfl⟩, bb⟩; have B := B.tr le_rfl' bb; have B := B.al le_rfl' (.cells #[.slice a1 n1 k1, .slice a2 n2 k2] 28))
          | (go_at_call 6; (with_reducible refine (hnum _ _).mono ?_); rintro r w' ⟨rfl, hw'⟩; subst hw')
          | (go_at_call 4; (with_reducible refine (hlive _ B).mono ?_); rintro r w5 ⟨rfl, bb⟩; have B := B.tr le_rfl' bb))
        go_ret
        exact ⟨rfl, B⟩
set_option maxRecDepth 100000 in
set_option maxHeartbeats 2000000 in
theorem manyWalk_2 (nn : Nat) (w : World) (hn : nn ≤ 30) (c : Int)
    (h5 : ∀ s V, Below w.heap.size w V → s.size ≤ 1000 → s.data.toList = [109, 111, 110, 105, 116, 111, 114, 32, 109, 32, 123] ++ (rp nn [109, 101, 116, 104, 111, 100, 32, 102, 32, 123, 32, 125] ++ [125]) → Calls Tryz.prog 5 #[.string s] V fun r w' => (∃ a a1 n1 k1 a2 n2 k2, r = .returned (.tuple #[.agg #[.slice a1 n1 k1, .slice a2 n2 k2], .int .i64 c, .int .i64 a])) ∧ Below V.heap.size V w')
    (hnum : ∀ e V, Calls Tryz.prog 6 #[.int .i64 e] V fun r w' => r = .returned (.int .i64 e) ∧ w' = V)
    (hlive : ∀ V, Below w.heap.size w V → Calls Tryz.prog 4 #[] V fun r w' => r = .returned (.bool true) ∧ Below V.heap.size V w')
    (hc : (nn ≤ 16 ∧ c = 0) ∨ (16 < nn ∧ c = 6)) : Calls Tryz.prog 3 #[.int .i64 (nn : Int), .int .i64 2] w fun r w' => r = .returned (.bool true) ∧ Below w.heap.size w w' := by
  have hn0 : decide ((nn : Int) < 0) = false := by simp
  have hn30 : decide ((30 : Int) < (nn : Int)) = false := by simp; omega
  go_enter Tryz.func3, Tryz.ntmps3
  go_wp2
  go_loopw [9, 10] (fun vs vi wr => ∃ (k : Nat) (X : ByteArray), k ≤ nn ∧ vs = .string X ∧ vi = .int .i64 (k : Int) ∧ Hid (X.data.toList = [109, 111, 110, 105, 116, 111, 114, 32, 109, 32, 123] ++ rp k [109, 101, 116, 104, 111, 100, 32, 102, 32, 123, 32, 125]) ∧ X.size ≤ 11 + 12 * k ∧ Below w.heap.size w wr) (fun _ i _ => nn - (intOf i).toNat)
  case atStart => exact ⟨0, _, by omega, rfl, rfl, rfl, Nat.le_refl _, ((((Below.refl _ w).al le_rfl' _).al le_rfl' _).al le_rfl' _).al le_rfl' _⟩
  case round =>
    obtain ⟨k, X, hk, rfl, rfl, HX, hX0, hB⟩ := hrel
    by_cases hlt : k < nn
    · have hlt' : (k : Int) < (nn : Int) := by omega
      have z1 : ¬ 9223372036854775807 < X.size + 12 := by omega
      go_wp2
      go_roundw
      case rel =>
        refine ⟨k + 1, _, by omega, rfl, by go_num, ?_, ?_, hB⟩
        · show _ = _; rw [app_list, HX.out, rp_snoc]; simp
        · rw [ByteArray.size_append]; show X.size + 12 ≤ _; omega
      case measure => simp [intOf]; omega
    · have hkd : decide ((k : Int) < (nn : Int)) = false := by simp; omega
      have hkn : k = nn := by omega
      subst hkn
      have z1 : ¬ 9223372036854775807 < X.size + 1 := by omega
      have z2 : ¬ 9223372036854775807 < X.size := by omega
      obtain ⟨wx, hwx⟩ : ∃ wx : World, wx = wr := ⟨_, rfl⟩
      subst hwx
      have B := hB
      have hX : ∀ V, Below w.heap.size w V → Calls Tryz.prog 5 #[.string (X ++ ⟨#[125]⟩)] V fun r w' => (∃ a a1 n1 k1 a2 n2 k2, r = .returned (.tuple #[.agg #[.slice a1 n1 k1, .slice a2 n2 k2], .int .i64 c, .int .i64 a])) ∧ Below V.heap.size V w' := fun V hV => h5 _ V hV (by rw [ByteArray.size_append]; show X.size + 1 ≤ _; omega) (by rw [app_list, HX.out]; simp)
      clear h5 HX hX0 hB hlt
      rcases hc with ⟨hm, rfl⟩ | ⟨hm, rfl⟩
      · have hm1 : decide ((16 : Int) < (k : Int)) = false := by simp; omega
        have hm2 : (k : Int) ≤ 16 := by omega
        go_wp2_with (first
          | (go_at_call 5; (with_reducible refine (hX _ B).mono ?_); rintro r w2 ⟨⟨a, a1, n1, k1, a2, n2, k2, rfl⟩, bb⟩; have B := B.tr le_rfl' bb; have B := B.al le_rfl' (.cells #[.slice a1 n1 k1, .slice a2 n2 k2] 28))
          | (go_at_call 6; (with_reducible refine (hnum _ _).mono ?_); rintro r w' ⟨rfl, hw'⟩; subst hw')
          | (go_at_call 4; (with_reducible refine (hlive _ B).mono ?_); rintro r w5 ⟨rfl, bb⟩; have B := B.tr le_rfl' bb))
        go_ret
        exact ⟨rfl, B⟩
      · have hm1 : (16 : Int) < (k : Int) := by omega
        have hm2 : decide ((k : Int) ≤ 16) = false := by simp; omega
        go_wp2_with (first
          | (go_at_call 5; (with_reducible refine (hX _ B).mono ?_); rintro r w2 ⟨⟨a, a1, n1, k1, a2, n2, k2, rfl⟩, bb⟩; have B := B.tr le_rfl' bb; have B := B.al le_rfl' (.cells #[.slice a1 n1 k1, .slice a2 n2 k2] 28))
          | (go_at_call 6; (with_reducible refine (hnum _ _).mono ?_); rintro r w' ⟨rfl, hw'⟩; subst hw')
          | (go_at_call 4; (with_reducible refine (hlive _ B).mono ?_); rintro r w5 ⟨rfl, bb⟩; have B := B.tr le_rfl' bb))
        go_ret
        exact ⟨rfl, B⟩
set_option maxRecDepth 100000 in
set_option maxHeartbeats 2000000 in
theorem manyWalk_3 (nn : Nat) (w : World) (hn : nn ≤ 30) (c : Int)
    (h5 : ∀ s V, Below w.heap.size w V → s.size ≤ 1000 → s.data.toList = rp nn [116, 104, 114, 101, 97, 100, 32, 116, 32, 42, 32, 123, 32, 125] → Calls Tryz.prog 5 #[.string s] V fun r w' => (∃ a a1 n1 k1 a2 n2 k2, r = .returned (.tuple #[.agg #[.slice a1 n1 k1, .slice a2 n2 k2], .int .i64 c, .int .i64 a])) ∧ Below V.heap.size V w')
    (hnum : ∀ e V, Calls Tryz.prog 6 #[.int .i64 e] V fun r w' => r = .returned (.int .i64 e) ∧ w' = V)
    (hlive : ∀ V, Below w.heap.size w V → Calls Tryz.prog 4 #[] V fun r w' => r = .returned (.bool true) ∧ Below V.heap.size V w')
    (hc : (nn ≤ 8 ∧ c = 0) ∨ (8 < nn ∧ c = 6)) : Calls Tryz.prog 3 #[.int .i64 (nn : Int), .int .i64 3] w fun r w' => r = .returned (.bool true) ∧ Below w.heap.size w w' := by
  have hn0 : decide ((nn : Int) < 0) = false := by simp
  have hn30 : decide ((30 : Int) < (nn : Int)) = false := by simp; omega
  go_enter Tryz.func3, Tryz.ntmps3
  go_wp2
  go_loopw [9, 10] (fun vs vi wr => ∃ (k : Nat) (X : ByteArray), k ≤ nn ∧ vs = .string X ∧ vi = .int .i64 (k : Int) ∧ Hid (X.data.toList = rp k [116, 104, 114, 101, 97, 100, 32, 116, 32, 42, 32, 123, 32, 125]) ∧ X.size ≤ 0 + 14 * k ∧ Below w.heap.size w wr) (fun _ i _ => nn - (intOf i).toNat)
  case atStart => exact ⟨0, _, by omega, rfl, rfl, rfl, Nat.le_refl _, ((((Below.refl _ w).al le_rfl' _).al le_rfl' _).al le_rfl' _).al le_rfl' _⟩
  case round =>
    obtain ⟨k, X, hk, rfl, rfl, HX, hX0, hB⟩ := hrel
    by_cases hlt : k < nn
    · have hlt' : (k : Int) < (nn : Int) := by omega
      have z1 : ¬ 9223372036854775807 < X.size + 14 := by omega
      go_wp2
      go_roundw
      case rel =>
        refine ⟨k + 1, _, by omega, rfl, by go_num, ?_, ?_, hB⟩
        · show _ = _; rw [app_list, HX.out, rp_snoc]
        · rw [ByteArray.size_append]; show X.size + 14 ≤ _; omega
      case measure => simp [intOf]; omega
    · have hkd : decide ((k : Int) < (nn : Int)) = false := by simp; omega
      have hkn : k = nn := by omega
      subst hkn
      have z1 : ¬ 9223372036854775807 < X.size + 0 := by omega
      have z2 : ¬ 9223372036854775807 < X.size := by omega
      obtain ⟨wx, hwx⟩ : ∃ wx : World, wx = wr := ⟨_, rfl⟩
      subst hwx
      have B := hB
      have hX : ∀ V, Below w.heap.size w V → Calls Tryz.prog 5 #[.string (X ++ ⟨#[]⟩)] V fun r w' => (∃ a a1 n1 k1 a2 n2 k2, r = .returned (.tuple #[.agg #[.slice a1 n1 k1, .slice a2 n2 k2], .int .i64 c, .int .i64 a])) ∧ Below V.heap.size V w' := fun V hV => h5 _ V hV (by rw [ByteArray.size_append]; show X.size + 0 ≤ _; omega) (by rw [app_list, HX.out]; exact List.append_nil _)
      clear h5 HX hX0 hB hlt
      rcases hc with ⟨hm, rfl⟩ | ⟨hm, rfl⟩
      · have hm1 : decide ((8 : Int) < (k : Int)) = false := by simp; omega
        have hm2 : (k : Int) ≤ 8 := by omega
        go_wp2_with (first
          | (go_at_call 5; (with_reducible refine (hX _ B).mono ?_); rintro r w2 ⟨⟨a, a1, n1, k1, a2, n2, k2, rfl⟩, bb⟩; have B := B.tr le_rfl' bb; have B := B.al le_rfl' (.cells #[.slice a1 n1 k1, .slice a2 n2 k2] 28))
          | (go_at_call 6; (with_reducible refine (hnum _ _).mono ?_); rintro r w' ⟨rfl, hw'⟩; subst hw')
          | (go_at_call 4; (with_reducible refine (hlive _ B).mono ?_); rintro r w5 ⟨rfl, bb⟩; have B := B.tr le_rfl' bb))
        go_ret
        exact ⟨rfl, B⟩
      · have hm1 : (8 : Int) < (k : Int) := by omega
        have hm2 : decide ((k : Int) ≤ 8) = false := by simp; omega
        go_wp2_with (first
          | (go_at_call 5; (with_reducible refine (hX _ B).mono ?_); rintro r w2 ⟨⟨a, a1, n1, k1, a2, n2, k2, rfl⟩, bb⟩; have B := B.tr le_rfl' bb; have B := B.al le_rfl' (.cells #[.slice a1 n1 k1, .slice a2 n2 k2] 28))
          | (go_at_call 6; (with_reducible refine (hnum _ _).mono ?_); rintro r w' ⟨rfl, hw'⟩; subst hw')
          | (go_at_call 4; (with_reducible refine (hlive _ B).mono ?_); rintro r w5 ⟨rfl, bb⟩; have B := B.tr le_rfl' bb))
        go_ret
        exact ⟨rfl, B⟩
set_option maxRecDepth 100000 in
set_option maxHeartbeats 2000000 in
theorem manyWalk_4 (nn : Nat) (w : World) (hn : nn ≤ 30) (c : Int)
    (h5 : ∀ s V, Below w.heap.size w V → s.size ≤ 1000 → s.data.toList = [116, 104, 114, 101, 97, 100, 32, 116, 32, 42, 32, 123, 32, 99, 104, 111, 111, 115, 101, 32, 123, 32, 125] ++ (rp nn [32, 111, 114, 32, 123, 32, 125] ++ [125]) → Calls Tryz.prog 5 #[.string s] V fun r w' => (∃ a a1 n1 k1 a2 n2 k2, r = .returned (.tuple #[.agg #[.slice a1 n1 k1, .slice a2 n2 k2], .int .i64 c, .int .i64 a])) ∧ Below V.heap.size V w')
    (hnum : ∀ e V, Calls Tryz.prog 6 #[.int .i64 e] V fun r w' => r = .returned (.int .i64 e) ∧ w' = V)
    (hlive : ∀ V, Below w.heap.size w V → Calls Tryz.prog 4 #[] V fun r w' => r = .returned (.bool true) ∧ Below V.heap.size V w')
    (hc : (nn ≤ 7 ∧ c = 0) ∨ (7 < nn ∧ c = 6)) : Calls Tryz.prog 3 #[.int .i64 (nn : Int), .int .i64 4] w fun r w' => r = .returned (.bool true) ∧ Below w.heap.size w w' := by
  have hn0 : decide ((nn : Int) < 0) = false := by simp
  have hn30 : decide ((30 : Int) < (nn : Int)) = false := by simp; omega
  go_enter Tryz.func3, Tryz.ntmps3
  go_wp2
  go_loopw [9, 10] (fun vs vi wr => ∃ (k : Nat) (X : ByteArray), k ≤ nn ∧ vs = .string X ∧ vi = .int .i64 (k : Int) ∧ Hid (X.data.toList = [116, 104, 114, 101, 97, 100, 32, 116, 32, 42, 32, 123, 32, 99, 104, 111, 111, 115, 101, 32, 123, 32, 125] ++ rp k [32, 111, 114, 32, 123, 32, 125]) ∧ X.size ≤ 23 + 7 * k ∧ Below w.heap.size w wr) (fun _ i _ => nn - (intOf i).toNat)
  case atStart => exact ⟨0, _, by omega, rfl, rfl, rfl, Nat.le_refl _, ((((Below.refl _ w).al le_rfl' _).al le_rfl' _).al le_rfl' _).al le_rfl' _⟩
  case round =>
    obtain ⟨k, X, hk, rfl, rfl, HX, hX0, hB⟩ := hrel
    by_cases hlt : k < nn
    · have hlt' : (k : Int) < (nn : Int) := by omega
      have z1 : ¬ 9223372036854775807 < X.size + 7 := by omega
      go_wp2
      go_roundw
      case rel =>
        refine ⟨k + 1, _, by omega, rfl, by go_num, ?_, ?_, hB⟩
        · show _ = _; rw [app_list, HX.out, rp_snoc]; simp
        · rw [ByteArray.size_append]; show X.size + 7 ≤ _; omega
      case measure => simp [intOf]; omega
    · have hkd : decide ((k : Int) < (nn : Int)) = false := by simp; omega
      have hkn : k = nn := by omega
      subst hkn
      have z1 : ¬ 9223372036854775807 < X.size + 1 := by omega
      have z2 : ¬ 9223372036854775807 < X.size := by omega
      obtain ⟨wx, hwx⟩ : ∃ wx : World, wx = wr := ⟨_, rfl⟩
      subst hwx
      have B := hB
      have hX : ∀ V, Below w.heap.size w V → Calls Tryz.prog 5 #[.string (X ++ ⟨#[125]⟩)] V fun r w' => (∃ a a1 n1 k1 a2 n2 k2, r = .returned (.tuple #[.agg #[.slice a1 n1 k1, .slice a2 n2 k2], .int .i64 c, .int .i64 a])) ∧ Below V.heap.size V w' := fun V hV => h5 _ V hV (by rw [ByteArray.size_append]; show X.size + 1 ≤ _; omega) (by rw [app_list, HX.out]; simp)
      clear h5 HX hX0 hB hlt
      rcases hc with ⟨hm, rfl⟩ | ⟨hm, rfl⟩
      · have hm1 : decide ((7 : Int) < (k : Int)) = false := by simp; omega
        have hm2 : (k : Int) ≤ 7 := by omega
        go_wp2_with (first
          | (go_at_call 5; (with_reducible refine (hX _ B).mono ?_); rintro r w2 ⟨⟨a, a1, n1, k1, a2, n2, k2, rfl⟩, bb⟩; have B := B.tr le_rfl' bb; have B := B.al le_rfl' (.cells #[.slice a1 n1 k1, .slice a2 n2 k2] 28))
          | (go_at_call 6; (with_reducible refine (hnum _ _).mono ?_); rintro r w' ⟨rfl, hw'⟩; subst hw')
          | (go_at_call 4; (with_reducible refine (hlive _ B).mono ?_); rintro r w5 ⟨rfl, bb⟩; have B := B.tr le_rfl' bb))
        go_ret
        exact ⟨rfl, B⟩
      · have hm1 : (7 : Int) < (k : Int) := by omega
        have hm2 : decide ((k : Int) ≤ 7) = false := by simp; omega
        go_wp2_with (first
          | (go_at_call 5; (with_reducible refine (hX _ B).mono ?_); rintro r w2 ⟨⟨a, a1, n1, k1, a2, n2, k2, rfl⟩, bb⟩; have B := B.tr le_rfl' bb; have B := B.al le_rfl' (.cells #[.slice a1 n1 k1, .slice a2 n2 k2] 28))
          | (go_at_call 6; (with_reducible refine (hnum _ _).mono ?_); rintro r w' ⟨rfl, hw'⟩; subst hw')
          | (go_at_call 4; (with_reducible refine (hlive _ B).mono ?_); rintro r w5 ⟨rfl, bb⟩; have B := B.tr le_rfl' bb))
        go_ret
        exact ⟨rfl, B⟩
end Go.Proofs.YtaekbgljbgmchabGreatDoor
namespace Go.Proofs.YtaekbgljbgmchabGreatDoor
open Go.RowKit
open Lx (Out)
open Pz
/-- What parse.Parse hands back, but for the tree and the place. -/
theorem prog_code (s : ByteArray) (c : Int) (w : World) (hs : s.size ≤ 20000) (hE : HasErr w) (hO : Opers w) (h : (wholeOfP (Pz.program (reader s))).2.1 = c) : Calls Tryz.prog 5 #[.string s] w fun r w' => (∃ a a1 n1 k1 a2 n2 k2, r = .returned (.tuple #[.agg #[.slice a1 n1 k1, .slice a2 n2 k2], .int .i64 c, .int .i64 a])) ∧ Below w.heap.size w w' := by
  refine (parse_any s w hs hE hO).mono ?_
  rintro r w1 ⟨⟨mad, mcp, lm, rad, rcp, lr, rfl, hclr, hBy⟩, b1⟩
  rw [h]
  exact ⟨⟨_, _, _, _, _, _, _, rfl⟩, b1⟩
theorem bytes_eq {a : ByteArray} {l : List UInt8} (h : a.data.toList = l) : a = ⟨l.toArray⟩ := ByteArray.ext (by rw [← h])
theorem parseMany_0 (nn : Nat) (w : World) (hn : nn ≤ 30) (hE : HasErr w) (hO : Opers w) : Calls Tryz.prog 3 #[.int .i64 (nn : Int), .int .i64 0] w fun r w' => r = .returned (.bool true) ∧ Below w.heap.size w w' := by
  obtain ⟨c, hc⟩ : ∃ c, (wholeOfP (Pz.program (reader ⟨(manyB0 nn).toArray⟩))).2.1 = c := ⟨_, rfl⟩
  have h1 := many0 nn
  rw [hc] at h1
  refine manyWalk_0 nn w hn c (fun s V hV hs hl => prog_code s c V (by omega) (hE.after hV) (hO.below hV) ?_) num_c (fun V hV => live_any V (hE.after hV) (hO.below hV)) ?_
  · rw [bytes_eq hl]; exact hc
  · rcases Nat.lt_or_ge 8 nn with h | h
    · exact .inr ⟨h, h1.2 h⟩
    · exact .inl ⟨h, h1.1 h⟩
theorem parseMany_1 (nn : Nat) (w : World) (hn : nn ≤ 30) (hE : HasErr w) (hO : Opers w) : Calls Tryz.prog 3 #[.int .i64 (nn : Int), .int .i64 1] w fun r w' => r = .returned (.bool true) ∧ Below w.heap.size w w' := by
  obtain ⟨c, hc⟩ : ∃ c, (wholeOfP (Pz.program (reader ⟨(manyB1 nn).toArray⟩))).2.1 = c := ⟨_, rfl⟩
  have h1 := many1 nn
  rw [hc] at h1
  refine manyWalk_1 nn w hn c (fun s V hV hs hl => prog_code s c V (by omega) (hE.after hV) (hO.below hV) ?_) num_c (fun V hV => live_any V (hE.after hV) (hO.below hV)) ?_
  · rw [bytes_eq hl]; exact hc
  · rcases Nat.lt_or_ge 16 nn with h | h
    · exact .inr ⟨h, h1.2 h⟩
    · exact .inl ⟨h, h1.1 h⟩
theorem parseMany_2 (nn : Nat) (w : World) (hn : nn ≤ 30) (hE : HasErr w) (hO : Opers w) : Calls Tryz.prog 3 #[.int .i64 (nn : Int), .int .i64 2] w fun r w' => r = .returned (.bool true) ∧ Below w.heap.size w w' := by
  obtain ⟨c, hc⟩ : ∃ c, (wholeOfP (Pz.program (reader ⟨(manyB2 nn).toArray⟩))).2.1 = c := ⟨_, rfl⟩
  have h1 := many2 nn
  rw [hc] at h1
  refine manyWalk_2 nn w hn c (fun s V hV hs hl => prog_code s c V (by omega) (hE.after hV) (hO.below hV) ?_) num_c (fun V hV => live_any V (hE.after hV) (hO.below hV)) ?_
  · rw [bytes_eq hl]; exact hc
  · rcases Nat.lt_or_ge 16 nn with h | h
    · exact .inr ⟨h, h1.2 h⟩
    · exact .inl ⟨h, h1.1 h⟩
theorem parseMany_3 (nn : Nat) (w : World) (hn : nn ≤ 30) (hE : HasErr w) (hO : Opers w) : Calls Tryz.prog 3 #[.int .i64 (nn : Int), .int .i64 3] w fun r w' => r = .returned (.bool true) ∧ Below w.heap.size w w' := by
  obtain ⟨c, hc⟩ : ∃ c, (wholeOfP (Pz.program (reader ⟨(manyB3 nn).toArray⟩))).2.1 = c := ⟨_, rfl⟩
  have h1 := many3 nn
  rw [hc] at h1
  refine manyWalk_3 nn w hn c (fun s V hV hs hl => prog_code s c V (by omega) (hE.after hV) (hO.below hV) ?_) num_c (fun V hV => live_any V (hE.after hV) (hO.below hV)) ?_
  · rw [bytes_eq hl]; exact hc
  · rcases Nat.lt_or_ge 8 nn with h | h
    · exact .inr ⟨h, h1.2 h⟩
    · exact .inl ⟨h, h1.1 h⟩
theorem parseMany_4 (nn : Nat) (w : World) (hn : nn ≤ 30) (hE : HasErr w) (hO : Opers w) : Calls Tryz.prog 3 #[.int .i64 (nn : Int), .int .i64 4] w fun r w' => r = .returned (.bool true) ∧ Below w.heap.size w w' := by
  obtain ⟨c, hc⟩ : ∃ c, (wholeOfP (Pz.program (reader ⟨(manyB4 nn).toArray⟩))).2.1 = c := ⟨_, rfl⟩
  have h1 := many4 nn
  rw [hc] at h1
  refine manyWalk_4 nn w hn c (fun s V hV hs hl => prog_code s c V (by omega) (hE.after hV) (hO.below hV) ?_) num_c (fun V hV => live_any V (hE.after hV) (hO.below hV)) ?_
  · rw [bytes_eq hl]; exact hc
  · rcases Nat.lt_or_ge 7 nn with h | h
    · exact .inr ⟨h, h1.2 h⟩
    · exact .inl ⟨h, h1.1 h⟩
set_option maxRecDepth 100000 in
set_option maxHeartbeats 2000000 in
theorem parseMany_walk (n kind : Int) (w : World) (hE : HasErr w) (hO : Opers w) : Calls Tryz.prog 3 #[.int .i64 n, .int .i64 kind] w fun r w' => r = .returned (.bool true) ∧ Below w.heap.size w w' := by
  by_cases hin : (0 ≤ n ∧ n ≤ 30) ∧ 0 ≤ kind ∧ kind ≤ 4
  · obtain ⟨⟨h1, h2⟩, h3, h4⟩ := hin
    obtain ⟨nn, rfl⟩ : ∃ nn : Nat, n = (nn : Int) := ⟨n.toNat, by omega⟩
    have hn : nn ≤ 30 := by omega
    have hk : kind = 0 ∨ kind = 1 ∨ kind = 2 ∨ kind = 3 ∨ kind = 4 := by omega
    rcases hk with rfl | rfl | rfl | rfl | rfl
    · exact parseMany_0 nn w hn hE hO
    · exact parseMany_1 nn w hn hE hO
    · exact parseMany_2 nn w hn hE hO
    · exact parseMany_3 nn w hn hE hO
    · exact parseMany_4 nn w hn hE hO
  · have hl := live_any w hE hO
    by_cases c1 : n < 0
    · go_enter Tryz.func3, Tryz.ntmps3
      go_wp2_with (go_at_call 4; (with_reducible refine hl.mono ?_); rintro r w1 ⟨rfl, bb⟩)
      go_ret
      exact ⟨rfl, bb⟩
    · have d1 : decide (n < 0) = false := by simp; omega
      by_cases c2 : 30 < n
      · go_enter Tryz.func3, Tryz.ntmps3
        go_wp2_with (go_at_call 4; (with_reducible refine hl.mono ?_); rintro r w1 ⟨rfl, bb⟩)
        go_ret
        exact ⟨rfl, bb⟩
      · have d2 : decide (30 < n) = false := by simp; omega
        by_cases c3 : kind < 0
        · go_enter Tryz.func3, Tryz.ntmps3
          go_wp2_with (go_at_call 4; (with_reducible refine hl.mono ?_); rintro r w1 ⟨rfl, bb⟩)
          go_ret
          exact ⟨rfl, bb⟩
        · have d3 : decide (kind < 0) = false := by simp; omega
          have c4 : 4 < kind := by omega
          go_enter Tryz.func3, Tryz.ntmps3
          go_wp2_with (go_at_call 4; (with_reducible refine hl.mono ?_); rintro r w1 ⟨rfl, bb⟩)
          go_ret
          exact ⟨rfl, bb⟩
end Go.Proofs.YtaekbgljbgmchabGreatDoor
namespace Go.Proofs.YtaekbgljbgmchabGreatDoor
open Go.ChangeShapes Go.WideShapes Go.ChangeAt Go.RowKit Go.Deep Go.Joins
theorem own : ownKnob Tryz.prog.godebug = none := by kernel_rfl
theorem laidOut : laidOutB Tryz.prog = true := by kernel_rfl
theorem gER : Tryz.prog.globalNamed "strconv.ErrRange" = some 2 := by kernel_rfl
theorem gERType : (Tryz.prog.globals[2]?).map (·.type) = some 98 := by kernel_rfl
theorem starE : "*" ++ "errors.errorString" = "*errors.errorString" := by decide
theorem rowErr (u : TypeId) (h : Tryz.prog.typeName? 3 u = some "*errors.errorString") : u = 135 :=
  typeName_ptr_named (nm := "errors.errorString") (by rw [starE]; kernel_rfl) (by kernel_rfl) (by decide) u (by rw [starE]; exact h)
theorem cellsE : Tryz.prog.cellsOf 137 = 1 := by kernel_rfl
theorem cellsS : Tryz.prog.cellsOf 9 = 1 := by kernel_rfl
theorem lt_of_cell {w : World} {b o : Nat} {v : Value} (h : w.cell? ⟨b, o, none⟩ = some v) : b < w.heap.size := by
  rcases Nat.lt_or_ge b w.heap.size with h1 | h1
  · exact h1
  · exfalso
    have h2 : w.heap[b]? = none := by rw [Array.getElem?_eq_none_iff]; exact h1
    simp [World.cell?, h2] at h
theorem hasErr_of {W : World} (h : laidMet Tryz.prog Rows.parseManyRow.laid W) : HasErr W := by
  obtain ⟨a, s, hv, -, -, -⟩ := laid_sentinel h.tail.tail.tail gER gERType Tryz.underlying98 rowErr Tryz.underlying135 Tryz.underlying137 rfl rfl Tryz.underlying9 cellsE cellsS
  have h0 := World.var?_cell gER hv 0
  have h1 : W.cell? ⟨2, 0, none⟩ = some (.iface 135 (.pointer (some a))) := by simpa using h0
  exact ⟨_, _, h1, lt_of_cell h1⟩
/-- The table of operators, row for row. -/
def opRows : List (List UInt8 × Int × Int × Int × Int) := [([124, 124], 17, 1, 1, 2), ([38, 38], 16, 2, 2, 3), ([61, 61], 10, 4, 5, 5), ([33, 61], 11, 4, 5, 5), ([60], 12, 4, 5, 5), ([60, 61], 13, 4, 5, 5), ([62], 14, 4, 5, 5), ([62, 61], 15, 4, 5, 5), ([43], 8, 5, 5, 6), ([45], 9, 5, 5, 6)]
theorem ops_at (k : Nat) (hk : k < 10) (l : List (DataW Unit)) (h : (Rows.laid_vigil_parse_operators : DataW Unit) = .agg l) : ∃ x0 x1 x2 x3 x4, opRows[k]? = some (x0, x1, x2, x3, x4) ∧ l[k]? = some (.agg [.lit (.string x0), .lit (.int .i64 x1), .lit (.int .i64 x2), .lit (.int .i64 x3), .lit (.int .i64 x4)]) := by
  have h' := h
  unfold Rows.laid_vigil_parse_operators at h'
  injection h' with h'
  subst h'
  have hc : k = 0 ∨ k = 1 ∨ k = 2 ∨ k = 3 ∨ k = 4 ∨ k = 5 ∨ k = 6 ∨ k = 7 ∨ k = 8 ∨ k = 9 := by omega
  rcases hc with rfl | rfl | rfl | rfl | rfl | rfl | rfl | rfl | rfl | rfl <;> exact ⟨_, _, _, _, _, rfl, rfl⟩
set_option maxRecDepth 100000 in
theorem ops_cells {W : World} {cs : Array Value} {fuel : Nat} {p : List MemPlace} (hv : W.var? Tryz.prog "vigil/parse.operators" = some cs) (hd : DataW.trod (fun _ => ()) Tryz.prog W 0 (fun _ => true) false fuel 95 cs.toList = some (Rows.laid_vigil_parse_operators, p)) (k : Nat) (hk : k < 10) :
    ∃ x0 x1 x2 x3 x4, opRows[k]? = some (x0, x1, x2, x3, x4) ∧ W.cell? ⟨0, k * 5, none⟩ = some (.string ⟨x0.toArray⟩) ∧ W.cell? ⟨0, k * 5 + 1, none⟩ = some (.int .i64 x1) ∧ W.cell? ⟨0, k * 5 + 2, none⟩ = some (.int .i64 x2) ∧ W.cell? ⟨0, k * 5 + 3, none⟩ = some (.int .i64 x3) ∧ W.cell? ⟨0, k * 5 + 4, none⟩ = some (.int .i64 x4) := by
  obtain ⟨xs, m, rfl, hx, hlen, hxl, hE⟩ := DataW.trod_array Tryz.underlying95 hd
  have hx1 : (Rows.laid_vigil_parse_operators : DataW Unit) = .agg (xs.map (·.1)) := congrArg Prod.fst hx
  obtain ⟨x0, x1, x2, x3, x4, hrow, hat⟩ := ops_at k hk _ hx1
  refine ⟨x0, x1, x2, x3, x4, hrow, ?_⟩
  have hE := hE k hk
  rw [show Tryz.prog.cellsOf 79 = 5 from by kernel_rfl] at hE
  obtain ⟨y, hy⟩ : ∃ y, xs[k]? = some y := ⟨xs[k], List.getElem?_eq_getElem (by omega)⟩
  rw [hy] at hE
  have hy1 : y.1 = .agg [.lit (.string x0), .lit (.int .i64 x1), .lit (.int .i64 x2), .lit (.int .i64 x3), .lit (.int .i64 x4)] := by
    rw [List.getElem?_map, hy] at hat
    simpa using hat
  obtain ⟨zs, m2, _, rfl, hl2, hzl, hf⟩ := DataW.trod_struct Tryz.underlying79 hE
  rw [show Tryz.prog.cellsOf 79 = 5 from by kernel_rfl] at hl2
  have hzl : zs.length = 5 := hzl
  have hz1 : zs.map (·.1) = [.lit (.string x0), .lit (.int .i64 x1), .lit (.int .i64 x2), .lit (.int .i64 x3), .lit (.int .i64 x4)] := by simpa using hy1
  have gc : ∀ i, i < 5 → W.cell? ⟨0, k * 5 + i, none⟩ = ((cs.toList.drop (k * 5)).take 5)[i]? := by
    intro i hi
    rw [World.var?_cell (g := 0) (by kernel_rfl) hv, List.getElem?_take, if_pos hi, List.getElem?_drop, Array.getElem?_toList]
  generalize (cs.toList.drop (k * 5)).take 5 = seg at hl2 hf gc
  obtain ⟨s0, s1, s2, s3, s4, rfl⟩ : ∃ s0 s1 s2 s3 s4, seg = [s0, s1, s2, s3, s4] := by
    match seg, hl2 with
    | [s0, s1, s2, s3, s4], _ => exact ⟨s0, s1, s2, s3, s4, rfl⟩
  obtain ⟨z0, z1, z2, z3, z4, rfl⟩ : ∃ z0 z1 z2 z3 z4, zs = [z0, z1, z2, z3, z4] := by
    match zs, hzl with
    | [z0, z1, z2, z3, z4], _ => exact ⟨z0, z1, z2, z3, z4, rfl⟩
  simp only [List.map_cons, List.map_nil, List.cons.injEq, and_true] at hz1
  obtain ⟨e0, e1, e2, e3, e4⟩ := hz1
  have g0 : DataW.trod (fun _ => ()) Tryz.prog W 0 (fun _ => true) false m2 9 [s0] = some z0 := by
    have q : DataW.trod (fun _ => ()) Tryz.prog W 0 (fun _ => true) false m2 9 (([s0, s1, s2, s3, s4].drop 0).take (Tryz.prog.cellsOf 9)) = some z0 := hf 0 _ rfl
    rw [show Tryz.prog.cellsOf 9 = 1 from by kernel_rfl] at q
    exact q
  have g1 : DataW.trod (fun _ => ()) Tryz.prog W 0 (fun _ => true) false m2 3 [s1] = some z1 := by
    have q : DataW.trod (fun _ => ()) Tryz.prog W 0 (fun _ => true) false m2 3 (([s0, s1, s2, s3, s4].drop 1).take (Tryz.prog.cellsOf 3)) = some z1 := hf 1 _ rfl
    rw [show Tryz.prog.cellsOf 3 = 1 from by kernel_rfl] at q
    exact q
  have g2 : DataW.trod (fun _ => ()) Tryz.prog W 0 (fun _ => true) false m2 3 [s2] = some z2 := by
    have q : DataW.trod (fun _ => ()) Tryz.prog W 0 (fun _ => true) false m2 3 (([s0, s1, s2, s3, s4].drop 2).take (Tryz.prog.cellsOf 3)) = some z2 := hf 2 _ rfl
    rw [show Tryz.prog.cellsOf 3 = 1 from by kernel_rfl] at q
    exact q
  have g3 : DataW.trod (fun _ => ()) Tryz.prog W 0 (fun _ => true) false m2 3 [s3] = some z3 := by
    have q : DataW.trod (fun _ => ()) Tryz.prog W 0 (fun _ => true) false m2 3 (([s0, s1, s2, s3, s4].drop 3).take (Tryz.prog.cellsOf 3)) = some z3 := hf 3 _ rfl
    rw [show Tryz.prog.cellsOf 3 = 1 from by kernel_rfl] at q
    exact q
  have g4 : DataW.trod (fun _ => ()) Tryz.prog W 0 (fun _ => true) false m2 3 [s4] = some z4 := by
    have q : DataW.trod (fun _ => ()) Tryz.prog W 0 (fun _ => true) false m2 3 (([s0, s1, s2, s3, s4].drop 4).take (Tryz.prog.cellsOf 3)) = some z4 := hf 4 _ rfl
    rw [show Tryz.prog.cellsOf 3 = 1 from by kernel_rfl] at q
    exact q
  obtain ⟨b0, q0, r0, _⟩ := DataW.trod_string Tryz.underlying9 g0
  rw [r0] at e0
  simp at q0 e0
  subst q0
  have e0' : b0 = ⟨x0.toArray⟩ := ByteArray.ext (by rw [← e0])
  subst e0'
  obtain ⟨b1, q1, r1, _⟩ := DataW.trod_int Tryz.underlying3 g1
  rw [r1] at e1
  simp at q1 e1
  subst q1 e1
  obtain ⟨b2, q2, r2, _⟩ := DataW.trod_int Tryz.underlying3 g2
  rw [r2] at e2
  simp at q2 e2
  subst q2 e2
  obtain ⟨b3, q3, r3, _⟩ := DataW.trod_int Tryz.underlying3 g3
  rw [r3] at e3
  simp at q3 e3
  subst q3 e3
  obtain ⟨b4, q4, r4, _⟩ := DataW.trod_int Tryz.underlying3 g4
  rw [r4] at e4
  simp at q4 e4
  subst q4 e4
  exact ⟨gc 0 (by omega), gc 1 (by omega), gc 2 (by omega), gc 3 (by omega), gc 4 (by omega)⟩
theorem opers_of {W : World} (h : laidMet Tryz.prog Rows.parseManyRow.laid W) : Opers W := by
  have h5 : laidMet Tryz.prog (Rows.parseManyRow.laid.drop 5) W := h.tail.tail.tail.tail.tail
  obtain ⟨ps, ⟨g, t, cs, fuel, p, q, hg, ht, hv, hd, _, _⟩, _⟩ := h5
  obtain rfl : g = 0 := Option.some.inj (hg.symm.trans (show Tryz.prog.globalNamed "vigil/parse.operators" = some 0 by kernel_rfl))
  obtain rfl : t = 95 := Option.some.inj (ht.symm.trans (show (Tryz.prog.globals[0]?).map (·.type) = some 95 by kernel_rfl))
  have H := ops_cells hv hd
  refine ⟨fun i hi => ?_, ?_⟩
  · obtain ⟨k, j, hk, hj, rfl⟩ : ∃ k j, k < 10 ∧ j < 5 ∧ i = k * 5 + j := ⟨i / 5, i % 5, by omega, by omega, by omega⟩
    obtain ⟨x0, x1, x2, x3, x4, hr, h0, h1, h2, h3, h4⟩ := H k hk
    have hc : k = 0 ∨ k = 1 ∨ k = 2 ∨ k = 3 ∨ k = 4 ∨ k = 5 ∨ k = 6 ∨ k = 7 ∨ k = 8 ∨ k = 9 := by omega
    have hcj : j = 0 ∨ j = 1 ∨ j = 2 ∨ j = 3 ∨ j = 4 := by omega
    rcases hc with rfl | rfl | rfl | rfl | rfl | rfl | rfl | rfl | rfl | rfl <;> (cases hr; rcases hcj with rfl | rfl | rfl | rfl | rfl <;> first | exact h0 | exact h1 | exact h2 | exact h3 | exact h4)
  · obtain ⟨x0, x1, x2, x3, x4, hr, h0, -⟩ := H 0 (by omega)
    exact lt_of_cell h0
def setCells (c : Array Value) : Obj → Obj
  | .cells _ t frozen => .cells c t frozen
  | o => o
/-- So many blocks has the settled world. -/
noncomputable def low : Nat := (World.holding Tryz.prog default ⟨#[], #[], []⟩).heap.size
/-- The settled world with two blocks more, each an errors.errorString; the six variables as their initialisers lay them. -/
noncomputable def laidWorld (os : Os) : World :=
  let w0 := World.holding Tryz.prog os ⟨#[.cells #[.string ⟨#[105, 110, 118, 97, 108, 105, 100, 32, 115, 121, 110, 116, 97, 120]⟩] 137, .cells #[.string ⟨#[118, 97, 108, 117, 101, 32, 111, 117, 116, 32, 111, 102, 32, 114, 97, 110, 103, 101]⟩] 137], #[], []⟩
  { w0 with heap := ((((((w0.heap.modify 1 (setCells #[.iface 135 (.pointer (some ⟨low, 0, none⟩))])).modify 2 (setCells #[.iface 135 (.pointer (some ⟨low + 1, 0, none⟩))])).modify 3 (setCells #[.int .u64 1, .int .u64 10, .int .u64 100, .int .u64 1000, .int .u64 10000, .int .u64 100000, .int .u64 1000000, .int .u64 10000000, .int .u64 100000000, .int .u64 1000000000, .int .u64 10000000000, .int .u64 100000000000, .int .u64 1000000000000, .int .u64 10000000000000, .int .u64 100000000000000, .int .u64 1000000000000000, .int .u64 10000000000000000, .int .u64 100000000000000000, .int .u64 1000000000000000000, .int .u64 10000000000000000000])).modify 4 (setCells #[.int .u8 0, .int .u8 1, .int .u8 28, .int .u8 2, .int .u8 29, .int .u8 14, .int .u8 24, .int .u8 3, .int .u8 30, .int .u8 22, .int .u8 20, .int .u8 15, .int .u8 25, .int .u8 17, .int .u8 4, .int .u8 8, .int .u8 31, .int .u8 27, .int .u8 13, .int .u8 23, .int .u8 21, .int .u8 19, .int .u8 16, .int .u8 7, .int .u8 26, .int .u8 12, .int .u8 18, .int .u8 6, .int .u8 11, .int .u8 5, .int .u8 10, .int .u8 9])).modify 5 (setCells #[.int .u8 0, .int .u8 1, .int .u8 56, .int .u8 2, .int .u8 57, .int .u8 49, .int .u8 28, .int .u8 3, .int .u8 61, .int .u8 58, .int .u8 42, .int .u8 50, .int .u8 38, .int .u8 29, .int .u8 17, .int .u8 4, .int .u8 62, .int .u8 47, .int .u8 59, .int .u8 36, .int .u8 45, .int .u8 43, .int .u8 51, .int .u8 22, .int .u8 53, .int .u8 39, .int .u8 33, .int .u8 30, .int .u8 24, .int .u8 18, .int .u8 12, .int .u8 5, .int .u8 63, .int .u8 55, .int .u8 48, .int .u8 27, .int .u8 60, .int .u8 41, .int .u8 37, .int .u8 16, .int .u8 46, .int .u8 35, .int .u8 44, .int .u8 21, .int .u8 52, .int .u8 32, .int .u8 23, .int .u8 11, .int .u8 54, .int .u8 26, .int .u8 40, .int .u8 15, .int .u8 34, .int .u8 20, .int .u8 31, .int .u8 10, .int .u8 25, .int .u8 14, .int .u8 19, .int .u8 9, .int .u8 13, .int .u8 8, .int .u8 7, .int .u8 6])).modify 0 (setCells #[.string ⟨#[124, 124]⟩, .int .i64 17, .int .i64 1, .int .i64 1, .int .i64 2, .string ⟨#[38, 38]⟩, .int .i64 16, .int .i64 2, .int .i64 2, .int .i64 3, .string ⟨#[61, 61]⟩, .int .i64 10, .int .i64 4, .int .i64 5, .int .i64 5, .string ⟨#[33, 61]⟩, .int .i64 11, .int .i64 4, .int .i64 5, .int .i64 5, .string ⟨#[60]⟩, .int .i64 12, .int .i64 4, .int .i64 5, .int .i64 5, .string ⟨#[60, 61]⟩, .int .i64 13, .int .i64 4, .int .i64 5, .int .i64 5, .string ⟨#[62]⟩, .int .i64 14, .int .i64 4, .int .i64 5, .int .i64 5, .string ⟨#[62, 61]⟩, .int .i64 15, .int .i64 4, .int .i64 5, .int .i64 5, .string ⟨#[43]⟩, .int .i64 8, .int .i64 5, .int .i64 5, .int .i64 6, .string ⟨#[45]⟩, .int .i64 9, .int .i64 5, .int .i64 5, .int .i64 6])) }
theorem laid_met (os : Os) (args : Array Value) : laidMet Tryz.prog Rows.parseManyRow.laid ((laidWorld os).forCall (fun _ _ => 0) ⟨#[], args, []⟩).memory :=
  laidMet_of_run' 8 (by kernel_rfl) (by kernel_rfl)
theorem weights_each {H : Type} {P : Program} {t : TypeId} {ts : List TypeId} {d : DataW H} {ds : List (DataW H)} (h : (DataW.weightsEach P (t :: ts) (d :: ds)).all (· ≤ reachBytes) = true) : (∀ k ∈ d.weights P t, k ≤ reachBytes) ∧ (DataW.weightsEach P ts ds).all (· ≤ reachBytes) = true := by
  rw [DataW.weightsEach, List.all_append, Bool.and_eq_true] at h
  exact ⟨fun k hk => by simpa using List.all_eq_true.1 h.1 k hk, h.2⟩
end Go.Proofs.YtaekbgljbgmchabGreatDoor
namespace Go.Proofs.YtaekbgljbgmchabGreatDoor
open Go.ChangeShapes Go.WideShapes Go.ChangeAt Go.RowKit Go.Deep Go.Joins
open Go.ChangeMaps (open_string shut_string)
set_option maxRecDepth 100000 in
theorem parseMany_contract (H : Type) (enc : TypeId × Value → H) (W : World) (base : Nat) (args : Array Value) (ds gs : List (DataW H)) (before : List MemPlace)
    (hval : ∀ (j : Nat) t v, Tryz.f3.params[j]? = some t → args[j]? = some v → Value.okWide Tryz.prog W .any base t v)
    (hW : DataW.Whole enc Tryz.prog Tryz.f3.params.toList Rows.parseManySpec.vars false W args.toList ds gs before)
    (_ : (DataW.weightsEach Tryz.prog (Tryz.f3.params.toList ++ Rows.parseManySpec.plain.varTypes Tryz.prog) (ds ++ gs)).all (· ≤ reachBytes) = true)
    (hL : laidMetH Tryz.prog Rows.parseManyRow.laid W) :
    Calls Tryz.prog 3 args W fun e W' => ∃ v, e = .returned v ∧ Rows.parseManySpec.post enc Tryz.prog Tryz.f3 false true false false W args v W' := by
  have hE := hasErr_of (show laidMet Tryz.prog Rows.parseManyRow.laid W from hL)
  have hO := opers_of (show laidMet Tryz.prog Rows.parseManyRow.laid W from hL)
  have hW' := hW
  obtain ⟨p, q, hA0, hV, rfl, hfz, hnd⟩ := hW
  have hA : DataW.TrodAll enc Tryz.prog W 0 (fun _ => true) true Tryz.f3.params.toList args.toList ds p := hA0
  rw [Tryz.params3] at hA hval
  obtain ⟨v0, v1, d0, d1, p0, p1, rfl, rfl, rfl, h0, h1⟩ := trodAll_two hA
  obtain ⟨rfl, rfl⟩ := trodVars_none hV
  clear hA0
  obtain ⟨x0, rfl, rfl, rfl, hx0⟩ := open_int Tryz.underlying3 (hval 0 3 v0 rfl rfl) h0
  obtain ⟨x1, rfl, rfl, rfl, hx1⟩ := open_int Tryz.underlying3 (hval 1 3 v1 rfl rfl) h1
  simp only [List.append_nil] at hW'
  refine (parseMany_walk x0 x1 W  hE hO).mono fun e W' ⟨he, hnx⟩ => ?_
  subst he
  refine ⟨_, rfl, _, _, _, [], [], [], hW', ?_, ?_, rfl, hnx.frame _, fun h => by cases h⟩
  · exact trodAll_mk1 (shut_bool Tryz.underlying4 true)
  · exact trodAll_mk2 (shut_int Tryz.underlying3 hx0) (shut_int Tryz.underlying3 hx1)
theorem parseMany_reads (os : Os) {H : Type} (enc : TypeId × Value → H) : ∃ places, DataW.whole enc Tryz.prog ((laidWorld os).forCall (fun _ _ => 0) ⟨#[], #[Value.int .i64 0, Value.int .i64 0], []⟩).memory Tryz.f3.params.toList Rows.parseManySpec.vars false #[Value.int .i64 0, Value.int .i64 0].toList 8 = some ([.lit (.int .i64 0), .lit (.int .i64 0)], [], places) :=
  ⟨[], by kernel_rfl⟩
set_option maxRecDepth 100000 in
theorem parseMany_lifted (os : Os) (started : os.Started) (H : Type) (enc : TypeId × Value → H) (F : Stop.Interp) :
    ReturnsInHanded {} Tryz.checked os 3 .any ((OpenSpec.ofChange Rows.parseManySpec).preRow enc Tryz.prog Tryz.f3 Rows.parseManyRow.domain false Rows.parseManyRow.laid) (((OpenSpec.ofChange Rows.parseManySpec).at F).post enc Tryz.prog Tryz.f3 false true false false) := by
  obtain ⟨places, hx⟩ := parseMany_reads os enc
  refine returnsInHanded_of_row (C := Tryz.checked) (s := OpenSpec.ofChange Rows.parseManySpec) own started (by kernel_rfl) Tryz.func3
    (witness_row_at (enc := enc) (C := Tryz.checked) false (laidWorld os) #[Value.int .i64 0, Value.int .i64 0] rfl (by kernel_rfl) (by kernel_rfl) (by kernel_rfl)
      (OpenSpec.preRow_of_cond 8 hx (by kernel_rfl) (fun k hk => by cases hk) (by kernel_rfl) (laid_met os _))) ?_
  intro W base args ds gs before hval hW _ _ hsz hL _ _
  exact parseMany_contract H enc W base args ds gs before hval hW hsz hL
theorem parseMany_said : Rows.ParseManySaid :=
  OpenClaim.holds_of_cond 3 Tryz.f3 rfl rfl rfl rfl rfl rfl rfl ⟨rfl, rfl, rfl, rfl, rfl⟩ rfl rfl rfl rfl rfl (by kernel_rfl) Tryz.func3 (by kernel_rfl)
    (of_decide_eq_true (by kernel_rfl)) (by unfold Func.isWrapper; first | (rw [if_pos (by decide +kernel)]; kernel_rfl) | (rw [if_neg (by decide +kernel)]; exact ⟨rfl, rfl⟩))
    (fun os started H enc _ F => by rw [OpenClaim.pre_eq_preRow]; exact parseMany_lifted os started H enc F)
theorem parseMany_plain (f : FuncId) (fn : Func) (hf : Tryz.pinned.checked.prog.funcNamed "vigil/vigillaw04.ParseMany" = some f) (hfn : Tryz.pinned.checked.prog.funcs[f]? = some fn) :
    true = Tryz.pinned.checked.prog.looks [] ∧ ∀ (j : Nat) t, fn.params[j]? = some t → Tryz.pinned.checked.prog.wantsStandIn t = false := by
  obtain rfl : f = 3 := Option.some.inj ((show Tryz.prog.funcNamed "vigil/vigillaw04.ParseMany" = some 3 by kernel_rfl).symm.trans hf) |>.symm
  obtain rfl : fn = Tryz.f3 := (Option.some.inj (Tryz.func3.symm.trans hfn)).symm
  refine ⟨by kernel_rfl, fun j t ht => ?_⟩
  rw [Tryz.params3] at ht
  obtain rfl : t = 3 := by simpa using Array.mem_of_getElem? ht
  exact (show Tryz.prog.wantsStandIn 3 = false by kernel_rfl)
theorem parseMany_card : Rows.ParseManyCardSaid :=
  Claim7.holds_tied_plain_at .later [] _ _ _ _ parseMany_said (fun _ h => by cases h) (by kernel_rfl) (fun _ h => by cases h) parseMany_row_tie rfl ⟨rfl, rfl⟩ (by kernel_rfl) rfl parseMany_plain (by kernel_rfl)
end Go.Proofs.YtaekbgljbgmchabGreatDoor
