/-
  For every expression the statement ParseExprBack hands back true: what is printed is parsed to the same expression, also in parentheses.
  Condition: the seven listed variables (ErrSyntax and ErrRange of strconv; uint64pow10 of internal/strconv; deBruijn32tab and deBruijn64tab of math/bits; operators of package parse; exprShapes of package tree) hold at the start what the program's own text lays there (the card ties them to the pruned copy of the project; nothing is said of its other packages).
-/
import Derived.Test.YtaekbgljbgmchaaGreatDoorPzPw
import Derived.Test.YtaekbgljbgmchaaGreatDoorPzMt
import Derived.Test.YtaekbgljbgmchaaGreatDoorPzMr
import Derived.Test.YtaekbgljbgmchaaGreatDoorPzSt
import Derived.Test.YtaekbgljbgmchaaGreatDoorPzA
import Derived.Test.YtaekbgljbgmchaaGreatDoorLxH
import Derived.Test.YtaekbgljbgmchaaGreatDoorJA
import Derived.Test.YtaekbgljbgmchaaGreatDoorJB
import Derived.Test.YtaekbgljbgmchaaGreatDoorCards
import Derived.Test.YtaekbgljbgmchaaGreatDoorTie
import Derived.Test.YtaekbgljbgmchaaGreatDoorPzE
import Derived.ProofKit
import Derived.OpenShut
import Derived.LaidLaws
import Derived.Deep.DeepHandedRow
import Derived.Stop.LaidErr
import Derived.Test.YtaekbgljbgmchaaGreatDoorRows
import Derived.LaidSub
import Derived.Deep.Strs
import Derived.Lib.LaidTab
import Derived.Test.YtaekbgljbgmchaaGreatDoorTrB
import Derived.SizedLaws
import Derived.Deep.Slices
import Derived.Lib.SmallJoins
namespace Go.Proofs.YtaekbgljbgmchaaGreatDoor
open Go.RowKit
open Lx (Out)
open Pz
theorem le_monitor (f : Nat) (s : S) : Le s (Pz.monitor f s).2 := (le_take s 1).trans (le_enclosed _ _ _ _ (le_members f _))
theorem le_role (f : Nat) (s : S) : Le s (Pz.role f s).2 := by
  unfold Pz.role
  dsimp only
  split
  · exact ((le_take s 1).trans (le_pass _)).trans (le_blockF f _)
  · exact ((le_take s 1).trans (le_take _ 2)).trans (le_blockF f _)
theorem Bd.of_le {s s' : S} (h : Bd s) (hl : Le s s') : Bd s' := ⟨by rw [hl.1]; exact h.1, by have := h.2; have := hl.2; rw [hl.1]; omega⟩
theorem method_c (f b g cap : Nat) (toks : List Out) (s : S) (w : World) (h : At b g cap toks s w) (hO : Opers w) (hb2 : b ≠ 2) (hB : Bd s) (hF : 3 * s.rest.length + 3 ≤ f) : Calls Tryz.prog 160 #[.pointer (some ⟨b, 0, none⟩)] w (MeBk b g cap toks (Pz.method f s) w) :=
  method_any (blockF f (s.take 1).2) b g cap toks s w h (fun W hW kW => block_any f b g cap toks (s.take 1).2 W hW (hO.kp kW hb2) hb2 (hB.of_le (le_take s 1)) (by have := (le_take s 1).2; omega))
theorem role_c (f b g cap : Nat) (toks : List Out) (s : S) (w : World) (h : At b g cap toks s w) (hO : Opers w) (hb2 : b ≠ 2) (hB : Bd s) (hF : 3 * s.rest.length + 3 ≤ f) : Calls Tryz.prog 73 #[.pointer (some ⟨b, 0, none⟩)] w (RoBk b g cap toks (Pz.role f s) w) :=
  role_any (blockF f (s.take 1).2.pass) (blockF f ((s.take 1).2.take 2).2) b g cap toks s w h
    (fun _ W hW kW => block_any f b g cap toks (s.take 1).2.pass W hW (hO.kp kW hb2) hb2 (hB.of_le ((le_take s 1).trans (le_pass _))) (by have := ((le_take s 1).trans (le_pass _)).2; omega))
    (fun _ W hW kW => block_any f b g cap toks ((s.take 1).2.take 2).2 W hW (hO.kp kW hb2) hb2 (hB.of_le ((le_take s 1).trans (le_take _ 2))) (by have := ((le_take s 1).trans (le_take (s.take 1).2 2)).2; omega))
theorem monitor_c (f b g cap : Nat) (toks : List Out) (s : S) (w : World) (h : At b g cap toks s w) (hn : Nn toks) (hO : Opers w) (hb2 : b ≠ 2) (hB : Bd s) (hF : 3 * s.rest.length + 3 ≤ f) : Calls Tryz.prog 71 #[.pointer (some ⟨b, 0, none⟩)] w (MoBk b g cap toks (Pz.monitor f s) w) := by
  have hT := hB.of_le (le_take s 1)
  have hTl := (le_take s 1).2
  have hen := enter_len (s.take 1).2 s_lbr
  refine monitor_any (enclosed s_lbr (members f) s_rbr (s.take 1).2) b g cap toks s w h (fun W hW kW => ?_)
  refine enclosed_members (.func (.func 119) #[.pointer (some ⟨b, 0, none⟩)] #[]) (within s_lbr (members f) (s.take 1).2) s_lbr s_rbr b g cap toks (s.take 1).2 W hW (fun V hV kV => ?_)
  refine within_members (members f) s_lbr b g cap toks (s.take 1).2 V hV ⟨hT.1, by have := hT.2; omega⟩ (by rw [(le_members f _).1, enter_opn]) (fun U hU kU => ?_)
  refine members_any f b g cap toks ((s.take 1).2.enter s_lbr) U hU hn (fun s' X hl hlt hX kX => ?_)
  exact method_c f b g cap toks s' X hX ((((hO.kp kW hb2).kp kV hb2).kp kU hb2).kp kX hb2) hb2 ⟨by rw [hl.1, enter_opn]; have := hT.1; omega, by rw [hl.1, enter_opn]; have := hT.2; omega⟩ (by omega)
set_option maxRecDepth 100000 in
set_option maxHeartbeats 2000000 in
theorem parse_any (s : ByteArray) (w : World) (hs : s.size ≤ 20000) (hE : HasErr w) (hO : Opers w) :
    Calls Tryz.prog 14 #[.string s] w fun r w' => PrOut (wholeOfP (Pz.program (reader s))) w r w' ∧ Below w.heap.size w w' := by
  have bR := newB w #[.slice none 0 0, .slice none 0 0] 37
  have h1 := newReader_any s (w.alloc (.cells #[.slice none 0 0, .slice none 0 0] 37)) hs (hE.alloc _)
  have hO1 := hO.al (.cells #[.slice none 0 0, .slice none 0 0] 37)
  have h35 : ∀ b g cap toks W, At b g cap toks (reader s) W → Nn toks → b ≠ 2 → Opers W → (reader s).rest.length ≤ 20001 → Calls Tryz.prog 35 #[.pointer (some ⟨b, 0, none⟩), .func (.func 36) #[.pointer (some ⟨b, 0, none⟩)] #[]] W fun r w' => PrOut (wholeOfP (Pz.program (reader s))) W r w' ∧ Kp b W w' := fun b g cap toks W hA hn hb hOW hl => by
    have h0 : (reader s).opn = 0 := by unfold reader; split <;> rfl
    have hB : Bd (reader s) := ⟨by rw [h0]; decide, by rw [h0]; omega⟩
    refine whole_prog (Pz.program (reader s)) b g cap toks (reader s) W hA (fun V hV kV => ?_)
    refine program_any (fuel (reader s)) b g cap toks (reader s) V hV (le_monitor _) (le_role _) (fun s' X hl hlt hX kX => ?_) (fun s' X hl hlt hX kX => ?_)
    · exact monitor_c _ b g cap toks s' X hX hn ((hOW.kp kV hb).kp kX hb) hb (hB.of_le hl) (by unfold fuel; omega)
    · exact role_c _ b g cap toks s' X hX ((hOW.kp kV hb).kp kX hb) hb (hB.of_le hl) (by unfold fuel; omega)
  obtain ⟨X, hX⟩ : ∃ X, wholeOfP (Pz.program (reader s)) = X := ⟨_, rfl⟩
  simp only [hX] at h35
  rw [hX]
  clear hX
  go_enter Tryz.func14, Tryz.ntmps14
  go_wp2_with (first
      | (go_at_call 28; (with_reducible refine h1.mono ?_); rintro r w1 ⟨b, g, gcap, toks, rfl, A, hnn, hb, hg, hlen, hre, b1⟩; have bR := bel_box bR b1; have hO2 := hO1.below b1; have hl2 := hO.2; simp only [World.size_alloc] at hb; have hb2 : b ≠ 2 := (by omega); have hne : w.heap.size ≠ b := (by omega); have B1 := (bel_al w (.cells #[.slice none 0 0, .slice none 0 0] 37)).trans (b1.mono (by simp)); have hz1 := ltB bR)
      | (go_at_call 35; (with_reducible refine (h35 b g gcap toks _ A hnn hb2 hO2 hlen).mono ?_); rintro r w3 ⟨⟨mad, mcp, lm, rad, rcp, lr, rfl, hclr, hBy⟩, k⟩; have bR := k.box bR hne; obtain ⟨x0, x1, xf, xl⟩ := two bR))
  refine bodyPost_ret (v := .tuple #[.agg #[.slice mad lm.length mcp, .slice rad lr.length rcp], .int .i64 X.2.1, .int .i64 X.2.2]) ?_ rfl ⟨⟨mad, mcp, lm, rad, rcp, lr, rfl, hclr, ?_⟩, ?_⟩
  · simp [results, Tryz.results14, go_sem, x0, x1]
  · refine (Pr.By.kq hBy ?_).mono (Nat.le_of_lt hz1)
    repeat (first | with_reducible refine Kq.set ?_ (.inl (from_not hz1)) _ | with_reducible refine Kq.al ?_ _)
    with_reducible exact Kq.refl _ _
  · repeat (refine Below.setCell ?_ (by simp) _)
    exact B1.trans ⟨k.os, k.tape, k.output, k.size, fun i hi => k.block i (by omega) (by omega)⟩
end Go.Proofs.YtaekbgljbgmchaaGreatDoor
namespace Go.Proofs.YtaekbgljbgmchaaGreatDoor
open Go.RowKit
open Lx (Out)
open Pz
namespace Pz
def opOf : Ex → Int | .mk op _ _ _ _ _ _ _ => op
def nOf : Ex → Int | .mk _ _ _ n _ _ _ _ => n
def kidsOf : Ex → List Ex | .mk _ _ _ _ _ _ kids _ => kids
def bodyLen (r : Ro) : Nat := r.body.body.length
end Pz
theorem live1 : (wholeOf (Pz.expr (reader ⟨#[97, 46, 120, 32, 43, 32, 50, 32, 42, 32, 97, 46, 121]⟩))).2 = (0, 0) ∧ opOf (wholeOf (Pz.expr (reader ⟨#[97, 46, 120, 32, 43, 32, 50, 32, 42, 32, 97, 46, 121]⟩))).1 = 8 ∧ (kidsOf (wholeOf (Pz.expr (reader ⟨#[97, 46, 120, 32, 43, 32, 50, 32, 42, 32, 97, 46, 121]⟩))).1).map opOf = [4, 7] ∧ (kidsOf (wholeOf (Pz.expr (reader ⟨#[97, 46, 120, 32, 43, 32, 50, 32, 42, 32, 97, 46, 121]⟩))).1).map nOf = [0, 2] := ⟨by kernel_rfl, by kernel_rfl, by kernel_rfl, by kernel_rfl⟩
theorem live2 : (wholeOfP (Pz.program (reader ⟨#[116, 104, 114, 101, 97, 100, 32, 116, 32, 49, 32, 123, 32, 115, 107, 105, 112, 32, 125]⟩))).2 = (40, 18) := by kernel_rfl
theorem live3 : (wholeOfP (Pz.program (reader ⟨#[116, 104, 114, 101, 97, 100, 32, 116, 32, 42, 32, 123, 32, 115, 107, 105, 112, 59, 32, 125]⟩))).2 = (0, 0) ∧ (wholeOfP (Pz.program (reader ⟨#[116, 104, 114, 101, 97, 100, 32, 116, 32, 42, 32, 123, 32, 115, 107, 105, 112, 59, 32, 125]⟩))).1.roles.map (fun r => (r.star, bodyLen r)) = [(true, 1)] := ⟨by kernel_rfl, by kernel_rfl⟩
theorem kid_row {n₀ : Nat} {W : World} {ad : Option Addr} {cap : Nat} {l : List Ex} (h : SlAt 6 Ex.cells n₀ W ad cap l) (h1 : l.map opOf = [4, 7]) (h2 : l.map nOf = [0, 2]) : ∃ g off, ad = some ⟨g, off, none⟩ ∧ l.length = 2 ∧ g < n₀ ∧ W.cell? ⟨g, off + 6, none⟩ = some (.int .i64 7) ∧ W.cell? ⟨g, off + 9, none⟩ = some (.int .i64 2) := by
  rcases l with _ | ⟨x, _ | ⟨⟨op, mon, name, n, kad, kcap, kids, pos⟩, _ | ⟨y, l⟩⟩⟩
  · simp at h1
  · simp at h1
  · obtain ⟨-, -, h | ⟨g, off, rfl, hg, hr⟩⟩ := h
    · cases h
    · simp [opOf, nOf] at h1 h2
      obtain ⟨-, rfl⟩ := h1
      obtain ⟨-, rfl⟩ := h2
      refine ⟨g, off, rfl, rfl, hg, ?_, ?_⟩
      · have := hr 1 (by simp) 0 (by omega); simpa [Ex.cells] using this
      · have := hr 1 (by simp) 3 (by omega); simpa [Ex.cells] using this
  · simp at h1
theorem role_row {n₀ : Nat} {W : World} {ad : Option Addr} {cap : Nat} {l : List Ro} (h : SlAt 5 Ro.cells n₀ W ad cap l) (h1 : (l.map Ro.clr).map (fun r => (r.star, bodyLen r)) = [(true, 1)]) : ∃ g off bad bcp, ad = some ⟨g, off, none⟩ ∧ l.length = 1 ∧ g < n₀ ∧ W.cell? ⟨g, off + 1, none⟩ = some (.bool true) ∧ W.cell? ⟨g, off + 3, none⟩ = some (.slice bad 1 bcp) := by
  rcases l with _ | ⟨⟨nm, star, cnt, ⟨bad, bcp, body⟩, pos⟩, _ | ⟨y, l⟩⟩
  · simp at h1
  · obtain ⟨-, -, h | ⟨g, off, rfl, hg, hr⟩⟩ := h
    · cases h
    · simp [bodyLen, Ro.clr, Bl.clr, Bl.body, St.clrL_eq] at h1
      obtain ⟨rfl, hb⟩ := h1
      refine ⟨g, off, bad, bcp, rfl, rfl, hg, ?_, ?_⟩
      · have := hr 0 (by simp) 1 (by omega); simpa [Ro.cells] using this
      · have := hr 0 (by simp) 3 (by omega); simpa [Ro.cells, Bl.slice, Bl.body, hb] using this
  · simp at h1
theorem opOf_clr (e : Ex) : opOf e.clr = opOf e := by cases e; rw [Ex.clr]; rfl
theorem nOf_clr (e : Ex) : nOf e.clr = nOf e := by cases e; rw [Ex.clr]; rfl
theorem expr1 (w : World) (hE : HasErr w) (hO : Opers w) : Calls Tryz.prog 10 #[.string ⟨#[97, 46, 120, 32, 43, 32, 50, 32, 42, 32, 97, 46, 121]⟩] w fun r w' => (∃ mon name n g off cp pos, r = .returned (.tuple #[.agg #[.int .i64 8, .string mon, .string name, .int .i64 n, .slice (some ⟨g, off, none⟩) 2 cp, .int .i64 pos], .int .i64 0, .int .i64 0]) ∧ g < w'.heap.size ∧ w'.cell? ⟨g, off + 6, none⟩ = some (.int .i64 7) ∧ w'.cell? ⟨g, off + 9, none⟩ = some (.int .i64 2)) ∧ Below w.heap.size w w' := by
  refine (parseExpr_any ⟨#[97, 46, 120, 32, 43, 32, 50, 32, 42, 32, 97, 46, 121]⟩ w (by decide) hE hO).mono ?_
  rintro r w1 ⟨⟨op, mon, name, n, ad, cp, kids, pos, rfl, hclr, hBy⟩, b1⟩
  obtain ⟨l1, l2, l3, l4⟩ := live1
  rw [← hclr] at l2 l3 l4
  rw [l1]
  rw [opOf_clr] at l2
  rw [Ex.clr] at l3 l4
  simp only [kidsOf, Ex.clrL_eq, List.map_map] at l3 l4
  rw [show opOf ∘ Ex.clr = opOf from funext opOf_clr] at l3
  rw [show nOf ∘ Ex.clr = nOf from funext nOf_clr] at l4
  have hsl := (Ex.Is.down hBy.is).2.1
  obtain ⟨g, off, rfl, hl, hg, c1, c2⟩ := kid_row hsl l3 l4
  have l2 : op = 8 := l2
  subst l2
  rw [hl]
  exact ⟨⟨mon, name, n, g, off, cp, pos, rfl, hg, c1, c2⟩, b1⟩
theorem Pr.By.is {Q : Nat → Bool} {w : World} {e : Pr} (h : e.By Q w) : e.Is w.heap.size w := Pr.Is.carry (fun k o v hv => (only_cell Q w k o v hv).2.2) h
theorem prog2 (w : World) (hE : HasErr w) (hO : Opers w) : Calls Tryz.prog 14 #[.string ⟨#[116, 104, 114, 101, 97, 100, 32, 116, 32, 49, 32, 123, 32, 115, 107, 105, 112, 32, 125]⟩] w fun r w' => (∃ a1 a2 n1 n2 k1 k2, r = .returned (.tuple #[.agg #[.slice a1 n1 k1, .slice a2 n2 k2], .int .i64 40, .int .i64 18])) ∧ Below w.heap.size w w' := by
  refine (parse_any ⟨#[116, 104, 114, 101, 97, 100, 32, 116, 32, 49, 32, 123, 32, 115, 107, 105, 112, 32, 125]⟩ w (by decide) hE hO).mono ?_
  rintro r w1 ⟨⟨mad, mcp, lm, rad, rcp, lr, rfl, hclr, hBy⟩, b1⟩
  rw [live2]
  exact ⟨⟨_, _, _, _, _, _, rfl⟩, b1⟩
theorem prog3 (w : World) (hE : HasErr w) (hO : Opers w) : Calls Tryz.prog 14 #[.string ⟨#[116, 104, 114, 101, 97, 100, 32, 116, 32, 42, 32, 123, 32, 115, 107, 105, 112, 59, 32, 125]⟩] w fun r w' => (∃ a1 n1 k1 g off rcp bad bcp, r = .returned (.tuple #[.agg #[.slice a1 n1 k1, .slice (some ⟨g, off, none⟩) 1 rcp], .int .i64 0, .int .i64 0]) ∧ g < w'.heap.size ∧ w'.cell? ⟨g, off + 1, none⟩ = some (.bool true) ∧ w'.cell? ⟨g, off + 3, none⟩ = some (.slice bad 1 bcp)) ∧ Below w.heap.size w w' := by
  refine (parse_any ⟨#[116, 104, 114, 101, 97, 100, 32, 116, 32, 42, 32, 123, 32, 115, 107, 105, 112, 59, 32, 125]⟩ w (by decide) hE hO).mono ?_
  rintro r w1 ⟨⟨mad, mcp, lm, rad, rcp, lr, rfl, hclr, hBy⟩, b1⟩
  obtain ⟨l1, l2⟩ := live3
  rw [← hclr] at l2
  rw [l1]
  obtain ⟨g, off, bad, bcp, rfl, hl, hg, c1, c2⟩ := role_row hBy.is.2.1 l2
  dsimp only at hl
  rw [hl]
  exact ⟨⟨_, _, _, g, off, rcp, bad, bcp, rfl, hg, c1, c2⟩, b1⟩
set_option maxRecDepth 100000 in
set_option maxHeartbeats 2000000 in
theorem num_c (e : Int) (w : World) : Calls Tryz.prog 13 #[.int .i64 e] w fun r w' => r = .returned (.int .i64 e) ∧ w' = w := by
  go_enter Tryz.func13, Tryz.ntmps13
  go_wp2
  go_ret
  exact ⟨rfl, rfl⟩
set_option maxRecDepth 100000 in
set_option maxHeartbeats 2000000 in
theorem live_any (w : World) (hE : HasErr w) (hO : Opers w) : Calls Tryz.prog 9 #[] w fun r w' => r = .returned (.bool true) ∧ Below w.heap.size w w' := by
  go_enter Tryz.func9, Tryz.ntmps9
  go_wp2_with (first
      | (go_at_call 10; (with_reducible refine (expr1 _ hE hO).mono ?_); rintro r w1 ⟨⟨mon, name, n, g, off, cp, pos, rfl, hg, c1, c2⟩, b1⟩; have E1 := hE.after b1; have O1 := hO.below b1)
      | (go_at_call 14; (with_reducible refine (prog2 _ (E1.alloc _) (O1.al _)).mono ?_); rintro r w2 ⟨⟨p1, p2, m1, m2, k1, k2, rfl⟩, b2⟩; have E2 := (E1.alloc _).after b2; have O2 := (O1.al _).below b2; have B12 : Below w1.heap.size w1 w2 := Below.trans (bel_al w1 _) (b2.mono (by simp)); have bE := bel_box (newB w1 _ _) b2; have c1 := (Below.cell B12 (p := ⟨g, off + 6, none⟩) hg).trans c1; have c2 := (Below.cell B12 (p := ⟨g, off + 9, none⟩) hg).trans c2; have hg := Nat.lt_of_lt_of_le hg B12.size)
      | (go_at_call 14; (with_reducible refine (prog3 _ (E2.alloc _) (O2.al _)).mono ?_); rintro r w3 ⟨⟨p3, m3, k3, g3, off3, rcp, bad, bcp, rfl, hg3, d1, d2⟩, b3⟩; have B23 : Below w2.heap.size w2 w3 := Below.trans (bel_al w2 _) (b3.mono (by simp)); have bE := bel_box bE B23; have c1 := (Below.cell B23 (p := ⟨g, off + 6, none⟩) hg).trans c1; have c2 := (Below.cell B23 (p := ⟨g, off + 9, none⟩) hg).trans c2; have hg := Nat.lt_of_lt_of_le hg B23.size; have B34 := bel_al w3 (.cells #[.slice p3 m3 k3, .slice (some ⟨g3, off3, none⟩) 1 rcp] 37); have bP := newB w3 #[.slice p3 m3 k3, .slice (some ⟨g3, off3, none⟩) 1 rcp] 37; have bE := bel_box bE B34; have c1 := (Below.cell B34 (p := ⟨g, off + 6, none⟩) hg).trans c1; have c2 := (Below.cell B34 (p := ⟨g, off + 9, none⟩) hg).trans c2; have d1 := (Below.cell B34 (p := ⟨g3, off3 + 1, none⟩) hg3).trans d1; have d2 := (Below.cell B34 (p := ⟨g3, off3 + 3, none⟩) hg3).trans d2; obtain ⟨x0, x1, x2, x3, x4, x5, xf, xl⟩ := six bE; obtain ⟨y0, y1, yf, yl⟩ := two bP; have B := (b1.trans (B12.mono b1.size)).trans ((B23.mono (Nat.le_trans b1.size B12.size)).trans (B34.mono (Nat.le_trans b1.size (Nat.le_trans B12.size B23.size)))))
      | (go_at_call 13; (with_reducible refine (num_c _ _).mono ?_); rintro r w4 ⟨rfl, rfl⟩))
  go_ret
  exact ⟨rfl, B⟩
end Go.Proofs.YtaekbgljbgmchaaGreatDoor
namespace Go.Proofs.YtaekbgljbgmchaaGreatDoor
open Go.RowKit
open Lx (Out)
open Pz
namespace Pz
/-- A relation that the four small steps keep. -/
structure Cl (Q : S → S → Prop) : Prop where
  refl : ∀ s, Q s s
  trans : ∀ {a b c}, Q a b → Q b c → Q a c
  fail : ∀ s e a, Q s (s.fail e a)
  pass : ∀ s, Q s s.pass
  more : ∀ s, Q s s.more
  less : ∀ s, Q s s.less
namespace Cl
variable {Q : S → S → Prop} (C : Cl Q)
include C
theorem refuse (s : S) (e : Int) : Q s (s.refuse e) := C.fail _ _ _
theorem want (s : S) (x : ByteArray) : Q s (s.want x) := by
  unfold S.want; split
  · exact C.pass s
  · exact C.trans (C.refuse s 40) (C.pass _)
theorem take (s : S) (k : Int) : Q s (s.take k).2 := by
  unfold S.take; split
  · exact C.pass s
  · exact C.refuse s 40
theorem path (s : S) : Q s (path s).2 := C.trans (C.trans (C.take s 1) (C.want _ _)) (C.take _ 1)
theorem enter (s : S) (x : ByteArray) : Q s (s.enter x) := by
  unfold S.enter
  refine C.trans (C.trans ?_ (C.want _ _)) (C.more _)
  split
  · exact C.refuse s 41
  · exact C.refl s
theorem within {α : Type} (sign : ByteArray) (rd : S → α × S) (h : ∀ s, Q s (rd s).2) (s : S) : Q s (within sign rd s).2 := C.trans (C.trans (C.enter s sign) (h _)) (C.less _)
theorem enclosed {α : Type} (a c : ByteArray) (rd : S → α × S) (h : ∀ s, Q s (rd s).2) (s : S) : Q s (enclosed a rd c s).2 := C.trans (C.within a rd h s) (C.want _ _)
theorem full (s : S) (b : Bool) : Q s (s.full b) := by
  unfold S.full
  refine C.trans ?_ (C.pass _)
  cases b
  · exact C.refl s
  · exact C.refuse s 6
theorem oneMore {α : Type} (l : List α) (most : Nat) (rd : S → α × S) (h : ∀ s, Q s (rd s).2) (s : S) : Q s (oneMore l most rd s).2 := C.trans (C.full s _) (h _)
theorem several {α : Type} (word : ByteArray) (most : Nat) (rd : S → α × S) (h : ∀ s, Q s (rd s).2) : ∀ (f : Nat) (l : List α) (s : S), Q s (several word most rd f l s).2 := by
  intro f
  induction f with
  | zero => intro l s; exact C.refl _
  | succ f ih =>
    intro l s
    rw [Pz.several]
    split
    · exact C.trans (C.oneMore l most rd h s) (ih _ _)
    · exact C.refl _
theorem expr (f : Nat) : (∀ l s, Q s (exprAt f l s).2) ∧ (∀ l x own s, Q s (loop f l x own s).2) ∧ (∀ s, Q s (term f s).2) := by
  induction f with
  | zero => exact ⟨fun l s => by rw [exprAt]; exact C.refl _, fun l x own s => by rw [loop]; exact C.refl _, fun s => by rw [term]; exact C.refl _⟩
  | succ f ih =>
    obtain ⟨h1, h2, h3⟩ := ih
    refine ⟨fun l s => ?_, fun l x own s => ?_, fun s => ?_⟩
    · rw [exprAt]
      split
      · exact C.trans (C.within _ _ (h1 _) s) (h2 _ _ _ _)
      · exact C.trans (h3 s) (h2 _ _ _ _)
    · rw [loop]
      split
      · exact C.refl _
      · exact C.trans (C.trans (C.pass s) (h1 _ _)) (h2 _ _ _ _)
    · rw [term]
      split
      · split
        · exact C.trans (C.pass s) (C.within _ _ h3 _)
        · exact C.pass s
      · split
        · exact C.path s
        · split
          · exact C.within _ _ h3 s
          · split
            · exact C.enclosed _ _ _ (h1 _) s
            · split
              · exact C.pass s
              · exact C.want _ _
theorem stmt (rx : S → Ex × S) (rb : S → Bl × S) (hx : ∀ s, Q s (rx s).2) (hb : ∀ s, Q s (rb s).2) (k : Nat) (s : S) : Q s (stmt rx rb k s).2 := by
  unfold Pz.stmt
  split
  · exact C.trans (C.want _ _) (C.want _ _)
  · exact C.trans (C.trans (C.trans (C.path s) (C.want _ _)) (hx _)) (C.want _ _)
  · unfold stIf
    simp only
    split
    · exact C.trans (C.trans (C.trans (C.trans (C.want _ _) (hx _)) (hb _)) (C.pass _)) (hb _)
    · exact C.trans (C.trans (C.want _ _) (hx _)) (hb _)
  · exact C.trans (C.trans (C.want _ _) (hx _)) (hb _)
  · exact C.trans (C.want _ _) (hb _)
  · exact C.trans (C.oneMore [] 8 rb hb s) (C.several _ _ _ hb _ _ _)
  · exact C.trans (C.trans (C.want _ _) (C.take _ _)) (hb _)
  · exact C.trans (C.trans (C.want _ _) (C.path _)) (C.want _ _)
  · unfold stWait
    simp only
    split
    · refine C.trans (C.trans (C.trans (C.want s k_wait) (C.take _ 1)) (C.take _ 2)) (C.trans ?_ (C.want _ _))
      split
      · exact C.fail _ _ _
      · exact C.refl _
    · exact C.trans (C.trans (C.want _ _) (C.take _ _)) (C.want _ _)
  · exact C.trans (C.trans (C.want _ _) (C.take _ _)) (C.want _ _)
  · exact C.trans (C.trans (C.want _ _) (C.take _ _)) (C.want _ _)
theorem block (rd : S → Bl × S) (h : ∀ s, Q s (rd s).2) (s : S) : Q s (block rd s).2 := C.enclosed _ _ rd h s
theorem stmts (f : Nat) : ∀ (l : List St) (s : S), Q s (stmtsF f l s).2 := by
  induction f with
  | zero => intro l s; exact C.refl _
  | succ f ih =>
    intro l s
    rw [stmtsF]
    split
    · exact C.refl _
    · exact C.trans (C.stmt _ _ (fun s => (C.expr f).1 1 s) (fun s => C.block _ (fun s => ih [] s) s) _ s) (ih _ _)
theorem blockF (f : Nat) (s : S) : Q s (blockF f s).2 := C.block _ (fun s => C.stmts f [] s) s
theorem integer (s : S) : Q s (integer s).2 := by
  unfold Pz.integer; split
  · exact C.trans (C.pass s) (C.take _ _)
  · exact C.take _ _
theorem truth (s : S) : Q s (truth s).2 := by
  unfold Pz.truth; split
  · exact C.pass s
  · exact C.want _ _
theorem bounds (s : S) : Q s (bounds s).2 := by
  have h : Q s (Pz.integer ((Pz.integer s).2.want s_dots)).2 := C.trans (C.trans (C.integer s) (C.want _ _)) (C.integer _)
  unfold Pz.bounds
  simp only
  split
  · exact C.trans h (C.fail _ _ _)
  · exact h
theorem typed (s : S) : Q s (typed s).2 := by
  unfold Pz.typed; split
  · exact C.trans (C.trans (C.pass s) (C.want _ _)) (C.truth _)
  · split
    · exact C.trans (C.trans (C.pass s) (C.want _ _)) (C.integer _)
    · exact C.trans (C.trans (C.bounds s) (C.want _ _)) (C.integer _)
theorem vari (s : S) : Q s (vari s).2 := C.trans (C.trans (C.trans (C.take s 1) (C.want _ _)) (C.typed _)) (C.want _ _)
theorem method (f : Nat) (s : S) : Q s (method f s).2 := C.trans (C.take s 1) (C.blockF f _)
theorem members (f : Nat) (s : S) : Q s (members f s).2 := C.trans (C.several _ _ _ C.vari _ _ _) (C.several _ _ _ (C.method f) _ _ _)
theorem monitor (f : Nat) (s : S) : Q s (monitor f s).2 := C.trans (C.take s 1) (C.enclosed _ _ _ (C.members f) _)
theorem role (f : Nat) (s : S) : Q s (role f s).2 := by
  unfold Pz.role
  simp only
  split
  · exact C.trans (C.trans (C.take s 1) (C.pass _)) (C.blockF f _)
  · exact C.trans (C.trans (C.take s 1) (C.take _ _)) (C.blockF f _)
theorem progF (g : Nat) : ∀ (f : Nat) (m : List Mo) (r : List Ro) (s : S), Q s (progF g f m r s).2 := by
  intro f
  induction f with
  | zero => intro m r s; exact C.refl _
  | succ f ih =>
    intro m r s
    rw [Pz.progF]
    split
    · exact C.trans (C.oneMore m 8 _ (C.monitor g) s) (ih _ _ _)
    · split
      · exact C.trans (C.oneMore r 8 _ (C.role g) s) (ih _ _ _)
      · exact C.refl _
end Cl
/-- The first error stays. -/
def Ek (s s' : S) : Prop := s.err ≠ 0 → s'.err = s.err ∧ s'.pos = s.pos
theorem ek : Cl Ek where
  refl _ _ := ⟨rfl, rfl⟩
  trans h k h0 := by obtain ⟨a, b⟩ := h h0; obtain ⟨c, d⟩ := k (by rw [a]; exact h0); exact ⟨c.trans a, d.trans b⟩
  fail s e a h := by unfold S.fail; rw [if_neg h]; exact ⟨rfl, rfl⟩
  pass s h := by unfold S.pass; split <;> exact ⟨rfl, rfl⟩
  more _ _ := ⟨rfl, rfl⟩
  less _ _ := ⟨rfl, rfl⟩
theorem ek_atEnd (s : S) : Ek s (atEnd s) := by
  unfold atEnd; split
  · exact ek.refl s
  · exact ek.refuse s 40
end Pz
end Go.Proofs.YtaekbgljbgmchaaGreatDoor
namespace Go.Proofs.YtaekbgljbgmchaaGreatDoor
open Go.RowKit
open Lx (Out)
open Pz
namespace Pz
theorem is_of {o : Out} {y : ByteArray} (h : o.text = y) (x : ByteArray) : is o x = (y.data.toList == x.data.toList) := by unfold is; rw [h, ByteArray.toList_eq, ByteArray.toList_eq]
/-- A sign or a word. -/
def Tok (o : Out) (k : Int) (y : ByteArray) : Prop := o.kind = k ∧ o.text = y
theorem enter_deep (s : S) (x : ByteArray) (hs : s.sees x = true) (ho : s.opn = 64) (he : s.err = 0) : (s.enter x).err = 41 ∧ (s.enter x).pos = s.hd.pos := by
  have hr : (s.refuse 41).err = 41 ∧ (s.refuse 41).pos = s.hd.pos := by unfold S.refuse S.fail; rw [if_pos he]; exact ⟨rfl, rfl⟩
  have hw := ek.want (s.refuse 41) x (by rw [hr.1]; decide)
  unfold S.enter
  rw [hs, ho]
  exact ⟨hw.1.trans hr.1, hw.2.trans hr.2⟩
theorem enter_fine (o : Out) (l : List Out) (opn : Int) (x : ByteArray) (hx : is o x = true) (hk : o.kind ≠ 5) (ho : opn ≠ 64) : (S.mk (o :: l) opn 0 0).enter x = ⟨l, opn + 1, 0, 0⟩ := by
  have hb : (opn == 64) = false := by simpa using ho
  have hp : (S.mk (o :: l) opn 0 0).pass = ⟨l, opn, 0, 0⟩ := by unfold S.pass; rw [if_neg (by exact hk)]; rfl
  have hs : (S.mk (o :: l) opn 0 0).sees x = true := hx
  unfold S.enter S.want
  simp only [hb, Bool.and_false, Bool.false_eq_true, if_false]
  rw [hs, if_pos rfl, hp]
  rfl
theorem want_fine (o : Out) (l : List Out) (opn : Int) (x : ByteArray) (hx : is o x = true) (hk : o.kind ≠ 5) : (S.mk (o :: l) opn 0 0).want x = ⟨l, opn, 0, 0⟩ := by
  have hs : (S.mk (o :: l) opn 0 0).sees x = true := hx
  unfold S.want
  rw [hs, if_pos rfl]
  unfold S.pass
  rw [if_neg (by exact hk)]; rfl
theorem take_fine (o : Out) (l : List Out) (opn k : Int) (hk : o.kind = k) (h5 : o.kind ≠ 5) : (S.mk (o :: l) opn 0 0).take k = (o, ⟨l, opn, 0, 0⟩) := by
  unfold S.take
  rw [if_pos (by exact hk)]
  unfold S.pass
  rw [if_neg (by exact h5)]; rfl
theorem pass_fine (o : Out) (l : List Out) (opn : Int) (h5 : o.kind ≠ 5) : (S.mk (o :: l) opn 0 0).pass = ⟨l, opn, 0, 0⟩ := by
  unfold S.pass
  rw [if_neg (by exact h5)]; rfl
/-- No operator follows. -/
def Stops (r : List Out) : Prop := (operOf (r.headD noTok)).op = 0
theorem loop_stop (f : Nat) (l : Nat) (x : Ex) (own : Nat) (r : List Out) (opn e p : Int) (h : Stops r) : loop (f + 1) l x own ⟨r, opn, e, p⟩ = (x, ⟨r, opn, e, p⟩) := by
  rw [loop, if_pos (.inl h)]
theorem not_lt (l : Nat) (s : S) (h : s.sees s_bang = false) (f : Nat) : exprAt (f + 1) l s = loop f l (term f s).1 6 (term f s).2 := by
  rw [exprAt, h, Bool.and_false, if_neg (by simp)]
theorem term_path (f : Nat) (a d x : Out) (r : List Out) (opn : Int) (ha : a.kind = 1) (hd : Tok d 4 s_dot) (hx : x.kind = 1) : ∃ e, term (f + 1) ⟨a :: d :: x :: r, opn, 0, 0⟩ = (e, ⟨r, opn, 0, 0⟩) := by
  have hp : (path ⟨a :: d :: x :: r, opn, 0, 0⟩).2 = ⟨r, opn, 0, 0⟩ := by
    unfold path
    rw [take_fine a _ opn 1 ha (by rw [ha]; decide)]
    show ((S.mk (d :: x :: r) opn 0 0).want s_dot |>.take 1).2 = _
    rw [want_fine d _ opn s_dot (by rw [is_of hd.2]; decide) (by rw [hd.1]; decide), take_fine x _ opn 1 hx (by rw [hx]; decide)]
  rw [term, if_neg (by show ¬ a.kind = 2; rw [ha]; decide), if_pos (by exact ha), hp]
  exact ⟨_, rfl⟩
/-- a.x in so many parentheses, and what follows. -/
inductive Par : Nat → Int → List Out → List Out → Prop
  | base {d : Int} {a p x : Out} {r : List Out} (ha : a.kind = 1) (hp : Tok p 4 s_dot) (hx : x.kind = 1) : Par 0 d (a :: p :: x :: r) r
  | step {d : Int} {n : Nat} {o c : Out} {l r : List Out} (ho : Tok o 4 s_lpar) (hd : d ≤ o.pos) (hc : Tok c 4 s_rpar) (t : Par n (d + 1) l (c :: r)) : Par (n + 1) d (o :: l) r
/-- a.x behind so many signs. -/
inductive Bng (y : ByteArray) : Nat → Int → List Out → List Out → Prop
  | base {d : Int} {a p x : Out} {r : List Out} (ha : a.kind = 1) (hp : Tok p 4 s_dot) (hx : x.kind = 1) : Bng y 0 d (a :: p :: x :: r) r
  | step {d : Int} {n : Nat} {o : Out} {l r : List Out} (ho : Tok o 4 y) (hd : d ≤ o.pos) (t : Bng y n (d + 1) l r) : Bng y (n + 1) d (o :: l) r
/-- a.x behind so many numbers with their signs. -/
inductive Mul : Nat → Int → List Out → List Out → Prop
  | base {d : Int} {a p x : Out} {r : List Out} (ha : a.kind = 1) (hp : Tok p 4 s_dot) (hx : x.kind = 1) : Mul 0 d (a :: p :: x :: r) r
  | step {d : Int} {n : Nat} {k o : Out} {l r : List Out} (hk : k.kind = 2) (ho : Tok o 4 s_star) (hd : d ≤ o.pos) (t : Mul n (d + 1) l r) : Mul (n + 1) d (k :: o :: l) r
theorem stops_rpar {c : Out} {r : List Out} (hc : Tok c 4 s_rpar) : Stops (c :: r) := by
  unfold Stops operOf
  simp only [List.headD_cons, is_of hc.2]
  decide
theorem name_not {a : Out} {l : List Out} {opn : Int} {x : ByteArray} (h : is a x = false) : (S.mk (a :: l) opn 0 0).sees x = false := h
theorem expr_base (f lv : Nat) (a d x : Out) (r : List Out) (opn : Int) (ha : a.kind = 1) (hb : is a s_bang = false) (hd : Tok d 4 s_dot) (hx : x.kind = 1) (hr : Stops r) : ∃ e, exprAt (f + 2) lv ⟨a :: d :: x :: r, opn, 0, 0⟩ = (e, ⟨r, opn, 0, 0⟩) := by
  obtain ⟨e, he⟩ := term_path f a d x r opn ha hd hx
  refine ⟨e, ?_⟩
  rw [not_lt _ _ (name_not hb), he]
  exact loop_stop _ _ _ _ _ _ _ _ hr
theorem lp_term (f : Nat) (o : Out) (l : List Out) (opn : Int) (ho : Tok o 4 s_lpar) : exprAt (f + 2) 1 ⟨o :: l, opn, 0, 0⟩ = loop (f + 1) 1 (enclosed s_lpar (exprAt f 1) s_rpar ⟨o :: l, opn, 0, 0⟩).1 6 (enclosed s_lpar (exprAt f 1) s_rpar ⟨o :: l, opn, 0, 0⟩).2 := by
  rw [not_lt _ _ (name_not (by rw [is_of ho.2]; decide))]
  rw [term, if_neg (by show ¬ o.kind = 2; rw [ho.1]; decide), if_neg (by show ¬ o.kind = 1; rw [ho.1]; decide), name_not (by rw [is_of ho.2]; decide), if_neg (by simp), show (S.mk (o :: l) opn 0 0).sees s_lpar = true from by show is o s_lpar = true; rw [is_of ho.2]; decide, if_pos rfl]
theorem par_ok {n : Nat} {d : Int} {l r : List Out} (h : Par n d l r) : ∀ (f : Nat) (opn : Int), 2 * n + 2 ≤ f → opn + n ≤ 64 → Stops r → (∀ a ∈ l, a.kind = 1 → is a s_bang = false) → ∃ e, exprAt f 1 ⟨l, opn, 0, 0⟩ = (e, ⟨r, opn, 0, 0⟩) := by
  induction h with
  | base ha hp hx =>
    intro f opn hf _ hr hb
    obtain ⟨f, rfl⟩ : ∃ g, f = g + 2 := ⟨f - 2, by omega⟩
    exact expr_base f 1 _ _ _ _ opn ha (hb _ (by simp) ha) hp hx hr
  | step ho hd hc t ih =>
    intro f opn hf hn hr hb
    obtain ⟨f, rfl⟩ : ∃ g, f = g + 2 := ⟨f - 2, by omega⟩
    obtain ⟨e, he⟩ := ih f (opn + 1) (by omega) (by omega) (stops_rpar hc) (fun a ha => hb a (List.mem_cons_of_mem _ ha))
    refine ⟨e, ?_⟩
    rw [lp_term f _ _ _ ho]
    unfold enclosed within
    rw [enter_fine _ _ _ _ (by rw [is_of ho.2]; decide) (by rw [ho.1]; decide) (by omega), he]
    show loop (f + 1) 1 e 6 ((S.mk _ (opn + 1 - 1) 0 0).want s_rpar) = _
    rw [show opn + 1 - 1 = opn by omega, want_fine _ _ _ _ (by rw [is_of hc.2]; decide) (by rw [hc.1]; decide)]
    exact loop_stop _ _ _ _ _ _ _ _ hr
/-- Too deep: the error is told at a place that is no smaller. -/
def Bad (s : S) : Prop := s.err = 41 ∧ 64 ≤ s.pos
theorem Bad.keep {s s' : S} (h : Bad s) (k : Ek s s') : Bad s' := by
  obtain ⟨a, b⟩ := k (by rw [h.1]; decide)
  exact ⟨a.trans h.1, by rw [b]; exact h.2⟩
theorem par_deep {n : Nat} {d : Int} {l r : List Out} (h : Par n d l r) : ∀ (f : Nat) (opn : Int), 2 * n + 2 ≤ f → 64 < opn + n → opn ≤ 64 → opn ≤ d → Bad (exprAt f 1 ⟨l, opn, 0, 0⟩).2 := by
  induction h with
  | base ha hp hx => intro f opn hf h1 h2; omega
  | @step d n o c l r ho hd hc t ih =>
    intro f opn hf hn h64 hle
    obtain ⟨f, rfl⟩ : ∃ g, f = g + 2 := ⟨f - 2, by omega⟩
    rw [lp_term f _ _ _ ho]
    refine Bad.keep ?_ ((ek.expr (f + 1)).2.1 _ _ _ _)
    unfold enclosed
    refine Bad.keep ?_ (ek.want _ _)
    unfold within
    refine Bad.keep ?_ (ek.less _)
    by_cases h4 : opn = 64
    · refine Bad.keep ?_ ((ek.expr f).1 1 _)
      have := enter_deep (S.mk (o :: l) opn 0 0) s_lpar (show is o s_lpar = true from by rw [is_of ho.2]; decide) h4 rfl
      exact ⟨this.1, by rw [this.2]; show (64 : Int) ≤ o.pos; omega⟩
    · rw [enter_fine _ _ _ _ (by rw [is_of ho.2]; decide) (by rw [ho.1]; decide) h4]
      exact ih f (opn + 1) (by omega) (by omega) (by omega) (by omega)
theorem bang_expr (f lv : Nat) (hlv : lv ≤ 3) (o : Out) (l : List Out) (opn : Int) (ho : Tok o 4 s_bang) : exprAt (f + 1) lv ⟨o :: l, opn, 0, 0⟩ = loop f lv (prefixed 5 0 s_bang (exprAt f 3) o.pos ⟨o :: l, opn, 0, 0⟩).1 3 (prefixed 5 0 s_bang (exprAt f 3) o.pos ⟨o :: l, opn, 0, 0⟩).2 := by
  rw [exprAt, show (S.mk (o :: l) opn 0 0).sees s_bang = true from by show is o s_bang = true; rw [is_of ho.2]; decide, show decide (lv ≤ 3) = true from by simpa using hlv, Bool.and_self, if_pos rfl]
  rfl
theorem bang_ok {n : Nat} {d : Int} {l r : List Out} (h : Bng s_bang n d l r) : ∀ (f lv : Nat) (opn : Int), lv ≤ 3 → 2 * n + 2 ≤ f → opn + n ≤ 64 → Stops r → (∀ a ∈ l, a.kind = 1 → is a s_bang = false) → ∃ e, exprAt f lv ⟨l, opn, 0, 0⟩ = (e, ⟨r, opn, 0, 0⟩) := by
  induction h with
  | base ha hp hx =>
    intro f lv opn _ hf _ hr hb
    obtain ⟨f, rfl⟩ : ∃ g, f = g + 2 := ⟨f - 2, by omega⟩
    exact expr_base f lv _ _ _ _ opn ha (hb _ (by simp) ha) hp hx hr
  | step ho hd t ih =>
    intro f lv opn hlv hf hn hr hb
    obtain ⟨f, rfl⟩ : ∃ g, f = g + 2 := ⟨f - 2, by omega⟩
    obtain ⟨e, he⟩ := ih (f + 1) 3 (opn + 1) (by omega) (by omega) (by omega) hr (fun a ha => hb a (List.mem_cons_of_mem _ ha))
    rw [bang_expr (f + 1) lv hlv _ _ _ ho]
    unfold prefixed within
    rw [enter_fine _ _ _ _ (by rw [is_of ho.2]; decide) (by rw [ho.1]; decide) (by omega), he]
    show ∃ e', loop (f + 1) lv _ 3 (S.mk _ (opn + 1 - 1) 0 0) = _
    rw [show opn + 1 - 1 = opn by omega]
    exact ⟨_, loop_stop _ _ _ _ _ _ _ _ hr⟩
theorem bang_deep {n : Nat} {d : Int} {l r : List Out} (h : Bng s_bang n d l r) : ∀ (f lv : Nat) (opn : Int), lv ≤ 3 → 2 * n + 2 ≤ f → 64 < opn + n → opn ≤ 64 → opn ≤ d → Bad (exprAt f lv ⟨l, opn, 0, 0⟩).2 := by
  induction h with
  | base ha hp hx => intro f lv opn _ hf h1 h2; omega
  | @step d n o l r ho hd t ih =>
    intro f lv opn hlv hf hn h64 hle
    obtain ⟨f, rfl⟩ : ∃ g, f = g + 1 := ⟨f - 1, by omega⟩
    rw [bang_expr f lv hlv _ _ _ ho]
    refine Bad.keep ?_ ((ek.expr f).2.1 _ _ _ _)
    unfold prefixed within
    refine Bad.keep ?_ (ek.less _)
    by_cases h4 : opn = 64
    · refine Bad.keep ?_ ((ek.expr f).1 3 _)
      have := enter_deep (S.mk (o :: l) opn 0 0) s_bang (show is o s_bang = true from by rw [is_of ho.2]; decide) h4 rfl
      exact ⟨this.1, by rw [this.2]; show (64 : Int) ≤ o.pos; omega⟩
    · rw [enter_fine _ _ _ _ (by rw [is_of ho.2]; decide) (by rw [ho.1]; decide) h4]
      exact ih f 3 (opn + 1) (by omega) (by omega) (by omega) (by omega) (by omega)
theorem minus_term (f : Nat) (o : Out) (l : List Out) (opn : Int) (ho : Tok o 4 s_minus) : term (f + 1) ⟨o :: l, opn, 0, 0⟩ = prefixed 6 0 s_minus (term f) o.pos ⟨o :: l, opn, 0, 0⟩ := by
  rw [term, if_neg (by show ¬ o.kind = 2; rw [ho.1]; decide), if_neg (by show ¬ o.kind = 1; rw [ho.1]; decide), show (S.mk (o :: l) opn 0 0).sees s_minus = true from by show is o s_minus = true; rw [is_of ho.2]; decide, if_pos rfl]
  rfl
theorem minus_ok {n : Nat} {d : Int} {l r : List Out} (h : Bng s_minus n d l r) : ∀ (f : Nat) (opn : Int), n + 1 ≤ f → opn + n ≤ 64 → ∃ e, term f ⟨l, opn, 0, 0⟩ = (e, ⟨r, opn, 0, 0⟩) := by
  induction h with
  | base ha hp hx =>
    intro f opn hf _
    obtain ⟨f, rfl⟩ : ∃ g, f = g + 1 := ⟨f - 1, by omega⟩
    exact term_path f _ _ _ _ opn ha hp hx
  | step ho hd t ih =>
    intro f opn hf hn
    obtain ⟨f, rfl⟩ : ∃ g, f = g + 1 := ⟨f - 1, by omega⟩
    obtain ⟨e, he⟩ := ih f (opn + 1) (by omega) (by omega)
    rw [minus_term f _ _ _ ho]
    unfold prefixed within
    rw [enter_fine _ _ _ _ (by rw [is_of ho.2]; decide) (by rw [ho.1]; decide) (by omega), he]
    show ∃ e', (_, S.mk _ (opn + 1 - 1) 0 0) = _
    rw [show opn + 1 - 1 = opn by omega]
    exact ⟨_, rfl⟩
theorem minus_deep {n : Nat} {d : Int} {l r : List Out} (h : Bng s_minus n d l r) : ∀ (f : Nat) (opn : Int), n + 1 ≤ f → 64 < opn + n → opn ≤ 64 → opn ≤ d → Bad (term f ⟨l, opn, 0, 0⟩).2 := by
  induction h with
  | base ha hp hx => intro f opn hf h1 h2; omega
  | @step d n o l r ho hd t ih =>
    intro f opn hf hn h64 hle
    obtain ⟨f, rfl⟩ : ∃ g, f = g + 1 := ⟨f - 1, by omega⟩
    rw [minus_term f _ _ _ ho]
    unfold prefixed within
    refine Bad.keep ?_ (ek.less _)
    by_cases h4 : opn = 64
    · refine Bad.keep ?_ ((ek.expr f).2.2 _)
      have := enter_deep (S.mk (o :: l) opn 0 0) s_minus (show is o s_minus = true from by rw [is_of ho.2]; decide) h4 rfl
      exact ⟨this.1, by rw [this.2]; show (64 : Int) ≤ o.pos; omega⟩
    · rw [enter_fine _ _ _ _ (by rw [is_of ho.2]; decide) (by rw [ho.1]; decide) h4]
      exact ih f (opn + 1) (by omega) (by omega) (by omega) (by omega)
theorem mul_term (f : Nat) (k o : Out) (l : List Out) (opn : Int) (hk : k.kind = 2) (ho : Tok o 4 s_star) : term (f + 1) ⟨k :: o :: l, opn, 0, 0⟩ = prefixed 7 k.n s_star (term f) k.pos ⟨o :: l, opn, 0, 0⟩ := by
  rw [term, if_pos (by exact hk), pass_fine _ _ _ (by rw [hk]; decide), show (S.mk (o :: l) opn 0 0).sees s_star = true from by show is o s_star = true; rw [is_of ho.2]; decide, if_pos rfl]
  rfl
theorem mul_ok {n : Nat} {d : Int} {l r : List Out} (h : Mul n d l r) : ∀ (f : Nat) (opn : Int), n + 1 ≤ f → opn + n ≤ 64 → ∃ e, term f ⟨l, opn, 0, 0⟩ = (e, ⟨r, opn, 0, 0⟩) := by
  induction h with
  | base ha hp hx =>
    intro f opn hf _
    obtain ⟨f, rfl⟩ : ∃ g, f = g + 1 := ⟨f - 1, by omega⟩
    exact term_path f _ _ _ _ opn ha hp hx
  | step hk ho hd t ih =>
    intro f opn hf hn
    obtain ⟨f, rfl⟩ : ∃ g, f = g + 1 := ⟨f - 1, by omega⟩
    obtain ⟨e, he⟩ := ih f (opn + 1) (by omega) (by omega)
    rw [mul_term f _ _ _ _ hk ho]
    unfold prefixed within
    rw [enter_fine _ _ _ _ (by rw [is_of ho.2]; decide) (by rw [ho.1]; decide) (by omega), he]
    show ∃ e', (_, S.mk _ (opn + 1 - 1) 0 0) = _
    rw [show opn + 1 - 1 = opn by omega]
    exact ⟨_, rfl⟩
theorem mul_deep {n : Nat} {d : Int} {l r : List Out} (h : Mul n d l r) : ∀ (f : Nat) (opn : Int), n + 1 ≤ f → 64 < opn + n → opn ≤ 64 → opn ≤ d → Bad (term f ⟨l, opn, 0, 0⟩).2 := by
  induction h with
  | base ha hp hx => intro f opn hf h1 h2; omega
  | @step d n k o l r hk ho hd t ih =>
    intro f opn hf hn h64 hle
    obtain ⟨f, rfl⟩ : ∃ g, f = g + 1 := ⟨f - 1, by omega⟩
    rw [mul_term f _ _ _ _ hk ho]
    unfold prefixed within
    refine Bad.keep ?_ (ek.less _)
    by_cases h4 : opn = 64
    · refine Bad.keep ?_ ((ek.expr f).2.2 _)
      have := enter_deep (S.mk (o :: l) opn 0 0) s_star (show is o s_star = true from by rw [is_of ho.2]; decide) h4 rfl
      exact ⟨this.1, by rw [this.2]; show (64 : Int) ≤ o.pos; omega⟩
    · rw [enter_fine _ _ _ _ (by rw [is_of ho.2]; decide) (by rw [ho.1]; decide) h4]
      exact ih f (opn + 1) (by omega) (by omega) (by omega) (by omega)
theorem expr_of_term {f lv : Nat} {s : S} (hb : s.sees s_bang = false) {r : List Out} {opn : Int} (hr : Stops r) (h : ∃ e, term (f + 1) s = (e, ⟨r, opn, 0, 0⟩)) : ∃ e, exprAt (f + 2) lv s = (e, ⟨r, opn, 0, 0⟩) := by
  obtain ⟨e, he⟩ := h
  refine ⟨e, ?_⟩
  rw [not_lt _ _ hb, he]
  exact loop_stop _ _ _ _ _ _ _ _ hr
theorem bad_of_term {f lv : Nat} {s : S} (hb : s.sees s_bang = false) (h : Bad (term f s).2) : Bad (exprAt (f + 1) lv s).2 := by
  rw [not_lt _ _ hb]
  exact h.keep ((ek.expr f).2.1 _ _ _ _)
/-- Empty blocks, one within the other, each of a loop. -/
inductive Nb : Nat → List Out → List Out → Prop
  | base {o c : Out} {r : List Out} (ho : Tok o 4 s_lbr) (hp : 0 < o.pos) (hc : Tok c 4 s_rbr) : Nb 0 (o :: c :: r) r
  | step {n : Nat} {o k c : Out} {l r : List Out} (ho : Tok o 4 s_lbr) (hp : 0 < o.pos) (hk : Tok k 3 k_loop) (hc : Tok c 4 s_rbr) (t : Nb n l (c :: r)) : Nb (n + 1) (o :: k :: l) r
theorem stmts_stop (f : Nat) (l : List St) (c : Out) (r : List Out) (opn : Int) (hc : Tok c 4 s_rbr) : stmtsF (f + 1) l ⟨c :: r, opn, 0, 0⟩ = (bl l, ⟨c :: r, opn, 0, 0⟩) := by
  have : kindOf c = 0 := by unfold kindOf; rw [if_neg (by rw [hc.1]; decide)]; simp only [is_of hc.2]; decide
  rw [stmtsF, if_pos (by exact this)]
theorem stmts_loop (f : Nat) (l : List St) (k : Out) (t : List Out) (opn : Int) (hk : Tok k 3 k_loop) : stmtsF (f + 1) l ⟨k :: t, opn, 0, 0⟩ = stmtsF f (l ++ [stAt (st 5 e0 e0 0 exZ [(block (stmtsF f []) ⟨t, opn, 0, 0⟩).1] 0) k.pos]) (block (stmtsF f []) ⟨t, opn, 0, 0⟩).2 := by
  have h5 : kindOf k = 5 := by unfold kindOf; rw [if_neg (by rw [hk.1]; decide)]; simp only [is_of hk.2]; decide
  rw [stmtsF]
  show (if kindOf k = 0 then _ else stmtsF f (l ++ [stAt (stmt _ _ (kindOf k) _).1 k.pos]) (stmt _ _ (kindOf k) _).2) = _
  rw [h5, if_neg (by decide)]
  unfold stmt stLoop
  simp only
  rw [want_fine _ _ _ _ (by rw [is_of hk.2]; decide) (by rw [hk.1]; decide)]
theorem nb_ok {n : Nat} {l r : List Out} (h : Nb n l r) : ∀ (f : Nat) (opn : Int), 2 * n + 1 ≤ f → opn + n + 1 ≤ 64 → ∃ e, block (stmtsF f []) ⟨l, opn, 0, 0⟩ = (e, ⟨r, opn, 0, 0⟩) := by
  induction h with
  | base ho hp hc =>
    intro f opn hf hn
    obtain ⟨f, rfl⟩ : ∃ g, f = g + 1 := ⟨f - 1, by omega⟩
    unfold block enclosed within
    rw [enter_fine _ _ _ _ (by rw [is_of ho.2]; decide) (by rw [ho.1]; decide) (by omega), stmts_stop f _ _ _ _ hc]
    show ∃ e, (_, (S.mk _ (opn + 1 - 1) 0 0).want s_rbr) = _
    rw [show opn + 1 - 1 = opn by omega, want_fine _ _ _ _ (by rw [is_of hc.2]; decide) (by rw [hc.1]; decide)]
    exact ⟨_, rfl⟩
  | step ho hp hk hc t ih =>
    intro f opn hf hn
    obtain ⟨f, rfl⟩ : ∃ g, f = g + 2 := ⟨f - 2, by omega⟩
    obtain ⟨e, he⟩ := ih (f + 1) (opn + 1) (by omega) (by omega)
    unfold block enclosed within
    rw [enter_fine _ _ _ _ (by rw [is_of ho.2]; decide) (by rw [ho.1]; decide) (by omega), stmts_loop _ _ _ _ _ hk, he, stmts_stop f _ _ _ _ hc]
    show ∃ e, (_, (S.mk _ (opn + 1 - 1) 0 0).want s_rbr) = _
    rw [show opn + 1 - 1 = opn by omega, want_fine _ _ _ _ (by rw [is_of hc.2]; decide) (by rw [hc.1]; decide)]
    exact ⟨_, rfl⟩
def Bad1 (s : S) : Prop := s.err = 41 ∧ 0 < s.pos
theorem Bad1.keep {s s' : S} (h : Bad1 s) (k : Ek s s') : Bad1 s' := by
  obtain ⟨a, b⟩ := k (by rw [h.1]; decide)
  exact ⟨a.trans h.1, by rw [b]; exact h.2⟩
theorem nb_deep {n : Nat} {l r : List Out} (h : Nb n l r) : ∀ (f : Nat) (opn : Int), 2 * n + 1 ≤ f → 64 < opn + n + 1 → opn ≤ 64 → Bad1 (block (stmtsF f []) ⟨l, opn, 0, 0⟩).2 := by
  induction h with
  | @base o c r ho hp hc =>
    intro f opn hf hn h64
    unfold block enclosed
    refine Bad1.keep ?_ (ek.want _ _)
    unfold within
    refine Bad1.keep ?_ (ek.less _)
    refine Bad1.keep ?_ (ek.stmts f _ _)
    have := enter_deep (S.mk (o :: c :: r) opn 0 0) s_lbr (show is o s_lbr = true from by rw [is_of ho.2]; decide) (by show opn = 64; omega) rfl
    exact ⟨this.1, by rw [this.2]; show (0 : Int) < o.pos; omega⟩
  | @step n o k c l r ho hp hk hc t ih =>
    intro f opn hf hn h64
    obtain ⟨f, rfl⟩ : ∃ g, f = g + 1 := ⟨f - 1, by omega⟩
    unfold block enclosed
    refine Bad1.keep ?_ (ek.want _ _)
    unfold within
    refine Bad1.keep ?_ (ek.less _)
    by_cases h4 : opn = 64
    · refine Bad1.keep ?_ (ek.stmts _ _ _)
      have := enter_deep (S.mk (o :: k :: l) opn 0 0) s_lbr (show is o s_lbr = true from by rw [is_of ho.2]; decide) h4 rfl
      exact ⟨this.1, by rw [this.2]; show (0 : Int) < o.pos; omega⟩
    · rw [enter_fine _ _ _ _ (by rw [is_of ho.2]; decide) (by rw [ho.1]; decide) h4, stmts_loop _ _ _ _ _ hk]
      exact (ih f (opn + 1) (by omega) (by omega) (by omega)).keep (ek.stmts f _ _)
/-- A thread with such blocks. -/
theorem thread_reads (g f : Nat) (t a b : Out) (l : List Out) (ht : Tok t 3 k_thread) (ha : a.kind = 1) (hb : Tok b 4 s_star) : (progF g (f + 1) [] [] ⟨t :: a :: b :: l, 0, 0, 0⟩).2 = (progF g f [] [⟨a.text, true, 0, (block (stmtsF g []) ⟨l, 0, 0, 0⟩).1, a.pos⟩] (block (stmtsF g []) ⟨l, 0, 0, 0⟩).2).2 := by
  rw [progF, show (S.mk (t :: a :: b :: l) 0 0 0).sees k_monitor = false from by show is t k_monitor = false; rw [is_of ht.2]; decide, if_neg (by simp), show (S.mk (t :: a :: b :: l) 0 0 0).sees k_thread = true from by show is t k_thread = true; rw [is_of ht.2]; decide, if_pos rfl]
  have hfull : (S.mk (t :: a :: b :: l) 0 0 0).full (decide (8 ≤ ([] : List Ro).length)) = ⟨a :: b :: l, 0, 0, 0⟩ := by
    show (S.mk (t :: a :: b :: l) 0 0 0).pass = _
    exact pass_fine _ _ _ (by rw [ht.1]; decide)
  have hrole : role g ⟨a :: b :: l, 0, 0, 0⟩ = (⟨a.text, true, 0, (block (stmtsF g []) ⟨l, 0, 0, 0⟩).1, a.pos⟩, (block (stmtsF g []) ⟨l, 0, 0, 0⟩).2) := by
    unfold role
    rw [take_fine a _ 0 1 ha (by rw [ha]; decide)]
    simp only
    rw [show (S.mk (b :: l) 0 0 0).sees s_star = true from by show is b s_star = true; rw [is_of hb.2]; decide, if_pos rfl, pass_fine _ _ _ (by rw [hb.1]; decide)]
    rfl
  unfold oneMore
  rw [hfull, hrole]
  rfl
theorem prog_end (g f : Nat) (m : List Mo) (r : List Ro) (z : Out) (hz : z.text = e0) : progF g f m r ⟨[z], 0, 0, 0⟩ = (pr m r, ⟨[z], 0, 0, 0⟩) := by
  cases f with
  | zero => rfl
  | succ f => rw [progF, show (S.mk [z] 0 0 0).sees k_monitor = false from by show is z k_monitor = false; rw [is_of hz]; decide, if_neg (by simp), show (S.mk [z] 0 0 0).sees k_thread = false from by show is z k_thread = false; rw [is_of hz]; decide, if_neg (by simp)]
end Pz
end Go.Proofs.YtaekbgljbgmchaaGreatDoor
namespace Go.Proofs.YtaekbgljbgmchaaGreatDoor
open Go.RowKit
namespace Lx
/-- A token without its place, and an error's number. -/
structure T where
  kind : Int
  text : List UInt8
  n : Int
  err : Int
def badT (e : Int) : T := ⟨0, [], 0, e⟩
def nameT (x : List UInt8) : T := if words.contains x then ⟨3, x, 0, 0⟩ else if 32 < x.length then badT 12 else ⟨1, x, 0, 0⟩
def numT (x : List UInt8) : T := if 1 < x.length ∧ x.head? = some 48 then badT 11 else if decVal x ≤ 9223372036854775807 then ⟨2, x, (decVal x : Nat), 0⟩ else badT 11
def second : List UInt8 → Int
  | _ :: d :: _ => (d.toNat : Int)
  | _ => 0
def signT (l : List UInt8) : T := match l with
  | [] => badT 10
  | c :: _ => if signLen (c.toNat : Int) (second l) = 0 then badT 10 else ⟨4, l.take (signLen (c.toNat : Int) (second l)), 0, 0⟩
/-- The token at the head of a list of bytes. -/
def tokL (l : List UInt8) : T := match l with
  | [] => badT 10
  | c :: _ => if letter c then nameT (l.takeWhile nameByte) else if digit c then numT (l.takeWhile digit) else signT l
def ofOut (o : Out) : T := ⟨o.kind, o.text.data.toList, o.n, o.err⟩
theorem tokL_out (s : ByteArray) (a : Nat) (ha : a < s.size) : tokL (s.data.toList.drop a) = ofOut (tokOut s a) := by
  have hdc := drop_cons s a ha
  cases hl : letter s[a]
  · cases hd : digit s[a]
    · rw [tokOut_sign s a ha hl hd]
      have hsec : second (s.data.toList.drop a) = byteAt s (a + 1) := by
        rw [hdc]
        by_cases h1 : a + 1 < s.size
        · rw [drop_cons s (a + 1) h1, byteAt_lt s (a + 1) h1]; rfl
        · rw [drop_over s (a + 1) (by omega), byteAt_over s (a + 1) h1]; rfl
      have hb := byteAt_lt s a ha
      have e : tokL (s.data.toList.drop a) = signT (s.data.toList.drop a) := by rw [hdc]; simp [tokL, hl, hd]
      rw [e]
      have e2 : signT (s.data.toList.drop a) = if signLen (byteAt s a) (byteAt s (a + 1)) = 0 then badT 10 else ⟨4, (s.data.toList.drop a).take (signLen (byteAt s a) (byteAt s (a + 1))), 0, 0⟩ := by
        rw [← hsec, hb]; rw [hdc]; rfl
      rw [e2]
      unfold signOut
      by_cases h0 : signLen (byteAt s a) (byteAt s (a + 1)) = 0
      · rw [if_pos h0, if_pos h0]; rfl
      · rw [if_neg h0, if_neg h0]
        simp only [ofOut, extract_list, Nat.add_sub_cancel_left]
    · rw [tokOut_digit s a ha hl hd]
      have e : tokL (s.data.toList.drop a) = numT ((s.data.toList.drop a).takeWhile digit) := by rw [hdc]; simp [tokL, hl, hd]
      rw [e, ← extract_span]
      have hh : (s.extract a (spanEnd digit s a)).data.toList.head? = some s[a] := by rw [extract_span, hdc]; simp [hd]
      have hsz : (s.extract a (spanEnd digit s a)).data.toList.length = (s.extract a (spanEnd digit s a)).size := by rw [Array.length_toList]; rfl
      have hb := byteAt_lt s a ha
      unfold numT numOut
      rw [hh, hsz, hb]
      have e48 : (some s[a] = some (48 : UInt8)) ↔ ((s[a].toNat : Int) = 48) := by
        constructor
        · intro h; rw [Option.some.inj h]; decide
        · intro h; rw [show s[a] = 48 from u8_eq _ 48 h]
      simp only [e48]
      split
      · rfl
      · split <;> rfl
  · rw [tokOut_letter s a ha hl]
    have e : tokL (s.data.toList.drop a) = nameT ((s.data.toList.drop a).takeWhile nameByte) := by rw [hdc]; simp [tokL, hl]
    rw [e, ← extract_span]
    have hsz : (s.extract a (spanEnd nameByte s a)).data.toList.length = (s.extract a (spanEnd nameByte s a)).size := by rw [Array.length_toList]; rfl
    unfold nameT nameOut word
    rw [hsz, ByteArray.toList_eq]
    split
    · rfl
    · split <;> rfl
/-- How a list of bytes is told. -/
inductive RL where
  | done (l : List T)
  | fail (e : Int) (k : Nat)
def consR (t : T) (m : Nat) : RL → RL
  | .done l => .done (t :: l)
  | .fail e k => .fail e (k + t.text.length + m)
inductive Scans : List UInt8 → RL → Prop
  | nil (l : List UInt8) (h : l.drop (skipC false l) = []) : Scans l (.done [])
  | bad (l : List UInt8) (c : UInt8) (r : List UInt8) (h : l.drop (skipC false l) = c :: r) (he : (tokL (c :: r)).err ≠ 0) : Scans l (.fail (tokL (c :: r)).err (skipC false l))
  | tok (l : List UInt8) (c : UInt8) (r : List UInt8) (R : RL) (h : l.drop (skipC false l) = c :: r) (he : (tokL (c :: r)).err = 0) (hR : Scans ((c :: r).drop (tokL (c :: r)).text.length) R) : Scans l (consR (tokL (c :: r)) (skipC false l) R)
theorem Scans.det {l : List UInt8} {R R' : RL} (h : Scans l R) (h' : Scans l R') : R = R' := by
  induction h generalizing R' with
  | nil l h =>
    cases h' with
    | nil => rfl
    | bad _ c r h2 => rw [h] at h2; cases h2
    | tok _ c r R h2 => rw [h] at h2; cases h2
  | bad l c r h he =>
    cases h' with
    | nil _ h2 => rw [h] at h2; cases h2
    | bad _ c' r' h2 => rw [h] at h2; cases h2; rfl
    | tok _ c' r' R h2 he2 => rw [h] at h2; cases h2; exact absurd he2 he
  | tok l c r R h he hR ih =>
    cases h' with
    | nil _ h2 => rw [h] at h2; cases h2
    | bad _ c' r' h2 he2 => rw [h] at h2; cases h2; exact absurd he he2
    | tok _ c' r' R2 h2 he2 hR2 => rw [h] at h2; cases h2; rw [ih hR2]
/-- What the scan from a place on tells, behind acc, is what is told of the bytes from there on. -/
def Fits (acc : List Out) (k : Nat) : ScanR → RL → Prop
  | .done l, .done ts => ∃ o, l = acc ++ o ∧ o.map ofOut = ts
  | .fail e j, .fail e' k' => e = e' ∧ j = k + k'
  | _, _ => False
theorem scan_fits (s : ByteArray) : ∀ (f k : Nat) (acc : List Out), k ≤ s.size → s.size ≤ skip s k + f → ∃ R, Scans (s.data.toList.drop k) R ∧ Fits acc k (scanF s f (skip s k) acc) R := by
  intro f
  have hdd : ∀ k, (s.data.toList.drop k).drop (skipC false (s.data.toList.drop k)) = s.data.toList.drop (skip s k) := by intro k; rw [List.drop_drop]; rfl
  induction f with
  | zero =>
    intro k acc hk hf
    refine ⟨.done [], .nil _ ?_, [], by simp, rfl⟩
    rw [hdd, drop_over s _ (by omega)]
  | succ f ih =>
    intro k acc hk hf
    by_cases hlt : skip s k < s.size
    · have hcons : (s.data.toList.drop k).drop (skipC false (s.data.toList.drop k)) = s[skip s k] :: s.data.toList.drop (skip s k + 1) := by rw [hdd, drop_cons s _ hlt]
      have htok : tokL (s[skip s k] :: s.data.toList.drop (skip s k + 1)) = ofOut (tokOut s (skip s k)) := by rw [← drop_cons s _ hlt]; exact tokL_out s _ hlt
      by_cases he : (tokOut s (skip s k)).err = 0
      · have hto := tok_ok s _ hlt he
        have hlen : (tokOut s (skip s k)).text.data.toList.length = (tokOut s (skip s k)).text.size := by rw [Array.length_toList]; rfl
        obtain ⟨R, hS, hF⟩ := ih (skip s k + (tokOut s (skip s k)).text.size) (acc ++ [tokOut s (skip s k)]) hto.2 (by have := le_skip s (skip s k + (tokOut s (skip s k)).text.size); omega)
        have hS2 : Scans ((s[skip s k] :: s.data.toList.drop (skip s k + 1)).drop (tokL (s[skip s k] :: s.data.toList.drop (skip s k + 1))).text.length) R := by
          rw [htok, ← drop_cons s _ hlt, List.drop_drop]
          show Scans (s.data.toList.drop (skip s k + (tokOut s (skip s k)).text.data.toList.length)) R
          rw [hlen]; exact hS
        refine ⟨_, .tok _ _ _ R hcons (by rw [htok]; exact he) hS2, ?_⟩
        rw [scanF, if_pos hlt, if_pos he]
        cases hR : R with
        | done ts =>
          rw [hR] at hF
          cases hsc : scanF s f (skip s (skip s k + (tokOut s (skip s k)).text.size)) (acc ++ [tokOut s (skip s k)]) with
          | done l =>
            rw [hsc] at hF
            obtain ⟨o, h1, h2⟩ := hF
            exact ⟨tokOut s (skip s k) :: o, by rw [h1]; simp, by rw [List.map_cons, h2, htok]⟩
          | fail e j => rw [hsc] at hF; exact hF.elim
        | fail e' k' =>
          rw [hR] at hF
          cases hsc : scanF s f (skip s (skip s k + (tokOut s (skip s k)).text.size)) (acc ++ [tokOut s (skip s k)]) with
          | done l => rw [hsc] at hF; exact hF.elim
          | fail e j =>
            rw [hsc] at hF
            obtain ⟨h1, h2⟩ := hF
            refine ⟨h1, ?_⟩
            rw [htok]
            show j = k + (k' + (tokOut s (skip s k)).text.data.toList.length + skipC false (s.data.toList.drop k))
            rw [hlen, h2]
            unfold skip; omega
      · refine ⟨_, .bad _ _ _ hcons (by rw [htok]; exact he), ?_⟩
        rw [scanF, if_pos hlt, if_neg he]
        exact ⟨by rw [htok]; rfl, rfl⟩
    · refine ⟨.done [], .nil _ (by rw [hdd, drop_over s _ (by omega)]), ?_⟩
      rw [scanF, if_neg hlt]
      exact ⟨[], by simp, rfl⟩
/-- A whole text's. -/
theorem scan_told (s : ByteArray) : ∃ R, Scans s.data.toList R ∧ Fits [] 0 (scan s) R := by
  have := scan_fits s s.size 0 [] (by omega) (by omega)
  simpa [scan] using this
theorem scan_of (s : ByteArray) (R : RL) (h : Scans s.data.toList R) : Fits [] 0 (scan s) R := by
  obtain ⟨R', h1, h2⟩ := scan_told s
  rw [h.det h1]; exact h2
end Lx
end Go.Proofs.YtaekbgljbgmchaaGreatDoor
namespace Go.Proofs.YtaekbgljbgmchaaGreatDoor
open Go.RowKit
namespace Lx
/-- A byte that ends every token ahead of it, as the end does. -/
def Brk (h : UInt8) : Prop := nameByte h = false ∧ digit h = false ∧ ∀ c : Int, signLen c (h.toNat : Int) = signLen c 0
theorem brk32 : Brk 32 := ⟨by decide, by decide, fun c => by simp only [show ((32 : UInt8).toNat : Int) = 32 from rfl]; unfold signLen; (repeat' split) <;> simp_all <;> omega⟩
theorem brk35 : Brk 35 := ⟨by decide, by decide, fun c => by simp only [show ((35 : UInt8).toNat : Int) = 35 from rfl]; unfold signLen; (repeat' split) <;> simp_all <;> omega⟩
theorem brk10 : Brk 10 := ⟨by decide, by decide, fun c => by simp only [show ((10 : UInt8).toNat : Int) = 10 from rfl]; unfold signLen; (repeat' split) <;> simp_all <;> omega⟩
theorem takeWhile_brk (p : UInt8 → Bool) (h : UInt8) (hp : p h = false) (l r : List UInt8) : (l ++ h :: r).takeWhile p = l.takeWhile p := by
  induction l with
  | nil => simp [hp]
  | cons c l ih => cases hc : p c <;> simp [hc, ih]
theorem signLen_two (c d : Int) : signLen c d ≤ 2 := by unfold signLen; (repeat' split) <;> omega
theorem signLen_end (c : UInt8) : signLen (c.toNat : Int) 0 ≤ 1 := by
  unfold signLen
  (repeat' split) <;> simp_all <;> omega
theorem signLen_one (c : UInt8) (d : Int) (h : signLen (c.toNat : Int) d = 1) : signLen (c.toNat : Int) 0 = 1 := by
  unfold signLen at h ⊢
  (repeat' split at h) <;> simp_all
theorem tok_stable (h : UInt8) (hb : Brk h) (c : UInt8) (l r : List UInt8) : tokL ((c :: l) ++ h :: r) = tokL (c :: l) := by
  have e : ∀ x, tokL (c :: x) = if letter c then nameT ((c :: x).takeWhile nameByte) else if digit c then numT ((c :: x).takeWhile digit) else signT (c :: x) := fun _ => rfl
  rw [List.cons_append, e, e, ← List.cons_append, takeWhile_brk nameByte h hb.1, takeWhile_brk digit h hb.2.1]
  split
  · rfl
  · split
    · rfl
    · cases l with
      | nil =>
        show (if signLen (c.toNat : Int) (h.toNat : Int) = 0 then badT 10 else ⟨4, ([c] ++ h :: r).take (signLen (c.toNat : Int) (h.toNat : Int)), 0, 0⟩) = (if signLen (c.toNat : Int) 0 = 0 then badT 10 else ⟨4, [c].take (signLen (c.toNat : Int) 0), 0, 0⟩)
        rw [hb.2.2, List.take_append_of_le_length (by simpa using signLen_end c)]
      | cons d l =>
        show (if signLen (c.toNat : Int) (d.toNat : Int) = 0 then badT 10 else ⟨4, ((c :: d :: l) ++ h :: r).take (signLen (c.toNat : Int) (d.toNat : Int)), 0, 0⟩) = (if signLen (c.toNat : Int) (d.toNat : Int) = 0 then badT 10 else ⟨4, (c :: d :: l).take (signLen (c.toNat : Int) (d.toNat : Int)), 0, 0⟩)
        rw [List.take_append_of_le_length (by have := signLen_two (c.toNat : Int) (d.toNat : Int); simp; omega)]
theorem takeWhile_self (p : UInt8 → Bool) (l : List UInt8) : (l.takeWhile p).takeWhile p = l.takeWhile p := by
  induction l with
  | nil => rfl
  | cons c l ih => cases hc : p c <;> simp [hc, ih]
theorem nameT_text (x : List UInt8) (h : (nameT x).err = 0) : (nameT x).text = x := by
  unfold nameT at h ⊢; split
  · rfl
  · rename_i hw; rw [if_neg hw] at h; split
    · rename_i h2; rw [if_pos h2] at h; simp [badT] at h
    · rfl
theorem numT_text (x : List UInt8) (h : (numT x).err = 0) : (numT x).text = x := by
  unfold numT at h ⊢; split
  · rename_i h2; rw [if_pos h2] at h; simp [badT] at h
  · rename_i h1; rw [if_neg h1] at h; split
    · rfl
    · rename_i h2; rw [if_neg h2] at h; simp [badT] at h
/-- A token's own text tells it; it begins as the list does. -/
theorem tok_self (c : UInt8) (l : List UInt8) (h : (tokL (c :: l)).err = 0) : tokL (tokL (c :: l)).text = tokL (c :: l) ∧ (∃ r, (tokL (c :: l)).text = c :: r) ∧ (tokL (c :: l)).text.length ≤ (c :: l).length := by
  have e : ∀ x, tokL (c :: x) = if letter c then nameT ((c :: x).takeWhile nameByte) else if digit c then numT ((c :: x).takeWhile digit) else signT (c :: x) := fun _ => rfl
  rw [e] at h ⊢
  cases hl : letter c
  · cases hd : digit c
    · simp only [hl, hd, Bool.false_eq_true, if_false] at h ⊢
      have es : ∀ x, tokL (c :: x) = signT (c :: x) := fun x => by rw [e]; simp [hl, hd]
      cases l with
      | nil =>
        have e1 : signT [c] = if signLen (c.toNat : Int) 0 = 0 then badT 10 else ⟨4, [c].take (signLen (c.toNat : Int) 0), 0, 0⟩ := rfl
        have h1 := signLen_end c
        rw [e1] at h ⊢
        by_cases h0 : signLen (c.toNat : Int) 0 = 0
        · rw [if_pos h0] at h; simp [badT] at h
        · have h2 : signLen (c.toNat : Int) 0 = 1 := by omega
          rw [if_neg h0, h2]
          refine ⟨?_, ⟨[], rfl⟩, by simp⟩
          show tokL [c] = _
          rw [es, e1, if_neg h0, h2]
      | cons d l =>
        have e1 : ∀ x, signT (c :: d :: x) = if signLen (c.toNat : Int) (d.toNat : Int) = 0 then badT 10 else ⟨4, (c :: d :: x).take (signLen (c.toNat : Int) (d.toNat : Int)), 0, 0⟩ := fun _ => rfl
        have h1 := signLen_two (c.toNat : Int) (d.toNat : Int)
        rw [e1] at h ⊢
        by_cases h0 : signLen (c.toNat : Int) (d.toNat : Int) = 0
        · rw [if_pos h0] at h; simp [badT] at h
        · rw [if_neg h0]
          by_cases h2 : signLen (c.toNat : Int) (d.toNat : Int) = 1
          · rw [h2]
            refine ⟨?_, ⟨[], rfl⟩, by simp⟩
            show tokL [c] = _
            have h3 := signLen_one c _ h2
            rw [es]
            show (if signLen (c.toNat : Int) 0 = 0 then badT 10 else ⟨4, [c].take (signLen (c.toNat : Int) 0), 0, 0⟩) = _
            rw [h3]; rfl
          · have h2' : signLen (c.toNat : Int) (d.toNat : Int) = 2 := by omega
            rw [h2']
            refine ⟨?_, ⟨[d], rfl⟩, by simp⟩
            show tokL [c, d] = _
            rw [es, e1, if_neg h0, h2']; rfl
    · simp only [hl, hd, Bool.false_eq_true, if_false, if_true] at h ⊢
      rw [numT_text _ h]
      have hx : (c :: l).takeWhile digit = c :: l.takeWhile digit := by simp [hd]
      refine ⟨?_, ⟨_, hx⟩, (List.takeWhile_sublist _).length_le⟩
      have hs := takeWhile_self digit (c :: l)
      rw [hx] at hs ⊢
      rw [e, hs]; simp [hl, hd]
  · simp only [hl, if_true] at h ⊢
    rw [nameT_text _ h]
    have hx : (c :: l).takeWhile nameByte = c :: l.takeWhile nameByte := by simp [nameByte, hl]
    refine ⟨?_, ⟨_, hx⟩, (List.takeWhile_sublist _).length_le⟩
    have hs := takeWhile_self nameByte (c :: l)
    rw [hx] at hs ⊢
    rw [e, hs]; simp [hl]
theorem skip_head : ∀ (l : List UInt8) (b : Bool) (c : UInt8) (r : List UInt8), l.drop (skipC b l) = c :: r → blank c = false ∧ c ≠ 35 := by
  intro l
  induction l with
  | nil => intro b c r h; simp at h
  | cons x l ih =>
    intro b c r h
    cases b with
    | true =>
      simp only [skipC] at h
      split at h
      · exact ih false c r (by simpa using h)
      · exact ih true c r (by simpa using h)
    | false =>
      simp only [skipC] at h
      split at h
      · exact ih true c r (by simpa using h)
      · rename_i h35
        split at h
        · exact ih false c r (by simpa using h)
        · rename_i hb
          simp at h
          rw [← h.1]
          exact ⟨by simpa using hb, h35⟩
def Good (t : T) : Prop := t.err = 0 ∧ tokL t.text = t ∧ ∃ c r, t.text = c :: r ∧ blank c = false ∧ c ≠ 35
theorem good_of {l : List UInt8} {R : RL} (h : Scans l R) : ∀ ts, R = .done ts → ∀ t ∈ ts, Good t := by
  induction h with
  | nil l h => intro ts e t ht; cases e; simp at ht
  | bad l c r h he => intro ts e; cases e
  | tok l c r R h he hR ih =>
    intro ts e t ht
    cases hRR : R with
    | fail e' k => rw [hRR] at e; cases e
    | done us =>
      rw [hRR] at e
      have e2 : tokL (c :: r) :: us = ts := by injection e
      rw [← e2] at ht
      rcases List.mem_cons.1 ht with rfl | ht
      · obtain ⟨h1, ⟨r', h2⟩, _⟩ := tok_self c r he
        obtain ⟨h3, h4⟩ := skip_head _ _ _ _ h
        exact ⟨he, h1, c, r', h2, h3, h4⟩
      · exact ih us hRR t ht
theorem skip_zero (c : UInt8) (l : List UInt8) (h : blank c = false) (h35 : c ≠ 35) : skipC false (c :: l) = 0 := by simp [skipC, h, h35]
theorem blank_step {l : List UInt8} {R : RL} (h : Scans l R) : ∀ ts, R = .done ts → Scans (32 :: l) (.done ts) := by
  have hs : ∀ l, skipC false (32 :: l) = skipC false l + 1 := fun l => by simp [skipC, blank]
  cases h with
  | nil _ h => intro ts e; cases e; exact .nil _ (by rw [hs]; simpa using h)
  | bad _ c r h he => intro ts e; cases e
  | tok _ c r R h he hR =>
    intro ts e
    cases hRR : R with
    | fail e' k => rw [hRR] at e; cases e
    | done us =>
      rw [hRR] at e hR
      have := Scans.tok (32 :: l) c r (.done us) (by rw [hs]; simpa using h) he hR
      rw [← e]; exact this
/-- TOLD AGAIN. -/
theorem again (ts : List T) (h : ∀ t ∈ ts, Good t) : Scans (ts.flatMap fun t => t.text ++ [32]) (.done ts) := by
  induction ts with
  | nil => exact .nil _ (by simp)
  | cons t ts ih =>
    obtain ⟨h0, h1, c, r, h2, h3, h4⟩ := h t (by simp)
    have hrest := blank_step (ih (fun t ht => h t (by simp [ht]))) ts rfl
    have e1 : ((t :: ts).flatMap fun t => t.text ++ [32]) = (c :: r) ++ 32 :: (ts.flatMap fun t => t.text ++ [32]) := by
      rw [List.flatMap_cons, h2]; simp
    have hst := tok_stable 32 brk32 c r (ts.flatMap fun t => t.text ++ [32])
    rw [← h2, h1] at hst
    have hsk : skipC false ((c :: r) ++ 32 :: (ts.flatMap fun t => t.text ++ [32])) = 0 := skip_zero c _ h3 h4
    rw [e1]
    have := Scans.tok ((c :: r) ++ 32 :: (ts.flatMap fun t => t.text ++ [32])) c (r ++ 32 :: (ts.flatMap fun t => t.text ++ [32])) (.done ts) (by rw [hsk]; rfl)
      (by rw [← List.cons_append, ← h2, hst]; exact h0) (by rw [← List.cons_append, ← h2, hst]; simpa using hrest)
    rw [← List.cons_append, ← h2, hst] at this
    rw [← h2]
    exact this
/-- What is passed over between two texts. -/
def Gap (g : List UInt8) : Prop := (∃ b r, g = b :: r ∧ Brk b) ∧ ∀ (b : Bool) (t : List UInt8), skipC b (g ++ t) = g.length + skipC false t
theorem skip_all (g t : List UInt8) (hg : Gap g) : ∀ (l : List UInt8) (b : Bool), skipC b l = l.length → skipC b (l ++ (g ++ t)) = l.length + (g.length + skipC false t) := by
  intro l
  induction l with
  | nil => intro b _; simpa using hg.2 b t
  | cons x l ih =>
    intro b h
    cases b with
    | true =>
      simp only [skipC, List.length_cons] at h
      simp only [List.cons_append, skipC, List.length_cons]
      split at h
      · rename_i h10; rw [if_pos h10, ih false (by omega)]; omega
      · rename_i h10; rw [if_neg h10, ih true (by omega)]; omega
    | false =>
      simp only [skipC, List.length_cons] at h
      simp only [List.cons_append, skipC, List.length_cons]
      split at h
      · rename_i h35; rw [if_pos h35, ih true (by omega)]; omega
      · rename_i h35
        rw [if_neg h35]
        split at h
        · rename_i hb; rw [if_pos hb, ih false (by omega)]; omega
        · omega
theorem skip_part (x : List UInt8) : ∀ (l : List UInt8) (b : Bool), skipC b l < l.length → skipC b (l ++ x) = skipC b l := by
  intro l
  induction l with
  | nil => intro b h; simp at h
  | cons y l ih =>
    intro b h
    cases b with
    | true =>
      simp only [skipC, List.length_cons] at h
      simp only [List.cons_append, skipC]
      split at h
      · rename_i h10; rw [if_pos h10, if_pos h10, ih false (by omega)]
      · rename_i h10; rw [if_neg h10, if_neg h10, ih true (by omega)]
    | false =>
      simp only [skipC, List.length_cons] at h
      simp only [List.cons_append, skipC]
      split at h
      · rename_i h35; rw [if_pos h35, if_pos h35, ih true (by omega)]
      · rename_i h35
        rw [if_neg h35, if_neg h35]
        split at h
        · rename_i hb; rw [if_pos hb, if_pos hb, ih false (by omega)]
        · rename_i hb; rw [if_neg hb, if_neg hb]
def addR (ts : List T) (m : Nat) : RL → RL
  | .done us => .done (ts ++ us)
  | .fail e k => .fail e (k + m)
theorem glue0 {l : List UInt8} (hl : l.drop (skipC false l) = []) (g t : List UInt8) (hg : Gap g) {R : RL} (hR : Scans t R) : Scans (l ++ (g ++ t)) (addR [] (l.length + g.length) R) := by
  have hall : skipC false l = l.length := by
    have h1 := skipC_le false l
    have h2 := congrArg List.length hl
    rw [List.length_drop, List.length_nil] at h2; omega
  have hsk := skip_all g t hg l false hall
  have hdr : ∀ m, (l ++ (g ++ t)).drop (l.length + (g.length + m)) = t.drop m := by
    intro m; rw [List.drop_append, List.drop_of_length_le (by omega), List.nil_append, List.drop_append, List.drop_of_length_le (by omega), List.nil_append]; congr 1; omega
  cases hR with
  | nil _ h => exact .nil _ (by rw [hsk, hdr]; exact h)
  | bad _ c r h he =>
    have := Scans.bad (l ++ (g ++ t)) c r (by rw [hsk, hdr]; exact h) he
    rw [hsk] at this
    show Scans _ (.fail _ (skipC false t + (l.length + g.length)))
    rw [show skipC false t + (l.length + g.length) = l.length + (g.length + skipC false t) by omega]; exact this
  | tok _ c r R h he hR =>
    have := Scans.tok (l ++ (g ++ t)) c r R (by rw [hsk, hdr]; exact h) he hR
    rw [hsk] at this
    cases R with
    | done us => exact this
    | fail e k =>
      show Scans _ (.fail e (k + (tokL (c :: r)).text.length + skipC false t + (l.length + g.length)))
      rw [show k + (tokL (c :: r)).text.length + skipC false t + (l.length + g.length) = k + (tokL (c :: r)).text.length + (l.length + (g.length + skipC false t)) by omega]; exact this
/-- TWO TEXTS WITH A GAP BETWEEN. -/
theorem glue {l : List UInt8} {R0 : RL} (h : Scans l R0) (g t : List UInt8) (hg : Gap g) {R : RL} (hR : Scans t R) : ∀ ts, R0 = .done ts → Scans (l ++ (g ++ t)) (addR ts (l.length + g.length) R) := by
  induction h with
  | nil l h => intro ts e; cases e; exact glue0 h g t hg hR
  | bad l c r h he => intro ts e; cases e
  | tok l c r R1 h he hR1 ih =>
    intro ts e
    cases hRR : R1 with
    | fail e' k => rw [hRR] at e; cases e
    | done us =>
      rw [hRR] at e
      have e2 : tokL (c :: r) :: us = ts := by injection e
      have ih2 := ih us hRR
      have hlt : skipC false l < l.length := by
        have h2 := congrArg List.length h
        rw [List.length_drop, List.length_cons] at h2; omega
      have hlen : (c :: r).length = l.length - skipC false l := by rw [← h, List.length_drop]
      obtain ⟨_, _, htl⟩ := tok_self c r he
      obtain ⟨⟨b, gr, rfl, hb⟩, _⟩ := hg
      have hst : tokL (c :: (r ++ (b :: gr ++ t))) = tokL (c :: r) := by
        have := tok_stable b hb c r (gr ++ t)
        simpa using this
      have hsk := skip_part (b :: gr ++ t) l false hlt
      have h3 : (l ++ (b :: gr ++ t)).drop (skipC false (l ++ (b :: gr ++ t))) = c :: (r ++ (b :: gr ++ t)) := by
        rw [hsk, List.drop_append_of_le_length (by omega), h]; rfl
      have := Scans.tok (l ++ (b :: gr ++ t)) c (r ++ (b :: gr ++ t)) _ h3 (by rw [hst]; exact he) (by
        rw [hst, ← List.cons_append, List.drop_append_of_le_length htl]; exact ih2)
      rw [hst, hsk] at this
      rw [← e2]
      cases R with
      | done vs => exact this
      | fail e k =>
        have hd : ((c :: r).drop (tokL (c :: r)).text.length).length = (c :: r).length - (tokL (c :: r)).text.length := List.length_drop
        show Scans _ (.fail e (k + (l.length + (b :: gr).length)))
        rw [show k + (l.length + (b :: gr).length) = k + (((c :: r).drop (tokL (c :: r)).text.length).length + (b :: gr).length) + (tokL (c :: r)).text.length + skipC false l by rw [hd]; omega]
        exact this
theorem gap1 : Gap [35, 32, 97, 32, 110, 111, 116, 101, 10] := by
  refine ⟨⟨_, _, rfl, brk35⟩, fun b t => ?_⟩
  cases b <;> simp [skipC] <;> omega
theorem gap2 : Gap [10, 35, 32, 97, 32, 110, 111, 116, 101, 10] := by
  refine ⟨⟨_, _, rfl, brk10⟩, fun b t => ?_⟩
  cases b <;> simp [skipC, blank] <;> omega
end Lx
end Go.Proofs.YtaekbgljbgmchaaGreatDoor
namespace Go.Proofs.YtaekbgljbgmchaaGreatDoor
open Go.RowKit
namespace Lx
/-- Texts one behind the other, a blank between two. -/
def joinB : List ByteArray → List UInt8
  | [] => []
  | x :: r => x.data.toList ++ r.flatMap (fun y => 32 :: y.data.toList)
theorem joinB_first (l : List ByteArray) (h : 0 < l.length) : joinB (l.take 1) = l[0].data.toList := by
  cases l with
  | nil => simp at h
  | cons x r => simp [joinB]
theorem joinB_next (l : List ByteArray) (k : Nat) (h : k < l.length) (hk : 0 < k) : joinB (l.take (k + 1)) = joinB (l.take k) ++ (32 :: l[k].data.toList) := by
  rw [List.take_succ_eq_append_getElem h]
  cases hl : l.take k with
  | nil => exfalso; have h2 := congrArg List.length hl; rw [List.length_take, List.length_nil] at h2; omega
  | cons x r => simp [joinB]
theorem joinB_take_le (l : List ByteArray) (k : Nat) : (joinB (l.take k)).length ≤ (joinB l).length := by
  cases l with
  | nil => simp
  | cons x r =>
    cases k with
    | zero => simp [joinB]
    | succ k =>
      simp only [List.take_succ_cons, joinB, List.length_append]
      have h1 : (r.flatMap (fun y => 32 :: y.data.toList)) = (r.take k).flatMap (fun y => 32 :: y.data.toList) ++ (r.drop k).flatMap (fun y => 32 :: y.data.toList) := by
        rw [← List.flatMap_append, List.take_append_drop]
      rw [h1, List.length_append]; omega
end Lx
/-- A token of this text lies at a place. -/
def TokAt (w : World) (b off : Nat) (x : ByteArray) : Prop := ∃ k n p : Int, w.cell? ⟨b, off, none⟩ = some (.int .i64 k) ∧ w.cell? ⟨b, off + 1, none⟩ = some (.string x) ∧ w.cell? ⟨b, off + 2, none⟩ = some (.int .i64 n) ∧ w.cell? ⟨b, off + 3, none⟩ = some (.int .i64 p)
/-- Tokens of these texts lie there, one behind the other. -/
def TextsAt (w : World) (b off : Nat) (l : List ByteArray) : Prop := ∀ (j : Nat) (h : j < l.length), TokAt w b (off + j * 4) l[j]
theorem kept_box {wr W1 : World} {b : Nat} {c0 c1 c2 c3 : Value} (h : Lib.OthersKept 5 (some b) (wr.alloc (.cells #[c0, c1, c2, c3] 57)) W1) (hne : b < wr.heap.size) : W1.cell? ⟨wr.heap.size, 1, none⟩ = some c1 ∧ W1.frozen? ⟨wr.heap.size, 1, none⟩ = false := by
  have h1 := h wr.heap.size (.cells #[c0, c1, c2, c3] 57 (0, 0)) (heap_alloc_new wr _) (by intro e; cases e; omega) (by intro c fz e; cases e)
  constructor
  · simp [World.cell?, h1]
  · simp [World.frozen?, h1]
theorem IsBuilderF_lt {T e : TypeId} {B b : Nat} {bs : List Value} {w : World} (h : Lib.IsBuilderF T e B b bs w) : b < w.heap.size := h.elim (fun x => x.lt) (fun x => x.lt)
theorem text_le (l : List ByteArray) (k : Nat) (h : k < l.length) : (Lx.joinB (l.take k)).length + 1 ≤ (Lx.joinB l).length + 1 ∧ l[k].size ≤ (Lx.joinB l).length := by
  have h1 := Lx.joinB_take_le l k
  have h2 := Lx.joinB_take_le l (k + 1)
  refine ⟨by omega, ?_⟩
  have e : l[k].size = l[k].data.toList.length := by simp
  by_cases hk : 0 < k
  · rw [Lx.joinB_next l k h hk] at h2
    simp only [List.length_append, List.length_cons] at h2; omega
  · obtain rfl : k = 0 := by omega
    rw [show 0 + 1 = 1 from rfl, Lx.joinB_first l h] at h2; omega
set_option maxRecDepth 100000 in
set_option maxHeartbeats 1000000 in
theorem join_any (l : List ByteArray) (b off c : Nat) (w : World) (hb : b < w.heap.size) (hn : l.length ≤ 1000000) (ht : TextsAt w b off l) (hlen : (Lx.joinB l).length ≤ 1000000000) :
    Calls Tryz.prog 27 #[.slice (some ⟨b, off, none⟩) l.length c] w fun e w' => e = .returned (.string ⟨(Lx.joinB l).toArray⟩) ∧ Below w.heap.size w w' := by
  go_enter Tryz.func27, Tryz.ntmps27
  go_wp2
  go_loopw [8] (fun i wr => ∃ k : Nat, k ≤ l.length ∧ i = .int .i64 k ∧ Lib.IsBuilderF 96 5 w.heap.size w.heap.size (Lib.byteCells (Lx.joinB (l.take k))) wr ∧ Below w.heap.size w wr)
    (fun i _ => l.length - (intOf i).toNat)
  case atStart => exact ⟨0, by omega, rfl, Lib.IsBuilderF.of (Lib.fresh_isBuilder 96 5 w), (Below.refl _ w).alloc (Nat.le_refl _) _⟩
  case round =>
    obtain ⟨k, hk, rfl, hI, hbw⟩ := hrel
    have hsz := hbw.size
    by_cases hlt : k < l.length
    · obtain ⟨tk, tn, tp, c0, c1, c2, c3⟩ := ht k hlt
      rw [← hbw.cell (p := ⟨b, _, none⟩) hb] at c0 c1 c2 c3
      have hlb := IsBuilderF_lt hI
      obtain ⟨hl1, hl2⟩ := text_le l k hlt
      by_cases hk0 : 0 < k
      · have HJ := hid (Lx.joinB_next l k hlt hk0)
        go_wp2_with (first
          | (go_at_call 59; refine (Tryz.Builder_WriteByte_k w.heap.size w.heap.size _ 32 _ (hI.elim (fun x => .inl (x.alloc _)) (fun x => .inr (x.alloc _))) (by rw [Lib.byteCells_length]; omega) (by simp; omega)).mono ?_; rintro e W1 ⟨rfl, h1, b1, k1⟩; obtain ⟨kb1, kb2⟩ := kept_box k1 hlb; have hz1 : w.heap.size ≤ W1.heap.size := (by have := b1.size; simp at this; omega))
          | (go_at_call 60; refine (Tryz.Builder_WriteString_k w.heap.size w.heap.size _ l[k] _ (.inr h1) (by rw [List.length_append, Lib.byteCells_length]; simp; omega) hz1).mono ?_; rintro e W2 ⟨rfl, h2, b2, k2⟩))
        go_roundw
        case rel =>
          refine ⟨k + 1, by omega, by go_num, ?_, ((hbw.alloc hsz _).trans b1).trans b2⟩
          rw [HJ.out]
          have e : Lib.byteCells (Lx.joinB (l.take k) ++ (32 :: l[k].data.toList)) = Lib.byteCells (Lx.joinB (l.take k)) ++ [.int .u8 32] ++ Lib.strCells l[k] := by
            simp [Lib.byteCells, Lib.strCells]
          rw [e]
          exact Or.inr h2
        case measure => simp [intOf]; omega
      · obtain rfl : k = 0 := by omega
        have HJ := hid (Lx.joinB_first l hlt)
        simp only [Nat.zero_mul, Nat.add_zero] at c0 c1 c2 c3
        go_wp2_with (go_at_call 60; refine (Tryz.Builder_WriteString_k w.heap.size w.heap.size _ l[0] _ (hI.elim (fun x => .inl (x.alloc _)) (fun x => .inr (x.alloc _))) (by rw [Lib.byteCells_length]; omega) (by simp; omega)).mono ?_; rintro e W2 ⟨rfl, h2, b2, k2⟩)
        go_roundw
        case rel =>
          refine ⟨1, by omega, by go_num, ?_, (hbw.alloc hsz _).trans b2⟩
          rw [HJ.out]
          have e : Lib.byteCells (l[0].data.toList) = Lib.byteCells (Lx.joinB (l.take 0)) ++ Lib.strCells l[0] := by
            simp [Lib.byteCells, Lib.strCells, Lx.joinB]
          rw [e]
          exact Or.inr h2
        case measure => simp [intOf]; omega
    · have hk1 : k = l.length := by omega
      rw [show l.take k = l by rw [hk1]; simp] at hI
      have hk2 : l.length ≤ k := by omega
      clear hk1
      go_wp2_with (go_at_call 61; refine (Tryz.Builder_String_any_k w.heap.size w.heap.size _ _ hI (by omega)).mono ?_; rintro e W1 ⟨rfl, _, b1, _⟩)
      go_ret
      exact ⟨rfl, hbw.trans b1⟩
end Go.Proofs.YtaekbgljbgmchaaGreatDoor
namespace Go.Proofs.YtaekbgljbgmchaaGreatDoor
open Go.RowKit
namespace Lx
theorem tok_facts (s : ByteArray) (a : Nat) (ha : a < s.size) (he : (tokOut s a).err = 0) : (tokOut s a).pos = a ∧ (tokOut s a).kind ≠ 5 ∧ (tokOut s a).text = s.extract a (a + (tokOut s a).text.size) := by
  have hx : ∀ b, a ≤ b → b ≤ s.size → s.extract a b = s.extract a (a + (s.extract a b).size) := by
    intro b h1 h2
    have : (s.extract a b).size = b - a := by simp; omega
    rw [this, show a + (b - a) = b by omega]
  cases hl : letter s[a]
  · cases hd : digit s[a]
    · rw [tokOut_sign s a ha hl hd] at he ⊢
      have hle := signLen_le s a ha
      unfold signOut at he ⊢
      split
      · rename_i h; rw [if_pos h] at he; simp [bad] at he
      · exact ⟨rfl, by show (4 : Int) ≠ 5; decide, hx _ (by omega) hle⟩
    · rw [tokOut_digit s a ha hl hd] at he ⊢
      have hle := spanEnd_le digit s a (by omega)
      have hge := le_spanEnd digit s a
      unfold numOut at he ⊢
      split
      · rename_i h; rw [if_pos h] at he; simp [bad] at he
      · rename_i h1; rw [if_neg h1] at he
        split
        · exact ⟨rfl, by show (2 : Int) ≠ 5; decide, hx _ hge hle⟩
        · rename_i h2; rw [if_neg h2] at he; simp [bad] at he
  · rw [tokOut_letter s a ha hl] at he ⊢
    have hle := spanEnd_le nameByte s a (by omega)
    have hge := le_spanEnd nameByte s a
    unfold nameOut at he ⊢
    split
    · exact ⟨rfl, by show (3 : Int) ≠ 5; decide, hx _ hge hle⟩
    · rename_i h1; rw [if_neg h1] at he
      split
      · rename_i h2; rw [if_pos h2] at he; simp [bad] at he
      · exact ⟨rfl, by show (1 : Int) ≠ 5; decide, hx _ hge hle⟩
/-- Tokens stand one behind the other from a place on, with nothing but blanks and notes between. -/
def Chain (s : ByteArray) : Nat → List Out → Prop
  | k, [] => s.size ≤ skip s k
  | k, o :: r => o.pos = skip s k ∧ o.pos < s.size ∧ o.err = 0 ∧ o = tokOut s o.pos ∧ Chain s (o.pos + o.text.size) r
theorem scanF_chain (s : ByteArray) : ∀ (f k : Nat) (acc l : List Out), s.size ≤ skip s k + f → scanF s f (skip s k) acc = .done l → ∃ r, l = acc ++ r ∧ Chain s k r := by
  intro f
  induction f with
  | zero => intro k acc l hf h; simp only [scanF] at h; injection h with h; exact ⟨[], by simp [h], by show s.size ≤ _; omega⟩
  | succ f ih =>
    intro k acc l hf h
    simp only [scanF] at h
    split at h
    · rename_i hlt
      split at h
      · rename_i he
        have hto := tok_ok s _ hlt he
        have hp := tok_facts s _ hlt he
        obtain ⟨r, h1, h2⟩ := ih _ _ _ (by have := le_skip s (skip s k + (tokOut s (skip s k)).text.size); omega) h
        refine ⟨tokOut s (skip s k) :: r, by rw [h1]; simp, hp.1, by rw [hp.1]; exact hlt, he, by rw [hp.1], ?_⟩
        rw [hp.1]; exact h2
      · cases h
    · rename_i hlt
      injection h with h
      exact ⟨[], by simp [h], by show s.size ≤ _; omega⟩
theorem join_flat (l : List ByteArray) : joinB (l ++ [⟨#[]⟩]) = l.flatMap fun x => x.data.toList ++ [32] := by
  have h : ∀ r : List ByteArray, (r ++ [(⟨#[]⟩ : ByteArray)]).flatMap (fun y => 32 :: y.data.toList) = 32 :: (r.flatMap fun x => x.data.toList ++ [32]) := by
    intro r
    induction r with
    | nil => simp
    | cons x r ih => rw [List.cons_append, List.flatMap_cons, ih, List.flatMap_cons]; simp
  cases l with
  | nil => simp [joinB]
  | cons x r => rw [List.cons_append]; simp only [joinB]; rw [h, List.flatMap_cons]; simp
theorem again_outs (s : ByteArray) (l : List Out) (h : scan s = .done l) : ∃ l', scan ⟨(joinB ((l ++ [endTok s]).map fun o => o.text)).toArray⟩ = .done l' ∧ l'.map ofOut = l.map ofOut := by
  obtain ⟨R, h1, h2⟩ := scan_told s
  rw [h] at h2
  cases R with
  | fail e k => exact h2.elim
  | done ts =>
    obtain ⟨o, h3, h4⟩ := h2
    rw [List.nil_append] at h3
    subst h3
    have hg := good_of h1 ts rfl
    have ha := again ts hg
    have e : (ByteArray.mk (joinB ((l ++ [endTok s]).map fun o => o.text)).toArray).data.toList = ts.flatMap fun t => t.text ++ [32] := by
      have e1 : ((l ++ [endTok s]).map fun o => o.text) = (l.map fun o => o.text) ++ [⟨#[]⟩] := by simp [endTok]
      rw [e1, join_flat, ← h4]
      simp [List.flatMap_map, ofOut]
    rw [← e] at ha
    have hf := scan_of _ _ ha
    generalize scan ⟨(joinB ((l ++ [endTok s]).map fun o => o.text)).toArray⟩ = S at hf
    cases S with
    | fail e k => exact hf.elim
    | done l' =>
      obtain ⟨o, h5, h6⟩ := hf
      rw [List.nil_append] at h5
      exact ⟨l', rfl, by rw [h5, h6, h4]⟩
theorem chain_inc (s : ByteArray) : ∀ (l : List Out) (k : Nat), Chain s k l → (∀ o ∈ l, k ≤ o.pos ∧ o.pos < s.size) ∧ l.Pairwise (fun a b => a.pos < b.pos) := by
  intro l
  induction l with
  | nil => intro k _; exact ⟨by simp, .nil⟩
  | cons o r ih =>
    intro k h
    obtain ⟨h1, h2, h3, h4, h5⟩ := h
    have hk : k ≤ o.pos := by rw [h1]; exact le_skip s k
    have hz : 1 ≤ o.text.size := by rw [h4]; exact (tok_ok s _ h2 (by rw [← h4]; exact h3)).1
    obtain ⟨i1, i2⟩ := ih _ h5
    refine ⟨fun x hx => ?_, List.pairwise_cons.2 ⟨fun x hx => ?_, i2⟩⟩
    · rcases List.mem_cons.1 hx with rfl | hx
      · exact ⟨hk, h2⟩
      · have := i1 x hx; omega
    · have := i1 x hx; omega
/-- The places of a text's tokens rise. -/
theorem outs_inc (s : ByteArray) (l : List Out) (h : scan s = .done l) : (l ++ [endTok s]).Pairwise (fun a b => a.pos < b.pos) := by
  obtain ⟨r, h1, h2⟩ := scanF_chain s s.size 0 [] l (by omega) h
  rw [List.nil_append] at h1
  subst h1
  obtain ⟨i1, i2⟩ := chain_inc s l 0 h2
  refine List.pairwise_append.2 ⟨i2, by simp, fun a ha b hb => ?_⟩
  rw [List.mem_singleton] at hb
  subst hb
  exact (i1 a ha).2
/-- The tokens of bytes of which the parts are known. -/
theorem scan_list (s : ByteArray) (ts : List T) (h : Scans s.data.toList (.done ts)) : ∃ l, scan s = .done l ∧ l.map ofOut = ts := by
  have hf := scan_of s _ h
  generalize hS : scan s = R at hf
  cases R with
  | fail e k => exact hf.elim
  | done l =>
    obtain ⟨o, h5, h6⟩ := hf
    rw [List.nil_append] at h5
    exact ⟨l, rfl, by rw [h5, h6]⟩
theorem tok_step (c : UInt8) (r : List UInt8) (t : T) (ts : List T) (hb : blank c = false) (h35 : c ≠ 35) (ht : tokL (c :: r) = t) (he : t.err = 0) (hR : Scans ((c :: r).drop t.text.length) (.done ts)) : Scans (c :: r) (.done (t :: ts)) := by
  have h0 := skip_zero c r hb h35
  have := Scans.tok (c :: r) c r (.done ts) (by rw [h0]; rfl) (by rw [ht]; exact he) (by rw [ht]; exact hR)
  rw [ht] at this
  exact this
end Lx
end Go.Proofs.YtaekbgljbgmchaaGreatDoor
namespace Go.Proofs.YtaekbgljbgmchaaGreatDoor
open Go.RowKit
open Lx (Out)
open Pz
open Px
open Lx (Scans tok_step blank_step Brk)
namespace Pz
def numTk (n : Int) : Lx.T := ⟨2, Lib.itoa n, n, 0⟩
def nameTk (s : ByteArray) : Lx.T := ⟨1, s.data.toList, 0, 0⟩
def signTk (l : List UInt8) : Lx.T := ⟨4, l, 0, 0⟩
def wordTk (l : List UInt8) : Lx.T := ⟨3, l, 0, 0⟩
/-- An op's sign, without blanks. -/
def opTk (op : Int) : Lx.T := signTk ((sgnOf op).1.data.toList.filter (fun c => c != 32))
def atT (l : Nat) (op : Int) (s : List Lx.T) : List Lx.T := if own op < l then signTk [40] :: (s ++ [signTk [41]]) else s
def kidT (ks : List (Int × List Lx.T)) (i l : Nat) : List Lx.T := atT l (ks.getD i (0, [])).1 (ks.getD i (0, [])).2
def bareTOf (op : Int) (mon name : ByteArray) (n : Int) (ks : List (Int × List Lx.T)) : List Lx.T :=
  if op = 1 then [numTk n]
  else if op = 2 then [wordTk [116, 114, 117, 101]]
  else if op = 3 then [wordTk [102, 97, 108, 115, 101]]
  else if op = 4 then [nameTk mon, signTk [46], nameTk name]
  else if op = 5 ∨ op = 6 then opTk op :: kidT ks 0 (sgnOf op).2.2.2
  else if op = 7 then numTk n :: opTk op :: kidT ks 0 (sgnOf op).2.2.2
  else kidT ks 0 (sgnOf op).2.2.1 ++ opTk op :: kidT ks 1 (sgnOf op).2.2.2
end Pz
open Pz
mutual
def Ex.bareT : Ex → List Lx.T
  | .mk op mon name n _ _ kids _ => bareTOf op mon name n (Ex.bareTL kids)
def Ex.bareTL : List Ex → List (Int × List Lx.T)
  | [] => []
  | e :: es => (e.opOf, e.bareT) :: Ex.bareTL es
end
theorem Ex.bareTL_eq (l : List Ex) : Ex.bareTL l = l.map fun e => (e.opOf, e.bareT) := by
  induction l with
  | nil => simp [Ex.bareTL]
  | cons a l ih => simp [Ex.bareTL, ih]
theorem Ex.bareT_mk (op : Int) (mon name : ByteArray) (n : Int) (ad : Option Addr) (cap : Nat) (kids : List Ex) (pos : Int) : (Ex.mk op mon name n ad cap kids pos).bareT = bareTOf op mon name n (kids.map fun e => (e.opOf, e.bareT)) := by rw [Ex.bareT, Ex.bareTL_eq]
/-- An expression's tokens at a level. -/
def Ex.toks (e : Ex) (l : Nat) : List Lx.T := atT l e.opOf e.bareT
theorem kidT_at (kids : List Ex) (i l : Nat) (h : i < kids.length) : kidT (kids.map fun e => (e.opOf, e.bareT)) i l = kids[i].toks l := by
  simp [kidT, Ex.toks, List.getD, h]
namespace Pz
/-- What an expression that is well formed may be. -/
inductive Shp : Ex → Prop
  | num (mon name : ByteArray) (n : Int) (ad : Option Addr) (cap : Nat) (pos : Int) (hm : mon.size = 0) (hn : name.size = 0) (h0 : 0 ≤ n) (h1 : n ≤ 9223372036854775807) : Shp (.mk 1 mon name n ad cap [] pos)
  | tru (mon name : ByteArray) (ad : Option Addr) (cap : Nat) (pos : Int) (hm : mon.size = 0) (hn : name.size = 0) : Shp (.mk 2 mon name 0 ad cap [] pos)
  | fls (mon name : ByteArray) (ad : Option Addr) (cap : Nat) (pos : Int) (hm : mon.size = 0) (hn : name.size = 0) : Shp (.mk 3 mon name 0 ad cap [] pos)
  | var (mon name : ByteArray) (ad : Option Addr) (cap : Nat) (pos : Int) (hm : Lx.name mon = true) (hn : Lx.name name = true) : Shp (.mk 4 mon name 0 ad cap [] pos)
  | not (mon name : ByteArray) (ad : Option Addr) (cap : Nat) (k : Ex) (pos : Int) (hm : mon.size = 0) (hn : name.size = 0) (hk : Shp k) : Shp (.mk 5 mon name 0 ad cap [k] pos)
  | neg (mon name : ByteArray) (ad : Option Addr) (cap : Nat) (k : Ex) (pos : Int) (hm : mon.size = 0) (hn : name.size = 0) (hk : Shp k) : Shp (.mk 6 mon name 0 ad cap [k] pos)
  | mul (mon name : ByteArray) (n : Int) (ad : Option Addr) (cap : Nat) (k : Ex) (pos : Int) (hm : mon.size = 0) (hn : name.size = 0) (h0 : 0 ≤ n) (h1 : n ≤ 9223372036854775807) (hk : Shp k) : Shp (.mk 7 mon name n ad cap [k] pos)
  | bin (op : Int) (h8 : 8 ≤ op) (h17 : op ≤ 17) (mon name : ByteArray) (ad : Option Addr) (cap : Nat) (a b : Ex) (pos : Int) (hm : mon.size = 0) (hn : name.size = 0) (ha : Shp a) (hb : Shp b) : Shp (.mk op mon name 0 ad cap [a, b] pos)
theorem shp_of {n₀ : Nat} {W : World} (e : Ex) : e.Is n₀ W → e.ok = true → Shp e := by
  induction e using Ex.ind with
  | h op mon name n ad cap kids pos ih =>
    intro hI hok
    obtain ⟨h1, h2⟩ := Ex.ok_mk hok
    have hD := hI.down
    have hkids : ∀ x ∈ kids, Shp x := fun x hx => ih x hx (hD.2.2 x hx) (h2 x hx)
    have hn64 := hD.1.2.1.2
    simp only [Ex.ok1, Bool.and_eq_true, decide_eq_true_eq, beq_iff_eq] at h1
    obtain ⟨⟨ho1, ho17⟩, ⟨⟨hm, hn⟩, hnum⟩, hk⟩ := h1
    have hc : op = 1 ∨ op = 2 ∨ op = 3 ∨ op = 4 ∨ op = 5 ∨ op = 6 ∨ op = 7 ∨ (8 ≤ op ∧ op ≤ 17) := by omega
    rcases hc with rfl | rfl | rfl | rfl | rfl | rfl | rfl | ⟨h8, h17⟩
    case inr.inr.inr.inr.inr.inr.inr =>
      have e1 : exNames op.toNat = false := by unfold exNames; simp; omega
      have e2 : exNumber op.toNat = false := by unfold exNumber; simp; omega
      have e3 : exKids op.toNat = 2 := by unfold exKids; rw [if_neg (by omega), if_neg (by omega)]
      rw [e1] at hm hn
      rw [e2] at hnum
      rw [e3] at hk
      simp [fitsName, fitsNum] at hm hn hnum
      subst hnum
      rcases kids with _ | ⟨a, _ | ⟨b, _ | ⟨c, r⟩⟩⟩
      · simp at hk
      · simp at hk
      · exact .bin op h8 h17 _ _ _ _ a b _ (by rw [hm]; rfl) (by rw [hn]; rfl) (hkids a (by simp)) (hkids b (by simp))
      · simp at hk; omega
    all_goals simp [fitsName, fitsNum, exNames, exNumber, exKids] at hm hn hnum hk
    · subst hk; exact .num _ _ _ _ _ _ (by rw [hm]; rfl) (by rw [hn]; rfl) (by omega) hn64
    · subst hk hnum; exact .tru _ _ _ _ _ (by rw [hm]; rfl) (by rw [hn]; rfl)
    · subst hk hnum; exact .fls _ _ _ _ _ (by rw [hm]; rfl) (by rw [hn]; rfl)
    · subst hk hnum; exact .var _ _ _ _ _ hm hn
    all_goals
      rcases kids with _ | ⟨a, _ | ⟨b, r⟩⟩
      · simp at hk
      · first | (subst hnum; exact .not _ _ _ _ a _ (by rw [hm]; rfl) (by rw [hn]; rfl) (hkids a (by simp))) | (subst hnum; exact .neg _ _ _ _ a _ (by rw [hm]; rfl) (by rw [hn]; rfl) (hkids a (by simp))) | exact .mul _ _ _ _ _ a _ (by rw [hm]; rfl) (by rw [hn]; rfl) (by omega) hn64 (hkids a (by simp))
      · simp at hk; omega
/-- No name, number or sign goes on. -/
def FolS (r : List UInt8) : Prop := r = [] ∨ ∃ h t, r = h :: t ∧ Brk h
theorem brk41 : Brk 41 := ⟨by decide, by decide, fun c => by simp only [show ((41 : UInt8).toNat : Int) = 41 from rfl]; unfold Lx.signLen; (repeat' split) <;> simp_all <;> omega⟩
theorem brk59 : Brk 59 := ⟨by decide, by decide, fun c => by simp only [show ((59 : UInt8).toNat : Int) = 59 from rfl]; unfold Lx.signLen; (repeat' split) <;> simp_all <;> omega⟩
theorem FolS.head {r : List UInt8} (h : FolS r) : (∀ c ∈ r.head?, Lx.nameByte c = false) ∧ (∀ c ∈ r.head?, Lx.digit c = false) := by
  rcases h with rfl | ⟨c, t, rfl, h1, h2, -⟩
  · simp
  · simp [h1, h2]
theorem tok_stepL (x r : List UInt8) (t : Lx.T) (ts : List Lx.T) (hx : ∃ c x', x = c :: x' ∧ Lx.blank c = false ∧ c ≠ 35) (ht : Lx.tokL (x ++ r) = t) (htx : t.text = x) (he : t.err = 0) (h : Scans r (.done ts)) : Scans (x ++ r) (.done (t :: ts)) := by
  obtain ⟨c, x', rfl, h1, h2⟩ := hx
  refine tok_step c (x' ++ r) t ts h1 h2 ht he ?_
  rw [htx]
  show Scans (((c :: x') ++ r).drop (c :: x').length) _
  rw [List.drop_left]
  exact h
theorem dec_head (u : Nat) : 1 ≤ u → (Lib.decDigits u).head? ≠ some 48 := by
  refine decDigits_ind (P := fun u l => 1 ≤ u → l.head? ≠ some 48) ?_ ?_ (u + 1) u (by omega)
  · intro u h h1
    have : u = 1 ∨ u = 2 ∨ u = 3 ∨ u = 4 ∨ u = 5 ∨ u = 6 ∨ u = 7 ∨ u = 8 ∨ u = 9 := by omega
    rcases this with rfl | rfl | rfl | rfl | rfl | rfl | rfl | rfl | rfl <;> decide
  · intro u h ih h1
    have h2 := ih (by omega)
    have h3 := (decDigits_digit (u / 10)).1
    cases hd : Lib.decDigits (u / 10) with
    | nil => exact absurd hd h3
    | cons c t => rw [hd] at h2; simpa using h2
theorem num_tok (n : Int) (h0 : 0 ≤ n) (h1 : n ≤ 9223372036854775807) (r : List UInt8) (hr : ∀ c ∈ r.head?, Lx.digit c = false) : Lx.tokL (Lib.itoa n ++ r) = numTk n := by
  obtain ⟨d1, d2⟩ := itoa_digit n h0
  have htw := (takeWhile_fol Lx.digit (Lib.itoa n) r d2 hr).1
  obtain ⟨c, t, hct⟩ : ∃ c t, Lib.itoa n = c :: t := by
    cases h : Lib.itoa n with
    | nil => exact absurd h d1
    | cons c t => exact ⟨c, t, rfl⟩
  have hcd : Lx.digit c = true := d2 c (by rw [hct]; simp)
  have hcl : Lx.letter c = false := by
    rw [Lx.digit_eq] at hcd
    rw [Lx.letter_eq]
    simp at hcd ⊢
    omega
  have hv : Lx.decVal (Lib.itoa n) = n.toNat := by
    have : Lib.itoa n = Lib.decDigits n.toNat := by unfold Lib.itoa; rw [if_neg (by omega)]
    rw [this]
    exact valOf_dec n.toNat
  have hz : ¬ (1 < (Lib.itoa n).length ∧ (Lib.itoa n).head? = some 48) := by
    rintro ⟨h2, h3⟩
    have e : Lib.itoa n = Lib.decDigits n.toNat := by unfold Lib.itoa; rw [if_neg (by omega)]
    rw [e] at h2 h3
    have hu : n.toNat = 0 := by
      rcases Nat.eq_zero_or_pos n.toNat with h | h
      · exact h
      · exact absurd h3 (dec_head _ h)
    rw [hu, Lib.decDigits, dif_pos (by omega)] at h2
    simp at h2
  have e1 : Lx.tokL (Lib.itoa n ++ r) = Lx.numT ((Lib.itoa n ++ r).takeWhile Lx.digit) := by
    rw [hct]
    show Lx.tokL (c :: (t ++ r)) = Lx.numT ((c :: (t ++ r)).takeWhile Lx.digit)
    unfold Lx.tokL
    simp only [hcl, hcd, if_true, Bool.false_eq_true, if_false]
  rw [e1, htw]
  unfold Lx.numT
  rw [if_neg hz, hv, if_pos (by omega)]
  unfold numTk
  congr 1
  omega
theorem name_parts {s : ByteArray} (h : Lx.name s = true) : (∃ c t, s.data.toList = c :: t ∧ Lx.letter c = true) ∧ (∀ c ∈ s.data.toList, Lx.nameByte c = true) ∧ Lx.word s = false ∧ s.size ≤ 32 := by
  unfold Lx.name at h
  simp only [Bool.and_eq_true, decide_eq_true_eq, Bool.not_eq_true'] at h
  obtain ⟨⟨⟨⟨h1, h2⟩, h3⟩, h4⟩, h5⟩ := h
  refine ⟨?_, fun c hc => List.all_eq_true.1 h4 c hc, h5, h2⟩
  cases hs : s.data.toList with
  | nil => rw [hs] at h3; cases h3
  | cons c t => rw [hs] at h3; exact ⟨c, t, rfl, h3⟩
theorem name_tok (s : ByteArray) (h : Lx.name s = true) (r : List UInt8) (hr : ∀ c ∈ r.head?, Lx.nameByte c = false) : Lx.tokL (s.data.toList ++ r) = nameTk s := by
  obtain ⟨⟨c, t, hct, hcl⟩, h2, h3, h4⟩ := name_parts h
  have htw := (takeWhile_fol Lx.nameByte s.data.toList r h2 hr).1
  have e1 : Lx.tokL (s.data.toList ++ r) = Lx.nameT ((s.data.toList ++ r).takeWhile Lx.nameByte) := by
    rw [hct]
    show Lx.tokL (c :: (t ++ r)) = Lx.nameT ((c :: (t ++ r)).takeWhile Lx.nameByte)
    unfold Lx.tokL
    simp only [hcl, if_true]
  rw [e1, htw]
  unfold Lx.nameT
  have hw : Lx.words.contains s.data.toList = false := by unfold Lx.word at h3; rw [ByteArray.toList_eq] at h3; exact h3
  have hl : s.data.toList.length = s.size := by rw [Array.length_toList]; rfl
  rw [hw, if_neg (by simp), if_neg (by rw [hl]; omega)]
  rfl
theorem letter_first {c : UInt8} (h : Lx.letter c = true) : Lx.blank c = false ∧ c ≠ 35 := by
  rw [Lx.letter_eq] at h
  simp at h
  constructor
  · unfold Lx.blank
    have : ∀ d : UInt8, d.toNat < 65 → (c == d) = false := fun d hd => by rw [beq_eq_false_iff_ne]; rintro rfl; omega
    simp [this 32 (by decide), this 9 (by decide), this 13 (by decide), this 10 (by decide)]
  · rintro rfl
    simp at h
theorem digit_first {c : UInt8} (h : Lx.digit c = true) : Lx.blank c = false ∧ c ≠ 35 := by
  rw [Lx.digit_eq] at h
  simp at h
  constructor
  · unfold Lx.blank
    have : ∀ d : UInt8, d.toNat < 48 → (c == d) = false := fun d hd => by rw [beq_eq_false_iff_ne]; rintro rfl; omega
    simp [this 32 (by decide), this 9 (by decide), this 13 (by decide), this 10 (by decide)]
  · rintro rfl
    simp at h
theorem name_scan (s : ByteArray) (h : Lx.name s = true) (r : List UInt8) (ts : List Lx.T) (hr : ∀ c ∈ r.head?, Lx.nameByte c = false) (hS : Scans r (.done ts)) : Scans (s.data.toList ++ r) (.done (nameTk s :: ts)) := by
  obtain ⟨⟨c, t, hct, hcl⟩, -⟩ := name_parts h
  exact tok_stepL _ _ _ _ ⟨c, t, hct, letter_first hcl⟩ (name_tok s h r hr) rfl rfl hS
theorem num_scan (n : Int) (h0 : 0 ≤ n) (h1 : n ≤ 9223372036854775807) (r : List UInt8) (ts : List Lx.T) (hr : ∀ c ∈ r.head?, Lx.digit c = false) (hS : Scans r (.done ts)) : Scans (Lib.itoa n ++ r) (.done (numTk n :: ts)) := by
  obtain ⟨d1, d2⟩ := itoa_digit n h0
  obtain ⟨c, t, hct⟩ : ∃ c t, Lib.itoa n = c :: t := by
    cases h : Lib.itoa n with
    | nil => exact absurd h d1
    | cons c t => exact ⟨c, t, rfl⟩
  exact tok_stepL _ _ _ _ ⟨c, t, hct, digit_first (d2 c (by rw [hct]; simp))⟩ (num_tok n h0 h1 r hr) rfl rfl hS
theorem word_scan (x : List UInt8) (c : UInt8) (x' : List UInt8) (hx : x = c :: x') (hc : Lx.letter c = true) (hall : ∀ c ∈ x, Lx.nameByte c = true) (hw : Lx.words.contains x = true) (r : List UInt8) (ts : List Lx.T) (hr : ∀ c ∈ r.head?, Lx.nameByte c = false) (hS : Scans r (.done ts)) : Scans (x ++ r) (.done (wordTk x :: ts)) := by
  have htw := (takeWhile_fol Lx.nameByte x r hall hr).1
  refine tok_stepL _ _ _ _ ⟨c, x', hx, letter_first hc⟩ ?_ rfl rfl hS
  have e1 : Lx.tokL (x ++ r) = Lx.nameT ((x ++ r).takeWhile Lx.nameByte) := by
    rw [hx]
    show Lx.tokL (c :: (x' ++ r)) = Lx.nameT ((c :: (x' ++ r)).takeWhile Lx.nameByte)
    unfold Lx.tokL
    simp only [hc, if_true]
  rw [e1, htw]
  unfold Lx.nameT
  rw [hw, if_pos rfl]
  rfl
/-- The ten operators between two expressions: their signs with blanks around. -/
theorem bin_sign (op : Int) (h8 : 8 ≤ op) (h17 : op ≤ 17) : ∃ s, (sgnOf op).1.data.toList = 32 :: (s ++ [32]) ∧ opTk op = signTk s ∧ (∀ r ts, Scans r (.done ts) → Scans (32 :: (s ++ [32]) ++ r) (.done (signTk s :: ts))) := by
  have hc : op = 8 ∨ op = 9 ∨ op = 10 ∨ op = 11 ∨ op = 12 ∨ op = 13 ∨ op = 14 ∨ op = 15 ∨ op = 16 ∨ op = 17 := by omega
  rcases hc with rfl | rfl | rfl | rfl | rfl | rfl | rfl | rfl | rfl | rfl
  · exact ⟨[43], rfl, rfl, fun r ts h => blank_step (tok_step 43 (32 :: r) (signTk [43]) ts (by decide) (by decide) rfl rfl (blank_step h _ rfl)) _ rfl⟩
  · exact ⟨[45], rfl, rfl, fun r ts h => blank_step (tok_step 45 (32 :: r) (signTk [45]) ts (by decide) (by decide) rfl rfl (blank_step h _ rfl)) _ rfl⟩
  · exact ⟨[61, 61], rfl, rfl, fun r ts h => blank_step (tok_step 61 (61 :: 32 :: r) (signTk [61, 61]) ts (by decide) (by decide) rfl rfl (blank_step h _ rfl)) _ rfl⟩
  · exact ⟨[33, 61], rfl, rfl, fun r ts h => blank_step (tok_step 33 (61 :: 32 :: r) (signTk [33, 61]) ts (by decide) (by decide) rfl rfl (blank_step h _ rfl)) _ rfl⟩
  · exact ⟨[60], rfl, rfl, fun r ts h => blank_step (tok_step 60 (32 :: r) (signTk [60]) ts (by decide) (by decide) rfl rfl (blank_step h _ rfl)) _ rfl⟩
  · exact ⟨[60, 61], rfl, rfl, fun r ts h => blank_step (tok_step 60 (61 :: 32 :: r) (signTk [60, 61]) ts (by decide) (by decide) rfl rfl (blank_step h _ rfl)) _ rfl⟩
  · exact ⟨[62], rfl, rfl, fun r ts h => blank_step (tok_step 62 (32 :: r) (signTk [62]) ts (by decide) (by decide) rfl rfl (blank_step h _ rfl)) _ rfl⟩
  · exact ⟨[62, 61], rfl, rfl, fun r ts h => blank_step (tok_step 62 (61 :: 32 :: r) (signTk [62, 61]) ts (by decide) (by decide) rfl rfl (blank_step h _ rfl)) _ rfl⟩
  · exact ⟨[38, 38], rfl, rfl, fun r ts h => blank_step (tok_step 38 (38 :: 32 :: r) (signTk [38, 38]) ts (by decide) (by decide) rfl rfl (blank_step h _ rfl)) _ rfl⟩
  · exact ⟨[124, 124], rfl, rfl, fun r ts h => blank_step (tok_step 124 (124 :: 32 :: r) (signTk [124, 124]) ts (by decide) (by decide) rfl rfl (blank_step h _ rfl)) _ rfl⟩
theorem brk32' (r : List UInt8) : FolS (32 :: r) := .inr ⟨32, r, rfl, Lx.brk32⟩
/-- What an expression's text begins with. -/
theorem txt_first {e : Ex} (h : Shp e) : ∃ c t, e.bare = c :: t ∧ c ≠ 61 := by
  induction h with
  | num mon name n ad cap pos hm hn h0 h1 =>
    obtain ⟨d1, d2⟩ := itoa_digit n h0
    rw [Ex.bare_mk]
    show ∃ c t, Lib.itoa n = c :: t ∧ _
    cases hh : Lib.itoa n with
    | nil => exact absurd hh d1
    | cons c t =>
      refine ⟨c, t, rfl, ?_⟩
      rintro rfl
      have := d2 61 (by rw [hh]; simp)
      cases this
  | tru => exact ⟨116, _, rfl, by decide⟩
  | fls => exact ⟨102, _, rfl, by decide⟩
  | var mon name ad cap pos hm hn =>
    obtain ⟨⟨c, t, hct, hcl⟩, -⟩ := name_parts hm
    rw [Ex.bare_mk]
    show ∃ c t, mon.data.toList ++ 46 :: name.data.toList = c :: t ∧ _
    rw [hct]
    refine ⟨c, _, rfl, ?_⟩
    rintro rfl
    cases hcl
  | not => rw [Ex.bare_mk]; exact ⟨33, _, rfl, by decide⟩
  | neg => rw [Ex.bare_mk]; exact ⟨45, _, rfl, by decide⟩
  | mul mon name n ad cap k pos hm hn h0 h1 hk ih =>
    obtain ⟨d1, d2⟩ := itoa_digit n h0
    rw [Ex.bare_mk]
    show ∃ c t, Lib.itoa n ++ _ = c :: t ∧ _
    cases hh : Lib.itoa n with
    | nil => exact absurd hh d1
    | cons c t =>
      refine ⟨c, _, rfl, ?_⟩
      rintro rfl
      have := d2 61 (by rw [hh]; simp)
      cases this
  | bin op h8 h17 mon name ad cap a b pos hm hn ha hb iha ihb =>
    rw [Ex.bare_mk]
    unfold bareOf
    rw [if_neg (by omega), if_neg (by omega), if_neg (by omega), if_neg (by omega), if_neg (by omega), if_neg (by omega)]
    rw [kid_at [a, b] 0 _ (by simp)]
    show ∃ c t, a.txt _ ++ _ = c :: t ∧ _
    obtain ⟨c, t, h1, h2⟩ := iha
    unfold Ex.txt atL
    split
    · exact ⟨40, _, rfl, by decide⟩
    · rw [h1]; exact ⟨c, _, rfl, h2⟩
theorem at_scan (l : Nat) (op : Int) (s : List UInt8) (S : List Lx.T) (hs : ∀ r ts, FolS r → Scans r (.done ts) → Scans (s ++ r) (.done (S ++ ts))) (r : List UInt8) (ts : List Lx.T) (hr : FolS r) (h : Scans r (.done ts)) : Scans (atL l op s ++ r) (.done (atT l op S ++ ts)) := by
  unfold atL atT
  split
  · have h1 : Scans (41 :: r) (.done (signTk [41] :: ts)) := tok_step 41 r (signTk [41]) ts (by decide) (by decide) rfl rfl h
    have h2 := hs (41 :: r) _ (.inr ⟨41, r, rfl, brk41⟩) h1
    have h3 := tok_step 40 (s ++ 41 :: r) (signTk [40]) _ (by decide) (by decide) rfl rfl h2
    simpa using h3
  · exact hs r ts hr h
theorem bare_scan {e : Ex} (h : Shp e) : ∀ r ts, FolS r → Scans r (.done ts) → Scans (e.bare ++ r) (.done (e.bareT ++ ts)) := by
  induction h with
  | num mon name n ad cap pos hm hn h0 h1 =>
    intro r ts hr hS
    rw [Ex.bare_mk, Ex.bareT_mk]
    exact num_scan n h0 h1 r ts hr.head.2 hS
  | tru =>
    intro r ts hr hS
    rw [Ex.bare_mk, Ex.bareT_mk]
    exact word_scan [116, 114, 117, 101] 116 _ rfl (by decide) (by decide) (by decide) r ts hr.head.1 hS
  | fls =>
    intro r ts hr hS
    rw [Ex.bare_mk, Ex.bareT_mk]
    exact word_scan [102, 97, 108, 115, 101] 102 _ rfl (by decide) (by decide) (by decide) r ts hr.head.1 hS
  | var mon name ad cap pos hm hn =>
    intro r ts hr hS
    rw [Ex.bare_mk, Ex.bareT_mk]
    show Scans ((mon.data.toList ++ 46 :: name.data.toList) ++ r) (.done ([nameTk mon, signTk [46], nameTk name] ++ ts))
    rw [List.append_assoc]
    refine name_scan mon hm _ _ (by simp; decide) ?_
    have h1 := name_scan name hn r ts hr.head.1 hS
    obtain ⟨⟨c, t, hct, hcl⟩, -⟩ := name_parts hn
    refine tok_step 46 (name.data.toList ++ r) (signTk [46]) _ (by decide) (by decide) ?_ rfl h1
    rw [hct]
    have hne : ((c.toNat : Int) == 46) = false := by
      rw [Lx.letter_eq] at hcl
      simp at hcl
      rw [beq_eq_false_iff_ne]; omega
    have hsl : Lx.signLen 46 (c.toNat : Int) = 1 := by
      show (if (c.toNat : Int) == 46 then 2 else 1) = 1
      rw [hne]
      rfl
    show (if Lx.signLen 46 (c.toNat : Int) = 0 then Lx.badT 10 else (⟨4, (46 :: c :: (t ++ r)).take (Lx.signLen 46 (c.toNat : Int)), 0, 0⟩ : Lx.T)) = _
    rw [hsl]
    rfl
  | not mon name ad cap k pos hm hn hk ih =>
    intro r ts hr hS
    rw [Ex.bare_mk, Ex.bareT_mk]
    have h1 := at_scan 3 k.opOf k.bare k.bareT ih r ts hr hS
    show Scans (33 :: (k.txt 3 ++ r)) (.done (signTk [33] :: (k.toks 3 ++ ts)))
    refine tok_step 33 _ (signTk [33]) _ (by decide) (by decide) ?_ rfl h1
    obtain ⟨c, t, hct, hne⟩ : ∃ c t, k.txt 3 = c :: t ∧ c ≠ 61 := by
      obtain ⟨c, t, h1, h2⟩ := txt_first hk
      unfold Ex.txt atL
      split
      · exact ⟨40, _, rfl, by decide⟩
      · exact ⟨c, t, h1, h2⟩
    rw [hct]
    have hne : ((c.toNat : Int) == 61) = false := by
      rw [beq_eq_false_iff_ne]; intro h
      exact hne (UInt8.toNat_inj.1 (by show c.toNat = 61; omega))
    have hsl : Lx.signLen 33 (c.toNat : Int) = 1 := by
      show (if (c.toNat : Int) == 61 then 2 else 1) = 1
      rw [hne]
      rfl
    show (if Lx.signLen 33 (c.toNat : Int) = 0 then Lx.badT 10 else (⟨4, (33 :: c :: (t ++ r)).take (Lx.signLen 33 (c.toNat : Int)), 0, 0⟩ : Lx.T)) = _
    rw [hsl]
    rfl
  | neg mon name ad cap k pos hm hn hk ih =>
    intro r ts hr hS
    rw [Ex.bare_mk, Ex.bareT_mk]
    have h1 := at_scan 6 k.opOf k.bare k.bareT ih r ts hr hS
    show Scans (45 :: (k.txt 6 ++ r)) (.done (signTk [45] :: (k.toks 6 ++ ts)))
    exact tok_step 45 _ (signTk [45]) _ (by decide) (by decide) rfl rfl h1
  | mul mon name n ad cap k pos hm hn h0 h1 hk ih =>
    intro r ts hr hS
    rw [Ex.bare_mk, Ex.bareT_mk]
    have h2 := at_scan 6 k.opOf k.bare k.bareT ih r ts hr hS
    show Scans ((Lib.itoa n ++ ([32, 42, 32] ++ k.txt 6)) ++ r) (.done (numTk n :: signTk [42] :: (k.toks 6 ++ ts)))
    rw [List.append_assoc]
    refine num_scan n h0 h1 _ _ (by simp; decide) ?_
    exact blank_step (tok_step 42 _ (signTk [42]) _ (by decide) (by decide) rfl rfl (blank_step h2 _ rfl)) _ rfl
  | bin op h8 h17 mon name ad cap a b pos hm hn ha hb iha ihb =>
    intro r ts hr hS
    obtain ⟨s, hs1, hs2, hs3⟩ := bin_sign op h8 h17
    rw [Ex.bare_mk, Ex.bareT_mk]
    have h1 : bareOf op mon name 0 ([a, b].map fun e => (e.opOf, e.bare)) = a.txt (sgnOf op).2.2.1 ++ (32 :: (s ++ [32]) ++ b.txt (sgnOf op).2.2.2) := by
      unfold bareOf
      rw [if_neg (by omega), if_neg (by omega), if_neg (by omega), if_neg (by omega), if_neg (by omega), if_neg (by omega), kid_at [a, b] 0 _ (by simp), kid_at [a, b] 1 _ (by simp), hs1]
      rfl
    have h2 : bareTOf op mon name 0 ([a, b].map fun e => (e.opOf, e.bareT)) = a.toks (sgnOf op).2.2.1 ++ signTk s :: b.toks (sgnOf op).2.2.2 := by
      unfold bareTOf
      rw [if_neg (by omega), if_neg (by omega), if_neg (by omega), if_neg (by omega), if_neg (by omega), if_neg (by omega), kidT_at [a, b] 0 _ (by simp), kidT_at [a, b] 1 _ (by simp), hs2]
      rfl
    rw [h1, h2]
    have hb1 := at_scan (sgnOf op).2.2.2 b.opOf b.bare b.bareT ihb r ts hr hS
    have hmid := hs3 _ _ hb1
    have ha1 := at_scan (sgnOf op).2.2.1 a.opOf a.bare a.bareT iha (32 :: (s ++ [32]) ++ (b.txt (sgnOf op).2.2.2 ++ r)) (signTk s :: (b.toks (sgnOf op).2.2.2 ++ ts)) (by exact brk32' _) hmid
    simpa [Ex.txt, Ex.toks, List.append_assoc] using ha1
theorem txt_scan {e : Ex} (h : Shp e) (l : Nat) (r : List UInt8) (ts : List Lx.T) (hr : FolS r) (hS : Scans r (.done ts)) : Scans (e.txt l ++ r) (.done (e.toks l ++ ts)) := at_scan l e.opOf e.bare e.bareT (bare_scan h) r ts hr hS
end Pz
end Go.Proofs.YtaekbgljbgmchaaGreatDoor
namespace Go.Proofs.YtaekbgljbgmchaaGreatDoor
open Go.RowKit
open Lx (Out)
open Pz
namespace Pz
/-- Two tokens are alike but for places, and their places go together. -/
def Tw (PP : Int → Int → Prop) (o o' : Out) : Prop := o'.kind = o.kind ∧ o'.text = o.text ∧ o'.n = o.n ∧ PP o.pos o'.pos
/-- Two rows of tokens, token for token; the last one is the end. -/
inductive Two (PP : Int → Int → Prop) : List Out → List Out → Prop
  | one {o o' : Out} (h : Tw PP o o') (h5 : o.kind = 5) : Two PP [o] [o']
  | cons {o o' : Out} {l l' : List Out} (h : Tw PP o o') (t : Two PP l l') : Two PP (o :: l) (o' :: l')
theorem Two.hd {PP : Int → Int → Prop} {l l' : List Out} (h : Two PP l l') : Tw PP (l.headD noTok) (l'.headD noTok) := by cases h <;> assumption
theorem Two.len {PP : Int → Int → Prop} {l l' : List Out} (h : Two PP l l') : l'.length = l.length := by
  induction h with
  | one => rfl
  | cons _ _ ih => simp [ih]
theorem Two.ne {PP : Int → Int → Prop} {l l' : List Out} (h : Two PP l l') : l ≠ [] ∧ l' ≠ [] := by cases h <;> simp
theorem Two.tail {PP : Int → Int → Prop} {l l' : List Out} (h : Two PP l l') (hk : (l.headD noTok).kind ≠ 5) : Two PP l.tail l'.tail := by
  cases h with
  | one _ h5 => exact absurd h5 hk
  | cons _ t => exact t
theorem last1_cons (a b : Out) (l : List Out) : last1 (a :: b :: l) = last1 (b :: l) := by
  unfold last1
  rw [show (a :: b :: l).length - 1 = ((b :: l).length - 1) + 1 by simp, List.drop_succ_cons]
theorem Two.last1 {PP : Int → Int → Prop} {l l' : List Out} (h : Two PP l l') : Two PP (last1 l) (last1 l') := by
  induction h with
  | one h h5 => exact .one h h5
  | cons _ t ih =>
    cases t with
    | one a b => exact ih
    | cons a b => rw [last1_cons, last1_cons]; exact ih
theorem tw_is {PP : Int → Int → Prop} {o o' : Out} (h : Tw PP o o') (x : ByteArray) : is o' x = is o x := by unfold is; rw [h.2.1]
theorem tw_oper {PP : Int → Int → Prop} {o o' : Out} (h : Tw PP o o') : operOf o' = operOf o := by unfold operOf; simp only [tw_is h]
theorem tw_kind {PP : Int → Int → Prop} {o o' : Out} (h : Tw PP o o') : kindOf o' = kindOf o := by unfold kindOf; simp only [tw_is h, h.1]
/-- Two readers that stand at like tokens. -/
structure Rl (PP : Int → Int → Prop) (s s' : S) : Prop where
  rest : Two PP s.rest s'.rest
  opn : s'.opn = s.opn
  err : s'.err = s.err
  pos : s.err ≠ 0 → PP s.pos s'.pos
namespace Rl
variable {PP : Int → Int → Prop} {s s' : S}
theorem hd (h : Rl PP s s') : Tw PP s.hd s'.hd := h.rest.hd
theorem sees (h : Rl PP s s') (x : ByteArray) : s'.sees x = s.sees x := tw_is h.hd x
theorem fail (h : Rl PP s s') (e a a' : Int) (hp : PP a a') : Rl PP (s.fail e a) (s'.fail e a') := by
  unfold S.fail
  rw [h.err]
  split
  · exact ⟨h.rest.last1, h.opn, rfl, fun _ => hp⟩
  · exact h
theorem refuse (h : Rl PP s s') (e : Int) : Rl PP (s.refuse e) (s'.refuse e) := h.fail e _ _ h.hd.2.2.2
theorem pass (h : Rl PP s s') : Rl PP s.pass s'.pass := by
  unfold S.pass
  rw [h.hd.1]
  split
  · exact h
  · rename_i hk; exact ⟨h.rest.tail hk, h.opn, h.err, h.pos⟩
theorem want (h : Rl PP s s') (x : ByteArray) : Rl PP (s.want x) (s'.want x) := by
  unfold S.want
  rw [h.sees]
  split
  · exact h.pass
  · exact (h.refuse 40).pass
theorem take (h : Rl PP s s') (k : Int) : Rl PP (s.take k).2 (s'.take k).2 := by
  unfold S.take
  rw [h.hd.1]
  split
  · exact h.pass
  · exact h.refuse 40
theorem takeT (h : Rl PP s s') (k : Int) : (s'.take k).1.text = (s.take k).1.text := by
  unfold S.take
  rw [h.hd.1]
  split
  · exact h.hd.2.1
  · rfl
theorem takeN (h : Rl PP s s') (k : Int) : (s'.take k).1.n = (s.take k).1.n := by
  unfold S.take
  rw [h.hd.1]
  split
  · exact h.hd.2.2.1
  · rfl
theorem path1 (h : Rl PP s s') : (path s').1 = (path s).1 := by
  unfold path
  rw [h.takeT, ((h.take 1).want s_dot).takeT]
theorem path2 (h : Rl PP s s') : Rl PP (path s).2 (path s').2 := ((h.take 1).want s_dot).take 1
theorem more (h : Rl PP s s') : Rl PP s.more s'.more := ⟨h.rest, by show s'.opn + 1 = s.opn + 1; rw [h.opn], h.err, h.pos⟩
theorem less (h : Rl PP s s') : Rl PP s.less s'.less := ⟨h.rest, by show s'.opn - 1 = s.opn - 1; rw [h.opn], h.err, h.pos⟩
theorem enter (h : Rl PP s s') (x : ByteArray) : Rl PP (s.enter x) (s'.enter x) := by
  unfold S.enter
  rw [h.sees, h.opn]
  split
  · exact ((h.refuse 41).want x).more
  · exact (h.want x).more
theorem full (h : Rl PP s s') (b : Bool) : Rl PP (s.full b) (s'.full b) := by
  unfold S.full
  cases b
  · exact h.pass
  · exact (h.refuse 6).pass
end Rl
/-- A reading that reads of like tokens the like. -/
def Rd2 {α : Type} (PP : Int → Int → Prop) (E : α → α → Bool) (rd : S → α × S) : Prop := ∀ s s', Rl PP s s' → E (rd s).1 (rd s').1 = true ∧ Rl PP (rd s).2 (rd s').2
theorem Rd2.within {α : Type} {PP : Int → Int → Prop} {E : α → α → Bool} {rd : S → α × S} (h : Rd2 PP E rd) (x : ByteArray) : Rd2 PP E (within x rd) := fun _ _ k => ⟨(h _ _ (k.enter x)).1, (h _ _ (k.enter x)).2.less⟩
theorem Rd2.enclosed {α : Type} {PP : Int → Int → Prop} {E : α → α → Bool} {rd : S → α × S} (h : Rd2 PP E rd) (x y : ByteArray) : Rd2 PP E (enclosed x rd y) := fun _ _ k => ⟨(h.within x _ _ k).1, (h.within x _ _ k).2.want y⟩
theorem all2_len_eq {α : Type} {E : α → α → Bool} {l l' : List α} (h : all2 E l l' = true) : l.length = l'.length := ((all2_iff E l l').1 h).1
theorem all2_add {α : Type} {E : α → α → Bool} : ∀ {l l' : List α} {a b : α}, all2 E l l' = true → E a b = true → all2 E (l ++ [a]) (l' ++ [b]) = true
  | [], [], a, b, _, k => by simp [all2, k]
  | [], _ :: _, _, _, h, _ => by simp [all2] at h
  | _ :: _, [], _, _, h, _ => by simp [all2] at h
  | x :: l, y :: l', a, b, h, k => by
    simp only [all2, Bool.and_eq_true] at h
    simp only [List.cons_append, all2, Bool.and_eq_true]
    exact ⟨h.1, all2_add h.2 k⟩
theorem Rd2.oneMore {α : Type} {PP : Int → Int → Prop} {E : α → α → Bool} {rd : S → α × S} (h : Rd2 PP E rd) (most : Nat) {l l' : List α} (hl : all2 E l l' = true) {s s' : S} (k : Rl PP s s') : all2 E (oneMore l most rd s).1 (oneMore l' most rd s').1 = true ∧ Rl PP (oneMore l most rd s).2 (oneMore l' most rd s').2 := by
  unfold Pz.oneMore
  rw [← all2_len_eq hl]
  have := h _ _ (k.full (decide (most ≤ l.length)))
  exact ⟨all2_add hl this.1, this.2⟩
theorem Rd2.several {α : Type} {PP : Int → Int → Prop} {E : α → α → Bool} {rd : S → α × S} (h : Rd2 PP E rd) (word : ByteArray) (most : Nat) : ∀ (f : Nat) {l l' : List α} (_ : all2 E l l' = true) {s s' : S} (_ : Rl PP s s'), all2 E (several word most rd f l s).1 (several word most rd f l' s').1 = true ∧ Rl PP (several word most rd f l s).2 (several word most rd f l' s').2 := by
  intro f
  induction f with
  | zero => intro l l' hl s s' k; exact ⟨hl, k⟩
  | succ f ih =>
    intro l l' hl s s' k
    rw [Pz.several, Pz.several, k.sees]
    split
    · have := h.oneMore most hl k
      exact ih this.1 this.2
    · exact ⟨hl, k⟩
theorem same_ex (op : Int) (mon name : ByteArray) (n : Int) {kids kids' : List Ex} (pos pos' : Int) (h : all2 Ex.same kids kids' = true) : (ex op mon name n kids pos).same (ex op mon name n kids' pos') = true := by simp [ex, Ex.same, Ex.sameL_eq, h]
theorem same_st (kind : Int) (mon name : ByteArray) (n : Int) {e e' : Ex} {bs bs' : List Bl} (pos pos' : Int) (he : e.same e' = true) (h : all2 Bl.same bs bs' = true) : (st kind mon name n e bs pos).same (st kind mon name n e' bs' pos') = true := by simp [st, St.same, Bl.sameL_eq, h, he]
theorem same_exZ : exZ.same exZ = true := same_ex _ _ _ _ _ _ rfl
theorem prefixed2 {PP : Int → Int → Prop} (op n : Int) (sign : ByteArray) {rd : S → Ex × S} (h : Rd2 PP Ex.same rd) (pos pos' : Int) {s s' : S} (k : Rl PP s s') : (prefixed op n sign rd pos s).1.same (prefixed op n sign rd pos' s').1 = true ∧ Rl PP (prefixed op n sign rd pos s).2 (prefixed op n sign rd pos' s').2 := by
  have := h.within sign _ _ k
  exact ⟨same_ex _ _ _ _ _ _ (by simp [all2, this.1]), this.2⟩
theorem expr2 {PP : Int → Int → Prop} (f : Nat) : (∀ l, Rd2 PP Ex.same (exprAt f l)) ∧ (∀ l own x x' s s', x.same x' = true → Rl PP s s' → (loop f l x own s).1.same (loop f l x' own s').1 = true ∧ Rl PP (loop f l x own s).2 (loop f l x' own s').2) ∧ Rd2 PP Ex.same (term f) := by
  induction f with
  | zero => exact ⟨fun l s s' k => by rw [exprAt, exprAt]; exact ⟨same_exZ, k⟩, fun l own x x' s s' hx k => by rw [loop, loop]; exact ⟨hx, k⟩, fun s s' k => by rw [term, term]; exact ⟨same_exZ, k⟩⟩
  | succ f ih =>
    obtain ⟨h1, h2, h3⟩ := ih
    refine ⟨fun l s s' k => ?_, fun l own x x' s s' hx k => ?_, fun s s' k => ?_⟩
    · rw [exprAt, exprAt, k.sees]
      split
      · have := prefixed2 5 0 s_bang (h1 3) s.hd.pos s'.hd.pos k
        exact h2 _ _ _ _ _ _ this.1 this.2
      · have := h3 _ _ k
        exact h2 _ _ _ _ _ _ this.1 this.2
    · rw [loop, loop, tw_oper k.hd]
      split
      · exact ⟨hx, k⟩
      · have := h1 (operOf s.hd).second _ _ k.pass
        exact h2 _ _ _ _ _ _ (same_ex _ _ _ _ _ _ (by simp [all2, this.1, hx])) this.2
    · rw [term, term, k.hd.1, k.hd.2.2.1]
      split
      · rw [k.pass.sees]
        split
        · exact prefixed2 _ _ _ h3 _ _ k.pass
        · exact ⟨same_ex _ _ _ _ _ _ rfl, k.pass⟩
      · split
        · rw [k.path1]; exact ⟨same_ex _ _ _ _ _ _ rfl, k.path2⟩
        · rw [k.sees]
          split
          · exact prefixed2 _ _ _ h3 _ _ k
          · rw [k.sees]
            split
            · exact (h1 1).enclosed _ _ _ _ k
            · rw [k.sees]
              split
              · exact ⟨same_ex _ _ _ _ _ _ rfl, k.pass⟩
              · exact ⟨same_ex _ _ _ _ _ _ rfl, k.want _⟩
theorem stmt2 {PP : Int → Int → Prop} {rx : S → Ex × S} {rb : S → Bl × S} (hx : Rd2 PP Ex.same rx) (hb : Rd2 PP Bl.same rb) (n : Nat) : Rd2 PP St.same (stmt rx rb n) := by
  intro s s' k
  unfold Pz.stmt
  split
  · exact ⟨same_st _ _ _ _ _ _ same_exZ rfl, (k.want _).want _⟩
  · unfold stSet
    have := hx _ _ (k.path2.want s_eq)
    rw [k.path1]
    exact ⟨same_st _ _ _ _ _ _ this.1 rfl, this.2.want _⟩
  · unfold stIf
    have h1 := hx _ _ (k.want k_if)
    have h2 := hb _ _ h1.2
    simp only
    rw [h2.2.sees]
    split
    · have h3 := hb _ _ h2.2.pass
      exact ⟨same_st _ _ _ _ _ _ h1.1 (by simp [all2, h2.1, h3.1]), h3.2⟩
    · exact ⟨same_st _ _ _ _ _ _ h1.1 (by simp [all2, h2.1]), h2.2⟩
  · unfold stWhile
    have h1 := hx _ _ (k.want k_while)
    have h2 := hb _ _ h1.2
    exact ⟨same_st _ _ _ _ _ _ h1.1 (by simp [all2, h2.1]), h2.2⟩
  · unfold stLoop
    have h2 := hb _ _ (k.want k_loop)
    exact ⟨same_st _ _ _ _ _ _ same_exZ (by simp [all2, h2.1]), h2.2⟩
  · unfold stChoose
    have h1 := hb.oneMore 8 (l := []) (l' := []) rfl k
    have h2 := hb.several k_or 8 (Pz.oneMore [] 8 rb s).2.rest.length h1.1 h1.2
    simp only
    rw [h1.2.rest.len]
    exact ⟨same_st _ _ _ _ _ _ same_exZ h2.1, h2.2⟩
  · unfold stSync
    have h2 := hb _ _ ((k.want k_sync).take 1)
    simp only
    rw [(k.want k_sync).takeT]
    exact ⟨same_st _ _ _ _ _ _ same_exZ (by simp [all2, h2.1]), h2.2⟩
  · unfold stCall
    rw [(k.want k_call).path1]
    exact ⟨same_st _ _ _ _ _ _ same_exZ rfl, (k.want k_call).path2.want _⟩
  · unfold stWait
    have h1 := (k.want k_wait).take 1
    simp only
    rw [h1.hd.1, (k.want k_wait).takeT, h1.takeN]
    split
    · refine ⟨same_st _ _ _ _ _ _ same_exZ rfl, ?_⟩
      split
      · exact ((h1.take 2).fail 40 _ _ h1.hd.2.2.2).want _
      · exact (h1.take 2).want _
    · exact ⟨same_st _ _ _ _ _ _ same_exZ rfl, h1.want _⟩
  · unfold stNotify
    rw [(k.want k_notify).takeT]
    exact ⟨same_st _ _ _ _ _ _ same_exZ rfl, ((k.want k_notify).take 1).want _⟩
  · unfold stAll
    rw [(k.want k_notifyall).takeT]
    exact ⟨same_st _ _ _ _ _ _ same_exZ rfl, ((k.want k_notifyall).take 1).want _⟩
theorem stAt_same (x y : St) (a b : Int) : (stAt x a).same (stAt y b) = x.same y := by cases x; cases y; simp [stAt, St.same]
theorem stmts2 {PP : Int → Int → Prop} (f : Nat) : ∀ {l l' : List St} (_ : all2 St.same l l' = true) {s s' : S} (_ : Rl PP s s'), (stmtsF f l s).1.same (stmtsF f l' s').1 = true ∧ Rl PP (stmtsF f l s).2 (stmtsF f l' s').2 := by
  induction f with
  | zero => intro l l' hl s s' k; exact ⟨by simp [stmtsF, bl, Bl.same, St.sameL_eq, hl], k⟩
  | succ f ih =>
    intro l l' hl s s' k
    rw [stmtsF, stmtsF, tw_kind k.hd]
    split
    · exact ⟨by simp [bl, Bl.same, St.sameL_eq, hl], k⟩
    · have hb : Rd2 PP Bl.same (block (stmtsF f [])) := Rd2.enclosed (fun s s' k => ih (l := []) (l' := []) rfl k) _ _
      have := stmt2 ((expr2 f).1 1) hb (kindOf s.hd) _ _ k
      exact ih (all2_add hl (by rw [stAt_same]; exact this.1)) this.2
theorem blockF2 {PP : Int → Int → Prop} (f : Nat) : Rd2 PP Bl.same (blockF f) := Rd2.enclosed (fun _ _ k => stmts2 f (l := []) (l' := []) rfl k) _ _
def eqI (a b : Int) : Bool := a == b
theorem integer2 {PP : Int → Int → Prop} {s s' : S} (k : Rl PP s s') : (integer s').1 = (integer s).1 ∧ Rl PP (integer s).2 (integer s').2 := by
  unfold integer
  rw [k.sees]
  split
  · rw [k.pass.takeN]; exact ⟨rfl, k.pass.take 2⟩
  · rw [k.takeN]; exact ⟨rfl, k.take 2⟩
theorem truth2 {PP : Int → Int → Prop} {s s' : S} (k : Rl PP s s') : (truth s').1 = (truth s).1 ∧ Rl PP (truth s).2 (truth s').2 := by
  unfold truth
  rw [k.sees]
  split
  · exact ⟨rfl, k.pass⟩
  · exact ⟨rfl, k.want _⟩
theorem bounds2 {PP : Int → Int → Prop} {s s' : S} (k : Rl PP s s') : (bounds s').1 = (bounds s).1 ∧ Rl PP (bounds s).2 (bounds s').2 := by
  have h1 := integer2 k
  have h2 := h1.2.want s_dots
  have h3 := integer2 h2
  unfold bounds
  simp only
  rw [h1.1, h3.1]
  refine ⟨rfl, ?_⟩
  split
  · exact h3.2.fail 40 _ _ h2.hd.2.2.2
  · exact h3.2
theorem typed2 {PP : Int → Int → Prop} {s s' : S} (k : Rl PP s s') : (typed s').1 = (typed s).1 ∧ Rl PP (typed s).2 (typed s').2 := by
  unfold typed
  rw [k.sees]
  split
  · have := truth2 (k.pass.want s_eq); rw [this.1]; exact ⟨rfl, this.2⟩
  · rw [k.sees]
    split
    · have := integer2 (k.pass.want s_eq); rw [this.1]; exact ⟨rfl, this.2⟩
    · have h1 := bounds2 k
      have := integer2 (h1.2.want s_eq); rw [h1.1, this.1]; exact ⟨rfl, this.2⟩
theorem vari2 {PP : Int → Int → Prop} : Rd2 PP Va.same vari := by
  intro s s' k
  have h := typed2 ((k.take 1).want s_colon)
  unfold vari
  simp only
  rw [k.takeT, h.1]
  exact ⟨by simp [Va.same], h.2.want _⟩
theorem method2 {PP : Int → Int → Prop} (f : Nat) : Rd2 PP Me.same (method f) := by
  intro s s' k
  have h := blockF2 f _ _ (k.take 1)
  unfold method
  rw [k.takeT]
  exact ⟨by simp [Me.same, h.1], h.2⟩
theorem members2 {PP : Int → Int → Prop} (f : Nat) : Rd2 PP Mo.same (members f) := by
  intro s s' k
  have h1 := (vari2 (PP := PP)).several k_var 16 s.rest.length (l := []) (l' := []) rfl k
  have h2 := (method2 (PP := PP) f).several k_method 16 (several k_var 16 vari s.rest.length [] s).2.rest.length (l := []) (l' := []) rfl h1.2
  unfold members
  simp only
  rw [k.rest.len, h1.2.rest.len]
  exact ⟨by simp [Mo.same, h1.1, h2.1], h2.2⟩
theorem monitor2 {PP : Int → Int → Prop} (f : Nat) : Rd2 PP Mo.same (monitor f) := by
  intro s s' k
  have h := (members2 (PP := PP) f).enclosed s_lbr s_rbr _ _ (k.take 1)
  unfold monitor
  simp only
  rw [k.takeT]
  have h1 := h.1
  unfold Mo.same at h1 ⊢
  simp only [Bool.and_eq_true] at h1 ⊢
  exact ⟨⟨⟨by simp, h1.1.2⟩, h1.2⟩, h.2⟩
theorem role2 {PP : Int → Int → Prop} (f : Nat) : Rd2 PP Ro.same (role f) := by
  intro s s' k
  have t := k.take 1
  unfold role
  simp only
  rw [t.sees, k.takeT]
  split
  · have h := blockF2 f _ _ t.pass
    exact ⟨by simp [Ro.same, h.1], h.2⟩
  · have h := blockF2 f _ _ (t.take 2)
    rw [t.takeN]
    exact ⟨by simp [Ro.same, h.1], h.2⟩
theorem progF2 {PP : Int → Int → Prop} (g : Nat) : ∀ (f : Nat) {m m' : List Mo} {r r' : List Ro} (_ : all2 Mo.same m m' = true) (_ : all2 Ro.same r r' = true) {s s' : S} (_ : Rl PP s s'), (progF g f m r s).1.same (progF g f m' r' s').1 = true ∧ Rl PP (progF g f m r s).2 (progF g f m' r' s').2 := by
  intro f
  induction f with
  | zero => intro m m' r r' hm hr s s' k; exact ⟨by simp [progF, pr, Pr.same, hm, hr], k⟩
  | succ f ih =>
    intro m m' r r' hm hr s s' k
    rw [progF, progF, k.sees]
    split
    · have := (monitor2 (PP := PP) g).oneMore 8 hm k
      exact ih this.1 hr this.2
    · rw [k.sees]
      split
      · have := (role2 (PP := PP) g).oneMore 8 hr k
        exact ih hm this.1 this.2
      · exact ⟨by simp [pr, Pr.same, hm, hr], k⟩
theorem program2 {PP : Int → Int → Prop} : Rd2 PP Pr.same program := by
  intro s s' k
  unfold program fuel
  rw [k.rest.len]
  exact progF2 _ _ rfl rfl k
theorem exprs2 {PP : Int → Int → Prop} : Rd2 PP Ex.same expr := by
  intro s s' k
  unfold expr fuel
  rw [k.rest.len]
  exact (expr2 _).1 1 _ _ k
theorem Rl.atEnd {PP : Int → Int → Prop} {s s' : S} (k : Rl PP s s') : Rl PP (atEnd s) (atEnd s') := by
  unfold Pz.atEnd
  rw [k.hd.1]
  split
  · exact k
  · exact k.refuse 40
end Pz
end Go.Proofs.YtaekbgljbgmchaaGreatDoor
namespace Go.Proofs.YtaekbgljbgmchaaGreatDoor
open Go.RowKit
open Lx (Out)
open Pz
open Px
open Lx (ofOut)
namespace Pz
theorem tok_of2 {o : Out} {t : Lx.T} (h : ofOut o = t) (y : ByteArray) (hy : y.data.toList = t.text) : Tok o t.kind y := by
  subst h
  exact ⟨rfl, ByteArray.ext (Array.toList_inj.1 hy.symm)⟩
theorem kind_of2 {o : Out} {t : Lx.T} (h : ofOut o = t) : o.kind = t.kind := by subst h; rfl
theorem n_of2 {o : Out} {t : Lx.T} (h : ofOut o = t) : o.n = t.n := by subst h; rfl
theorem text_of2 {o : Out} {t : Lx.T} (h : ofOut o = t) : o.text.data.toList = t.text := by subst h; rfl
/-- What follows an expression of a level. -/
def Acc (o : Nat) (r : List Out) : Prop := ((operOf (r.headD noTok)).op = 0 ∨ (operOf (r.headD noTok)).own ≤ o) ∧ is (r.headD noTok) s_star = false
theorem loop_end (f lv : Nat) (x : Ex) (ow : Nat) (r : List Out) (opn : Int) (h : (operOf (r.headD noTok)).op = 0 ∨ (operOf (r.headD noTok)).own < lv) : loop f lv x ow ⟨r, opn, 0, 0⟩ = (x, ⟨r, opn, 0, 0⟩) := by
  cases f with
  | zero => rw [loop]
  | succ f =>
    rw [loop, if_pos]
    rcases h with h | h
    · exact .inl h
    · exact .inr (.inl h)
theorem not_bang {o : Out} {c : UInt8} {t : List UInt8} (h : o.text.data.toList = c :: t) (hc : c ≠ 33) : is o s_bang = false := by
  unfold is
  rw [ByteArray.toList_eq, ByteArray.toList_eq, h]
  show ((c :: t) == [33]) = false
  rw [beq_eq_false_iff_ne]
  intro e
  injection e with e1
  exact hc e1
theorem num_first (n : Int) (h : 0 ≤ n) : ∃ c t, Lib.itoa n = c :: t ∧ c ≠ 33 := by
  obtain ⟨d1, d2⟩ := itoa_digit n h
  cases hh : Lib.itoa n with
  | nil => exact absurd hh d1
  | cons c t => exact ⟨c, t, rfl, (digit_not45 (d2 c (by rw [hh]; simp))).2.2⟩
theorem name_first {s : ByteArray} (h : Lx.name s = true) : ∃ c t, s.data.toList = c :: t ∧ c ≠ 33 := by
  obtain ⟨⟨c, t, h1, h2⟩, -⟩ := name_parts h
  refine ⟨c, t, h1, ?_⟩
  rintro rfl
  cases h2
theorem e0_toList (s : ByteArray) (h : s.size = 0) : (s.toList == e0.toList) = true := by
  have : s.data.toList = [] := List.eq_nil_of_length_eq_zero (by rw [Array.length_toList]; exact h)
  rw [ByteArray.toList_eq, ByteArray.toList_eq, this]; rfl
theorem same_ex1 (op : Int) (mon name : ByteArray) (n : Int) (ad : Option Addr) (cap : Nat) (kids kids' : List Ex) (pos pos' : Int) (hm : mon.size = 0) (hn : name.size = 0) (h : all2 Ex.same kids kids' = true) : (Ex.mk op mon name n ad cap kids pos).same (ex op e0 e0 n kids' pos') = true := by
  simp only [ex, Ex.same, Ex.sameL_eq, h, e0_toList mon hm, e0_toList name hn, beq_self_eq_true, Bool.and_self]
theorem same_var (mon name m2 n2 : ByteArray) (ad : Option Addr) (cap : Nat) (pos pos' : Int) (h1 : m2 = mon) (h2 : n2 = name) : (Ex.mk 4 mon name 0 ad cap [] pos).same (ex 4 m2 n2 0 [] pos') = true := by
  subst h1 h2
  simp [ex, Ex.same, Ex.sameL]
/-- How an expression of which the first token's reading is known is read without parentheses. -/
structure Reads (e : Ex) : Prop where
  bare : ∀ (lv : Nat) (L r : List Out) (opn : Int) (f : Nat), 1 ≤ lv → lv ≤ own e.opOf → L.map ofOut = e.bareT → opn + e.nst ≤ 64 → Acc (own e.opOf) r → 2 * L.length ≤ f → ∃ f' x, f ≤ f' + 2 * L.length ∧ exprAt f lv ⟨L ++ r, opn, 0, 0⟩ = loop f' lv x (own e.opOf) ⟨r, opn, 0, 0⟩ ∧ e.same x = true
  term : own e.opOf = 6 → ∀ (L r : List Out) (opn : Int) (f : Nat), is (r.headD noTok) s_star = false → L.map ofOut = e.bareT → opn + e.nst ≤ 64 → 2 * L.length ≤ f + 1 → ∃ x, term f ⟨L ++ r, opn, 0, 0⟩ = (x, ⟨r, opn, 0, 0⟩) ∧ e.same x = true
theorem bare_of_term {e : Ex} (h6 : own e.opOf = 6) (hb : ∀ (L r : List Out) (opn : Int), L.map ofOut = e.bareT → (S.mk (L ++ r) opn 0 0).sees s_bang = false) (hne : e.bareT ≠ [])
    (ht : ∀ (L r : List Out) (opn : Int) (f : Nat), is (r.headD noTok) s_star = false → L.map ofOut = e.bareT → opn + e.nst ≤ 64 → 2 * L.length ≤ f + 1 → ∃ x, Pz.term f ⟨L ++ r, opn, 0, 0⟩ = (x, ⟨r, opn, 0, 0⟩) ∧ e.same x = true) : Reads e where
  term := fun _ => ht
  bare := by
    intro lv L r opn f h1 h2 hL ho hr hf
    have hLn : 0 < L.length := by
      rcases L with _ | ⟨a, L⟩
      · exact absurd hL.symm hne
      · simp
    obtain ⟨f, rfl⟩ : ∃ g, f = g + 1 := ⟨f - 1, by omega⟩
    obtain ⟨x, hx, hs⟩ := ht L r opn f hr.2 hL ho (by omega)
    refine ⟨f, x, by omega, ?_, hs⟩
    rw [not_lt _ _ (hb L r opn hL), hx, h6]
theorem own_ge (op : Int) : 1 ≤ own op := by
  unfold own
  split
  · rename_i h
    unfold signed at h
    have h := of_decide_eq_true h
    have hc : op = 5 ∨ op = 6 ∨ op = 7 ∨ op = 8 ∨ op = 9 ∨ op = 10 ∨ op = 11 ∨ op = 12 ∨ op = 13 ∨ op = 14 ∨ op = 15 ∨ op = 16 ∨ op = 17 := by omega
    rcases hc with rfl | rfl | rfl | rfl | rfl | rfl | rfl | rfl | rfl | rfl | rfl | rfl | rfl <;> decide
  · decide
/-- The level that an expression written at a level has. -/
def ownP (p : Nat) (op : Int) : Nat := if own op < p then 6 else own op
theorem ownP_ge (p : Nat) (hp : p ≤ 6) (op : Int) : p ≤ ownP p op := by unfold ownP; split <;> omega
theorem stops_of (c : Out) (r : List Out) (hc : Tok c 4 s_rpar) : (operOf ((c :: r).headD noTok)).op = 0 := stops_rpar hc
/-- In parentheses. -/
theorem par_reads {e : Ex} (h : Reads e) (lp rp : Out) (L r : List Out) (opn : Int) (f : Nat) (hl : Tok lp 4 s_lpar) (hr : Tok rp 4 s_rpar) (hL : L.map ofOut = e.bareT) (ho : opn + e.nst + 1 ≤ 64) (hf : 2 * L.length ≤ f) : ∃ x, Pz.term (f + 1) ⟨lp :: (L ++ rp :: r), opn, 0, 0⟩ = (x, ⟨r, opn, 0, 0⟩) ∧ e.same x = true := by
  obtain ⟨f', x, h1, h2, h3⟩ := h.bare 1 L (rp :: r) (opn + 1) f (Nat.le_refl _) (own_ge _) hL (by omega) ⟨.inl (stops_of rp r hr), show is rp s_star = false from by rw [is_of hr.2]; decide⟩ hf
  rw [loop_end _ _ _ _ _ _ (.inl (stops_of rp r hr))] at h2
  refine ⟨x, ?_, h3⟩
  rw [Pz.term, if_neg (by show ¬ lp.kind = 2; rw [hl.1]; decide), if_neg (by show ¬ lp.kind = 1; rw [hl.1]; decide), name_not (by rw [is_of hl.2]; decide), if_neg (by simp), show (S.mk (lp :: (L ++ rp :: r)) opn 0 0).sees s_lpar = true from by show is lp s_lpar = true; rw [is_of hl.2]; decide, if_pos rfl]
  unfold enclosed within
  rw [enter_fine _ _ _ _ (by rw [is_of hl.2]; decide) (by rw [hl.1]; decide) (by omega), h2]
  show (x, (S.mk (rp :: r) (opn + 1 - 1) 0 0).want s_rpar) = _
  rw [show opn + 1 - 1 = opn by omega, want_fine _ _ _ _ (by rw [is_of hr.2]; decide) (by rw [hr.1]; decide)]
/-- At a level: the tokens with their parentheses taken off. -/
theorem at_split {e : Ex} {p : Nat} {L : List Out} (hL : L.map ofOut = e.toks p) : (own e.opOf < p ∧ ∃ lp rp M, L = lp :: (M ++ [rp]) ∧ Tok lp 4 s_lpar ∧ Tok rp 4 s_rpar ∧ M.map ofOut = e.bareT) ∨ (¬ own e.opOf < p ∧ L.map ofOut = e.bareT) := by
  unfold Ex.toks atT at hL
  by_cases h : own e.opOf < p
  · rw [if_pos h] at hL
    refine .inl ⟨h, ?_⟩
    rcases L with _ | ⟨lp, L⟩
    · cases hL
    · simp only [List.map_cons, List.cons.injEq] at hL
      obtain ⟨M, R, rfl, hM, hR⟩ := List.map_eq_append_iff.1 hL.2
      rcases R with _ | ⟨rp, _ | ⟨y, R⟩⟩
      · cases hR
      · simp only [List.map_cons, List.map_nil, List.cons.injEq, and_true] at hR
        exact ⟨lp, rp, M, rfl, tok_of2 hL.1 s_lpar rfl, tok_of2 hR s_rpar rfl, hM⟩
      · simp at hR
  · rw [if_neg h] at hL
    exact .inr ⟨h, hL⟩
theorem nest_par {e : Ex} {p : Nat} (h : own e.opOf < p) : e.nest p = 1 + e.nst := by unfold Ex.nest nestL; rw [if_pos h]
theorem nest_bare {e : Ex} {p : Nat} (h : ¬ own e.opOf < p) : e.nest p = e.nst := by unfold Ex.nest nestL; rw [if_neg h]; omega
theorem lp_not_bang {lp : Out} {l : List Out} {opn : Int} (hl : Tok lp 4 s_lpar) : (S.mk (lp :: l) opn 0 0).sees s_bang = false := name_not (by rw [is_of hl.2]; decide)
/-- An expression that is written at a level, read at one that is no higher. -/
theorem at_reads {e : Ex} (h : Reads e) (p lv : Nat) (h1 : 1 ≤ lv) (hlp : lv ≤ p) (L r : List Out) (opn : Int) (f : Nat) (hL : L.map ofOut = e.toks p) (ho : opn + e.nest p ≤ 64) (hr : Acc (ownP p e.opOf) r) (hf : 2 * L.length ≤ f) : ∃ f' x, f ≤ f' + 2 * L.length ∧ exprAt f lv ⟨L ++ r, opn, 0, 0⟩ = loop f' lv x (ownP p e.opOf) ⟨r, opn, 0, 0⟩ ∧ e.same x = true := by
  rcases at_split hL with ⟨hlt, lp, rp, M, rfl, hl, hrp, hM⟩ | ⟨hge, hB⟩
  · rw [nest_par hlt] at ho
    simp only [List.length_cons, List.length_append, List.length_nil] at hf ⊢
    obtain ⟨f, rfl⟩ : ∃ g, f = g + 2 := ⟨f - 2, by omega⟩
    obtain ⟨x, hx, hs⟩ := par_reads h lp rp M r opn f hl hrp hM (by omega) (by omega)
    refine ⟨f + 1, x, by omega, ?_, hs⟩
    have e1 : lp :: (M ++ [rp]) ++ r = lp :: (M ++ rp :: r) := by simp
    rw [e1, not_lt _ _ (lp_not_bang hl), hx]
    unfold ownP
    rw [if_pos hlt]
  · rw [nest_bare hge] at ho
    have e1 : ownP p e.opOf = own e.opOf := by unfold ownP; rw [if_neg hge]
    rw [e1] at hr ⊢
    exact h.bare lv L r opn f h1 (by omega) hB ho hr hf
theorem term_reads {e : Ex} (h : Reads e) (L r : List Out) (opn : Int) (f : Nat) (hst : is (r.headD noTok) s_star = false) (hL : L.map ofOut = e.toks 6) (ho : opn + e.nest 6 ≤ 64) (hf : 2 * L.length ≤ f + 1) : ∃ x, Pz.term f ⟨L ++ r, opn, 0, 0⟩ = (x, ⟨r, opn, 0, 0⟩) ∧ e.same x = true := by
  rcases at_split hL with ⟨hlt, lp, rp, M, rfl, hl, hrp, hM⟩ | ⟨hge, hB⟩
  · rw [nest_par hlt] at ho
    simp only [List.length_cons, List.length_append, List.length_nil] at hf
    obtain ⟨f, rfl⟩ : ∃ g, f = g + 1 := ⟨f - 1, by omega⟩
    have e1 : lp :: (M ++ [rp]) ++ r = lp :: (M ++ rp :: r) := by simp
    rw [e1]
    exact par_reads h lp rp M r opn f hl hrp hM (by omega) (by omega)
  · rw [nest_bare hge] at ho
    exact h.term (by have := own_le e.opOf; omega) L r opn f hst hB ho hf
/-- The ten operators, as the parser has them. -/
theorem bin_oper (op : Int) (h8 : 8 ≤ op) (h17 : op ≤ 17) (o : Out) (ho : ofOut o = opTk op) : operOf o = ⟨op, own op, (sgnOf op).2.2.1, (sgnOf op).2.2.2⟩ ∧ o.kind = 4 ∧ own op ≤ (sgnOf op).2.2.1 ∧ own op < (sgnOf op).2.2.2 ∧ (sgnOf op).2.2.1 ≤ 6 ∧ (sgnOf op).2.2.2 ≤ 6 ∧ is o s_star = false := by
  have hk := kind_of2 ho
  have hc : op = 8 ∨ op = 9 ∨ op = 10 ∨ op = 11 ∨ op = 12 ∨ op = 13 ∨ op = 14 ∨ op = 15 ∨ op = 16 ∨ op = 17 := by omega
  rcases hc with rfl | rfl | rfl | rfl | rfl | rfl | rfl | rfl | rfl | rfl
  · have ht := tok_of2 ho s_plus rfl
    refine ⟨?_, hk, by decide, by decide, by decide, by decide, by rw [is_of ht.2]; decide⟩
    unfold operOf
    simp only [is_of ht.2]
    rfl
  · have ht := tok_of2 ho s_minus rfl
    refine ⟨?_, hk, by decide, by decide, by decide, by decide, by rw [is_of ht.2]; decide⟩
    unfold operOf
    simp only [is_of ht.2]
    rfl
  · have ht := tok_of2 ho s_eqeq rfl
    refine ⟨?_, hk, by decide, by decide, by decide, by decide, by rw [is_of ht.2]; decide⟩
    unfold operOf
    simp only [is_of ht.2]
    rfl
  · have ht := tok_of2 ho s_ne rfl
    refine ⟨?_, hk, by decide, by decide, by decide, by decide, by rw [is_of ht.2]; decide⟩
    unfold operOf
    simp only [is_of ht.2]
    rfl
  · have ht := tok_of2 ho s_lt rfl
    refine ⟨?_, hk, by decide, by decide, by decide, by decide, by rw [is_of ht.2]; decide⟩
    unfold operOf
    simp only [is_of ht.2]
    rfl
  · have ht := tok_of2 ho s_le rfl
    refine ⟨?_, hk, by decide, by decide, by decide, by decide, by rw [is_of ht.2]; decide⟩
    unfold operOf
    simp only [is_of ht.2]
    rfl
  · have ht := tok_of2 ho s_gt rfl
    refine ⟨?_, hk, by decide, by decide, by decide, by decide, by rw [is_of ht.2]; decide⟩
    unfold operOf
    simp only [is_of ht.2]
    rfl
  · have ht := tok_of2 ho s_ge rfl
    refine ⟨?_, hk, by decide, by decide, by decide, by decide, by rw [is_of ht.2]; decide⟩
    unfold operOf
    simp only [is_of ht.2]
    rfl
  · have ht := tok_of2 ho s_andand rfl
    refine ⟨?_, hk, by decide, by decide, by decide, by decide, by rw [is_of ht.2]; decide⟩
    unfold operOf
    simp only [is_of ht.2]
    rfl
  · have ht := tok_of2 ho s_oror rfl
    refine ⟨?_, hk, by decide, by decide, by decide, by decide, by rw [is_of ht.2]; decide⟩
    unfold operOf
    simp only [is_of ht.2]
    rfl
theorem no_three (t : Out) : (operOf t).op = 0 ∨ (operOf t).own ≠ 3 := by
  unfold operOf
  repeat' split
  all_goals simp
theorem nst_one (op : Int) (mon name : ByteArray) (n : Int) (ad : Option Addr) (cap : Nat) (k : Ex) (pos : Int) : (Ex.mk op mon name n ad cap [k] pos).nst = 1 + k.nest (sgnOf op).2.2.2 := by
  rw [Ex.nst_mk]
  unfold nestOf
  rw [if_pos (by rfl), nkid_at [k] 0 _ (by simp)]
  rfl
theorem nst_two (op : Int) (mon name : ByteArray) (n : Int) (ad : Option Addr) (cap : Nat) (a b : Ex) (pos : Int) : (Ex.mk op mon name n ad cap [a, b] pos).nst = max (a.nest (sgnOf op).2.2.1) (b.nest (sgnOf op).2.2.2) := by
  rw [Ex.nst_mk]
  unfold nestOf
  rw [if_neg (by simp), if_pos (by rfl), nkid_at [a, b] 0 _ (by simp), nkid_at [a, b] 1 _ (by simp)]
  rfl
theorem bareT_two (op : Int) (h8 : 8 ≤ op) (mon name : ByteArray) (n : Int) (ad : Option Addr) (cap : Nat) (a b : Ex) (pos : Int) : (Ex.mk op mon name n ad cap [a, b] pos).bareT = a.toks (sgnOf op).2.2.1 ++ opTk op :: b.toks (sgnOf op).2.2.2 := by
  rw [Ex.bareT_mk]
  unfold bareTOf
  rw [if_neg (by omega), if_neg (by omega), if_neg (by omega), if_neg (by omega), if_neg (by omega), if_neg (by omega), kidT_at [a, b] 0 _ (by simp), kidT_at [a, b] 1 _ (by simp)]
  rfl
theorem one_tok {L : List Out} {t : Lx.T} (h : L.map ofOut = [t]) : ∃ o, L = [o] ∧ ofOut o = t := by
  rcases L with _ | ⟨o, _ | ⟨y, L⟩⟩
  · cases h
  · simp only [List.map_cons, List.map_nil, List.cons.injEq, and_true] at h
    exact ⟨o, rfl, h⟩
  · simp at h
theorem more_tok {L : List Out} {t : Lx.T} {ts : List Lx.T} (h : L.map ofOut = t :: ts) : ∃ o M, L = o :: M ∧ ofOut o = t ∧ M.map ofOut = ts := by
  rcases L with _ | ⟨o, L⟩
  · cases h
  · simp only [List.map_cons, List.cons.injEq] at h
    exact ⟨o, L, rfl, h.1, h.2⟩
theorem own_bin (op : Int) (h8 : 8 ≤ op) (h17 : op ≤ 17) : own op ≤ 5 := by
  have hc : op = 8 ∨ op = 9 ∨ op = 10 ∨ op = 11 ∨ op = 12 ∨ op = 13 ∨ op = 14 ∨ op = 15 ∨ op = 16 ∨ op = 17 := by omega
  rcases hc with rfl | rfl | rfl | rfl | rfl | rfl | rfl | rfl | rfl | rfl <;> decide
theorem bang_stop {r : List Out} (h : Acc 3 r) : (operOf (r.headD noTok)).op = 0 ∨ (operOf (r.headD noTok)).own < 3 := by
  rcases h.1 with h | h
  · exact .inl h
  · rcases no_three (r.headD noTok) with h2 | h2
    · exact .inl h2
    · exact .inr (by omega)
theorem term_word (f : Nat) (o : Out) (r : List Out) (opn : Int) (h3 : o.kind = 3) (ht : o.text = k_true ∨ o.text = k_false) : Pz.term (f + 1) ⟨o :: r, opn, 0, 0⟩ = (ex (if is o k_true then 2 else 3) e0 e0 0 [] o.pos, ⟨r, opn, 0, 0⟩) := by
  rw [Pz.term, if_neg (by show ¬ o.kind = 2; rw [h3]; decide), if_neg (by show ¬ o.kind = 1; rw [h3]; decide)]
  rcases ht with ht | ht
  · rw [name_not (by rw [is_of ht]; decide), if_neg (by simp), name_not (by rw [is_of ht]; decide), if_neg (by simp), show (S.mk (o :: r) opn 0 0).sees k_true = true from by show is o k_true = true; rw [is_of ht]; decide, if_pos rfl, pass_fine _ _ _ (by rw [h3]; decide), show is o k_true = true from by rw [is_of ht]; decide]
    rfl
  · rw [name_not (by rw [is_of ht]; decide), if_neg (by simp), name_not (by rw [is_of ht]; decide), if_neg (by simp), name_not (show is o k_true = false from by rw [is_of ht]; decide), if_neg (by simp), want_fine _ _ _ _ (by rw [is_of ht]; decide) (by rw [h3]; decide), show is o k_true = false from by rw [is_of ht]; decide]
    rfl
theorem reads_any {e : Ex} (h : Shp e) : Reads e := by
  induction h with
  | num mon name n ad cap pos hm hn h0 h1 =>
    have hb : (Ex.mk 1 mon name n ad cap [] pos).bareT = [numTk n] := by rw [Ex.bareT_mk]; rfl
    refine bare_of_term rfl (fun L r opn hL => ?_) (by rw [hb]; simp) (fun L r opn f hst hL ho hf => ?_)
    · rw [hb] at hL
      obtain ⟨o, rfl, ho⟩ := one_tok hL
      obtain ⟨c, t, hc, hne⟩ := num_first n h0
      exact name_not (not_bang ((text_of2 ho).trans hc) hne)
    · rw [hb] at hL
      obtain ⟨o, rfl, hok⟩ := one_tok hL
      simp only [List.length_cons, List.length_nil] at hf
      obtain ⟨f, rfl⟩ : ∃ g, f = g + 1 := ⟨f - 1, by omega⟩
      have h2 : o.kind = 2 := kind_of2 hok
      have h3 : o.n = n := n_of2 hok
      refine ⟨ex 1 e0 e0 o.n [] o.pos, ?_, by rw [h3]; exact same_ex1 _ _ _ _ _ _ _ _ _ _ hm hn rfl⟩
      show Pz.term (f + 1) ⟨o :: r, opn, 0, 0⟩ = _
      rw [Pz.term, if_pos (by exact h2), pass_fine _ _ _ (by rw [h2]; decide), show (S.mk r opn 0 0).sees s_star = false from hst, if_neg (by simp)]
      rfl
  | tru mon name ad cap pos hm hn =>
    have hb : (Ex.mk 2 mon name 0 ad cap [] pos).bareT = [wordTk [116, 114, 117, 101]] := by rw [Ex.bareT_mk]; rfl
    refine bare_of_term rfl (fun L r opn hL => ?_) (by rw [hb]; simp) (fun L r opn f hst hL ho hf => ?_)
    · rw [hb] at hL
      obtain ⟨o, rfl, ho⟩ := one_tok hL
      exact name_not (not_bang (text_of2 ho) (by decide))
    · rw [hb] at hL
      obtain ⟨o, rfl, hok⟩ := one_tok hL
      simp only [List.length_cons, List.length_nil] at hf
      obtain ⟨f, rfl⟩ : ∃ g, f = g + 1 := ⟨f - 1, by omega⟩
      have ht := tok_of2 hok k_true rfl
      refine ⟨_, term_word f o r opn ht.1 (.inl ht.2), ?_⟩
      rw [show is o k_true = true from by rw [is_of ht.2]; decide, if_pos rfl]
      exact same_ex1 _ _ _ _ _ _ _ _ _ _ hm hn rfl
  | fls mon name ad cap pos hm hn =>
    have hb : (Ex.mk 3 mon name 0 ad cap [] pos).bareT = [wordTk [102, 97, 108, 115, 101]] := by rw [Ex.bareT_mk]; rfl
    refine bare_of_term rfl (fun L r opn hL => ?_) (by rw [hb]; simp) (fun L r opn f hst hL ho hf => ?_)
    · rw [hb] at hL
      obtain ⟨o, rfl, ho⟩ := one_tok hL
      exact name_not (not_bang (text_of2 ho) (by decide))
    · rw [hb] at hL
      obtain ⟨o, rfl, hok⟩ := one_tok hL
      simp only [List.length_cons, List.length_nil] at hf
      obtain ⟨f, rfl⟩ : ∃ g, f = g + 1 := ⟨f - 1, by omega⟩
      have ht := tok_of2 hok k_false rfl
      refine ⟨_, term_word f o r opn ht.1 (.inr ht.2), ?_⟩
      rw [show is o k_true = false from by rw [is_of ht.2]; decide, if_neg (by simp)]
      exact same_ex1 _ _ _ _ _ _ _ _ _ _ hm hn rfl
  | var mon name ad cap pos hm hn =>
    have hb : (Ex.mk 4 mon name 0 ad cap [] pos).bareT = [nameTk mon, signTk [46], nameTk name] := by rw [Ex.bareT_mk]; rfl
    refine bare_of_term rfl (fun L r opn hL => ?_) (by rw [hb]; simp) (fun L r opn f hst hL ho hf => ?_)
    · rw [hb] at hL
      obtain ⟨o, M, rfl, ho, hM⟩ := more_tok hL
      obtain ⟨c, t, hc, hne⟩ := name_first hm
      exact name_not (not_bang ((text_of2 ho).trans hc) hne)
    · rw [hb] at hL
      obtain ⟨a, M, rfl, ha, hM⟩ := more_tok hL
      obtain ⟨d, M, rfl, hd, hM⟩ := more_tok hM
      obtain ⟨x, rfl, hx⟩ := one_tok hM
      simp only [List.length_cons, List.length_nil] at hf
      obtain ⟨f, rfl⟩ : ∃ g, f = g + 1 := ⟨f - 1, by omega⟩
      have ha1 : a.kind = 1 := kind_of2 ha
      have hx1 : x.kind = 1 := kind_of2 hx
      have hd4 := tok_of2 hd s_dot rfl
      have hp : path ⟨a :: d :: x :: r, opn, 0, 0⟩ = ((a.text, x.text), ⟨r, opn, 0, 0⟩) := by
        unfold path
        rw [take_fine a _ opn 1 ha1 (by rw [ha1]; decide)]
        show ((a.text, (((S.mk (d :: x :: r) opn 0 0).want s_dot).take 1).1.text), (((S.mk (d :: x :: r) opn 0 0).want s_dot).take 1).2) = _
        rw [want_fine d _ opn s_dot (by rw [is_of hd4.2]; decide) (by rw [hd4.1]; decide), take_fine x _ opn 1 hx1 (by rw [hx1]; decide)]
      refine ⟨ex 4 a.text x.text 0 [] a.pos, ?_, same_var _ _ _ _ _ _ _ _ (ByteArray.ext (Array.toList_inj.1 (text_of2 ha))) (ByteArray.ext (Array.toList_inj.1 (text_of2 hx)))⟩
      show Pz.term (f + 1) ⟨a :: d :: x :: r, opn, 0, 0⟩ = _
      rw [Pz.term, if_neg (by show ¬ a.kind = 2; rw [ha1]; decide), if_pos (by exact ha1), hp]
      rfl
  | not mon name ad cap k pos hm hn hk ih =>
    have hb : (Ex.mk 5 mon name 0 ad cap [k] pos).bareT = signTk [33] :: k.toks 3 := by rw [Ex.bareT_mk]; rfl
    refine ⟨?_, fun h6 => absurd h6 (by show ¬ own 5 = 6; decide)⟩
    intro lv L r opn f h1 h2 hL ho hr hf
    have h2 : lv ≤ 3 := h2
    have hr : Acc 3 r := hr
    rw [nst_one] at ho
    have ho : opn + ((1 + k.nest 3 : Nat) : Int) ≤ 64 := ho
    rw [hb] at hL
    obtain ⟨o, M, rfl, hok, hM⟩ := more_tok hL
    have ht := tok_of2 hok s_bang rfl
    simp only [List.length_cons] at hf ⊢
    obtain ⟨f, rfl⟩ : ∃ g, f = g + 1 := ⟨f - 1, by omega⟩
    have hg := ownP_ge 3 (by omega) k.opOf
    obtain ⟨f', x, q1, q2, q3⟩ := at_reads ih 3 3 (by omega) (by omega) M r (opn + 1) f hM (by omega) ⟨hr.1.imp id (fun h => by omega), hr.2⟩ (by omega)
    rw [loop_end _ _ _ _ _ _ (bang_stop hr)] at q2
    refine ⟨f, ex 5 e0 e0 0 [x] o.pos, by omega, ?_, same_ex1 _ _ _ _ _ _ _ _ _ _ hm hn (by simp [all2, q3])⟩
    show exprAt (f + 1) lv ⟨o :: (M ++ r), opn, 0, 0⟩ = _
    rw [bang_expr f lv h2 _ _ _ ht]
    unfold prefixed within
    rw [enter_fine _ _ _ _ (by rw [is_of ht.2]; decide) (by rw [ht.1]; decide) (by omega), q2]
    show loop f lv _ 3 (S.mk r (opn + 1 - 1) 0 0) = loop f lv _ 3 _
    rw [show opn + 1 - 1 = opn by omega]
  | neg mon name ad cap k pos hm hn hk ih =>
    have hb : (Ex.mk 6 mon name 0 ad cap [k] pos).bareT = signTk [45] :: k.toks 6 := by rw [Ex.bareT_mk]; rfl
    refine bare_of_term rfl (fun L r opn hL => ?_) (by rw [hb]; simp) (fun L r opn f hst hL ho hf => ?_)
    · rw [hb] at hL
      obtain ⟨o, M, rfl, ho, hM⟩ := more_tok hL
      exact name_not (not_bang (text_of2 ho) (by decide))
    · rw [hb] at hL
      obtain ⟨o, M, rfl, hok, hM⟩ := more_tok hL
      have ht := tok_of2 hok s_minus rfl
      rw [nst_one] at ho
      have ho : opn + ((1 + k.nest 6 : Nat) : Int) ≤ 64 := ho
      simp only [List.length_cons] at hf
      obtain ⟨f, rfl⟩ : ∃ g, f = g + 1 := ⟨f - 1, by omega⟩
      obtain ⟨x, q2, q3⟩ := term_reads ih M r (opn + 1) f hst hM (by omega) (by omega)
      refine ⟨ex 6 e0 e0 0 [x] o.pos, ?_, same_ex1 _ _ _ _ _ _ _ _ _ _ hm hn (by simp [all2, q3])⟩
      show Pz.term (f + 1) ⟨o :: (M ++ r), opn, 0, 0⟩ = _
      rw [minus_term f _ _ _ ht]
      unfold prefixed within
      rw [enter_fine _ _ _ _ (by rw [is_of ht.2]; decide) (by rw [ht.1]; decide) (by omega), q2]
      show (_, S.mk r (opn + 1 - 1) 0 0) = _
      rw [show opn + 1 - 1 = opn by omega]
  | mul mon name n ad cap k pos hm hn h0 h1 hk ih =>
    have hb : (Ex.mk 7 mon name n ad cap [k] pos).bareT = numTk n :: signTk [42] :: k.toks 6 := by rw [Ex.bareT_mk]; rfl
    refine bare_of_term rfl (fun L r opn hL => ?_) (by rw [hb]; simp) (fun L r opn f hst hL ho hf => ?_)
    · rw [hb] at hL
      obtain ⟨o, M, rfl, ho, hM⟩ := more_tok hL
      obtain ⟨c, t, hc, hne⟩ := num_first n h0
      exact name_not (not_bang ((text_of2 ho).trans hc) hne)
    · rw [hb] at hL
      obtain ⟨q, M, rfl, hq, hM⟩ := more_tok hL
      obtain ⟨o, M, rfl, hok, hM⟩ := more_tok hM
      have ht := tok_of2 hok s_star rfl
      have hqk : q.kind = 2 := kind_of2 hq
      have hqn : q.n = n := n_of2 hq
      rw [nst_one] at ho
      have ho : opn + ((1 + k.nest 6 : Nat) : Int) ≤ 64 := ho
      simp only [List.length_cons] at hf
      obtain ⟨f, rfl⟩ : ∃ g, f = g + 1 := ⟨f - 1, by omega⟩
      obtain ⟨x, q2, q3⟩ := term_reads ih M r (opn + 1) f hst hM (by omega) (by omega)
      refine ⟨ex 7 e0 e0 q.n [x] q.pos, ?_, by rw [hqn]; exact same_ex1 _ _ _ _ _ _ _ _ _ _ hm hn (by simp [all2, q3])⟩
      show Pz.term (f + 1) ⟨q :: o :: (M ++ r), opn, 0, 0⟩ = _
      rw [mul_term f _ _ _ _ hqk ht]
      unfold prefixed within
      rw [enter_fine _ _ _ _ (by rw [is_of ht.2]; decide) (by rw [ht.1]; decide) (by omega), q2]
      show (_, S.mk r (opn + 1 - 1) 0 0) = _
      rw [show opn + 1 - 1 = opn by omega]
  | bin op h8 h17 mon name ad cap a b pos hm hn ha hb iha ihb =>
    refine ⟨?_, fun h6 => absurd (show own op = 6 from h6) (by have := own_bin op h8 h17; omega)⟩
    intro lv L r opn f h1 h2 hL ho hr hf
    have h2 : lv ≤ own op := h2
    have hr : Acc (own op) r := hr
    show ∃ f' x, f ≤ f' + 2 * L.length ∧ exprAt f lv ⟨L ++ r, opn, 0, 0⟩ = loop f' lv x (own op) ⟨r, opn, 0, 0⟩ ∧ _
    rw [nst_two] at ho
    rw [bareT_two op h8] at hL
    obtain ⟨L0, R0, rfl, hL0, hR0⟩ := List.map_eq_append_iff.1 hL
    obtain ⟨o, L1, rfl, hok, hL1⟩ := more_tok hR0
    obtain ⟨p1, p2, p3, p4, p5, p6, p7⟩ := bin_oper op h8 h17 o hok
    simp only [List.length_append, List.length_cons] at hf ⊢
    have hg0 := ownP_ge (sgnOf op).2.2.1 p5 a.opOf
    have hg1 := ownP_ge (sgnOf op).2.2.2 p6 b.opOf
    obtain ⟨f1, x0, q1, q2, q3⟩ := at_reads iha (sgnOf op).2.2.1 lv h1 (by omega) L0 (o :: (L1 ++ r)) opn f hL0 (by omega) ⟨.inr (by show (operOf o).own ≤ _; rw [p1]; show own op ≤ _; omega), p7⟩ (by omega)
    obtain ⟨g, rfl⟩ : ∃ g, f1 = g + 1 := ⟨f1 - 1, by omega⟩
    obtain ⟨f2, x1, r1, r2, r3⟩ := at_reads ihb (sgnOf op).2.2.2 (sgnOf op).2.2.2 (by omega) (Nat.le_refl _) L1 r opn g hL1 (by omega) ⟨hr.1.imp id (fun h => by omega), hr.2⟩ (by omega)
    rw [loop_end _ _ _ _ _ _ (hr.1.imp id (fun h => by omega))] at r2
    refine ⟨g, ex op e0 e0 0 [x0, x1] (exPos x0), by omega, ?_, same_ex1 _ _ _ _ _ _ _ _ _ _ hm hn (by simp [all2, q3, r3])⟩
    rw [List.append_assoc]
    show exprAt f lv ⟨L0 ++ (o :: (L1 ++ r)), opn, 0, 0⟩ = _
    have hp : (S.mk (o :: (L1 ++ r)) opn 0 0).pass = ⟨L1 ++ r, opn, 0, 0⟩ := pass_fine _ _ _ (by rw [p2]; decide)
    have hh : operOf (S.mk (o :: (L1 ++ r)) opn 0 0).hd = ⟨op, own op, (sgnOf op).2.2.1, (sgnOf op).2.2.2⟩ := p1
    rw [q2, loop, hh, if_neg (by show ¬ (op = 0 ∨ own op < lv ∨ _ < (sgnOf op).2.2.1); omega), hp]
    show loop g lv (ex op e0 e0 0 [x0, (exprAt g (sgnOf op).2.2.2 ⟨L1 ++ r, opn, 0, 0⟩).1] (exPos x0)) (own op) (exprAt g (sgnOf op).2.2.2 ⟨L1 ++ r, opn, 0, 0⟩).2 = _
    rw [r2]
/-- Too deep. -/
def D41 (s : S) : Prop := s.err = 41
theorem D41.keep {s s' : S} (h : D41 s) (k : Ek s s') : D41 s' := (k (by rw [h]; decide)).1.trans h
structure Deeps (e : Ex) : Prop where
  bare : ∀ (lv : Nat) (L r : List Out) (opn : Int) (f : Nat), 1 ≤ lv → lv ≤ own e.opOf → L.map ofOut = e.bareT → opn ≤ 64 → 64 < opn + e.nst → 2 * L.length ≤ f → D41 (exprAt f lv ⟨L ++ r, opn, 0, 0⟩).2
  term : own e.opOf = 6 → ∀ (L r : List Out) (opn : Int) (f : Nat), L.map ofOut = e.bareT → opn ≤ 64 → 64 < opn + e.nst → 2 * L.length ≤ f + 1 → D41 (term f ⟨L ++ r, opn, 0, 0⟩).2
theorem enter_d41 (o : Out) (l : List Out) (x : ByteArray) (hx : is o x = true) : D41 ((S.mk (o :: l) 64 0 0).enter x) := (enter_deep (S.mk (o :: l) 64 0 0) x hx rfl rfl).1
theorem par_deeps {e : Ex} (h : Deeps e) (lp rp : Out) (L r : List Out) (opn : Int) (f : Nat) (hl : Tok lp 4 s_lpar) (hL : L.map ofOut = e.bareT) (h64 : opn ≤ 64) (ho : 64 < opn + (1 + e.nst : Nat)) (hf : 2 * L.length ≤ f) : D41 (Pz.term (f + 1) ⟨lp :: (L ++ rp :: r), opn, 0, 0⟩).2 := by
  have hlp : is lp s_lpar = true := by rw [is_of hl.2]; decide
  rw [Pz.term, if_neg (by show ¬ lp.kind = 2; rw [hl.1]; decide), if_neg (by show ¬ lp.kind = 1; rw [hl.1]; decide), name_not (by rw [is_of hl.2]; decide), if_neg (by simp), show (S.mk (lp :: (L ++ rp :: r)) opn 0 0).sees s_lpar = true from hlp, if_pos rfl]
  unfold enclosed
  refine D41.keep ?_ (ek.want _ _)
  unfold within
  refine D41.keep ?_ (ek.less _)
  by_cases h4 : opn = 64
  · subst h4
    exact (enter_d41 _ _ _ hlp).keep ((ek.expr f).1 1 _)
  · rw [enter_fine _ _ _ _ hlp (by rw [hl.1]; decide) h4]
    exact h.bare 1 L (rp :: r) (opn + 1) f (Nat.le_refl _) (own_ge _) hL (by omega) (by omega) hf
theorem at_deeps {e : Ex} (h : Deeps e) (p lv : Nat) (h1 : 1 ≤ lv) (hlp : lv ≤ p) (L r : List Out) (opn : Int) (f : Nat) (hL : L.map ofOut = e.toks p) (h64 : opn ≤ 64) (ho : 64 < opn + e.nest p) (hf : 2 * L.length ≤ f) : D41 (exprAt f lv ⟨L ++ r, opn, 0, 0⟩).2 := by
  rcases at_split hL with ⟨hlt, lp, rp, M, rfl, hl, hrp, hM⟩ | ⟨hge, hB⟩
  · rw [nest_par hlt] at ho
    simp only [List.length_cons, List.length_append, List.length_nil] at hf
    obtain ⟨f, rfl⟩ : ∃ g, f = g + 2 := ⟨f - 2, by omega⟩
    have e1 : lp :: (M ++ [rp]) ++ r = lp :: (M ++ rp :: r) := by simp
    rw [e1, not_lt _ _ (lp_not_bang hl)]
    exact (par_deeps h lp rp M r opn f hl hM h64 ho (by omega)).keep ((ek.expr (f + 1)).2.1 _ _ _ _)
  · rw [nest_bare hge] at ho
    exact h.bare lv L r opn f h1 (by omega) hB h64 ho hf
theorem term_deeps {e : Ex} (h : Deeps e) (L r : List Out) (opn : Int) (f : Nat) (hL : L.map ofOut = e.toks 6) (h64 : opn ≤ 64) (ho : 64 < opn + e.nest 6) (hf : 2 * L.length ≤ f + 1) : D41 (Pz.term f ⟨L ++ r, opn, 0, 0⟩).2 := by
  rcases at_split hL with ⟨hlt, lp, rp, M, rfl, hl, hrp, hM⟩ | ⟨hge, hB⟩
  · rw [nest_par hlt] at ho
    simp only [List.length_cons, List.length_append, List.length_nil] at hf
    obtain ⟨f, rfl⟩ : ∃ g, f = g + 1 := ⟨f - 1, by omega⟩
    have e1 : lp :: (M ++ [rp]) ++ r = lp :: (M ++ rp :: r) := by simp
    rw [e1]
    exact par_deeps h lp rp M r opn f hl hM h64 ho (by omega)
  · rw [nest_bare hge] at ho
    exact h.term (by have := own_le e.opOf; omega) L r opn f hB h64 ho hf
theorem leaf_deeps {e : Ex} (h : e.nst = 0) : Deeps e := ⟨fun _ _ _ _ _ _ _ _ h1 h2 => by omega, fun _ _ _ _ _ _ h1 h2 => by omega⟩
theorem deeps_of_term {e : Ex} (hb : ∀ (L r : List Out) (opn : Int), L.map ofOut = e.bareT → (S.mk (L ++ r) opn 0 0).sees s_bang = false) (hne : e.bareT ≠ [])
    (ht : ∀ (L r : List Out) (opn : Int) (f : Nat), L.map ofOut = e.bareT → opn ≤ 64 → 64 < opn + e.nst → 2 * L.length ≤ f + 1 → D41 (Pz.term f ⟨L ++ r, opn, 0, 0⟩).2) : Deeps e where
  term := fun _ => ht
  bare := by
    intro lv L r opn f h1 h2 hL h64 ho hf
    have hLn : 0 < L.length := by
      rcases L with _ | ⟨a, L⟩
      · exact absurd hL.symm hne
      · simp
    obtain ⟨f, rfl⟩ : ∃ g, f = g + 1 := ⟨f - 1, by omega⟩
    rw [not_lt _ _ (hb L r opn hL)]
    exact (ht L r opn f hL h64 ho (by omega)).keep ((ek.expr f).2.1 _ _ _ _)
theorem deeps_any {e : Ex} (h : Shp e) : Deeps e := by
  induction h with
  | num => exact leaf_deeps (by rw [Ex.nst_mk]; rfl)
  | tru => exact leaf_deeps (by rw [Ex.nst_mk]; rfl)
  | fls => exact leaf_deeps (by rw [Ex.nst_mk]; rfl)
  | var => exact leaf_deeps (by rw [Ex.nst_mk]; rfl)
  | not mon name ad cap k pos hm hn hk ih =>
    have hb : (Ex.mk 5 mon name 0 ad cap [k] pos).bareT = signTk [33] :: k.toks 3 := by rw [Ex.bareT_mk]; rfl
    refine ⟨?_, fun h6 => absurd h6 (by show ¬ own 5 = 6; decide)⟩
    intro lv L r opn f h1 h2 hL h64 ho hf
    have h2 : lv ≤ 3 := h2
    rw [nst_one] at ho
    have ho : 64 < opn + ((1 + k.nest 3 : Nat) : Int) := ho
    rw [hb] at hL
    obtain ⟨o, M, rfl, hok, hM⟩ := more_tok hL
    have ht := tok_of2 hok s_bang rfl
    have hx : is o s_bang = true := by rw [is_of ht.2]; decide
    simp only [List.length_cons] at hf
    obtain ⟨f, rfl⟩ : ∃ g, f = g + 1 := ⟨f - 1, by omega⟩
    show D41 (exprAt (f + 1) lv ⟨o :: (M ++ r), opn, 0, 0⟩).2
    rw [bang_expr f lv h2 _ _ _ ht]
    refine D41.keep ?_ ((ek.expr f).2.1 _ _ _ _)
    unfold prefixed within
    refine D41.keep ?_ (ek.less _)
    by_cases h4 : opn = 64
    · subst h4
      exact (enter_d41 _ _ _ hx).keep ((ek.expr f).1 3 _)
    · rw [enter_fine _ _ _ _ hx (by rw [ht.1]; decide) h4]
      exact at_deeps ih 3 3 (by omega) (by omega) M r (opn + 1) f hM (by omega) (by omega) (by omega)
  | neg mon name ad cap k pos hm hn hk ih =>
    have hb : (Ex.mk 6 mon name 0 ad cap [k] pos).bareT = signTk [45] :: k.toks 6 := by rw [Ex.bareT_mk]; rfl
    refine deeps_of_term (fun L r opn hL => ?_) (by rw [hb]; simp) (fun L r opn f hL h64 ho hf => ?_)
    · rw [hb] at hL
      obtain ⟨o, M, rfl, ho, hM⟩ := more_tok hL
      exact name_not (not_bang (text_of2 ho) (by decide))
    · rw [hb] at hL
      obtain ⟨o, M, rfl, hok, hM⟩ := more_tok hL
      have ht := tok_of2 hok s_minus rfl
      have hx : is o s_minus = true := by rw [is_of ht.2]; decide
      rw [nst_one] at ho
      have ho : 64 < opn + ((1 + k.nest 6 : Nat) : Int) := ho
      simp only [List.length_cons] at hf
      obtain ⟨f, rfl⟩ : ∃ g, f = g + 1 := ⟨f - 1, by omega⟩
      show D41 (Pz.term (f + 1) ⟨o :: (M ++ r), opn, 0, 0⟩).2
      rw [minus_term f _ _ _ ht]
      unfold prefixed within
      refine D41.keep ?_ (ek.less _)
      by_cases h4 : opn = 64
      · subst h4
        exact (enter_d41 _ _ _ hx).keep ((ek.expr f).2.2 _)
      · rw [enter_fine _ _ _ _ hx (by rw [ht.1]; decide) h4]
        exact term_deeps ih M r (opn + 1) f hM (by omega) (by omega) (by omega)
  | mul mon name n ad cap k pos hm hn h0 h1 hk ih =>
    have hb : (Ex.mk 7 mon name n ad cap [k] pos).bareT = numTk n :: signTk [42] :: k.toks 6 := by rw [Ex.bareT_mk]; rfl
    refine deeps_of_term (fun L r opn hL => ?_) (by rw [hb]; simp) (fun L r opn f hL h64 ho hf => ?_)
    · rw [hb] at hL
      obtain ⟨o, M, rfl, ho, hM⟩ := more_tok hL
      obtain ⟨c, t, hc, hne⟩ := num_first n h0
      exact name_not (not_bang ((text_of2 ho).trans hc) hne)
    · rw [hb] at hL
      obtain ⟨q, M, rfl, hq, hM⟩ := more_tok hL
      obtain ⟨o, M, rfl, hok, hM⟩ := more_tok hM
      have ht := tok_of2 hok s_star rfl
      have hx : is o s_star = true := by rw [is_of ht.2]; decide
      rw [nst_one] at ho
      have ho : 64 < opn + ((1 + k.nest 6 : Nat) : Int) := ho
      simp only [List.length_cons] at hf
      obtain ⟨f, rfl⟩ : ∃ g, f = g + 1 := ⟨f - 1, by omega⟩
      show D41 (Pz.term (f + 1) ⟨q :: o :: (M ++ r), opn, 0, 0⟩).2
      rw [mul_term f _ _ _ _ (kind_of2 hq) ht]
      unfold prefixed within
      refine D41.keep ?_ (ek.less _)
      by_cases h4 : opn = 64
      · subst h4
        exact (enter_d41 _ _ _ hx).keep ((ek.expr f).2.2 _)
      · rw [enter_fine _ _ _ _ hx (by rw [ht.1]; decide) h4]
        exact term_deeps ih M r (opn + 1) f hM (by omega) (by omega) (by omega)
  | bin op h8 h17 mon name ad cap a b pos hm hn ha hb iha ihb =>
    refine ⟨?_, fun h6 => absurd (show own op = 6 from h6) (by have := own_bin op h8 h17; omega)⟩
    intro lv L r opn f h1 h2 hL h64 ho hf
    have h2 : lv ≤ own op := h2
    rw [nst_two] at ho
    rw [bareT_two op h8] at hL
    obtain ⟨L0, R0, rfl, hL0, hR0⟩ := List.map_eq_append_iff.1 hL
    obtain ⟨o, L1, rfl, hok, hL1⟩ := more_tok hR0
    obtain ⟨p1, p2, p3, p4, p5, p6, p7⟩ := bin_oper op h8 h17 o hok
    simp only [List.length_append, List.length_cons] at hf
    rw [List.append_assoc]
    show D41 (exprAt f lv ⟨L0 ++ (o :: (L1 ++ r)), opn, 0, 0⟩).2
    by_cases hd : 64 < opn + a.nest (sgnOf op).2.2.1
    · exact at_deeps iha (sgnOf op).2.2.1 lv h1 (by omega) L0 (o :: (L1 ++ r)) opn f hL0 h64 hd (by omega)
    · have hg0 := ownP_ge (sgnOf op).2.2.1 p5 a.opOf
      obtain ⟨f1, x0, q1, q2, q3⟩ := at_reads (reads_any ha) (sgnOf op).2.2.1 lv h1 (by omega) L0 (o :: (L1 ++ r)) opn f hL0 (by omega) ⟨.inr (by show (operOf o).own ≤ _; rw [p1]; show own op ≤ _; omega), p7⟩ (by omega)
      obtain ⟨g, rfl⟩ : ∃ g, f1 = g + 1 := ⟨f1 - 1, by omega⟩
      have hp : (S.mk (o :: (L1 ++ r)) opn 0 0).pass = ⟨L1 ++ r, opn, 0, 0⟩ := pass_fine _ _ _ (by rw [p2]; decide)
      have hh : operOf (S.mk (o :: (L1 ++ r)) opn 0 0).hd = ⟨op, own op, (sgnOf op).2.2.1, (sgnOf op).2.2.2⟩ := p1
      rw [q2, loop, hh, if_neg (by show ¬ (op = 0 ∨ own op < lv ∨ _ < (sgnOf op).2.2.1); omega), hp]
      refine D41.keep ?_ ((ek.expr g).2.1 _ _ _ _)
      exact at_deeps ihb (sgnOf op).2.2.2 (sgnOf op).2.2.2 (by omega) (Nat.le_refl _) L1 r opn g hL1 h64 (by omega) (by omega)
end Pz
end Go.Proofs.YtaekbgljbgmchaaGreatDoor
namespace Go.Proofs.YtaekbgljbgmchaaGreatDoor
open Go.RowKit
open Lx (Out)
open Pz
open Lx (ofOut scan_list outs_inc endTok scan outs errOf atOf joinB Chain)
namespace Pz
theorem tw_of {PP : Int → Int → Prop} {o o' : Out} (h : ofOut o' = ofOut o) (hp : PP o.pos o'.pos) : Tw PP o o' := by
  unfold ofOut at h
  injection h with h1 h2 h3 h4
  exact ⟨h1, ByteArray.ext (Array.toList_inj.1 h2), h3, hp⟩
theorem two_of {PP : Int → Int → Prop} (z z' : Out) (hz : ofOut z' = ofOut z) (h5 : z.kind = 5) : ∀ (A A' : List Out), A'.map ofOut = A.map ofOut → (∀ (i : Nat) (h : i < (A ++ [z]).length) (h' : i < (A' ++ [z']).length), PP (A ++ [z])[i].pos (A' ++ [z'])[i].pos) → Two PP (A ++ [z]) (A' ++ [z'])
  | [], [], _, hp => .one (tw_of hz (hp 0 (by simp) (by simp))) h5
  | [], _ :: _, h, _ => by simp at h
  | _ :: _, [], h, _ => by simp at h
  | a :: A, a' :: A', h, hp => by
    simp only [List.map_cons, List.cons.injEq] at h
    exact .cons (tw_of h.1 (hp 0 (by simp) (by simp))) (two_of z z' hz h5 A A' h.2 fun i hi hi' => by have := hp (i + 1) (by simpa using hi) (by simpa using hi'); simpa using this)
/-- Two places are those of the same token. -/
def PosAt (L L' : List Out) (a b : Int) : Prop := ∃ i, ∃ (h : i < L.length) (h' : i < L'.length), (L[i].pos : Int) = a ∧ (L'[i].pos : Int) = b
theorem whole2 {PP : Int → Int → Prop} {x x' : Pr × S} (h : x.1.same x'.1 = true) (k : Rl PP x.2 x'.2) : (wholeOfP x').2.1 = (wholeOfP x).2.1 ∧ (wholeOfP x).1.same (wholeOfP x').1 = true ∧ ((wholeOfP x).2.1 ≠ 0 → PP (wholeOfP x).2.2 (wholeOfP x').2.2) := by
  have ke := k.atEnd
  unfold wholeOfP
  rw [ke.err]
  by_cases h0 : (atEnd x.2).err = 0
  · rw [if_pos h0, if_pos h0]; exact ⟨rfl, h, fun h => absurd rfl h⟩
  · rw [if_neg h0, if_neg h0]; exact ⟨rfl, rfl, fun _ => ke.pos h0⟩
theorem chain_sum (s : ByteArray) : ∀ (l : List Out) (k : Nat), Chain s k l → k ≤ s.size → (l.map fun o => o.text.size).sum + k ≤ s.size ∧ l.length ≤ (l.map fun o => o.text.size).sum := by
  intro l
  induction l with
  | nil => intro k _ hk; simp; exact hk
  | cons o r ih =>
    intro k h hk
    obtain ⟨h1, h2, h3, h4, h5⟩ := h
    have hk2 : k ≤ o.pos := by rw [h1]; exact Lx.le_skip s k
    have hz : 1 ≤ o.text.size ∧ o.pos + o.text.size ≤ s.size := by rw [h4]; have := Lx.tok_ok s _ h2 (by rw [← h4]; exact h3); rw [← h4] at this ⊢; exact this
    obtain ⟨i1, i2⟩ := ih _ h5 hz.2
    simp only [List.map_cons, List.sum_cons, List.length_cons]
    omega
theorem flat_len (l : List Out) : (l.flatMap fun x => x.text.data.toList ++ [32]).length = (l.map fun o => o.text.size).sum + l.length := by
  induction l with
  | nil => rfl
  | cons a l ih =>
    simp only [List.flatMap_cons, List.length_append, ih, List.map_cons, List.sum_cons, List.length_cons, List.length_nil]
    have : a.text.data.toList.length = a.text.size := by rw [Array.length_toList]; rfl
    omega
theorem join_size (s : ByteArray) (l : List Out) (h : scan s = .done l) : (joinB ((l ++ [endTok s]).map fun o => o.text)).length ≤ 2 * s.size ∧ l.length ≤ s.size := by
  obtain ⟨r, h1, h2⟩ := Lx.scanF_chain s s.size 0 [] l (by omega) h
  rw [List.nil_append] at h1
  subst h1
  obtain ⟨i1, i2⟩ := chain_sum s l 0 h2 (by omega)
  have e1 : ((l ++ [endTok s]).map fun o => o.text) = (l.map fun o => o.text) ++ [⟨#[]⟩] := by simp [endTok]
  rw [e1, Lx.join_flat, List.flatMap_map, flat_len]
  omega
theorem reader_done {s : ByteArray} {l : List Out} (h : scan s = .done l) : reader s = ⟨l ++ [endTok s], 0, 0, 0⟩ := by
  obtain ⟨h1, h2, -⟩ := Lx.of_done s l h
  unfold reader
  rw [h2, if_pos rfl, h1]
/-- The text that Join makes of a text's tokens. -/
def joined (s : ByteArray) : ByteArray := ⟨(joinB ((outs s).map fun o => o.text)).toArray⟩
theorem tokens_alike (s : ByteArray) (l : List Out) (h : scan s = .done l) : errOf (joined s) = 0 ∧ (outs (joined s)).length = (outs s).length ∧ (wholeOfP (program (reader (joined s)))).2.1 = (wholeOfP (program (reader s))).2.1 ∧ (wholeOfP (program (reader s))).1.same (wholeOfP (program (reader (joined s)))).1 = true ∧ ((wholeOfP (program (reader s))).2.1 ≠ 0 → PosAt (outs s) (outs (joined s)) (wholeOfP (program (reader s))).2.2 (wholeOfP (program (reader (joined s)))).2.2) := by
  obtain ⟨l', h1, h2⟩ := Lx.again_outs s l h
  obtain ⟨r1, r2, r3⟩ := Lx.of_done s l h
  have hJ : joined s = ⟨(joinB ((l ++ [endTok s]).map fun o => o.text)).toArray⟩ := by unfold joined; rw [r1]
  rw [← hJ] at h1
  obtain ⟨q1, q2, q3⟩ := Lx.of_done _ l' h1
  have hlen : l'.length = l.length := by have := congrArg List.length h2; simpa using this
  have hR : Rl (PosAt (outs s) (outs (joined s))) (reader s) (reader (joined s)) := by
    rw [reader_done h, reader_done h1]
    refine ⟨two_of (endTok s) (endTok (joined s)) rfl rfl l l' h2 fun i hi hi' => ?_, rfl, rfl, fun h => absurd rfl h⟩
    refine ⟨i, by rw [r1]; exact hi, by rw [q1]; exact hi', ?_, ?_⟩
    · simp only [r1]
    · simp only [q1]
  have hP := program2 _ _ hR
  refine ⟨q2, by rw [q1, r1]; simp [hlen], ?_⟩
  exact whole2 hP.1 hP.2
/-- The place of a text's token tells which it is. -/
theorem pos_inj (s : ByteArray) (l : List Out) (h : scan s = .done l) (i j : Nat) (hi : i < (outs s).length) (hj : j < (outs s).length) (hlt : i < j) : (outs s)[i].pos ≠ (outs s)[j].pos := by
  have hp := outs_inc s l h
  rw [← (Lx.of_done s l h).1] at hp
  have := List.pairwise_iff_getElem.1 hp i j hi hj hlt
  omega
theorem parse_fails (s : ByteArray) (h : errOf s ≠ 0) : (wholeOfP (program (reader s))).2.1 = errOf s := by
  have hr : (reader s).err = errOf s := by unfold reader; rw [if_neg h]
  have he := ek.trans (ek.progF (fuel (reader s)) (reader s).rest.length [] [] (reader s)) (ek_atEnd _) (by rw [hr]; exact h)
  have he1 : (atEnd (program (reader s)).2).err = errOf s := he.1.trans hr
  unfold wholeOfP
  rw [if_neg (by rw [he1]; exact h)]
  exact he1
end Pz
theorem all2_map {α : Type} (f : α → α → Bool) (g : α → α) : ∀ (xs ys : List α), (∀ x ∈ xs, ∀ y, f (g x) (g y) = f x y) → all2 f (xs.map g) (ys.map g) = all2 f xs ys
  | [], [], _ => rfl
  | [], _ :: _, _ => rfl
  | _ :: _, [], _ => rfl
  | x :: xs, y :: ys, h => by
    simp only [List.map_cons, all2]
    rw [h x (by simp) y, all2_map f g xs ys fun a ha => h a (List.mem_cons_of_mem _ ha)]
theorem Ex.same_clr : ∀ (a b : Ex), a.clr.same b.clr = a.same b := by
  intro a
  induction a using Ex.ind with
  | h op mon name n ad cap kids pos ih =>
    intro b
    rcases b with ⟨op', mon', name', n', ad', cap', kids', pos'⟩
    rw [Ex.clr, Ex.clr]
    simp only [Ex.same, Ex.sameL_eq, Ex.clrL_eq]
    rw [all2_map Ex.same Ex.clr kids kids' ih]
theorem Bl.same_clr : ∀ (a b : Bl), a.clr.same b.clr = a.same b :=
  Bl.ind (P := fun s => ∀ t : St, s.clr.same t.clr = s.same t) (Q := fun b => ∀ c : Bl, b.clr.same c.clr = b.same c)
    (fun kind mon name n e ad cap blocks pos ih t => by
      rcases t with ⟨kind', mon', name', n', e', ad', cap', blocks', pos'⟩
      rw [St.clr, St.clr]
      simp only [St.same, Bl.sameL_eq, Bl.clrL_eq, Ex.same_clr]
      rw [all2_map Bl.same Bl.clr blocks blocks' ih])
    (fun ad cap body ih c => by
      rcases c with ⟨ad', cap', body'⟩
      rw [Bl.clr, Bl.clr]
      simp only [Bl.same, St.sameL_eq, St.clrL_eq]
      exact all2_map St.same St.clr body body' ih)
theorem Me.same_clr (a b : Me) : a.clr.same b.clr = a.same b := by unfold Me.same Me.clr; simp only [Bl.same_clr]
theorem Ro.same_clr (a b : Ro) : a.clr.same b.clr = a.same b := by unfold Ro.same Ro.clr; simp only [Bl.same_clr]
theorem Mo.same_clr (a b : Mo) : a.clr.same b.clr = a.same b := by
  unfold Mo.same Mo.clr
  simp only
  rw [all2_map Va.same Va.clr _ _ fun _ _ _ => rfl, all2_map Me.same Me.clr _ _ fun x _ y => Me.same_clr x y]
theorem Pr.same_clr (a b : Pr) : a.clr.same b.clr = a.same b := by
  unfold Pr.same Pr.clr
  simp only
  rw [all2_map Mo.same Mo.clr _ _ fun x _ y => Mo.same_clr x y, all2_map Ro.same Ro.clr _ _ fun x _ y => Ro.same_clr x y]
end Go.Proofs.YtaekbgljbgmchaaGreatDoor
namespace Go.Proofs.YtaekbgljbgmchaaGreatDoor
open Go.ChangeShapes Go.WideShapes Go.ChangeAt Go.RowKit Go.Deep Go.Joins
theorem own : ownKnob Tryz.prog.godebug = none := by kernel_rfl
theorem laidOut : laidOutB Tryz.prog = true := by kernel_rfl
theorem gER : Tryz.prog.globalNamed "strconv.ErrRange" = some 5 := by kernel_rfl
theorem gERType : (Tryz.prog.globals[5]?).map (·.type) = some 117 := by kernel_rfl
theorem starE : "*" ++ "errors.errorString" = "*errors.errorString" := by decide
theorem rowErr (u : TypeId) (h : Tryz.prog.typeName? 3 u = some "*errors.errorString") : u = 244 :=
  typeName_ptr_named (nm := "errors.errorString") (by rw [starE]; kernel_rfl) (by kernel_rfl) (by decide) u (by rw [starE]; exact h)
theorem cellsE : Tryz.prog.cellsOf 246 = 1 := by kernel_rfl
theorem cellsS : Tryz.prog.cellsOf 9 = 1 := by kernel_rfl
theorem lt_of_cell {w : World} {b o : Nat} {v : Value} (h : w.cell? ⟨b, o, none⟩ = some v) : b < w.heap.size := by
  rcases Nat.lt_or_ge b w.heap.size with h1 | h1
  · exact h1
  · exfalso
    have h2 : w.heap[b]? = none := by rw [Array.getElem?_eq_none_iff]; exact h1
    simp [World.cell?, h2] at h
theorem hasErr_of {W : World} (h : laidMet Tryz.prog Rows.parseDeepRow.laid W) : HasErr W := by
  obtain ⟨a, s, hv, -, -, -⟩ := laid_sentinel h.tail.tail.tail gER gERType Tryz.underlying117 rowErr Tryz.underlying244 Tryz.underlying246 rfl rfl Tryz.underlying9 cellsE cellsS
  have h0 := World.var?_cell gER hv 0
  have h1 : W.cell? ⟨5, 0, none⟩ = some (.iface 244 (.pointer (some a))) := by simpa using h0
  exact ⟨_, _, h1, lt_of_cell h1⟩
/-- The table of operators, row for row. -/
def opRows : List (List UInt8 × Int × Int × Int × Int) := [([124, 124], 17, 1, 1, 2), ([38, 38], 16, 2, 2, 3), ([61, 61], 10, 4, 5, 5), ([33, 61], 11, 4, 5, 5), ([60], 12, 4, 5, 5), ([60, 61], 13, 4, 5, 5), ([62], 14, 4, 5, 5), ([62, 61], 15, 4, 5, 5), ([43], 8, 5, 5, 6), ([45], 9, 5, 5, 6)]
theorem ops_at (k : Nat) (hk : k < 10) (l : List (DataW Unit)) (h : (Rows.laid_vigil_parse_operators : DataW Unit) = .agg l) : ∃ x0 x1 x2 x3 x4, opRows[k]? = some (x0, x1, x2, x3, x4) ∧ l[k]? = some (.agg [.lit (.string x0), .lit (.int .i64 x1), .lit (.int .i64 x2), .lit (.int .i64 x3), .lit (.int .i64 x4)]) := by
  have h' := h
  unfold Rows.laid_vigil_parse_operators at h'
  injection h' with h'
  subst h'
  have hc : k = 0 ∨ k = 1 ∨ k = 2 ∨ k = 3 ∨ k = 4 ∨ k = 5 ∨ k = 6 ∨ k = 7 ∨ k = 8 ∨ k = 9 := by omega
  rcases hc with rfl | rfl | rfl | rfl | rfl | rfl | rfl | rfl | rfl | rfl <;> exact ⟨_, _, _, _, _, rfl, rfl⟩
set_option maxRecDepth 100000 in
theorem ops_cells {W : World} {cs : Array Value} {fuel : Nat} {p : List MemPlace} (hv : W.var? Tryz.prog "vigil/parse.operators" = some cs) (hd : DataW.trod (fun _ => ()) Tryz.prog W 0 (fun _ => true) false fuel 193 cs.toList = some (Rows.laid_vigil_parse_operators, p)) (k : Nat) (hk : k < 10) :
    ∃ x0 x1 x2 x3 x4, opRows[k]? = some (x0, x1, x2, x3, x4) ∧ W.cell? ⟨2, k * 5, none⟩ = some (.string ⟨x0.toArray⟩) ∧ W.cell? ⟨2, k * 5 + 1, none⟩ = some (.int .i64 x1) ∧ W.cell? ⟨2, k * 5 + 2, none⟩ = some (.int .i64 x2) ∧ W.cell? ⟨2, k * 5 + 3, none⟩ = some (.int .i64 x3) ∧ W.cell? ⟨2, k * 5 + 4, none⟩ = some (.int .i64 x4) := by
  obtain ⟨xs, m, rfl, hx, hlen, hxl, hE⟩ := DataW.trod_array Tryz.underlying193 hd
  have hx1 : (Rows.laid_vigil_parse_operators : DataW Unit) = .agg (xs.map (·.1)) := congrArg Prod.fst hx
  obtain ⟨x0, x1, x2, x3, x4, hrow, hat⟩ := ops_at k hk _ hx1
  refine ⟨x0, x1, x2, x3, x4, hrow, ?_⟩
  have hE := hE k hk
  rw [show Tryz.prog.cellsOf 162 = 5 from by kernel_rfl] at hE
  obtain ⟨y, hy⟩ : ∃ y, xs[k]? = some y := ⟨xs[k], List.getElem?_eq_getElem (by omega)⟩
  rw [hy] at hE
  have hy1 : y.1 = .agg [.lit (.string x0), .lit (.int .i64 x1), .lit (.int .i64 x2), .lit (.int .i64 x3), .lit (.int .i64 x4)] := by
    rw [List.getElem?_map, hy] at hat
    simpa using hat
  obtain ⟨zs, m2, _, rfl, hl2, hzl, hf⟩ := DataW.trod_struct Tryz.underlying162 hE
  rw [show Tryz.prog.cellsOf 162 = 5 from by kernel_rfl] at hl2
  have hzl : zs.length = 5 := hzl
  have hz1 : zs.map (·.1) = [.lit (.string x0), .lit (.int .i64 x1), .lit (.int .i64 x2), .lit (.int .i64 x3), .lit (.int .i64 x4)] := by simpa using hy1
  have gc : ∀ i, i < 5 → W.cell? ⟨2, k * 5 + i, none⟩ = ((cs.toList.drop (k * 5)).take 5)[i]? := by
    intro i hi
    rw [World.var?_cell (g := 2) (by kernel_rfl) hv, List.getElem?_take, if_pos hi, List.getElem?_drop, Array.getElem?_toList]
  generalize (cs.toList.drop (k * 5)).take 5 = seg at hl2 hf gc
  obtain ⟨s0, s1, s2, s3, s4, rfl⟩ : ∃ s0 s1 s2 s3 s4, seg = [s0, s1, s2, s3, s4] := by
    match seg, hl2 with
    | [s0, s1, s2, s3, s4], _ => exact ⟨s0, s1, s2, s3, s4, rfl⟩
  obtain ⟨z0, z1, z2, z3, z4, rfl⟩ : ∃ z0 z1 z2 z3 z4, zs = [z0, z1, z2, z3, z4] := by
    match zs, hzl with
    | [z0, z1, z2, z3, z4], _ => exact ⟨z0, z1, z2, z3, z4, rfl⟩
  simp only [List.map_cons, List.map_nil, List.cons.injEq, and_true] at hz1
  obtain ⟨e0, e1, e2, e3, e4⟩ := hz1
  have g0 : DataW.trod (fun _ => ()) Tryz.prog W 0 (fun _ => true) false m2 9 [s0] = some z0 := by
    have q : DataW.trod (fun _ => ()) Tryz.prog W 0 (fun _ => true) false m2 9 (([s0, s1, s2, s3, s4].drop 0).take (Tryz.prog.cellsOf 9)) = some z0 := hf 0 _ rfl
    rw [show Tryz.prog.cellsOf 9 = 1 from by kernel_rfl] at q
    exact q
  have g1 : DataW.trod (fun _ => ()) Tryz.prog W 0 (fun _ => true) false m2 3 [s1] = some z1 := by
    have q : DataW.trod (fun _ => ()) Tryz.prog W 0 (fun _ => true) false m2 3 (([s0, s1, s2, s3, s4].drop 1).take (Tryz.prog.cellsOf 3)) = some z1 := hf 1 _ rfl
    rw [show Tryz.prog.cellsOf 3 = 1 from by kernel_rfl] at q
    exact q
  have g2 : DataW.trod (fun _ => ()) Tryz.prog W 0 (fun _ => true) false m2 3 [s2] = some z2 := by
    have q : DataW.trod (fun _ => ()) Tryz.prog W 0 (fun _ => true) false m2 3 (([s0, s1, s2, s3, s4].drop 2).take (Tryz.prog.cellsOf 3)) = some z2 := hf 2 _ rfl
    rw [show Tryz.prog.cellsOf 3 = 1 from by kernel_rfl] at q
    exact q
  have g3 : DataW.trod (fun _ => ()) Tryz.prog W 0 (fun _ => true) false m2 3 [s3] = some z3 := by
    have q : DataW.trod (fun _ => ()) Tryz.prog W 0 (fun _ => true) false m2 3 (([s0, s1, s2, s3, s4].drop 3).take (Tryz.prog.cellsOf 3)) = some z3 := hf 3 _ rfl
    rw [show Tryz.prog.cellsOf 3 = 1 from by kernel_rfl] at q
    exact q
  have g4 : DataW.trod (fun _ => ()) Tryz.prog W 0 (fun _ => true) false m2 3 [s4] = some z4 := by
    have q : DataW.trod (fun _ => ()) Tryz.prog W 0 (fun _ => true) false m2 3 (([s0, s1, s2, s3, s4].drop 4).take (Tryz.prog.cellsOf 3)) = some z4 := hf 4 _ rfl
    rw [show Tryz.prog.cellsOf 3 = 1 from by kernel_rfl] at q
    exact q
  obtain ⟨b0, q0, r0, _⟩ := DataW.trod_string Tryz.underlying9 g0
  rw [r0] at e0
  simp at q0 e0
  subst q0
  have e0' : b0 = ⟨x0.toArray⟩ := ByteArray.ext (by rw [← e0])
  subst e0'
  obtain ⟨b1, q1, r1, _⟩ := DataW.trod_int Tryz.underlying3 g1
  rw [r1] at e1
  simp at q1 e1
  subst q1 e1
  obtain ⟨b2, q2, r2, _⟩ := DataW.trod_int Tryz.underlying3 g2
  rw [r2] at e2
  simp at q2 e2
  subst q2 e2
  obtain ⟨b3, q3, r3, _⟩ := DataW.trod_int Tryz.underlying3 g3
  rw [r3] at e3
  simp at q3 e3
  subst q3 e3
  obtain ⟨b4, q4, r4, _⟩ := DataW.trod_int Tryz.underlying3 g4
  rw [r4] at e4
  simp at q4 e4
  subst q4 e4
  exact ⟨gc 0 (by omega), gc 1 (by omega), gc 2 (by omega), gc 3 (by omega), gc 4 (by omega)⟩
theorem opers_of {W : World} (h : laidMet Tryz.prog Rows.parseDeepRow.laid W) : Opers W := by
  have h5 : laidMet Tryz.prog (Rows.parseDeepRow.laid.drop 5) W := h.tail.tail.tail.tail.tail
  obtain ⟨ps, ⟨g, t, cs, fuel, p, q, hg, ht, hv, hd, _, _⟩, _⟩ := h5
  obtain rfl : g = 2 := Option.some.inj (hg.symm.trans (show Tryz.prog.globalNamed "vigil/parse.operators" = some 2 by kernel_rfl))
  obtain rfl : t = 193 := Option.some.inj (ht.symm.trans (show (Tryz.prog.globals[2]?).map (·.type) = some 193 by kernel_rfl))
  have H := ops_cells hv hd
  refine ⟨fun i hi => ?_, ?_⟩
  · obtain ⟨k, j, hk, hj, rfl⟩ : ∃ k j, k < 10 ∧ j < 5 ∧ i = k * 5 + j := ⟨i / 5, i % 5, by omega, by omega, by omega⟩
    obtain ⟨x0, x1, x2, x3, x4, hr, h0, h1, h2, h3, h4⟩ := H k hk
    have hc : k = 0 ∨ k = 1 ∨ k = 2 ∨ k = 3 ∨ k = 4 ∨ k = 5 ∨ k = 6 ∨ k = 7 ∨ k = 8 ∨ k = 9 := by omega
    have hcj : j = 0 ∨ j = 1 ∨ j = 2 ∨ j = 3 ∨ j = 4 := by omega
    rcases hc with rfl | rfl | rfl | rfl | rfl | rfl | rfl | rfl | rfl | rfl <;> (cases hr; rcases hcj with rfl | rfl | rfl | rfl | rfl <;> first | exact h0 | exact h1 | exact h2 | exact h3 | exact h4)
  · obtain ⟨x0, x1, x2, x3, x4, hr, h0, -⟩ := H 0 (by omega)
    exact lt_of_cell h0
def setCells (c : Array Value) : Obj → Obj
  | .cells _ t frozen => .cells c t frozen
  | o => o
/-- So many blocks has the settled world. -/
noncomputable def low : Nat := (World.holding Tryz.prog default ⟨#[], #[], []⟩).heap.size
/-- The settled world with two blocks more, each an errors.errorString; the six variables as their initialisers lay them. -/
noncomputable def laidWorld (os : Os) : World :=
  let w0 := World.holding Tryz.prog os ⟨#[.cells #[.string ⟨#[105, 110, 118, 97, 108, 105, 100, 32, 115, 121, 110, 116, 97, 120]⟩] 246, .cells #[.string ⟨#[118, 97, 108, 117, 101, 32, 111, 117, 116, 32, 111, 102, 32, 114, 97, 110, 103, 101]⟩] 246], #[], []⟩
  { w0 with heap := ((((((w0.heap.modify 4 (setCells #[.iface 244 (.pointer (some ⟨low, 0, none⟩))])).modify 5 (setCells #[.iface 244 (.pointer (some ⟨low + 1, 0, none⟩))])).modify 3 (setCells #[.int .u64 1, .int .u64 10, .int .u64 100, .int .u64 1000, .int .u64 10000, .int .u64 100000, .int .u64 1000000, .int .u64 10000000, .int .u64 100000000, .int .u64 1000000000, .int .u64 10000000000, .int .u64 100000000000, .int .u64 1000000000000, .int .u64 10000000000000, .int .u64 100000000000000, .int .u64 1000000000000000, .int .u64 10000000000000000, .int .u64 100000000000000000, .int .u64 1000000000000000000, .int .u64 10000000000000000000])).modify 6 (setCells #[.int .u8 0, .int .u8 1, .int .u8 28, .int .u8 2, .int .u8 29, .int .u8 14, .int .u8 24, .int .u8 3, .int .u8 30, .int .u8 22, .int .u8 20, .int .u8 15, .int .u8 25, .int .u8 17, .int .u8 4, .int .u8 8, .int .u8 31, .int .u8 27, .int .u8 13, .int .u8 23, .int .u8 21, .int .u8 19, .int .u8 16, .int .u8 7, .int .u8 26, .int .u8 12, .int .u8 18, .int .u8 6, .int .u8 11, .int .u8 5, .int .u8 10, .int .u8 9])).modify 7 (setCells #[.int .u8 0, .int .u8 1, .int .u8 56, .int .u8 2, .int .u8 57, .int .u8 49, .int .u8 28, .int .u8 3, .int .u8 61, .int .u8 58, .int .u8 42, .int .u8 50, .int .u8 38, .int .u8 29, .int .u8 17, .int .u8 4, .int .u8 62, .int .u8 47, .int .u8 59, .int .u8 36, .int .u8 45, .int .u8 43, .int .u8 51, .int .u8 22, .int .u8 53, .int .u8 39, .int .u8 33, .int .u8 30, .int .u8 24, .int .u8 18, .int .u8 12, .int .u8 5, .int .u8 63, .int .u8 55, .int .u8 48, .int .u8 27, .int .u8 60, .int .u8 41, .int .u8 37, .int .u8 16, .int .u8 46, .int .u8 35, .int .u8 44, .int .u8 21, .int .u8 52, .int .u8 32, .int .u8 23, .int .u8 11, .int .u8 54, .int .u8 26, .int .u8 40, .int .u8 15, .int .u8 34, .int .u8 20, .int .u8 31, .int .u8 10, .int .u8 25, .int .u8 14, .int .u8 19, .int .u8 9, .int .u8 13, .int .u8 8, .int .u8 7, .int .u8 6])).modify 2 (setCells #[.string ⟨#[124, 124]⟩, .int .i64 17, .int .i64 1, .int .i64 1, .int .i64 2, .string ⟨#[38, 38]⟩, .int .i64 16, .int .i64 2, .int .i64 2, .int .i64 3, .string ⟨#[61, 61]⟩, .int .i64 10, .int .i64 4, .int .i64 5, .int .i64 5, .string ⟨#[33, 61]⟩, .int .i64 11, .int .i64 4, .int .i64 5, .int .i64 5, .string ⟨#[60]⟩, .int .i64 12, .int .i64 4, .int .i64 5, .int .i64 5, .string ⟨#[60, 61]⟩, .int .i64 13, .int .i64 4, .int .i64 5, .int .i64 5, .string ⟨#[62]⟩, .int .i64 14, .int .i64 4, .int .i64 5, .int .i64 5, .string ⟨#[62, 61]⟩, .int .i64 15, .int .i64 4, .int .i64 5, .int .i64 5, .string ⟨#[43]⟩, .int .i64 8, .int .i64 5, .int .i64 5, .int .i64 6, .string ⟨#[45]⟩, .int .i64 9, .int .i64 5, .int .i64 5, .int .i64 6])) }
theorem laid_met (os : Os) (args : Array Value) : laidMet Tryz.prog Rows.parseDeepRow.laid ((laidWorld os).forCall (fun _ _ => 0) ⟨#[], args, []⟩).memory :=
  laidMet_of_run' 8 (by kernel_rfl) (by kernel_rfl)
theorem weights_each {H : Type} {P : Program} {t : TypeId} {ts : List TypeId} {d : DataW H} {ds : List (DataW H)} (h : (DataW.weightsEach P (t :: ts) (d :: ds)).all (· ≤ reachBytes) = true) : (∀ k ∈ d.weights P t, k ≤ reachBytes) ∧ (DataW.weightsEach P ts ds).all (· ≤ reachBytes) = true := by
  rw [DataW.weightsEach, List.all_append, Bool.and_eq_true] at h
  exact ⟨fun k hk => by simpa using List.all_eq_true.1 h.1 k hk, h.2⟩
end Go.Proofs.YtaekbgljbgmchaaGreatDoor
namespace Go.Proofs.YtaekbgljbgmchaaGreatDoor
open Go.ChangeShapes Go.WideShapes Go.ChangeAt Go.RowKit
theorem exs_at (k : Nat) (hk : k < 18) (l : List (DataW Unit)) (h : (Rows.laid_vigil_tree_exprShapes : DataW Unit) = .agg l) : l[k]? = some (.agg [.lit (.bool (exNames k)), .lit (.bool (exNumber k)), .lit (.int .i64 ((exKids k : Nat) : Int))]) := by
  have h' := h
  unfold Rows.laid_vigil_tree_exprShapes at h'
  injection h' with h'
  subst h'
  have hc : k = 0 ∨ k = 1 ∨ k = 2 ∨ k = 3 ∨ k = 4 ∨ k = 5 ∨ k = 6 ∨ k = 7 ∨ k = 8 ∨ k = 9 ∨ k = 10 ∨ k = 11 ∨ k = 12 ∨ k = 13 ∨ k = 14 ∨ k = 15 ∨ k = 16 ∨ k = 17 := by omega
  rcases hc with rfl | rfl | rfl | rfl | rfl | rfl | rfl | rfl | rfl | rfl | rfl | rfl | rfl | rfl | rfl | rfl | rfl | rfl <;> rfl
set_option maxRecDepth 100000 in
theorem exs_cells {W : World} {cs : Array Value} {fuel : Nat} {p : List MemPlace} (hv : W.var? Tryz.prog "vigil/tree.exprShapes" = some cs) (hd : DataW.trod (fun _ => ()) Tryz.prog W 0 (fun _ => true) false fuel 185 cs.toList = some (Rows.laid_vigil_tree_exprShapes, p)) (k : Nat) (hk : k < 18) :
    W.cell? ⟨1, k * 3, none⟩ = some (.bool (exNames k)) ∧ W.cell? ⟨1, k * 3 + 1, none⟩ = some (.bool (exNumber k)) ∧ W.cell? ⟨1, k * 3 + 2, none⟩ = some (.int .i64 (exKids k : Nat)) := by
  obtain ⟨xs, m, rfl, hx, hlen, hxl, hE⟩ := DataW.trod_array Tryz.underlying185 hd
  have hx1 : (Rows.laid_vigil_tree_exprShapes : DataW Unit) = .agg (xs.map (·.1)) := congrArg Prod.fst hx
  have hat := exs_at k hk _ hx1
  have hE := hE k hk
  rw [show Tryz.prog.cellsOf 184 = 3 from by kernel_rfl] at hE
  obtain ⟨y, hy⟩ : ∃ y, xs[k]? = some y := ⟨xs[k], List.getElem?_eq_getElem (by omega)⟩
  rw [hy] at hE
  have hy1 : y.1 = .agg [.lit (.bool (exNames k)), .lit (.bool (exNumber k)), .lit (.int .i64 ((exKids k : Nat) : Int))] := by
    rw [List.getElem?_map, hy] at hat
    simpa using hat
  obtain ⟨zs, m2, _, rfl, hl2, hzl, hf⟩ := DataW.trod_struct Tryz.underlying184 hE
  rw [show Tryz.prog.cellsOf 184 = 3 from by kernel_rfl] at hl2
  have hzl : zs.length = 3 := hzl
  have hz1 : zs.map (·.1) = [.lit (.bool (exNames k)), .lit (.bool (exNumber k)), .lit (.int .i64 ((exKids k : Nat) : Int))] := by simpa using hy1
  have gc : ∀ i, i < 3 → W.cell? ⟨1, k * 3 + i, none⟩ = ((cs.toList.drop (k * 3)).take 3)[i]? := by
    intro i hi
    rw [World.var?_cell (g := 1) (by kernel_rfl) hv, List.getElem?_take, if_pos hi, List.getElem?_drop, Array.getElem?_toList]
  generalize (cs.toList.drop (k * 3)).take 3 = seg at hl2 hf gc
  obtain ⟨s0, s1, s2, rfl⟩ : ∃ s0 s1 s2, seg = [s0, s1, s2] := by
    match seg, hl2 with
    | [s0, s1, s2], _ => exact ⟨s0, s1, s2, rfl⟩
  obtain ⟨z0, z1, z2, rfl⟩ : ∃ z0 z1 z2, zs = [z0, z1, z2] := by
    match zs, hzl with
    | [z0, z1, z2], _ => exact ⟨z0, z1, z2, rfl⟩
  simp only [List.map_cons, List.map_nil, List.cons.injEq, and_true] at hz1
  obtain ⟨e0, e1, e2⟩ := hz1
  have g0 : DataW.trod (fun _ => ()) Tryz.prog W 0 (fun _ => true) false m2 4 [s0] = some z0 := by
    have q : DataW.trod (fun _ => ()) Tryz.prog W 0 (fun _ => true) false m2 4 (([s0, s1, s2].drop 0).take (Tryz.prog.cellsOf 4)) = some z0 := hf 0 _ rfl
    rw [show Tryz.prog.cellsOf 4 = 1 from by kernel_rfl] at q
    exact q
  have g1 : DataW.trod (fun _ => ()) Tryz.prog W 0 (fun _ => true) false m2 4 [s1] = some z1 := by
    have q : DataW.trod (fun _ => ()) Tryz.prog W 0 (fun _ => true) false m2 4 (([s0, s1, s2].drop 1).take (Tryz.prog.cellsOf 4)) = some z1 := hf 1 _ rfl
    rw [show Tryz.prog.cellsOf 4 = 1 from by kernel_rfl] at q
    exact q
  have g2 : DataW.trod (fun _ => ()) Tryz.prog W 0 (fun _ => true) false m2 3 [s2] = some z2 := by
    have q : DataW.trod (fun _ => ()) Tryz.prog W 0 (fun _ => true) false m2 3 (([s0, s1, s2].drop 2).take (Tryz.prog.cellsOf 3)) = some z2 := hf 2 _ rfl
    rw [show Tryz.prog.cellsOf 3 = 1 from by kernel_rfl] at q
    exact q
  obtain ⟨b0, q0, r0⟩ := DataW.trod_bool Tryz.underlying4 g0
  rw [r0] at e0
  simp at q0 e0
  subst q0 e0
  obtain ⟨b1, q1, r1⟩ := DataW.trod_bool Tryz.underlying4 g1
  rw [r1] at e1
  simp at q1 e1
  subst q1 e1
  obtain ⟨b2, q2, r2, _⟩ := DataW.trod_int Tryz.underlying3 g2
  rw [r2] at e2
  simp at q2 e2
  subst q2 e2
  exact ⟨gc 0 (by omega), gc 1 (by omega), gc 2 (by omega)⟩
theorem lt_of_cell2 {w : World} {b o : Nat} {v : Value} (h : w.cell? ⟨b, o, none⟩ = some v) : b < w.heap.size := by
  rcases Nat.lt_or_ge b w.heap.size with h1 | h1
  · exact h1
  · exfalso
    have h2 : w.heap[b]? = none := by rw [Array.getElem?_eq_none_iff]; exact h1
    simp [World.cell?, h2] at h
theorem six_of7 {W : World} (h : laidMet Tryz.prog Rows.parseExprBackRow.laid W) : laidMet Tryz.prog Rows.parseDeepRow.laid W := by
  have := h.filter (fun x => x.1 != "vigil/tree.exprShapes")
  rwa [show Rows.parseExprBackRow.laid.filter (fun x => x.1 != "vigil/tree.exprShapes") = Rows.parseDeepRow.laid from by kernel_rfl] at this
theorem shapesE_of {W : World} (h : laidMet Tryz.prog Rows.parseExprBackRow.laid W) : ShapesE W := by
  have h6 : laidMet Tryz.prog (Rows.parseExprBackRow.laid.drop 6) W := h.tail.tail.tail.tail.tail.tail
  obtain ⟨ps, ⟨g, t, cs, fuel, p, q, hg, ht, hv, hd, _, _⟩, _⟩ := h6
  obtain rfl : g = 1 := Option.some.inj (hg.symm.trans (show Tryz.prog.globalNamed "vigil/tree.exprShapes" = some 1 by kernel_rfl))
  obtain rfl : t = 185 := Option.some.inj (ht.symm.trans (show (Tryz.prog.globals[1]?).map (·.type) = some 185 by kernel_rfl))
  have h0 := exs_cells hv hd
  refine ⟨?_, h0⟩
  have := lt_of_cell2 (h0 0 (by omega)).1
  omega
theorem tab_of {W : World} (h : laidMet Tryz.prog Rows.parseDeepRow.laid W) : Tab W :=
  Lib.tabIs_of_head (g := 3) (t := 232) (e := 194) (n := 20) (by kernel_rfl) (by kernel_rfl) Tryz.underlying232 Tryz.underlying194 (by kernel_rfl) (by kernel_rfl) (show laidMet Tryz.prog (("internal/strconv.uint64pow10", Lib.tabData .u64 Lib.pow10Tab) :: Rows.parseDeepRow.laid.drop 3) W from h.tail.tail)
theorem laidE_of {W : World} (h : laidMet Tryz.prog Rows.parseExprBackRow.laid W) : LaidE W := by
  have ht := tab_of (six_of7 h)
  refine ⟨shapesE_of h, ht, ?_⟩
  have := lt_of_cell2 (Lib.TabIs.cell ht gPow 0 (by decide))
  omega
/-- The world with the shapes of expressions besides. -/
noncomputable def laidWorldE (os : Os) : World := { laidWorld os with heap := (laidWorld os).heap.modify 1 (setCells #[.bool false, .bool false, .int .i64 0, .bool false, .bool true, .int .i64 0, .bool false, .bool false, .int .i64 0, .bool false, .bool false, .int .i64 0, .bool true, .bool false, .int .i64 0, .bool false, .bool false, .int .i64 1, .bool false, .bool false, .int .i64 1, .bool false, .bool true, .int .i64 1, .bool false, .bool false, .int .i64 2, .bool false, .bool false, .int .i64 2, .bool false, .bool false, .int .i64 2, .bool false, .bool false, .int .i64 2, .bool false, .bool false, .int .i64 2, .bool false, .bool false, .int .i64 2, .bool false, .bool false, .int .i64 2, .bool false, .bool false, .int .i64 2, .bool false, .bool false, .int .i64 2, .bool false, .bool false, .int .i64 2]) }
theorem laid_metE (os : Os) (args : Array Value) : laidMet Tryz.prog Rows.parseExprBackRow.laid ((laidWorldE os).forCall (fun _ _ => 0) ⟨#[], args, []⟩).memory :=
  laidMet_of_run' 8 (by kernel_rfl) (by kernel_rfl)
end Go.Proofs.YtaekbgljbgmchaaGreatDoor
namespace Go.Proofs.YtaekbgljbgmchaaGreatDoor
open Go.ChangeShapes Go.WideShapes Go.ChangeAt Go.RowKit Go.Deep
theorem oc33 : Tryz.prog.cellsOf 25 = 6 := by kernel_rfl
theorem oc31 : Tryz.prog.cellsOf 23 = 1 := by kernel_rfl
theorem oc3 : Tryz.prog.cellsOf 3 = 1 := by kernel_rfl
theorem oc2 : Tryz.prog.cellsOf 2 = 1 := by kernel_rfl
theorem oc9 : Tryz.prog.cellsOf 9 = 1 := by kernel_rfl
theorem i64_of_wf {k : Int} (h : (Lit.int .i64 k).wf = true) : I64 k := by
  have h' : (decide (IntKind.i64.min ≤ k) && decide (k ≤ IntKind.i64.max)) = true := h
  simp only [Bool.and_eq_true, decide_eq_true_eq] at h'
  have e1 : IntKind.i64.min = -9223372036854775808 := by decide
  have e2 : IntKind.i64.max = 9223372036854775807 := by decide
  rw [e1, e2] at h'
  exact h'
theorem list6 {α : Type} {l : List α} (h : l.length = 6) : ∃ a b c d e f, l = [a, b, c, d, e, f] := by
  match l, h with
  | [a, b, c, d, e, f], _ => exact ⟨a, b, c, d, e, f, rfl⟩
theorem weightsAll_mem {H : Type} {P : Program} {e : TypeId} {l : List (DataW H)} {d : DataW H} (hd : d ∈ l) {z : Nat} (hz : z ∈ d.weights P e) : z ∈ DataW.weightsAll P e l := by
  induction l with
  | nil => cases hd
  | cons x r ih =>
    rw [DataW.weightsAll]
    rcases List.mem_cons.1 hd with rfl | hd
    · exact List.mem_append.2 (.inl hz)
    · exact List.mem_append.2 (.inr (ih hd))
set_option maxRecDepth 100000 in
theorem open_ex {H : Type} {enc : TypeId × Value → H} {W : World} (fuel : Nat) : ∀ (cs : List Value) (x : DataW H × List MemPlace), DataW.trod enc Tryz.prog W 0 (fun _ => true) true fuel 25 cs = some x → (∀ k ∈ x.1.weights Tryz.prog 25, k ≤ reachBytes) →
    ∃ e : Ex, cs = e.cells ∧ e.Is W.heap.size W := by
  induction fuel using Nat.strongRecOn with
  | _ fuel ih =>
    intro cs x h hw
    obtain ⟨xs, n, rfl, rfl, hlen, hxl, hf⟩ := DataW.trod_struct Tryz.underlying25 h
    rw [oc33] at hlen
    obtain ⟨v0, v1, v2, v3, v4, v5, rfl⟩ := list6 hlen
    obtain ⟨y0, y1, y2, y3, y4, y5, rfl⟩ := list6 (show xs.length = 6 from hxl)
    have g0 : DataW.trod enc Tryz.prog W 0 (fun _ => true) true n 3 [v0] = some y0 := by
      have g : DataW.trod enc Tryz.prog W 0 (fun _ => true) true n 3 (([v0, v1, v2, v3, v4, v5].drop 0).take (Tryz.prog.cellsOf 3)) = some y0 := hf 0 _ rfl
      rw [oc3] at g
      exact g
    have g1 : DataW.trod enc Tryz.prog W 0 (fun _ => true) true n 9 [v1] = some y1 := by
      have g : DataW.trod enc Tryz.prog W 0 (fun _ => true) true n 9 (([v0, v1, v2, v3, v4, v5].drop 1).take (Tryz.prog.cellsOf 9)) = some y1 := hf 1 _ rfl
      rw [oc9] at g
      exact g
    have g2 : DataW.trod enc Tryz.prog W 0 (fun _ => true) true n 9 [v2] = some y2 := by
      have g : DataW.trod enc Tryz.prog W 0 (fun _ => true) true n 9 (([v0, v1, v2, v3, v4, v5].drop 2).take (Tryz.prog.cellsOf 9)) = some y2 := hf 2 _ rfl
      rw [oc9] at g
      exact g
    have g3 : DataW.trod enc Tryz.prog W 0 (fun _ => true) true n 2 [v3] = some y3 := by
      have g : DataW.trod enc Tryz.prog W 0 (fun _ => true) true n 2 (([v0, v1, v2, v3, v4, v5].drop 3).take (Tryz.prog.cellsOf 2)) = some y3 := hf 3 _ rfl
      rw [oc2] at g
      exact g
    have g4 : DataW.trod enc Tryz.prog W 0 (fun _ => true) true n 23 [v4] = some y4 := by
      have g : DataW.trod enc Tryz.prog W 0 (fun _ => true) true n 23 (([v0, v1, v2, v3, v4, v5].drop 4).take (Tryz.prog.cellsOf 23)) = some y4 := hf 4 _ rfl
      rw [oc31] at g
      exact g
    have g5 : DataW.trod enc Tryz.prog W 0 (fun _ => true) true n 3 [v5] = some y5 := by
      have g : DataW.trod enc Tryz.prog W 0 (fun _ => true) true n 3 (([v0, v1, v2, v3, v4, v5].drop 5).take (Tryz.prog.cellsOf 3)) = some y5 := hf 5 _ rfl
      rw [oc3] at g
      exact g
    obtain ⟨op, e0, w0, q0⟩ := DataW.trod_int Tryz.underlying3 g0
    obtain ⟨mon, e1, w1, d1⟩ := DataW.trod_string Tryz.underlying9 g1
    obtain ⟨name, e2, w2, d2⟩ := DataW.trod_string Tryz.underlying9 g2
    obtain ⟨k, e3, w3, q3⟩ := DataW.trod_int Tryz.underlying2 g3
    obtain ⟨pos, e5, w5, q5⟩ := DataW.trod_int Tryz.underlying3 g5
    simp at e0 e1 e2 e3 e5
    subst e0 e1 e2 e3 e5
    clear hf h hlen hxl g0 g1 g2 g3 g5
    subst w0 w1 w2 w3 w5
    have hw1 : ∀ z, z ∈ DataW.weightsEach Tryz.prog [3, 9, 9, 2, 23, 3] [(DataW.lit (Lit.int IntKind.i64 op) : DataW H), .lit (.string mon.data.toList), .lit (.string name.data.toList), .lit (.int .i64 k), y4.1, .lit (.int .i64 pos)] → z ≤ reachBytes := by
      intro z hz
      refine hw z ?_
      show z ∈ DataW.weights Tryz.prog 25 (DataW.agg _)
      rw [DataW.weights, Tryz.underlying25]
      exact hz
    clear hw
    simp only [DataW.weightsEach, DataW.weights, List.nil_append, List.cons_append, List.append_nil, List.mem_cons, forall_eq_or_imp] at hw1
    obtain ⟨m1, m2, m4⟩ := hw1
    have e3 : reachBytes = 140737488351232 := by decide
    rw [e3] at m1 m2
    have hl1 : Len mon := by unfold Len; simpa using m1
    have hl2 : Len name := by unfold Len; simpa using m2
    have base : I64 op ∧ I64 k ∧ I64 pos ∧ Len mon ∧ Len name := ⟨i64_of_wf q0, i64_of_wf q3, i64_of_wf q5, hl1, hl2⟩
    rcases DataW.trod_slice Tryz.underlying23 g4 with ⟨hv, _⟩ | ⟨a, len, cap, elems, rest, n', rfl, hv, rfl, _, hlc, hcm, hel, hE, _, _⟩
    · simp at hv
      subst hv
      exact ⟨.mk op mon name k none 0 [] pos, rfl, Ex.Is.up ⟨base, ⟨Nat.le_refl _, by unfold maxLen; omega, .inl rfl⟩, fun x hx => by cases hx⟩⟩
    · simp at hv
      subst hv
      have hwe : ∀ z, z ∈ DataW.weightsAll Tryz.prog 25 (elems.map (·.1)) → z ≤ reachBytes := by
        intro z hz
        refine m4 z ?_
        show z ∈ DataW.weights Tryz.prog 23 (DataW.slice _ _)
        rw [DataW.weights, Tryz.underlying23]
        exact List.mem_cons_of_mem _ (List.mem_append.2 (.inl hz))
      have hwi : ∀ (i : Nat) (y : DataW H × List MemPlace), elems[i]? = some y → ∀ z ∈ y.1.weights Tryz.prog 25, z ≤ reachBytes := by
        intro i y hy z hz
        exact hwe z (weightsAll_mem (List.mem_map.2 ⟨y, List.mem_of_getElem? hy, rfl⟩) hz)
      have each : ∀ i, i < len → ∃ e : Ex, W.cells? 0 (a.add (i * 6)) 6 = some e.cells ∧ e.Is W.heap.size W := by
        intro i hi
        have hb := hE i hi
        rw [oc33] at hb
        obtain ⟨y, hy⟩ : ∃ y, elems[i]? = some y := ⟨elems[i], List.getElem?_eq_getElem (by omega)⟩
        rw [hy] at hb
        obtain ⟨cs', hc1, hc2⟩ := Option.bind_eq_some_iff.1 hb
        obtain ⟨e, rfl, he⟩ := ih n' (by omega) cs' y hc2 (hwi i y hy)
        exact ⟨e, hc1, he⟩
      haveI : Inhabited Ex := ⟨.mk 0 ⟨#[]⟩ ⟨#[]⟩ 0 none 0 [] 0⟩
      obtain ⟨q, hq⟩ := choose_lt each
      refine ⟨.mk op mon name k (some a) cap ((List.range len).map q) pos, by simp [Ex.cells], Ex.Is.up ⟨base, ⟨by simpa using hlc, hcm, ?_⟩, fun x hx => ?_⟩⟩
      · rcases Nat.eq_zero_or_pos len with h0 | hpos
        · subst h0; exact .inl rfl
        · right
          obtain ⟨b, off, spot⟩ := a
          have hc := fun i hi => World.cells?_some (hq i hi).1
          have hbl := World.cells?_block (hq 0 hpos).1 (by decide)
          have hspot : spot = none := by
            have hex : (q 0).cells.length = 6 := by cases q 0; rfl
            obtain ⟨v, hv⟩ : ∃ v, (q 0).cells[0]? = some v := ⟨_, List.getElem?_eq_getElem (by omega)⟩
            have h0 := (hc 0 hpos).2.2 0 (by decide)
            have h1 := World.cell?_spot (h0.trans hv)
            simpa [Addr.add] using h1
          subst hspot
          refine ⟨b, off, rfl, by simpa [Addr.add] using hbl, ?_⟩
          intro j hj i hi
          have hj' : j < len := by simpa using hj
          have h1 := (hc j hj').2.2 i hi
          rw [add_plain, add_plain] at h1
          simp only [List.getElem_map, List.getElem_range]
          exact h1
      · obtain ⟨i, hi, rfl⟩ := List.mem_map.1 hx
        exact (hq i (List.mem_range.1 hi)).2
/-- An argument of type Expr. -/
theorem open_arg {H : Type} {enc : TypeId × Value → H} {W : World} {v : Value} {d : DataW H} {ps : List MemPlace} (hv : ∃ c, v = .agg c ∧ c.size = Tryz.prog.cellsOf 25) (h : DataW.Trod enc Tryz.prog W 0 (fun _ => true) true 25 v d ps) (hw : ∀ k ∈ d.weights Tryz.prog 25, k ≤ reachBytes) :
    ∃ e : Ex, v = e.val ∧ e.Is W.heap.size W := by
  obtain ⟨c, rfl, _⟩ := hv
  obtain ⟨fuel, hf⟩ := h
  obtain ⟨e, he, hI⟩ := open_ex fuel _ _ hf hw
  refine ⟨e, ?_, hI⟩
  have hc : c.toList = e.cells := by simpa [Value.cells] using he
  show Value.agg c = Value.agg e.cells.toArray
  rw [← hc]
end Go.Proofs.YtaekbgljbgmchaaGreatDoor
namespace Go.Proofs.YtaekbgljbgmchaaGreatDoor
open Go.RowKit
open Lx (Out)
open Pz
open Px
open Lx (ofOut Scans tok_step outs errOf)
namespace Pz
theorem sc_nil0 : Scans [] (.done []) := .nil [] rfl
theorem subs_pos (e : Ex) : 1 ≤ e.subs.length := by cases e; rw [Ex.subs_mk]; simp
theorem subs_one (op : Int) (mon name : ByteArray) (n : Int) (ad : Option Addr) (cap : Nat) (k : Ex) (pos : Int) : (Ex.mk op mon name n ad cap [k] pos).subs.length = 1 + k.subs.length := by rw [Ex.subs_mk, Ex.subsL_eq]; simp; omega
theorem subs_two (op : Int) (mon name : ByteArray) (n : Int) (ad : Option Addr) (cap : Nat) (a b : Ex) (pos : Int) : (Ex.mk op mon name n ad cap [a, b] pos).subs.length = 1 + a.subs.length + b.subs.length := by rw [Ex.subs_mk, Ex.subsL_eq]; simp; omega
theorem itoa20 (n : Int) (h0 : 0 ≤ n) (h1 : n ≤ 9223372036854775807) : (Lib.itoa n).length ≤ 20 := itoa_len n ⟨by omega, h1⟩
/-- A text is no longer than so. -/
theorem bare_len37 {e : Ex} (h : Shp e) : e.bare.length ≤ 37 * e.subs.length + 29 := by
  induction h with
  | num mon name n ad cap pos hm hn h0 h1 => rw [Ex.bare_mk]; have := itoa20 n h0 h1; have := subs_pos (.mk 1 mon name n ad cap [] pos); show (Lib.itoa n).length ≤ _; omega
  | tru mon name ad cap pos hm hn => rw [Ex.bare_mk]; have := subs_pos (.mk 2 mon name 0 ad cap [] pos); show 4 ≤ _; omega
  | fls mon name ad cap pos hm hn => rw [Ex.bare_mk]; have := subs_pos (.mk 3 mon name 0 ad cap [] pos); show 5 ≤ _; omega
  | var mon name ad cap pos hm hn =>
    rw [Ex.bare_mk]
    have h1 := name_len hm
    have h2 := name_len hn
    have := subs_pos (.mk 4 mon name 0 ad cap [] pos)
    show (mon.data.toList ++ 46 :: name.data.toList).length ≤ _
    rw [List.length_append, List.length_cons]; omega
  | not mon name ad cap k pos hm hn hk ih =>
    rw [Ex.bare_mk, subs_one]
    have := atL_len 3 k.opOf k.bare
    show (33 :: k.txt 3).length ≤ _
    rw [List.length_cons]; unfold Ex.txt; omega
  | neg mon name ad cap k pos hm hn hk ih =>
    rw [Ex.bare_mk, subs_one]
    have := atL_len 6 k.opOf k.bare
    show (45 :: k.txt 6).length ≤ _
    rw [List.length_cons]; unfold Ex.txt; omega
  | mul mon name n ad cap k pos hm hn h0 h1 hk ih =>
    rw [Ex.bare_mk, subs_one]
    have := atL_len 6 k.opOf k.bare
    have := itoa20 n h0 h1
    show (Lib.itoa n ++ ([32, 42, 32] ++ k.txt 6)).length ≤ _
    rw [List.length_append, List.length_append]; unfold Ex.txt; simp only [List.length_cons, List.length_nil]; omega
  | bin op h8 h17 mon name ad cap a b pos hm hn ha hb iha ihb =>
    rw [Ex.bare_mk, subs_two]
    have q0 := atL_len (sgnOf op).2.2.1 a.opOf a.bare
    have q1 := atL_len (sgnOf op).2.2.2 b.opOf b.bare
    have q2 := sgnOf_len op
    unfold bareOf
    rw [if_neg (by omega), if_neg (by omega), if_neg (by omega), if_neg (by omega), if_neg (by omega), if_neg (by omega), kid_at [a, b] 0 _ (by simp), kid_at [a, b] 1 _ (by simp), List.length_append, List.length_append]
    show (a.txt _).length + (_ + (b.txt _).length) ≤ _
    unfold Ex.txt; omega
theorem txt_one (e : Ex) : e.txt 1 = e.bare := by unfold Ex.txt atL; rw [if_neg (by have := own_ge e.opOf; omega)]
theorem toks_one (e : Ex) : e.toks 1 = e.bareT := by unfold Ex.toks atT; rw [if_neg (by have := own_ge e.opOf; omega)]
theorem nest_one (e : Ex) : e.nest 1 = e.nst := nest_bare (by have := own_ge e.opOf; omega)
theorem reader_T (s : ByteArray) (ts : List Lx.T) (h : Scans s.data.toList (.done ts)) : ∃ l, reader s = ⟨l, 0, 0, 0⟩ ∧ l.map ofOut = ts ++ [⟨5, [], 0, 0⟩] := by
  obtain ⟨l, h1, h2⟩ := Lx.scan_list s ts h
  refine ⟨l ++ [Lx.endTok s], reader_done h1, by rw [List.map_append, h2]; rfl⟩
theorem end_T {r : List Out} (h : r.map ofOut = [⟨5, [], 0, 0⟩]) : ∃ z, r = [z] ∧ z.kind = 5 ∧ z.text = e0 := by
  obtain ⟨z, rfl, hz⟩ := one_tok h
  have := tok_of2 hz e0 rfl
  exact ⟨z, rfl, this.1, this.2⟩
theorem acc_end {z : Out} (h : z.text = e0) (o : Nat) : Acc o [z] := by
  refine ⟨.inl ?_, show is z s_star = false from by rw [is_of h]; decide⟩
  unfold operOf
  simp only [List.headD_cons, is_of h]
  decide
/-- An expression's text, parsed. -/
theorem back_expr {e : Ex} (h : Shp e) (hn : e.nst ≤ 64) : ∃ x, wholeOf (Pz.expr (reader ⟨e.bare.toArray⟩)) = (x, 0, 0) ∧ e.same x = true := by
  have hsc := bare_scan h [] [] (.inl rfl) sc_nil0
  rw [List.append_nil, List.append_nil] at hsc
  obtain ⟨l, h1, h2⟩ := reader_T ⟨e.bare.toArray⟩ e.bareT hsc
  obtain ⟨L, R, rfl, hL, hR⟩ := List.map_eq_append_iff.1 h2
  obtain ⟨z, rfl, hz5, hze⟩ := end_T hR
  obtain ⟨f', x, q1, q2, q3⟩ := (reads_any h).bare 1 L [z] 0 (3 * (L ++ [z]).length + 10) (Nat.le_refl _) (own_ge _) hL (by omega) (acc_end hze _) (by rw [List.length_append]; omega)
  rw [loop_end _ _ _ _ _ _ (.inl (by rcases (acc_end hze 0).1 with h | h; (exact h); exact (by unfold operOf; simp only [List.headD_cons, is_of hze]; decide)))] at q2
  refine ⟨x, ?_, q3⟩
  rw [h1]
  unfold Pz.expr fuel
  show wholeOf (exprAt (3 * (L ++ [z]).length + 10) 1 ⟨L ++ [z], 0, 0, 0⟩) = _
  rw [q2]
  unfold wholeOf atEnd
  rw [if_pos (show (S.mk [z] 0 0 0).hd.kind = 5 from hz5), if_pos rfl]
/-- In parentheses. -/
theorem back_par {e : Ex} (h : Shp e) (hn : e.nst ≤ 64) : ∃ x c a, wholeOf (Pz.expr (reader ⟨(40 :: (e.bare ++ [41])).toArray⟩)) = (x, c, a) ∧ (e.nst ≤ 63 → c = 0 ∧ e.same x = true) ∧ (63 < e.nst → c = 41) := by
  have h41 : Scans [41] (.done [signTk [41]]) := tok_step 41 [] (signTk [41]) [] (by decide) (by decide) rfl rfl sc_nil0
  have hsc := tok_step 40 (e.bare ++ [41]) (signTk [40]) _ (by decide) (by decide) rfl rfl (bare_scan h [41] _ (.inr ⟨41, [], rfl, brk41⟩) h41)
  obtain ⟨l, h1, h2⟩ := reader_T ⟨(40 :: (e.bare ++ [41])).toArray⟩ _ hsc
  obtain ⟨lp, l, rfl, hlp, h2'⟩ := more_tok h2
  have h2 : l.map ofOut = (e.bareT ++ [signTk [41]]) ++ [⟨5, [], 0, 0⟩] := h2'
  rw [List.append_assoc] at h2
  obtain ⟨L, R, rfl, hL, hR⟩ := List.map_eq_append_iff.1 h2
  obtain ⟨rp, R, rfl, hrp, hR⟩ := more_tok hR
  obtain ⟨z, rfl, hz5, hze⟩ := end_T hR
  have tl := tok_of2 hlp s_lpar rfl
  have tr := tok_of2 hrp s_rpar rfl
  have hexp : Pz.expr (reader ⟨(40 :: (e.bare ++ [41])).toArray⟩) = loop (3 * (lp :: (L ++ rp :: [z])).length + 9) 1 (Pz.term (3 * (lp :: (L ++ rp :: [z])).length + 9) ⟨lp :: (L ++ rp :: [z]), 0, 0, 0⟩).1 6 (Pz.term (3 * (lp :: (L ++ rp :: [z])).length + 9) ⟨lp :: (L ++ rp :: [z]), 0, 0, 0⟩).2 := by
    rw [h1]
    exact not_lt 1 _ (lp_not_bang tl) (3 * (lp :: (L ++ rp :: [z])).length + 9)
  obtain ⟨F, hF⟩ : ∃ F, 3 * (lp :: (L ++ rp :: [z])).length + 9 = F + 1 := ⟨_, rfl⟩
  have hFL : 2 * L.length ≤ F := by simp only [List.length_cons, List.length_append, List.length_nil] at hF; omega
  rw [hF] at hexp
  rw [hexp]
  by_cases hd : e.nst ≤ 63
  · obtain ⟨x, hx, hs⟩ := par_reads (reads_any h) lp rp L [z] 0 F tl tr hL (by omega) hFL
    rw [hx, loop_end _ _ _ _ _ _ (.inl (by unfold operOf; simp only [List.headD_cons, is_of hze]; decide))]
    refine ⟨x, 0, 0, ?_, fun _ => ⟨rfl, hs⟩, fun h => by omega⟩
    unfold wholeOf atEnd
    rw [if_pos (show (S.mk [z] 0 0 0).hd.kind = 5 from hz5), if_pos rfl]
  · have hb := ((par_deeps (deeps_any h) lp rp L [z] 0 F tl hL (by omega) (by omega) hFL).keep ((ek.expr (F + 1)).2.1 1 (Pz.term (F + 1) ⟨lp :: (L ++ rp :: [z]), 0, 0, 0⟩).1 6 _)).keep (ek_atEnd _)
    obtain ⟨Q, hQ⟩ : ∃ Q, loop (F + 1) 1 (Pz.term (F + 1) ⟨lp :: (L ++ rp :: [z]), 0, 0, 0⟩).1 6 (Pz.term (F + 1) ⟨lp :: (L ++ rp :: [z]), 0, 0, 0⟩).2 = Q := ⟨_, rfl⟩
    rw [hQ] at hb ⊢
    have hc : (wholeOf Q).2.1 = 41 := by
      unfold wholeOf
      rw [if_neg (by rw [hb]; decide)]
      exact hb
    exact ⟨(wholeOf Q).1, (wholeOf Q).2.1, (wholeOf Q).2.2, rfl, fun h => absurd h hd, fun _ => hc⟩
end Pz
theorem all2_mapR {α : Type} (f : α → α → Bool) (g : α → α) : ∀ (xs ys : List α), (∀ x ∈ xs, ∀ y, f x (g y) = f x y) → all2 f xs (ys.map g) = all2 f xs ys
  | [], [], _ => rfl
  | [], _ :: _, _ => rfl
  | _ :: _, [], _ => rfl
  | x :: xs, y :: ys, h => by
    simp only [List.map_cons, all2]
    rw [h x (by simp) y, all2_mapR f g xs ys fun a ha => h a (List.mem_cons_of_mem _ ha)]
theorem Ex.same_clrR : ∀ (a b : Ex), a.same b.clr = a.same b := by
  intro a
  induction a using Ex.ind with
  | h op mon name n ad cap kids pos ih =>
    intro b
    rcases b with ⟨op', mon', name', n', ad', cap', kids', pos'⟩
    rw [Ex.clr]
    simp only [Ex.same, Ex.sameL_eq, Ex.clrL_eq]
    rw [all2_mapR Ex.same Ex.clr kids kids' ih]
/-- What parse.Expr hands back: an expression that lies in memory. -/
theorem expr_lies (s : ByteArray) (X : Ex) (c a : Int) (w : World) (hs : s.size ≤ 20000) (hE : HasErr w) (hO : Opers w) (h : wholeOf (Pz.expr (reader s)) = (X, c, a)) : Calls Tryz.prog 10 #[.string s] w fun r w' => (∃ op mon name n ad cp len pos kids, r = .returned (.tuple #[.agg #[.int .i64 op, .string mon, .string name, .int .i64 n, .slice ad len cp, .int .i64 pos], .int .i64 c, .int .i64 a]) ∧ Hid (len = (kids : List Ex).length ∧ (Ex.mk op mon name n ad cp kids pos).clr = X ∧ (Ex.mk op mon name n ad cp kids pos).Is w'.heap.size w')) ∧ Below w.heap.size w w' := by
  refine (parseExpr_any s w hs hE hO).mono ?_
  rintro r w1 ⟨⟨op, mon, name, n, ad, cp, kids, pos, rfl, hclr, hBy⟩, b1⟩
  rw [h] at hclr ⊢
  exact ⟨⟨op, mon, name, n, ad, cp, kids.length, pos, kids, rfl, rfl, hclr, hBy.is⟩, b1⟩
theorem sameE_lies {e X : Ex} (hX : e.same X = true) {n₀ : Nat} {w0 w1 w : World} (he : e.Is n₀ w0) (hb0 : Below n₀ w0 w) (hn : n₀ ≤ w0.heap.size) {op : Int} {mon name : ByteArray} {n : Int} {ad : Option Addr} {cp len : Nat} {pos : Int} {kids : List Ex} (h1 : len = kids.length ∧ (Ex.mk op mon name n ad cp kids pos).clr = X ∧ (Ex.mk op mon name n ad cp kids pos).Is w1.heap.size w1) (hb1 : Below w1.heap.size w1 w) :
    Calls Tryz.prog 24 #[e.val, .agg #[.int .i64 op, .string mon, .string name, .int .i64 n, .slice ad len cp, .int .i64 pos]] w fun r w' => r = .returned (.bool true) ∧ Below w.heap.size w w' := by
  obtain ⟨rfl, rfl, i1⟩ := h1
  have := sameExpr_any w.heap.size e (Ex.mk op mon name n ad cp kids pos) w (Nat.le_refl _) ((he.below hb0).mono (Nat.le_trans hn hb0.size)) ((i1.below hb1).mono hb1.size)
  rw [Ex.same_clrR] at hX
  rw [hX] at this
  exact this
theorem app_list2 (a b : ByteArray) : (a ++ b).data.toList = a.data.toList ++ b.data.toList := by simp
set_option maxRecDepth 100000 in
set_option maxHeartbeats 2000000 in
theorem parseExprBack_walk (e : Ex) (n₀ : Nat) (w : World) (hn : n₀ ≤ w.heap.size) (hI : e.Is n₀ w) (hE : HasErr w) (hO : Opers w) (hL : LaidE w) : Calls Tryz.prog 6 #[e.val] w fun r w' => r = .returned (.bool true) ∧ Below n₀ w w' := by
  have h4 := hL.size
  have hlive : ∀ V, Below w.heap.size w V → Calls Tryz.prog 9 #[] V fun r w' => r = .returned (.bool true) ∧ Below V.heap.size V w' := fun V hV => live_any V (hE.after hV) (hO.below hV)
  have hIb : ∀ V, Below w.heap.size w V → e.Is n₀ V := fun V hV => hI.below (hV.mono hn)
  have hR0 : ∀ V, Below w.heap.size w V → Calls Tryz.prog 22 #[e.val, .int .i64 400] V fun r w' => r = .returned (.int .i64 (restE e 400)) ∧ Below V.heap.size V w' := fun V hV => restExpr_any n₀ e 400 V (by omega) (by omega) (Nat.le_trans hn hV.size) (hIb V hV)
  by_cases hneg : restE e 400 < 0
  · have hneg' : restE e 400 < 0 := hneg
    obtain ⟨q, hq⟩ : ∃ q, restE e 400 = q := ⟨_, rfl⟩
    rw [hq] at hR0 hneg hneg'
    rcases e with ⟨op, mon, name, n, ad, cap, kids, pos⟩
    have hR := hR0
    simp only [Ex.val, Ex.cells] at hR ⊢
    have bE := newB w #[.int .i64 op, .string mon, .string name, .int .i64 n, .slice ad kids.length cap, .int .i64 pos] 25
    have B := bel_al w (.cells #[.int .i64 op, .string mon, .string name, .int .i64 n, .slice ad kids.length cap, .int .i64 pos] 25)
    obtain ⟨c0, c1, c2, c3, c4, c5, cf, cl⟩ := six bE
    go_enter Tryz.func6, Tryz.ntmps6
    go_wp2_with (first
          | (go_at_call 22; (with_reducible refine (hR _ B).mono ?_); rintro r w1 ⟨rfl, bb⟩; have B := B.tr le_rfl' bb; have bE := bel_box bE bb; obtain ⟨c0, c1, c2, c3, c4, c5, cf, cl⟩ := six bE)
          | (go_at_call 9; (with_reducible refine (hlive _ B).mono ?_); rintro r w5 ⟨rfl, bb⟩; have B := B.tr le_rfl' bb))
    go_ret
    exact ⟨rfl, B.mono hn⟩
  · have hneg' : decide (restE e 400 < 0) = false := by simp; omega
    have hsz : e.subs.length ≤ 400 := by have := rest_count e 400 (by omega); omega
    obtain ⟨q, hq⟩ : ∃ q, restE e 400 = q := ⟨_, rfl⟩
    rw [hq] at hR0 hneg hneg'
    have hP0 : ∀ V, Below w.heap.size w V → Calls Tryz.prog 23 #[e.val] V fun r w' => r = .returned (exprOut e) ∧ Below V.heap.size V w' := fun V hV => printExpr_anyE e n₀ V (Nat.le_trans hn hV.size) (hIb V hV) (hL.below hV h4) (by omega)
    by_cases hgood : e.ok = true ∧ e.nest 1 ≤ 64
    · have hS := shp_of e hI hgood.1
      have hnst : e.nst ≤ 64 := by rw [← nest_one]; exact hgood.2
      have hlen := bare_len37 hS
      have hout : exprOut e = .tuple #[.string ⟨e.bare.toArray⟩, .int .i64 0] := by
        unfold exprOut toldOf
        rw [if_pos hgood.1, if_neg (by omega), txt_one, if_neg (by omega)]
      rw [hout] at hP0
      have hN0 : ∀ V, Below w.heap.size w V → Calls Tryz.prog 25 #[e.val] V fun r w' => r = .returned (.int .i64 ((e.nst : Nat) : Int)) ∧ Below V.heap.size V w' := fun V hV => by
        have := nestExpr_anyE e n₀ V (Nat.le_trans hn hV.size) (hIb V hV) (hL.below hV h4) (by omega)
        have e1 : nestOut e = e.nst := by unfold nestOut; rw [if_pos hgood.1, nest_one]
        rwa [e1] at this
      obtain ⟨X, hx, hsX⟩ := back_expr hS hnst
      obtain ⟨Y, c, a, hy, hy1, hy2⟩ := back_par hS hnst
      obtain ⟨T, hT⟩ : ∃ T : ByteArray, (⟨e.bare.toArray⟩ : ByteArray) = T := ⟨_, rfl⟩
      have hTl : T.data.toList = e.bare := by rw [← hT]
      have hTs : T.size = e.bare.length := by rw [← hT]; simp [ByteArray.size]
      rw [hT] at hP0 hx
      have hpar : (⟨#[40]⟩ ++ T ++ ⟨#[41]⟩ : ByteArray) = ⟨(40 :: (e.bare ++ [41])).toArray⟩ := ByteArray.ext (Array.toList_inj.1 (by rw [app_list2, app_list2, hTl]; simp))
      rw [← hpar] at hy
      have hX : ∀ V, Below w.heap.size w V → _ := fun V hV => expr_lies T X 0 0 V (by omega) (hE.after hV) (hO.below hV) hx
      have hZs : (⟨#[40]⟩ ++ T ++ ⟨#[41]⟩ : ByteArray).size = e.bare.length + 2 := by rw [hpar]; simp [ByteArray.size]
      obtain ⟨Z, hZ⟩ : ∃ Z : ByteArray, ⟨#[40]⟩ ++ T ++ ⟨#[41]⟩ = Z := ⟨_, rfl⟩
      rw [hZ] at hy hZs
      have hY : ∀ V, Below w.heap.size w V → _ := fun V hV => expr_lies Z Y c a V (by omega) (hE.after hV) (hO.below hV) hy
      have z1 : ¬ 9223372036854775807 < 1 + T.size := by omega
      have z2 : ¬ 9223372036854775807 < 1 + T.size + 1 := by omega
      have HI := hid hI
      have HSX := hid hsX
      have HY1 := hid hy1
      have HY2 := hid hy2
      obtain ⟨N, hN⟩ : ∃ N, e.nst = N := ⟨_, rfl⟩
      rw [hN] at hN0 hnst HY1 HY2
      clear hS hlen hout hx hy hy1 hy2 hT hTl hTs hpar hsX hgood hI hIb hN hsz hZs
      subst hZ
      by_cases hd : N ≤ 63
      · obtain ⟨rfl, hsY⟩ := HY1.out hd
        have HSY := hid hsY
        have hd1 : decide ((64 : Int) ≤ (N : Int)) = false := by simp; omega
        clear HY1 HY2 hsY
        rcases e with ⟨op, mon, name, n, ad, cap, kids, pos⟩
        have hR := hR0
        have hP := hP0
        have hN := hN0
        simp only [Ex.val, Ex.cells] at hR hP hN ⊢
        have bE := newB w #[.int .i64 op, .string mon, .string name, .int .i64 n, .slice ad kids.length cap, .int .i64 pos] 25
        have B := bel_al w (.cells #[.int .i64 op, .string mon, .string name, .int .i64 n, .slice ad kids.length cap, .int .i64 pos] 25)
        obtain ⟨c0, c1, c2, c3, c4, c5, cf, cl⟩ := six bE
        go_enter Tryz.func6, Tryz.ntmps6
        go_wp2_with (first
          | (go_at_call 22; (with_reducible refine (hR _ B).mono ?_); rintro r w1 ⟨rfl, bb⟩; have B := B.tr le_rfl' bb; have bE := bel_box bE bb; obtain ⟨c0, c1, c2, c3, c4, c5, cf, cl⟩ := six bE)
          | (go_at_call 23; (with_reducible refine (hP _ B).mono ?_); rintro r w2 ⟨rfl, bb⟩; have B := B.tr le_rfl' bb; have bE := bel_box bE bb; obtain ⟨c0, c1, c2, c3, c4, c5, cf, cl⟩ := six bE)
          | (go_at_call 13; (with_reducible refine (num_c _ _).mono ?_); rintro r w' ⟨rfl, hw'⟩; subst hw')
          | (go_at_call 10; (with_reducible refine (hX _ B).mono ?_); rintro r w3 ⟨⟨xop, xmon, xname, xn, xad, xcp, xlen, xpos, xkids, rfl, HX⟩, bb⟩; have B := B.tr le_rfl' bb; have bE := bel_box bE bb; have bX := newB w3 #[.int .i64 xop, .string xmon, .string xname, .int .i64 xn, .slice xad xlen xcp, .int .i64 xpos] 25; have B3 := bel_al w3 (.cells #[.int .i64 xop, .string xmon, .string xname, .int .i64 xn, .slice xad xlen xcp, .int .i64 xpos] 25); have B := B.tr le_rfl' B3; have bE := bel_box bE B3; obtain ⟨c0, c1, c2, c3, c4, c5, cf, cl⟩ := six bE; obtain ⟨x0, x1, x2, x3, x4, x5, xf, xl⟩ := six bX)
          | (go_at_call 24; have hs := sameE_lies HSX.out HI.out (B.mono hn) hn HX.out B3; simp only [Ex.val, Ex.cells] at hs; (with_reducible refine hs.mono ?_); rintro r w4 ⟨rfl, bb⟩; have B := B.tr le_rfl' bb; have bE := bel_box bE bb; obtain ⟨c0, c1, c2, c3, c4, c5, cf, cl⟩ := six bE)
          | (go_at_call 10; (with_reducible refine (hY _ B).mono ?_); rintro r w6 ⟨⟨yop, ymon, yname, yn, yad, ycp, ylen, ypos, ykids, rfl, HY⟩, bb⟩; have B := B.tr le_rfl' bb; have bE := bel_box bE bb; have bY := newB w6 #[.int .i64 yop, .string ymon, .string yname, .int .i64 yn, .slice yad ylen ycp, .int .i64 ypos] 25; have B6 := bel_al w6 (.cells #[.int .i64 yop, .string ymon, .string yname, .int .i64 yn, .slice yad ylen ycp, .int .i64 ypos] 25); have B := B.tr le_rfl' B6; have bE := bel_box bE B6; obtain ⟨c0, c1, c2, c3, c4, c5, cf, cl⟩ := six bE; obtain ⟨y0, y1, y2, y3, y4, y5, yf, yl⟩ := six bY)
          | (go_at_call 25; (with_reducible refine (hN _ B).mono ?_); rintro r w7 ⟨rfl, bb⟩; have B := B.tr le_rfl' bb; have B6 := B6.tr le_rfl' bb; have bE := bel_box bE bb; have bY := bel_box bY bb; obtain ⟨c0, c1, c2, c3, c4, c5, cf, cl⟩ := six bE; obtain ⟨y0, y1, y2, y3, y4, y5, yf, yl⟩ := six bY)
          | (go_at_call 24; have hs := sameE_lies HSY.out HI.out (B.mono hn) hn HY.out B6; simp only [Ex.val, Ex.cells] at hs; (with_reducible refine hs.mono ?_); rintro r w8 ⟨rfl, bb⟩; have B := B.tr le_rfl' bb)
          | (go_at_call 9; (with_reducible refine (hlive _ B).mono ?_); rintro r w5 ⟨rfl, bb⟩; have B := B.tr le_rfl' bb))
        go_ret
        exact ⟨rfl, B.mono hn⟩
      · obtain rfl := HY2.out (by omega)
        have hd1 : (64 : Int) ≤ (N : Int) := by omega
        clear HY1 HY2
        rcases e with ⟨op, mon, name, n, ad, cap, kids, pos⟩
        have hR := hR0
        have hP := hP0
        have hN := hN0
        simp only [Ex.val, Ex.cells] at hR hP hN ⊢
        have bE := newB w #[.int .i64 op, .string mon, .string name, .int .i64 n, .slice ad kids.length cap, .int .i64 pos] 25
        have B := bel_al w (.cells #[.int .i64 op, .string mon, .string name, .int .i64 n, .slice ad kids.length cap, .int .i64 pos] 25)
        obtain ⟨c0, c1, c2, c3, c4, c5, cf, cl⟩ := six bE
        go_enter Tryz.func6, Tryz.ntmps6
        go_wp2_with (first
          | (go_at_call 22; (with_reducible refine (hR _ B).mono ?_); rintro r w1 ⟨rfl, bb⟩; have B := B.tr le_rfl' bb; have bE := bel_box bE bb; obtain ⟨c0, c1, c2, c3, c4, c5, cf, cl⟩ := six bE)
          | (go_at_call 23; (with_reducible refine (hP _ B).mono ?_); rintro r w2 ⟨rfl, bb⟩; have B := B.tr le_rfl' bb; have bE := bel_box bE bb; obtain ⟨c0, c1, c2, c3, c4, c5, cf, cl⟩ := six bE)
          | (go_at_call 13; (with_reducible refine (num_c _ _).mono ?_); rintro r w' ⟨rfl, hw'⟩; subst hw')
          | (go_at_call 10; (with_reducible refine (hX _ B).mono ?_); rintro r w3 ⟨⟨xop, xmon, xname, xn, xad, xcp, xlen, xpos, xkids, rfl, HX⟩, bb⟩; have B := B.tr le_rfl' bb; have bE := bel_box bE bb; have bX := newB w3 #[.int .i64 xop, .string xmon, .string xname, .int .i64 xn, .slice xad xlen xcp, .int .i64 xpos] 25; have B3 := bel_al w3 (.cells #[.int .i64 xop, .string xmon, .string xname, .int .i64 xn, .slice xad xlen xcp, .int .i64 xpos] 25); have B := B.tr le_rfl' B3; have bE := bel_box bE B3; obtain ⟨c0, c1, c2, c3, c4, c5, cf, cl⟩ := six bE; obtain ⟨x0, x1, x2, x3, x4, x5, xf, xl⟩ := six bX)
          | (go_at_call 24; have hs := sameE_lies HSX.out HI.out (B.mono hn) hn HX.out B3; simp only [Ex.val, Ex.cells] at hs; (with_reducible refine hs.mono ?_); rintro r w4 ⟨rfl, bb⟩; have B := B.tr le_rfl' bb; have bE := bel_box bE bb; obtain ⟨c0, c1, c2, c3, c4, c5, cf, cl⟩ := six bE)
          | (go_at_call 10; (with_reducible refine (hY _ B).mono ?_); rintro r w6 ⟨⟨yop, ymon, yname, yn, yad, ycp, ylen, ypos, ykids, rfl, HY⟩, bb⟩; have B := B.tr le_rfl' bb; have bE := bel_box bE bb; have bY := newB w6 #[.int .i64 yop, .string ymon, .string yname, .int .i64 yn, .slice yad ylen ycp, .int .i64 ypos] 25; have B6 := bel_al w6 (.cells #[.int .i64 yop, .string ymon, .string yname, .int .i64 yn, .slice yad ylen ycp, .int .i64 ypos] 25); have B := B.tr le_rfl' B6; have bE := bel_box bE B6; obtain ⟨c0, c1, c2, c3, c4, c5, cf, cl⟩ := six bE; obtain ⟨y0, y1, y2, y3, y4, y5, yf, yl⟩ := six bY)
          | (go_at_call 25; (with_reducible refine (hN _ B).mono ?_); rintro r w7 ⟨rfl, bb⟩; have B := B.tr le_rfl' bb; have B6 := B6.tr le_rfl' bb; have bE := bel_box bE bb; have bY := bel_box bY bb; obtain ⟨c0, c1, c2, c3, c4, c5, cf, cl⟩ := six bE; obtain ⟨y0, y1, y2, y3, y4, y5, yf, yl⟩ := six bY)
          | (go_at_call 9; (with_reducible refine (hlive _ B).mono ?_); rintro r w5 ⟨rfl, bb⟩; have B := B.tr le_rfl' bb))
        go_ret
        exact ⟨rfl, B.mono hn⟩
    · obtain ⟨c, hc, hout⟩ : ∃ c : Int, c ≠ 0 ∧ exprOut e = .tuple #[.string ⟨#[]⟩, .int .i64 c] := by
        unfold exprOut
        by_cases hok : e.ok = true
        · rw [if_pos hok, if_pos (by have : ¬ e.nest 1 ≤ 64 := fun h => hgood ⟨hok, h⟩; omega)]
          exact ⟨41, by decide, rfl⟩
        · rw [if_neg hok]
          exact ⟨20, by decide, rfl⟩
      rw [hout] at hP0
      have hcb : (c != 0) = true := by simpa using hc
      clear hout hgood hc hsz
      rcases e with ⟨op, mon, name, n, ad, cap, kids, pos⟩
      have hR := hR0
      have hP := hP0
      simp only [Ex.val, Ex.cells] at hR hP ⊢
      have bE := newB w #[.int .i64 op, .string mon, .string name, .int .i64 n, .slice ad kids.length cap, .int .i64 pos] 25
      have B := bel_al w (.cells #[.int .i64 op, .string mon, .string name, .int .i64 n, .slice ad kids.length cap, .int .i64 pos] 25)
      obtain ⟨c0, c1, c2, c3, c4, c5, cf, cl⟩ := six bE
      go_enter Tryz.func6, Tryz.ntmps6
      go_wp2_with (first
          | (go_at_call 22; (with_reducible refine (hR _ B).mono ?_); rintro r w1 ⟨rfl, bb⟩; have B := B.tr le_rfl' bb; have bE := bel_box bE bb; obtain ⟨c0, c1, c2, c3, c4, c5, cf, cl⟩ := six bE)
          | (go_at_call 23; (with_reducible refine (hP _ B).mono ?_); rintro r w2 ⟨rfl, bb⟩; have B := B.tr le_rfl' bb; have bE := bel_box bE bb; obtain ⟨c0, c1, c2, c3, c4, c5, cf, cl⟩ := six bE)
          | (go_at_call 13; (with_reducible refine (num_c _ _).mono ?_); rintro r w' ⟨rfl, hw'⟩; subst hw')
          | (go_at_call 9; (with_reducible refine (hlive _ B).mono ?_); rintro r w5 ⟨rfl, bb⟩; have B := B.tr le_rfl' bb))
      go_ret
      exact ⟨rfl, B.mono hn⟩
end Go.Proofs.YtaekbgljbgmchaaGreatDoor
namespace Go.Proofs.YtaekbgljbgmchaaGreatDoor
open Go.ChangeShapes Go.WideShapes Go.ChangeAt Go.RowKit Go.Deep Go.Joins
set_option maxRecDepth 100000 in
theorem parseExprBack_contract (H : Type) (enc : TypeId × Value → H) (W : World) (base : Nat) (args : Array Value) (ds gs : List (DataW H)) (before : List MemPlace)
    (hval : ∀ (j : Nat) t v, Tryz.f6.params[j]? = some t → args[j]? = some v → Value.okWide Tryz.prog W .any base t v)
    (hW : DataW.Whole enc Tryz.prog Tryz.f6.params.toList Rows.parseExprBackSpec.vars false W args.toList ds gs before)
    (hsz0 : (DataW.weightsEach Tryz.prog (Tryz.f6.params.toList ++ Rows.parseExprBackSpec.plain.varTypes Tryz.prog) (ds ++ gs)).all (· ≤ reachBytes) = true)
    (hL : laidMetH Tryz.prog Rows.parseExprBackRow.laid W) :
    Calls Tryz.prog 6 args W fun e W' => ∃ v, e = .returned v ∧ Rows.parseExprBackSpec.post enc Tryz.prog Tryz.f6 false true false false W args v W' := by
  have hL7 : laidMet Tryz.prog Rows.parseExprBackRow.laid W := hL
  have hE := hasErr_of (six_of7 hL7)
  have hO := opers_of (six_of7 hL7)
  have hS := laidE_of hL7
  have hW' := hW
  obtain ⟨p, q, hA0, hV, rfl, hfz, hnd⟩ := hW
  have hA : DataW.TrodAll enc Tryz.prog W 0 (fun _ => true) true Tryz.f6.params.toList args.toList ds p := hA0
  have hsz := hsz0
  rw [Tryz.params6] at hA hval hsz
  obtain ⟨v0, d0, rfl, rfl, h0⟩ := trodAll_one hA
  obtain ⟨rfl, rfl⟩ := trodVars_none hV
  clear hA0
  have W0 := (weights_each hsz).1
  obtain ⟨x0, rfl, I0⟩ := open_arg (okWide_struct Tryz.underlying25 (hval 0 25 v0 rfl rfl)) h0 W0
  simp only [List.append_nil] at hW'
  have hlt : ∀ x ∈ p, x.block < W.heap.size := fun x hx => by simpa using hW'.lt x hx
  refine (parseExprBack_walk x0 W.heap.size W (Nat.le_refl _) I0 hE hO hS).mono fun e W' ⟨he, hnx⟩ => ?_
  subst he
  refine ⟨_, rfl, _, _, _, [], p, [], hW', ?_, ?_, rfl, hnx.frame _, fun h => by cases h⟩
  · exact trodAll_mk1 (shut_bool Tryz.underlying4 true)
  · exact trodAll_mk1 (Below.trod laidOut (by kernel_rfl) (of_decide_eq_true (by kernel_rfl)) h0 hnx (fun x hx => hlt x hx))
theorem parseExprBack_reads (os : Os) {H : Type} (enc : TypeId × Value → H) : ∃ places, DataW.whole enc Tryz.prog ((laidWorldE os).forCall (fun _ _ => 0) ⟨#[], #[Value.agg #[.int .i64 0, .string ⟨#[]⟩, .string ⟨#[]⟩, .int .i64 0, .slice none 0 0, .int .i64 0]], []⟩).memory Tryz.f6.params.toList Rows.parseExprBackSpec.vars false #[Value.agg #[.int .i64 0, .string ⟨#[]⟩, .string ⟨#[]⟩, .int .i64 0, .slice none 0 0, .int .i64 0]].toList 8 = some ([.agg [.lit (.int .i64 0), .lit (.string []), .lit (.string []), .lit (.int .i64 0), .nil, .lit (.int .i64 0)]], [], places) :=
  ⟨[], by kernel_rfl⟩
set_option maxRecDepth 100000 in
theorem parseExprBack_lifted (os : Os) (started : os.Started) (H : Type) (enc : TypeId × Value → H) (F : Stop.Interp) :
    ReturnsInHanded {} Tryz.checked os 6 .any ((OpenSpec.ofChange Rows.parseExprBackSpec).preRow enc Tryz.prog Tryz.f6 Rows.parseExprBackRow.domain false Rows.parseExprBackRow.laid) (((OpenSpec.ofChange Rows.parseExprBackSpec).at F).post enc Tryz.prog Tryz.f6 false true false false) := by
  obtain ⟨places, hx⟩ := parseExprBack_reads os enc
  refine returnsInHanded_of_row (C := Tryz.checked) (s := OpenSpec.ofChange Rows.parseExprBackSpec) own started (by kernel_rfl) Tryz.func6
    (witness_row_at (enc := enc) (C := Tryz.checked) false (laidWorldE os) #[Value.agg #[.int .i64 0, .string ⟨#[]⟩, .string ⟨#[]⟩, .int .i64 0, .slice none 0 0, .int .i64 0]] rfl (by kernel_rfl) (by kernel_rfl) (by kernel_rfl)
      (OpenSpec.preRow_of_cond 8 hx (by kernel_rfl) (fun k hk => by cases hk) (by kernel_rfl) (laid_metE os _))) ?_
  intro W base args ds gs before hval hW _ _ hsz hL _ _
  exact parseExprBack_contract H enc W base args ds gs before hval hW hsz hL
theorem parseExprBack_said : Rows.ParseExprBackSaid :=
  OpenClaim.holds_of_cond 6 Tryz.f6 rfl rfl rfl rfl rfl rfl rfl ⟨rfl, rfl, rfl, rfl, rfl⟩ rfl rfl rfl rfl rfl (by kernel_rfl) Tryz.func6 (by kernel_rfl)
    (of_decide_eq_true (by kernel_rfl)) (by unfold Func.isWrapper; first | (rw [if_pos (by decide +kernel)]; kernel_rfl) | (rw [if_neg (by decide +kernel)]; exact ⟨rfl, rfl⟩))
    (fun os started H enc _ F => by rw [OpenClaim.pre_eq_preRow]; exact parseExprBack_lifted os started H enc F)
theorem parseExprBack_plain (f : FuncId) (fn : Func) (hf : Tryz.pinned.checked.prog.funcNamed "vigil/vigillaw04.ParseExprBack" = some f) (hfn : Tryz.pinned.checked.prog.funcs[f]? = some fn) :
    true = Tryz.pinned.checked.prog.looks [] ∧ ∀ (j : Nat) t, fn.params[j]? = some t → Tryz.pinned.checked.prog.wantsStandIn t = false := by
  obtain rfl : f = 6 := Option.some.inj ((show Tryz.prog.funcNamed "vigil/vigillaw04.ParseExprBack" = some 6 by kernel_rfl).symm.trans hf) |>.symm
  obtain rfl : fn = Tryz.f6 := (Option.some.inj (Tryz.func6.symm.trans hfn)).symm
  refine ⟨by kernel_rfl, fun j t ht => ?_⟩
  rw [Tryz.params6] at ht
  obtain rfl : t = 25 := by simpa using Array.mem_of_getElem? ht
  exact (show Tryz.prog.wantsStandIn 25 = false by kernel_rfl)
theorem parseExprBack_card : Rows.ParseExprBackCardSaid :=
  Claim7.holds_tied_plain_at .later [] _ _ _ _ parseExprBack_said (fun _ h => by cases h) (by kernel_rfl) (fun _ h => by cases h) parseExprBack_row_tie rfl ⟨rfl, rfl⟩ (by kernel_rfl) rfl parseExprBack_plain (by kernel_rfl)
end Go.Proofs.YtaekbgljbgmchaaGreatDoor
