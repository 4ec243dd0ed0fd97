/-
  For every text the statement ParseTokens hands back true: what is parsed hangs on the tokens alone, but for places.
  Condition: the six listed variables (ErrSyntax and ErrRange of strconv; uint64pow10 of internal/strconv; deBruijn32tab and deBruijn64tab of math/bits; operators of package parse) hold at the start what the program's own text lays there (the card ties them to the pruned copy of the project; nothing is said of its other packages).
-/
import Derived.Test.YtaekbgljbgmchaaGreatDoorPzPw
import Derived.Test.YtaekbgljbgmchaaGreatDoorPzMt
import Derived.Test.YtaekbgljbgmchaaGreatDoorPzMr
import Derived.Test.YtaekbgljbgmchaaGreatDoorPzSt
import Derived.Test.YtaekbgljbgmchaaGreatDoorTrA
import Derived.Test.YtaekbgljbgmchaaGreatDoorTrB
import Derived.Test.YtaekbgljbgmchaaGreatDoorLxD
import Derived.Test.YtaekbgljbgmchaaGreatDoorPzA
import Derived.Test.YtaekbgljbgmchaaGreatDoorLxH
import Derived.Test.YtaekbgljbgmchaaGreatDoorCards
import Derived.Test.YtaekbgljbgmchaaGreatDoorTie
import Derived.Test.YtaekbgljbgmchaaGreatDoorPzE
import Derived.ProofKit
import Derived.OpenShut
import Derived.LaidLaws
import Derived.Deep.DeepHandedRow
import Derived.Stop.LaidErr
import Derived.SizedLaws
namespace Go.Proofs.YtaekbgljbgmchaaGreatDoor
open Go.RowKit
open Lx (Out)
open Pz
theorem le_monitor (f : Nat) (s : S) : Le s (Pz.monitor f s).2 := (le_take s 1).trans (le_enclosed _ _ _ _ (le_members f _))
theorem le_role (f : Nat) (s : S) : Le s (Pz.role f s).2 := by
  unfold Pz.role
  dsimp only
  split
  · exact ((le_take s 1).trans (le_pass _)).trans (le_blockF f _)
  · exact ((le_take s 1).trans (le_take _ 2)).trans (le_blockF f _)
theorem Bd.of_le {s s' : S} (h : Bd s) (hl : Le s s') : Bd s' := ⟨by rw [hl.1]; exact h.1, by have := h.2; have := hl.2; rw [hl.1]; omega⟩
theorem method_c (f b g cap : Nat) (toks : List Out) (s : S) (w : World) (h : At b g cap toks s w) (hO : Opers w) (hb2 : b ≠ 2) (hB : Bd s) (hF : 3 * s.rest.length + 3 ≤ f) : Calls Tryz.prog 160 #[.pointer (some ⟨b, 0, none⟩)] w (MeBk b g cap toks (Pz.method f s) w) :=
  method_any (blockF f (s.take 1).2) b g cap toks s w h (fun W hW kW => block_any f b g cap toks (s.take 1).2 W hW (hO.kp kW hb2) hb2 (hB.of_le (le_take s 1)) (by have := (le_take s 1).2; omega))
theorem role_c (f b g cap : Nat) (toks : List Out) (s : S) (w : World) (h : At b g cap toks s w) (hO : Opers w) (hb2 : b ≠ 2) (hB : Bd s) (hF : 3 * s.rest.length + 3 ≤ f) : Calls Tryz.prog 73 #[.pointer (some ⟨b, 0, none⟩)] w (RoBk b g cap toks (Pz.role f s) w) :=
  role_any (blockF f (s.take 1).2.pass) (blockF f ((s.take 1).2.take 2).2) b g cap toks s w h
    (fun _ W hW kW => block_any f b g cap toks (s.take 1).2.pass W hW (hO.kp kW hb2) hb2 (hB.of_le ((le_take s 1).trans (le_pass _))) (by have := ((le_take s 1).trans (le_pass _)).2; omega))
    (fun _ W hW kW => block_any f b g cap toks ((s.take 1).2.take 2).2 W hW (hO.kp kW hb2) hb2 (hB.of_le ((le_take s 1).trans (le_take _ 2))) (by have := ((le_take s 1).trans (le_take (s.take 1).2 2)).2; omega))
theorem monitor_c (f b g cap : Nat) (toks : List Out) (s : S) (w : World) (h : At b g cap toks s w) (hn : Nn toks) (hO : Opers w) (hb2 : b ≠ 2) (hB : Bd s) (hF : 3 * s.rest.length + 3 ≤ f) : Calls Tryz.prog 71 #[.pointer (some ⟨b, 0, none⟩)] w (MoBk b g cap toks (Pz.monitor f s) w) := by
  have hT := hB.of_le (le_take s 1)
  have hTl := (le_take s 1).2
  have hen := enter_len (s.take 1).2 s_lbr
  refine monitor_any (enclosed s_lbr (members f) s_rbr (s.take 1).2) b g cap toks s w h (fun W hW kW => ?_)
  refine enclosed_members (.func (.func 119) #[.pointer (some ⟨b, 0, none⟩)] #[]) (within s_lbr (members f) (s.take 1).2) s_lbr s_rbr b g cap toks (s.take 1).2 W hW (fun V hV kV => ?_)
  refine within_members (members f) s_lbr b g cap toks (s.take 1).2 V hV ⟨hT.1, by have := hT.2; omega⟩ (by rw [(le_members f _).1, enter_opn]) (fun U hU kU => ?_)
  refine members_any f b g cap toks ((s.take 1).2.enter s_lbr) U hU hn (fun s' X hl hlt hX kX => ?_)
  exact method_c f b g cap toks s' X hX ((((hO.kp kW hb2).kp kV hb2).kp kU hb2).kp kX hb2) hb2 ⟨by rw [hl.1, enter_opn]; have := hT.1; omega, by rw [hl.1, enter_opn]; have := hT.2; omega⟩ (by omega)
set_option maxRecDepth 100000 in
set_option maxHeartbeats 2000000 in
theorem parse_any (s : ByteArray) (w : World) (hs : s.size ≤ 20000) (hE : HasErr w) (hO : Opers w) :
    Calls Tryz.prog 14 #[.string s] w fun r w' => PrOut (wholeOfP (Pz.program (reader s))) w r w' ∧ Below w.heap.size w w' := by
  have bR := newB w #[.slice none 0 0, .slice none 0 0] 37
  have h1 := newReader_any s (w.alloc (.cells #[.slice none 0 0, .slice none 0 0] 37)) hs (hE.alloc _)
  have hO1 := hO.al (.cells #[.slice none 0 0, .slice none 0 0] 37)
  have h35 : ∀ b g cap toks W, At b g cap toks (reader s) W → Nn toks → b ≠ 2 → Opers W → (reader s).rest.length ≤ 20001 → Calls Tryz.prog 35 #[.pointer (some ⟨b, 0, none⟩), .func (.func 36) #[.pointer (some ⟨b, 0, none⟩)] #[]] W fun r w' => PrOut (wholeOfP (Pz.program (reader s))) W r w' ∧ Kp b W w' := fun b g cap toks W hA hn hb hOW hl => by
    have h0 : (reader s).opn = 0 := by unfold reader; split <;> rfl
    have hB : Bd (reader s) := ⟨by rw [h0]; decide, by rw [h0]; omega⟩
    refine whole_prog (Pz.program (reader s)) b g cap toks (reader s) W hA (fun V hV kV => ?_)
    refine program_any (fuel (reader s)) b g cap toks (reader s) V hV (le_monitor _) (le_role _) (fun s' X hl hlt hX kX => ?_) (fun s' X hl hlt hX kX => ?_)
    · exact monitor_c _ b g cap toks s' X hX hn ((hOW.kp kV hb).kp kX hb) hb (hB.of_le hl) (by unfold fuel; omega)
    · exact role_c _ b g cap toks s' X hX ((hOW.kp kV hb).kp kX hb) hb (hB.of_le hl) (by unfold fuel; omega)
  obtain ⟨X, hX⟩ : ∃ X, wholeOfP (Pz.program (reader s)) = X := ⟨_, rfl⟩
  simp only [hX] at h35
  rw [hX]
  clear hX
  go_enter Tryz.func14, Tryz.ntmps14
  go_wp2_with (first
      | (go_at_call 28; (with_reducible refine h1.mono ?_); rintro r w1 ⟨b, g, gcap, toks, rfl, A, hnn, hb, hg, hlen, hre, b1⟩; have bR := bel_box bR b1; have hO2 := hO1.below b1; have hl2 := hO.2; simp only [World.size_alloc] at hb; have hb2 : b ≠ 2 := (by omega); have hne : w.heap.size ≠ b := (by omega); have B1 := (bel_al w (.cells #[.slice none 0 0, .slice none 0 0] 37)).trans (b1.mono (by simp)); have hz1 := ltB bR)
      | (go_at_call 35; (with_reducible refine (h35 b g gcap toks _ A hnn hb2 hO2 hlen).mono ?_); rintro r w3 ⟨⟨mad, mcp, lm, rad, rcp, lr, rfl, hclr, hBy⟩, k⟩; have bR := k.box bR hne; obtain ⟨x0, x1, xf, xl⟩ := two bR))
  refine bodyPost_ret (v := .tuple #[.agg #[.slice mad lm.length mcp, .slice rad lr.length rcp], .int .i64 X.2.1, .int .i64 X.2.2]) ?_ rfl ⟨⟨mad, mcp, lm, rad, rcp, lr, rfl, hclr, ?_⟩, ?_⟩
  · simp [results, Tryz.results14, go_sem, x0, x1]
  · refine (Pr.By.kq hBy ?_).mono (Nat.le_of_lt hz1)
    repeat (first | with_reducible refine Kq.set ?_ (.inl (from_not hz1)) _ | with_reducible refine Kq.al ?_ _)
    with_reducible exact Kq.refl _ _
  · repeat (refine Below.setCell ?_ (by simp) _)
    exact B1.trans ⟨k.os, k.tape, k.output, k.size, fun i hi => k.block i (by omega) (by omega)⟩
end Go.Proofs.YtaekbgljbgmchaaGreatDoor
namespace Go.Proofs.YtaekbgljbgmchaaGreatDoor
open Go.RowKit
open Lx (Out)
open Pz
namespace Pz
def opOf : Ex → Int | .mk op _ _ _ _ _ _ _ => op
def nOf : Ex → Int | .mk _ _ _ n _ _ _ _ => n
def kidsOf : Ex → List Ex | .mk _ _ _ _ _ _ kids _ => kids
def bodyLen (r : Ro) : Nat := r.body.body.length
end Pz
theorem live1 : (wholeOf (Pz.expr (reader ⟨#[97, 46, 120, 32, 43, 32, 50, 32, 42, 32, 97, 46, 121]⟩))).2 = (0, 0) ∧ opOf (wholeOf (Pz.expr (reader ⟨#[97, 46, 120, 32, 43, 32, 50, 32, 42, 32, 97, 46, 121]⟩))).1 = 8 ∧ (kidsOf (wholeOf (Pz.expr (reader ⟨#[97, 46, 120, 32, 43, 32, 50, 32, 42, 32, 97, 46, 121]⟩))).1).map opOf = [4, 7] ∧ (kidsOf (wholeOf (Pz.expr (reader ⟨#[97, 46, 120, 32, 43, 32, 50, 32, 42, 32, 97, 46, 121]⟩))).1).map nOf = [0, 2] := ⟨by kernel_rfl, by kernel_rfl, by kernel_rfl, by kernel_rfl⟩
theorem live2 : (wholeOfP (Pz.program (reader ⟨#[116, 104, 114, 101, 97, 100, 32, 116, 32, 49, 32, 123, 32, 115, 107, 105, 112, 32, 125]⟩))).2 = (40, 18) := by kernel_rfl
theorem live3 : (wholeOfP (Pz.program (reader ⟨#[116, 104, 114, 101, 97, 100, 32, 116, 32, 42, 32, 123, 32, 115, 107, 105, 112, 59, 32, 125]⟩))).2 = (0, 0) ∧ (wholeOfP (Pz.program (reader ⟨#[116, 104, 114, 101, 97, 100, 32, 116, 32, 42, 32, 123, 32, 115, 107, 105, 112, 59, 32, 125]⟩))).1.roles.map (fun r => (r.star, bodyLen r)) = [(true, 1)] := ⟨by kernel_rfl, by kernel_rfl⟩
theorem kid_row {n₀ : Nat} {W : World} {ad : Option Addr} {cap : Nat} {l : List Ex} (h : SlAt 6 Ex.cells n₀ W ad cap l) (h1 : l.map opOf = [4, 7]) (h2 : l.map nOf = [0, 2]) : ∃ g off, ad = some ⟨g, off, none⟩ ∧ l.length = 2 ∧ g < n₀ ∧ W.cell? ⟨g, off + 6, none⟩ = some (.int .i64 7) ∧ W.cell? ⟨g, off + 9, none⟩ = some (.int .i64 2) := by
  rcases l with _ | ⟨x, _ | ⟨⟨op, mon, name, n, kad, kcap, kids, pos⟩, _ | ⟨y, l⟩⟩⟩
  · simp at h1
  · simp at h1
  · obtain ⟨-, -, h | ⟨g, off, rfl, hg, hr⟩⟩ := h
    · cases h
    · simp [opOf, nOf] at h1 h2
      obtain ⟨-, rfl⟩ := h1
      obtain ⟨-, rfl⟩ := h2
      refine ⟨g, off, rfl, rfl, hg, ?_, ?_⟩
      · have := hr 1 (by simp) 0 (by omega); simpa [Ex.cells] using this
      · have := hr 1 (by simp) 3 (by omega); simpa [Ex.cells] using this
  · simp at h1
theorem role_row {n₀ : Nat} {W : World} {ad : Option Addr} {cap : Nat} {l : List Ro} (h : SlAt 5 Ro.cells n₀ W ad cap l) (h1 : (l.map Ro.clr).map (fun r => (r.star, bodyLen r)) = [(true, 1)]) : ∃ g off bad bcp, ad = some ⟨g, off, none⟩ ∧ l.length = 1 ∧ g < n₀ ∧ W.cell? ⟨g, off + 1, none⟩ = some (.bool true) ∧ W.cell? ⟨g, off + 3, none⟩ = some (.slice bad 1 bcp) := by
  rcases l with _ | ⟨⟨nm, star, cnt, ⟨bad, bcp, body⟩, pos⟩, _ | ⟨y, l⟩⟩
  · simp at h1
  · obtain ⟨-, -, h | ⟨g, off, rfl, hg, hr⟩⟩ := h
    · cases h
    · simp [bodyLen, Ro.clr, Bl.clr, Bl.body, St.clrL_eq] at h1
      obtain ⟨rfl, hb⟩ := h1
      refine ⟨g, off, bad, bcp, rfl, rfl, hg, ?_, ?_⟩
      · have := hr 0 (by simp) 1 (by omega); simpa [Ro.cells] using this
      · have := hr 0 (by simp) 3 (by omega); simpa [Ro.cells, Bl.slice, Bl.body, hb] using this
  · simp at h1
theorem opOf_clr (e : Ex) : opOf e.clr = opOf e := by cases e; rw [Ex.clr]; rfl
theorem nOf_clr (e : Ex) : nOf e.clr = nOf e := by cases e; rw [Ex.clr]; rfl
theorem expr1 (w : World) (hE : HasErr w) (hO : Opers w) : Calls Tryz.prog 10 #[.string ⟨#[97, 46, 120, 32, 43, 32, 50, 32, 42, 32, 97, 46, 121]⟩] w fun r w' => (∃ mon name n g off cp pos, r = .returned (.tuple #[.agg #[.int .i64 8, .string mon, .string name, .int .i64 n, .slice (some ⟨g, off, none⟩) 2 cp, .int .i64 pos], .int .i64 0, .int .i64 0]) ∧ g < w'.heap.size ∧ w'.cell? ⟨g, off + 6, none⟩ = some (.int .i64 7) ∧ w'.cell? ⟨g, off + 9, none⟩ = some (.int .i64 2)) ∧ Below w.heap.size w w' := by
  refine (parseExpr_any ⟨#[97, 46, 120, 32, 43, 32, 50, 32, 42, 32, 97, 46, 121]⟩ w (by decide) hE hO).mono ?_
  rintro r w1 ⟨⟨op, mon, name, n, ad, cp, kids, pos, rfl, hclr, hBy⟩, b1⟩
  obtain ⟨l1, l2, l3, l4⟩ := live1
  rw [← hclr] at l2 l3 l4
  rw [l1]
  rw [opOf_clr] at l2
  rw [Ex.clr] at l3 l4
  simp only [kidsOf, Ex.clrL_eq, List.map_map] at l3 l4
  rw [show opOf ∘ Ex.clr = opOf from funext opOf_clr] at l3
  rw [show nOf ∘ Ex.clr = nOf from funext nOf_clr] at l4
  have hsl := (Ex.Is.down hBy.is).2.1
  obtain ⟨g, off, rfl, hl, hg, c1, c2⟩ := kid_row hsl l3 l4
  have l2 : op = 8 := l2
  subst l2
  rw [hl]
  exact ⟨⟨mon, name, n, g, off, cp, pos, rfl, hg, c1, c2⟩, b1⟩
theorem Pr.By.is {Q : Nat → Bool} {w : World} {e : Pr} (h : e.By Q w) : e.Is w.heap.size w := Pr.Is.carry (fun k o v hv => (only_cell Q w k o v hv).2.2) h
theorem prog2 (w : World) (hE : HasErr w) (hO : Opers w) : Calls Tryz.prog 14 #[.string ⟨#[116, 104, 114, 101, 97, 100, 32, 116, 32, 49, 32, 123, 32, 115, 107, 105, 112, 32, 125]⟩] w fun r w' => (∃ a1 a2 n1 n2 k1 k2, r = .returned (.tuple #[.agg #[.slice a1 n1 k1, .slice a2 n2 k2], .int .i64 40, .int .i64 18])) ∧ Below w.heap.size w w' := by
  refine (parse_any ⟨#[116, 104, 114, 101, 97, 100, 32, 116, 32, 49, 32, 123, 32, 115, 107, 105, 112, 32, 125]⟩ w (by decide) hE hO).mono ?_
  rintro r w1 ⟨⟨mad, mcp, lm, rad, rcp, lr, rfl, hclr, hBy⟩, b1⟩
  rw [live2]
  exact ⟨⟨_, _, _, _, _, _, rfl⟩, b1⟩
theorem prog3 (w : World) (hE : HasErr w) (hO : Opers w) : Calls Tryz.prog 14 #[.string ⟨#[116, 104, 114, 101, 97, 100, 32, 116, 32, 42, 32, 123, 32, 115, 107, 105, 112, 59, 32, 125]⟩] w fun r w' => (∃ a1 n1 k1 g off rcp bad bcp, r = .returned (.tuple #[.agg #[.slice a1 n1 k1, .slice (some ⟨g, off, none⟩) 1 rcp], .int .i64 0, .int .i64 0]) ∧ g < w'.heap.size ∧ w'.cell? ⟨g, off + 1, none⟩ = some (.bool true) ∧ w'.cell? ⟨g, off + 3, none⟩ = some (.slice bad 1 bcp)) ∧ Below w.heap.size w w' := by
  refine (parse_any ⟨#[116, 104, 114, 101, 97, 100, 32, 116, 32, 42, 32, 123, 32, 115, 107, 105, 112, 59, 32, 125]⟩ w (by decide) hE hO).mono ?_
  rintro r w1 ⟨⟨mad, mcp, lm, rad, rcp, lr, rfl, hclr, hBy⟩, b1⟩
  obtain ⟨l1, l2⟩ := live3
  rw [← hclr] at l2
  rw [l1]
  obtain ⟨g, off, bad, bcp, rfl, hl, hg, c1, c2⟩ := role_row hBy.is.2.1 l2
  dsimp only at hl
  rw [hl]
  exact ⟨⟨_, _, _, g, off, rcp, bad, bcp, rfl, hg, c1, c2⟩, b1⟩
set_option maxRecDepth 100000 in
set_option maxHeartbeats 2000000 in
theorem num_c (e : Int) (w : World) : Calls Tryz.prog 13 #[.int .i64 e] w fun r w' => r = .returned (.int .i64 e) ∧ w' = w := by
  go_enter Tryz.func13, Tryz.ntmps13
  go_wp2
  go_ret
  exact ⟨rfl, rfl⟩
set_option maxRecDepth 100000 in
set_option maxHeartbeats 2000000 in
theorem live_any (w : World) (hE : HasErr w) (hO : Opers w) : Calls Tryz.prog 9 #[] w fun r w' => r = .returned (.bool true) ∧ Below w.heap.size w w' := by
  go_enter Tryz.func9, Tryz.ntmps9
  go_wp2_with (first
      | (go_at_call 10; (with_reducible refine (expr1 _ hE hO).mono ?_); rintro r w1 ⟨⟨mon, name, n, g, off, cp, pos, rfl, hg, c1, c2⟩, b1⟩; have E1 := hE.after b1; have O1 := hO.below b1)
      | (go_at_call 14; (with_reducible refine (prog2 _ (E1.alloc _) (O1.al _)).mono ?_); rintro r w2 ⟨⟨p1, p2, m1, m2, k1, k2, rfl⟩, b2⟩; have E2 := (E1.alloc _).after b2; have O2 := (O1.al _).below b2; have B12 : Below w1.heap.size w1 w2 := Below.trans (bel_al w1 _) (b2.mono (by simp)); have bE := bel_box (newB w1 _ _) b2; have c1 := (Below.cell B12 (p := ⟨g, off + 6, none⟩) hg).trans c1; have c2 := (Below.cell B12 (p := ⟨g, off + 9, none⟩) hg).trans c2; have hg := Nat.lt_of_lt_of_le hg B12.size)
      | (go_at_call 14; (with_reducible refine (prog3 _ (E2.alloc _) (O2.al _)).mono ?_); rintro r w3 ⟨⟨p3, m3, k3, g3, off3, rcp, bad, bcp, rfl, hg3, d1, d2⟩, b3⟩; have B23 : Below w2.heap.size w2 w3 := Below.trans (bel_al w2 _) (b3.mono (by simp)); have bE := bel_box bE B23; have c1 := (Below.cell B23 (p := ⟨g, off + 6, none⟩) hg).trans c1; have c2 := (Below.cell B23 (p := ⟨g, off + 9, none⟩) hg).trans c2; have hg := Nat.lt_of_lt_of_le hg B23.size; have B34 := bel_al w3 (.cells #[.slice p3 m3 k3, .slice (some ⟨g3, off3, none⟩) 1 rcp] 37); have bP := newB w3 #[.slice p3 m3 k3, .slice (some ⟨g3, off3, none⟩) 1 rcp] 37; have bE := bel_box bE B34; have c1 := (Below.cell B34 (p := ⟨g, off + 6, none⟩) hg).trans c1; have c2 := (Below.cell B34 (p := ⟨g, off + 9, none⟩) hg).trans c2; have d1 := (Below.cell B34 (p := ⟨g3, off3 + 1, none⟩) hg3).trans d1; have d2 := (Below.cell B34 (p := ⟨g3, off3 + 3, none⟩) hg3).trans d2; obtain ⟨x0, x1, x2, x3, x4, x5, xf, xl⟩ := six bE; obtain ⟨y0, y1, yf, yl⟩ := two bP; have B := (b1.trans (B12.mono b1.size)).trans ((B23.mono (Nat.le_trans b1.size B12.size)).trans (B34.mono (Nat.le_trans b1.size (Nat.le_trans B12.size B23.size)))))
      | (go_at_call 13; (with_reducible refine (num_c _ _).mono ?_); rintro r w4 ⟨rfl, rfl⟩))
  go_ret
  exact ⟨rfl, B⟩
end Go.Proofs.YtaekbgljbgmchaaGreatDoor
namespace Go.Proofs.YtaekbgljbgmchaaGreatDoor
open Go.RowKit
theorem row6 {α : Type} {cells : α → List Value} {W : World} {b off : Nat} {l : List α} (h : RowAt 6 cells W b off l) (k : Nat) (hk : k < l.length) {c0 c1 c2 c3 c4 c5 : Value} (hc : cells l[k] = [c0, c1, c2, c3, c4, c5]) :
    W.cell? ⟨b, off + k * 6, none⟩ = some c0 ∧ W.cell? ⟨b, off + k * 6 + 1, none⟩ = some c1 ∧ W.cell? ⟨b, off + k * 6 + 2, none⟩ = some c2 ∧ W.cell? ⟨b, off + k * 6 + 3, none⟩ = some c3 ∧ W.cell? ⟨b, off + k * 6 + 4, none⟩ = some c4 ∧ W.cell? ⟨b, off + k * 6 + 5, none⟩ = some c5 := by
  have h' := h k hk
  rw [hc] at h'
  exact ⟨h' 0 (by omega), h' 1 (by omega), h' 2 (by omega), h' 3 (by omega), h' 4 (by omega), h' 5 (by omega)⟩
set_option maxRecDepth 100000 in
set_option maxHeartbeats 1000000 in
theorem eqf38 (f : Ex → Ex → Bool) (n₀ : Nat) (xs ys : List Ex) (ad ad' : Option Addr) (cap cap' : Nat) (w : World) (hn : n₀ ≤ w.heap.size) (ha : SlAt 6 Ex.cells n₀ w ad cap xs) (hb : SlAt 6 Ex.cells n₀ w ad' cap' ys)
    (heq : ∀ (k : Nat) (h1 : k < xs.length) (h2 : k < ys.length) W, Below n₀ w W → Calls Tryz.prog 24 #[xs[k].val, ys[k].val] W fun e W' => e = .returned (.bool (f xs[k] ys[k])) ∧ Below W.heap.size W W') :
    Calls Tryz.prog 56 #[.slice ad xs.length cap, .slice ad' ys.length cap', .func (.func 24) #[] #[]] w fun e w' => e = .returned (.bool (all2 f xs ys)) ∧ Below w.heap.size w w' := by
  have hl1 := ha.1; have hl2 := ha.2.1; have hl3 := hb.1; have hl4 := hb.2.1
  unfold maxLen at hl2 hl4
  by_cases hlen : xs.length = ys.length
  · have hlb : ((xs.length : Int) != (ys.length : Int)) = false := by rw [bne_eq_false_iff_eq]; omega
    have HLEN := hid hlen
    clear hlen
    go_enter Tryz.func56, Tryz.ntmps56
    go_wp2
    go_loopw [17] (fun i wr => ∃ k : Nat, k ≤ xs.length ∧ i = .int .i64 k ∧ Hid (all2 f (xs.take k) (ys.take k) = true) ∧ Below w.heap.size w wr) (fun i _ => xs.length - (intOf i).toNat)
    case atStart => exact ⟨0, by omega, rfl, rfl, Below.refl _ _⟩
    case round =>
      obtain ⟨k, hk, rfl, HA, hbw⟩ := hrel
      by_cases hlt : k < xs.length
      · have hlt' : k < ys.length := by have := HLEN.out; omega
        rcases ha.2.2 with h | ⟨b, off, rfl, hbn, hrow⟩
        · subst h; simp at hlt
        rcases hb.2.2 with h | ⟨b', off', rfl, hbn', hrow'⟩
        · subst h; simp at hlt'
        have hbn1 : b < wr.heap.size := by have := hbw.size; omega
        have hbn2 : b' < wr.heap.size := by have := hbw.size; omega
        have hq := heq k hlt hlt'
        have HS := hid (all2_snoc f xs ys k hlt hlt')
        have HC := hid (all2_cut f xs ys k hlt hlt')
        have hr := hrow.below (hbw.mono hn) hbn
        have hr' := hrow'.below (hbw.mono hn) hbn'
        rcases he : xs[k] with ⟨op, mon, name, n, ad, cp, kids, pos⟩
        rcases he' : ys[k] with ⟨op', mon', name', n', ad', cp', kids', pos'⟩
        obtain ⟨c0, c1, c2, c3, c4, c5⟩ := row6 hr k hlt (by rw [he]; rfl)
        obtain ⟨d0, d1, d2, d3, d4, d5⟩ := row6 hr' k hlt' (by rw [he']; rfl)
        simp only [he, he', Ex.val, Ex.cells] at hq
        have HF := hid he
        have HF' := hid he'
        clear he he'
        cases hf : f xs[k] ys[k]
        · have hf2 := hf
          rw [HF.out, HF'.out] at hf2
          rw [hf2] at hq
          go_wp2_with (go_at_call 24; refine (hq _ (((hbw.mono hn).al hn _).al hn _)).mono ?_; rintro e w1 ⟨rfl, hb1⟩)
          go_ret
          exact ⟨ret_bool (HC.out hf).symm, ((hbw.al le_rfl' _).al le_rfl' _).tr le_rfl' hb1⟩
        · have hf2 := hf
          rw [HF.out, HF'.out] at hf2
          rw [hf2] at hq
          go_wp2_with (go_at_call 24; refine (hq _ (((hbw.mono hn).al hn _).al hn _)).mono ?_; rintro e w1 ⟨rfl, hb1⟩)
          go_roundw
          case rel => exact ⟨k + 1, by omega, by go_num, by rw [HS.out, HA.out, hf]; rfl, ((hbw.al le_rfl' _).al le_rfl' _).tr le_rfl' hb1⟩
          case measure => simp [intOf]; omega
      · have hk' : k = xs.length := by omega
        go_wp2
        go_ret
        refine ⟨ret_bool ?_, hbw⟩
        have := HA.out
        rw [hk', List.take_length, HLEN.out, List.take_length] at this
        exact this.symm
  · have hlb : ((xs.length : Int) != (ys.length : Int)) = true := by rw [bne_iff_ne]; omega
    have HL := hid (all2_len f xs ys hlen)
    go_enter Tryz.func56, Tryz.ntmps56
    go_wp2
    go_ret
    exact ⟨ret_bool HL.out.symm, Below.refl _ _⟩
theorem same_mk (op op' : Int) (mon name mon' name' : ByteArray) (n n' : Int) (ad ad' : Option Addr) (cap cap' : Nat) (kids kids' : List Ex) (pos pos' : Int) :
    (Ex.mk op mon name n ad cap kids pos).same (Ex.mk op' mon' name' n' ad' cap' kids' pos') = ((op == op') && (mon.toList == mon'.toList) && (name.toList == name'.toList) && (n == n') && all2 Ex.same kids kids') := by
  rw [Ex.same, Ex.sameL_eq]
set_option maxRecDepth 100000 in
set_option maxHeartbeats 1000000 in
theorem sameExpr_any (n₀ : Nat) (a : Ex) : ∀ (b : Ex) (w : World), n₀ ≤ w.heap.size → a.Is n₀ w → b.Is n₀ w →
    Calls Tryz.prog 24 #[a.val, b.val] w fun e w' => e = .returned (.bool (a.same b)) ∧ Below w.heap.size w w' := by
  induction a using Ex.ind with
  | h op mon name n ad cap kids pos ih =>
    rintro ⟨op', mon', name', n', ad', cap', kids', pos'⟩ w hn ha hb
    have hS := same_mk op op' mon name mon' name' n n' ad ad' cap cap' kids kids' pos pos'
    have HS := hid hS
    clear hS
    simp only [Ex.val, Ex.cells]
    cases h1 : (op == op')
    · go_enter Tryz.func24, Tryz.ntmps24
      go_wp2
      go_ret
      exact ⟨ret_bool (by rw [HS.out, h1]; rfl), ((Below.refl _ _).al le_rfl' _).al le_rfl' _⟩
    cases h2 : (mon.toList == mon'.toList)
    · go_enter Tryz.func24, Tryz.ntmps24
      go_wp2
      go_ret
      exact ⟨ret_bool (by rw [HS.out, h1, h2]; rfl), ((Below.refl _ _).al le_rfl' _).al le_rfl' _⟩
    cases h3 : (name.toList == name'.toList)
    · go_enter Tryz.func24, Tryz.ntmps24
      go_wp2
      go_ret
      exact ⟨ret_bool (by rw [HS.out, h1, h2, h3]; rfl), ((Below.refl _ _).al le_rfl' _).al le_rfl' _⟩
    cases h4 : (n == n')
    · go_enter Tryz.func24, Tryz.ntmps24
      go_wp2
      go_ret
      exact ⟨ret_bool (by rw [HS.out, h1, h2, h3, h4]; rfl), ((Below.refl _ _).al le_rfl' _).al le_rfl' _⟩
    have hcall : ∀ W, Below n₀ w W → Calls Tryz.prog 56 #[.slice ad kids.length cap, .slice ad' kids'.length cap', .func (.func 24) #[] #[]] W fun e w' => e = .returned (.bool (all2 Ex.same kids kids')) ∧ Below W.heap.size W w' := fun W hW =>
      eqf38 Ex.same n₀ kids kids' ad ad' cap cap' W (by have := hW.size; omega) (ha.down.2.1.below hW) (hb.down.2.1.below hW)
        (fun k k1 k2 W' hW' => ih kids[k] (List.getElem_mem k1) kids'[k] W' (by have := hW.size; have := hW'.size; omega) ((ha.down.2.2 _ (List.getElem_mem k1)).below (hW.trans hW')) ((hb.down.2.2 _ (List.getElem_mem k2)).below (hW.trans hW')))
    clear ha hb ih
    go_enter Tryz.func24, Tryz.ntmps24
    go_wp2_with (go_at_call 56; refine (hcall _ (((Below.refl n₀ w).al hn _).al hn _)).mono ?_; rintro e w1 ⟨rfl, hb1⟩)
    go_ret
    exact ⟨ret_bool (by rw [HS.out, h1, h2, h3, h4]; rfl), (((Below.refl _ _).al le_rfl' _).al le_rfl' _).tr le_rfl' hb1⟩
end Go.Proofs.YtaekbgljbgmchaaGreatDoor
namespace Go.Proofs.YtaekbgljbgmchaaGreatDoor
open Go.RowKit
theorem row1 {α : Type} {cells : α → List Value} {W : World} {b off : Nat} {l : List α} (h : RowAt 1 cells W b off l) (k : Nat) (hk : k < l.length) {c0 : Value} (hc : cells l[k] = [c0]) :
    W.cell? ⟨b, off + k, none⟩ = some c0 := by
  have h' := h k hk
  rw [hc] at h'
  have h1 := h' 0 (by omega)
  rw [Nat.mul_one] at h1
  exact h1
theorem row3 {α : Type} {cells : α → List Value} {W : World} {b off : Nat} {l : List α} (h : RowAt 3 cells W b off l) (k : Nat) (hk : k < l.length) {c0 c1 c2 : Value} (hc : cells l[k] = [c0, c1, c2]) :
    W.cell? ⟨b, off + k * 3, none⟩ = some c0 ∧ W.cell? ⟨b, off + k * 3 + 1, none⟩ = some c1 ∧ W.cell? ⟨b, off + k * 3 + 2, none⟩ = some c2 := by
  have h' := h k hk
  rw [hc] at h'
  exact ⟨h' 0 (by omega), h' 1 (by omega), h' 2 (by omega)⟩
theorem row4 {α : Type} {cells : α → List Value} {W : World} {b off : Nat} {l : List α} (h : RowAt 4 cells W b off l) (k : Nat) (hk : k < l.length) {c0 c1 c2 c3 : Value} (hc : cells l[k] = [c0, c1, c2, c3]) :
    W.cell? ⟨b, off + k * 4, none⟩ = some c0 ∧ W.cell? ⟨b, off + k * 4 + 1, none⟩ = some c1 ∧ W.cell? ⟨b, off + k * 4 + 2, none⟩ = some c2 ∧ W.cell? ⟨b, off + k * 4 + 3, none⟩ = some c3 := by
  have h' := h k hk
  rw [hc] at h'
  exact ⟨h' 0 (by omega), h' 1 (by omega), h' 2 (by omega), h' 3 (by omega)⟩
theorem row5 {α : Type} {cells : α → List Value} {W : World} {b off : Nat} {l : List α} (h : RowAt 5 cells W b off l) (k : Nat) (hk : k < l.length) {c0 c1 c2 c3 c4 : Value} (hc : cells l[k] = [c0, c1, c2, c3, c4]) :
    W.cell? ⟨b, off + k * 5, none⟩ = some c0 ∧ W.cell? ⟨b, off + k * 5 + 1, none⟩ = some c1 ∧ W.cell? ⟨b, off + k * 5 + 2, none⟩ = some c2 ∧ W.cell? ⟨b, off + k * 5 + 3, none⟩ = some c3 ∧ W.cell? ⟨b, off + k * 5 + 4, none⟩ = some c4 := by
  have h' := h k hk
  rw [hc] at h'
  exact ⟨h' 0 (by omega), h' 1 (by omega), h' 2 (by omega), h' 3 (by omega), h' 4 (by omega)⟩
theorem row12 {α : Type} {cells : α → List Value} {W : World} {b off : Nat} {l : List α} (h : RowAt 12 cells W b off l) (k : Nat) (hk : k < l.length) {c0 c1 c2 c3 c4 c5 c6 c7 c8 c9 c10 c11 : Value} (hc : cells l[k] = [c0, c1, c2, c3, c4, c5, c6, c7, c8, c9, c10, c11]) :
    W.cell? ⟨b, off + k * 12, none⟩ = some c0 ∧ W.cell? ⟨b, off + k * 12 + 1, none⟩ = some c1 ∧ W.cell? ⟨b, off + k * 12 + 2, none⟩ = some c2 ∧ W.cell? ⟨b, off + k * 12 + 3, none⟩ = some c3 ∧ W.cell? ⟨b, off + k * 12 + 4, none⟩ = some c4 ∧ W.cell? ⟨b, off + k * 12 + 5, none⟩ = some c5 ∧ W.cell? ⟨b, off + k * 12 + 6, none⟩ = some c6 ∧ W.cell? ⟨b, off + k * 12 + 7, none⟩ = some c7 ∧ W.cell? ⟨b, off + k * 12 + 8, none⟩ = some c8 ∧ W.cell? ⟨b, off + k * 12 + 9, none⟩ = some c9 ∧ W.cell? ⟨b, off + k * 12 + 10, none⟩ = some c10 ∧ W.cell? ⟨b, off + k * 12 + 11, none⟩ = some c11 := by
  have h' := h k hk
  rw [hc] at h'
  exact ⟨h' 0 (by omega), h' 1 (by omega), h' 2 (by omega), h' 3 (by omega), h' 4 (by omega), h' 5 (by omega), h' 6 (by omega), h' 7 (by omega), h' 8 (by omega), h' 9 (by omega), h' 10 (by omega), h' 11 (by omega)⟩
set_option maxRecDepth 100000 in
set_option maxHeartbeats 1000000 in
theorem eqf45 (f : St → St → Bool) (n₀ : Nat) (xs ys : List St) (ad ad' : Option Addr) (cap cap' : Nat) (w : World) (hn : n₀ ≤ w.heap.size) (ha : SlAt 12 St.cells n₀ w ad cap xs) (hb : SlAt 12 St.cells n₀ w ad' cap' ys)
    (heq : ∀ (k : Nat) (h1 : k < xs.length) (h2 : k < ys.length) W, Below n₀ w W → Calls Tryz.prog 128 #[St.val xs[k], St.val ys[k]] W fun e W' => e = .returned (.bool (f xs[k] ys[k])) ∧ Below W.heap.size W W') :
    Calls Tryz.prog 127 #[.slice ad xs.length cap, .slice ad' ys.length cap', .func (.func 128) #[] #[]] w fun e w' => e = .returned (.bool (all2 f xs ys)) ∧ Below w.heap.size w w' := by
  have hl1 := ha.1; have hl2 := ha.2.1; have hl3 := hb.1; have hl4 := hb.2.1
  unfold maxLen at hl2 hl4
  by_cases hlen : xs.length = ys.length
  · have hlb : ((xs.length : Int) != (ys.length : Int)) = false := by rw [bne_eq_false_iff_eq]; omega
    have HLEN := hid hlen
    clear hlen
    go_enter Tryz.func127, Tryz.ntmps127
    go_wp2
    go_loopw [17] (fun i wr => ∃ k : Nat, k ≤ xs.length ∧ i = .int .i64 k ∧ Hid (all2 f (xs.take k) (ys.take k) = true) ∧ Below w.heap.size w wr) (fun i _ => xs.length - (intOf i).toNat)
    case atStart => exact ⟨0, by omega, rfl, rfl, Below.refl _ _⟩
    case round =>
      obtain ⟨k, hk, rfl, HA, hbw⟩ := hrel
      by_cases hlt : k < xs.length
      · have hlt' : k < ys.length := by have := HLEN.out; omega
        rcases ha.2.2 with h | ⟨b, off, rfl, hbn, hrow⟩
        · subst h; simp at hlt
        rcases hb.2.2 with h | ⟨b', off', rfl, hbn', hrow'⟩
        · subst h; simp at hlt'
        have hbn1 : b < wr.heap.size := by have := hbw.size; omega
        have hbn2 : b' < wr.heap.size := by have := hbw.size; omega
        have hq := heq k hlt hlt'
        have HS := hid (all2_snoc f xs ys k hlt hlt')
        have HC := hid (all2_cut f xs ys k hlt hlt')
        have hr := hrow.below (hbw.mono hn) hbn
        have hr' := hrow'.below (hbw.mono hn) hbn'
        rcases he : xs[k] with ⟨kind, mon, name, n, ⟨eop, emon, ename, en, ead, ecap, ekids, epos⟩, sad, scap, blocks, pos⟩
        rcases he' : ys[k] with ⟨kind', mon', name', n', ⟨eop', emon', ename', en', ead', ecap', ekids', epos'⟩, sad', scap', blocks', pos'⟩
        obtain ⟨c0, c1, c2, c3, c4, c5, c6, c7, c8, c9, c10, c11⟩ := row12 hr k hlt (by rw [he]; rfl)
        obtain ⟨d0, d1, d2, d3, d4, d5, d6, d7, d8, d9, d10, d11⟩ := row12 hr' k hlt' (by rw [he']; rfl)
        simp only [he, he', St.val, St.cells, Ex.cells, List.cons_append, List.nil_append] at hq
        have HF := hid he
        have HF' := hid he'
        clear he he'
        cases hf : f xs[k] ys[k]
        · have hf2 := hf
          rw [HF.out, HF'.out] at hf2
          rw [hf2] at hq
          clear hf2
          have HFF := hid hf
          clear hf
          go_wp2_with (go_at_call 128; refine (hq _ (((hbw.mono hn).al hn _).al hn _)).mono ?_; rintro e w1 ⟨rfl, hb1⟩)
          go_ret
          exact ⟨ret_bool (HC.out HFF.out).symm, ((hbw.al le_rfl' _).al le_rfl' _).tr le_rfl' hb1⟩
        · have hf2 := hf
          rw [HF.out, HF'.out] at hf2
          rw [hf2] at hq
          clear hf2
          have HFF := hid hf
          clear hf
          go_wp2_with (go_at_call 128; refine (hq _ (((hbw.mono hn).al hn _).al hn _)).mono ?_; rintro e w1 ⟨rfl, hb1⟩)
          go_roundw
          case rel => exact ⟨k + 1, by omega, by go_num, by rw [HS.out, HA.out, HFF.out]; rfl, ((hbw.al le_rfl' _).al le_rfl' _).tr le_rfl' hb1⟩
          case measure => simp [intOf]; omega
      · have hk' : k = xs.length := by omega
        go_wp2
        go_ret
        refine ⟨ret_bool ?_, hbw⟩
        have := HA.out
        rw [hk', List.take_length, HLEN.out, List.take_length] at this
        exact this.symm
  · have hlb : ((xs.length : Int) != (ys.length : Int)) = true := by rw [bne_iff_ne]; omega
    have HL := hid (all2_len f xs ys hlen)
    clear hlen
    go_enter Tryz.func127, Tryz.ntmps127
    go_wp2
    go_ret
    exact ⟨ret_bool HL.out.symm, Below.refl _ _⟩
set_option maxRecDepth 100000 in
set_option maxHeartbeats 1000000 in
theorem eqf67 (f : Bl → Bl → Bool) (n₀ : Nat) (xs ys : List Bl) (ad ad' : Option Addr) (cap cap' : Nat) (w : World) (hn : n₀ ≤ w.heap.size) (ha : SlAt 1 Bl.cells n₀ w ad cap xs) (hb : SlAt 1 Bl.cells n₀ w ad' cap' ys)
    (heq : ∀ (k : Nat) (h1 : k < xs.length) (h2 : k < ys.length) W, Below n₀ w W → Calls Tryz.prog 80 #[Bl.slice xs[k], Bl.slice ys[k]] W fun e W' => e = .returned (.bool (f xs[k] ys[k])) ∧ Below W.heap.size W W') :
    Calls Tryz.prog 165 #[.slice ad xs.length cap, .slice ad' ys.length cap', .func (.func 80) #[] #[]] w fun e w' => e = .returned (.bool (all2 f xs ys)) ∧ Below w.heap.size w w' := by
  have hl1 := ha.1; have hl2 := ha.2.1; have hl3 := hb.1; have hl4 := hb.2.1
  unfold maxLen at hl2 hl4
  by_cases hlen : xs.length = ys.length
  · have hlb : ((xs.length : Int) != (ys.length : Int)) = false := by rw [bne_eq_false_iff_eq]; omega
    have HLEN := hid hlen
    clear hlen
    go_enter Tryz.func165, Tryz.ntmps165
    go_wp2
    go_loopw [17] (fun i wr => ∃ k : Nat, k ≤ xs.length ∧ i = .int .i64 k ∧ Hid (all2 f (xs.take k) (ys.take k) = true) ∧ Below w.heap.size w wr) (fun i _ => xs.length - (intOf i).toNat)
    case atStart => exact ⟨0, by omega, rfl, rfl, Below.refl _ _⟩
    case round =>
      obtain ⟨k, hk, rfl, HA, hbw⟩ := hrel
      by_cases hlt : k < xs.length
      · have hlt' : k < ys.length := by have := HLEN.out; omega
        rcases ha.2.2 with h | ⟨b, off, rfl, hbn, hrow⟩
        · subst h; simp at hlt
        rcases hb.2.2 with h | ⟨b', off', rfl, hbn', hrow'⟩
        · subst h; simp at hlt'
        have hbn1 : b < wr.heap.size := by have := hbw.size; omega
        have hbn2 : b' < wr.heap.size := by have := hbw.size; omega
        have hq := heq k hlt hlt'
        have HS := hid (all2_snoc f xs ys k hlt hlt')
        have HC := hid (all2_cut f xs ys k hlt hlt')
        have hr := hrow.below (hbw.mono hn) hbn
        have hr' := hrow'.below (hbw.mono hn) hbn'
        rcases he : xs[k] with ⟨bad, bcap, body⟩
        rcases he' : ys[k] with ⟨bad', bcap', body'⟩
        have c0 := row1 hr k hlt (by rw [he]; rfl)
        have d0 := row1 hr' k hlt' (by rw [he']; rfl)
        simp only [Bl.slice] at c0 d0
        simp only [he, he', Bl.slice] at hq
        have HF := hid he
        have HF' := hid he'
        clear he he'
        cases hf : f xs[k] ys[k]
        · have hf2 := hf
          rw [HF.out, HF'.out] at hf2
          rw [hf2] at hq
          clear hf2
          have HFF := hid hf
          clear hf
          go_wp2_with (go_at_call 80; refine (hq _ (hbw.mono hn)).mono ?_; rintro e w1 ⟨rfl, hb1⟩)
          go_ret
          exact ⟨ret_bool (HC.out HFF.out).symm, hbw.tr le_rfl' hb1⟩
        · have hf2 := hf
          rw [HF.out, HF'.out] at hf2
          rw [hf2] at hq
          clear hf2
          have HFF := hid hf
          clear hf
          go_wp2_with (go_at_call 80; refine (hq _ (hbw.mono hn)).mono ?_; rintro e w1 ⟨rfl, hb1⟩)
          go_roundw
          case rel => exact ⟨k + 1, by omega, by go_num, by rw [HS.out, HA.out, HFF.out]; rfl, hbw.tr le_rfl' hb1⟩
          case measure => simp [intOf]; omega
      · have hk' : k = xs.length := by omega
        go_wp2
        go_ret
        refine ⟨ret_bool ?_, hbw⟩
        have := HA.out
        rw [hk', List.take_length, HLEN.out, List.take_length] at this
        exact this.symm
  · have hlb : ((xs.length : Int) != (ys.length : Int)) = true := by rw [bne_iff_ne]; omega
    have HL := hid (all2_len f xs ys hlen)
    clear hlen
    go_enter Tryz.func165, Tryz.ntmps165
    go_wp2
    go_ret
    exact ⟨ret_bool HL.out.symm, Below.refl _ _⟩
set_option maxRecDepth 100000 in
set_option maxHeartbeats 1000000 in
theorem eqf63 (f : Va → Va → Bool) (n₀ : Nat) (xs ys : List Va) (ad ad' : Option Addr) (cap cap' : Nat) (w : World) (hn : n₀ ≤ w.heap.size) (ha : SlAt 6 Va.cells n₀ w ad cap xs) (hb : SlAt 6 Va.cells n₀ w ad' cap' ys)
    (heq : ∀ (k : Nat) (h1 : k < xs.length) (h2 : k < ys.length) W, Below n₀ w W → Calls Tryz.prog 77 #[Va.val xs[k], Va.val ys[k]] W fun e W' => e = .returned (.bool (f xs[k] ys[k])) ∧ Below W.heap.size W W') :
    Calls Tryz.prog 76 #[.slice ad xs.length cap, .slice ad' ys.length cap', .func (.func 77) #[] #[]] w fun e w' => e = .returned (.bool (all2 f xs ys)) ∧ Below w.heap.size w w' := by
  have hl1 := ha.1; have hl2 := ha.2.1; have hl3 := hb.1; have hl4 := hb.2.1
  unfold maxLen at hl2 hl4
  by_cases hlen : xs.length = ys.length
  · have hlb : ((xs.length : Int) != (ys.length : Int)) = false := by rw [bne_eq_false_iff_eq]; omega
    have HLEN := hid hlen
    clear hlen
    go_enter Tryz.func76, Tryz.ntmps76
    go_wp2
    go_loopw [17] (fun i wr => ∃ k : Nat, k ≤ xs.length ∧ i = .int .i64 k ∧ Hid (all2 f (xs.take k) (ys.take k) = true) ∧ Below w.heap.size w wr) (fun i _ => xs.length - (intOf i).toNat)
    case atStart => exact ⟨0, by omega, rfl, rfl, Below.refl _ _⟩
    case round =>
      obtain ⟨k, hk, rfl, HA, hbw⟩ := hrel
      by_cases hlt : k < xs.length
      · have hlt' : k < ys.length := by have := HLEN.out; omega
        rcases ha.2.2 with h | ⟨b, off, rfl, hbn, hrow⟩
        · subst h; simp at hlt
        rcases hb.2.2 with h | ⟨b', off', rfl, hbn', hrow'⟩
        · subst h; simp at hlt'
        have hbn1 : b < wr.heap.size := by have := hbw.size; omega
        have hbn2 : b' < wr.heap.size := by have := hbw.size; omega
        have hq := heq k hlt hlt'
        have HS := hid (all2_snoc f xs ys k hlt hlt')
        have HC := hid (all2_cut f xs ys k hlt hlt')
        have hr := hrow.below (hbw.mono hn) hbn
        have hr' := hrow'.below (hbw.mono hn) hbn'
        rcases he : xs[k] with ⟨name, type, lo, hi, init, pos⟩
        rcases he' : ys[k] with ⟨name', type', lo', hi', init', pos'⟩
        obtain ⟨c0, c1, c2, c3, c4, c5⟩ := row6 hr k hlt (by rw [he]; rfl)
        obtain ⟨d0, d1, d2, d3, d4, d5⟩ := row6 hr' k hlt' (by rw [he']; rfl)
        simp only [he, he', Va.val, Va.cells] at hq
        have HF := hid he
        have HF' := hid he'
        clear he he'
        cases hf : f xs[k] ys[k]
        · have hf2 := hf
          rw [HF.out, HF'.out] at hf2
          rw [hf2] at hq
          clear hf2
          have HFF := hid hf
          clear hf
          go_wp2_with (go_at_call 77; refine (hq _ (((hbw.mono hn).al hn _).al hn _)).mono ?_; rintro e w1 ⟨rfl, hb1⟩)
          go_ret
          exact ⟨ret_bool (HC.out HFF.out).symm, ((hbw.al le_rfl' _).al le_rfl' _).tr le_rfl' hb1⟩
        · have hf2 := hf
          rw [HF.out, HF'.out] at hf2
          rw [hf2] at hq
          clear hf2
          have HFF := hid hf
          clear hf
          go_wp2_with (go_at_call 77; refine (hq _ (((hbw.mono hn).al hn _).al hn _)).mono ?_; rintro e w1 ⟨rfl, hb1⟩)
          go_roundw
          case rel => exact ⟨k + 1, by omega, by go_num, by rw [HS.out, HA.out, HFF.out]; rfl, ((hbw.al le_rfl' _).al le_rfl' _).tr le_rfl' hb1⟩
          case measure => simp [intOf]; omega
      · have hk' : k = xs.length := by omega
        go_wp2
        go_ret
        refine ⟨ret_bool ?_, hbw⟩
        have := HA.out
        rw [hk', List.take_length, HLEN.out, List.take_length] at this
        exact this.symm
  · have hlb : ((xs.length : Int) != (ys.length : Int)) = true := by rw [bne_iff_ne]; omega
    have HL := hid (all2_len f xs ys hlen)
    clear hlen
    go_enter Tryz.func76, Tryz.ntmps76
    go_wp2
    go_ret
    exact ⟨ret_bool HL.out.symm, Below.refl _ _⟩
set_option maxRecDepth 100000 in
set_option maxHeartbeats 1000000 in
theorem eqf65 (f : Me → Me → Bool) (n₀ : Nat) (xs ys : List Me) (ad ad' : Option Addr) (cap cap' : Nat) (w : World) (hn : n₀ ≤ w.heap.size) (ha : SlAt 3 Me.cells n₀ w ad cap xs) (hb : SlAt 3 Me.cells n₀ w ad' cap' ys)
    (heq : ∀ (k : Nat) (h1 : k < xs.length) (h2 : k < ys.length) W, Below n₀ w W → Calls Tryz.prog 79 #[Me.val xs[k], Me.val ys[k]] W fun e W' => e = .returned (.bool (f xs[k] ys[k])) ∧ Below W.heap.size W W') :
    Calls Tryz.prog 78 #[.slice ad xs.length cap, .slice ad' ys.length cap', .func (.func 79) #[] #[]] w fun e w' => e = .returned (.bool (all2 f xs ys)) ∧ Below w.heap.size w w' := by
  have hl1 := ha.1; have hl2 := ha.2.1; have hl3 := hb.1; have hl4 := hb.2.1
  unfold maxLen at hl2 hl4
  by_cases hlen : xs.length = ys.length
  · have hlb : ((xs.length : Int) != (ys.length : Int)) = false := by rw [bne_eq_false_iff_eq]; omega
    have HLEN := hid hlen
    clear hlen
    go_enter Tryz.func78, Tryz.ntmps78
    go_wp2
    go_loopw [17] (fun i wr => ∃ k : Nat, k ≤ xs.length ∧ i = .int .i64 k ∧ Hid (all2 f (xs.take k) (ys.take k) = true) ∧ Below w.heap.size w wr) (fun i _ => xs.length - (intOf i).toNat)
    case atStart => exact ⟨0, by omega, rfl, rfl, Below.refl _ _⟩
    case round =>
      obtain ⟨k, hk, rfl, HA, hbw⟩ := hrel
      by_cases hlt : k < xs.length
      · have hlt' : k < ys.length := by have := HLEN.out; omega
        rcases ha.2.2 with h | ⟨b, off, rfl, hbn, hrow⟩
        · subst h; simp at hlt
        rcases hb.2.2 with h | ⟨b', off', rfl, hbn', hrow'⟩
        · subst h; simp at hlt'
        have hbn1 : b < wr.heap.size := by have := hbw.size; omega
        have hbn2 : b' < wr.heap.size := by have := hbw.size; omega
        have hq := heq k hlt hlt'
        have HS := hid (all2_snoc f xs ys k hlt hlt')
        have HC := hid (all2_cut f xs ys k hlt hlt')
        have hr := hrow.below (hbw.mono hn) hbn
        have hr' := hrow'.below (hbw.mono hn) hbn'
        rcases he : xs[k] with ⟨name, ⟨bad, bcap, body⟩, pos⟩
        rcases he' : ys[k] with ⟨name', ⟨bad', bcap', body'⟩, pos'⟩
        obtain ⟨c0, c1, c2⟩ := row3 hr k hlt (by rw [he]; rfl)
        obtain ⟨d0, d1, d2⟩ := row3 hr' k hlt' (by rw [he']; rfl)
        simp only [Bl.slice] at c1 d1
        simp only [he, he', Me.val, Me.cells, Bl.slice] at hq
        have HF := hid he
        have HF' := hid he'
        clear he he'
        cases hf : f xs[k] ys[k]
        · have hf2 := hf
          rw [HF.out, HF'.out] at hf2
          rw [hf2] at hq
          clear hf2
          have HFF := hid hf
          clear hf
          go_wp2_with (go_at_call 79; refine (hq _ (((hbw.mono hn).al hn _).al hn _)).mono ?_; rintro e w1 ⟨rfl, hb1⟩)
          go_ret
          exact ⟨ret_bool (HC.out HFF.out).symm, ((hbw.al le_rfl' _).al le_rfl' _).tr le_rfl' hb1⟩
        · have hf2 := hf
          rw [HF.out, HF'.out] at hf2
          rw [hf2] at hq
          clear hf2
          have HFF := hid hf
          clear hf
          go_wp2_with (go_at_call 79; refine (hq _ (((hbw.mono hn).al hn _).al hn _)).mono ?_; rintro e w1 ⟨rfl, hb1⟩)
          go_roundw
          case rel => exact ⟨k + 1, by omega, by go_num, by rw [HS.out, HA.out, HFF.out]; rfl, ((hbw.al le_rfl' _).al le_rfl' _).tr le_rfl' hb1⟩
          case measure => simp [intOf]; omega
      · have hk' : k = xs.length := by omega
        go_wp2
        go_ret
        refine ⟨ret_bool ?_, hbw⟩
        have := HA.out
        rw [hk', List.take_length, HLEN.out, List.take_length] at this
        exact this.symm
  · have hlb : ((xs.length : Int) != (ys.length : Int)) = true := by rw [bne_iff_ne]; omega
    have HL := hid (all2_len f xs ys hlen)
    clear hlen
    go_enter Tryz.func78, Tryz.ntmps78
    go_wp2
    go_ret
    exact ⟨ret_bool HL.out.symm, Below.refl _ _⟩
set_option maxRecDepth 100000 in
set_option maxHeartbeats 1000000 in
theorem eqf40 (f : Mo → Mo → Bool) (n₀ : Nat) (xs ys : List Mo) (ad ad' : Option Addr) (cap cap' : Nat) (w : World) (hn : n₀ ≤ w.heap.size) (ha : SlAt 4 Mo.cells n₀ w ad cap xs) (hb : SlAt 4 Mo.cells n₀ w ad' cap' ys)
    (heq : ∀ (k : Nat) (h1 : k < xs.length) (h2 : k < ys.length) W, Below n₀ w W → Calls Tryz.prog 39 #[Mo.val xs[k], Mo.val ys[k]] W fun e W' => e = .returned (.bool (f xs[k] ys[k])) ∧ Below W.heap.size W W') :
    Calls Tryz.prog 38 #[.slice ad xs.length cap, .slice ad' ys.length cap', .func (.func 39) #[] #[]] w fun e w' => e = .returned (.bool (all2 f xs ys)) ∧ Below w.heap.size w w' := by
  have hl1 := ha.1; have hl2 := ha.2.1; have hl3 := hb.1; have hl4 := hb.2.1
  unfold maxLen at hl2 hl4
  by_cases hlen : xs.length = ys.length
  · have hlb : ((xs.length : Int) != (ys.length : Int)) = false := by rw [bne_eq_false_iff_eq]; omega
    have HLEN := hid hlen
    clear hlen
    go_enter Tryz.func38, Tryz.ntmps38
    go_wp2
    go_loopw [17] (fun i wr => ∃ k : Nat, k ≤ xs.length ∧ i = .int .i64 k ∧ Hid (all2 f (xs.take k) (ys.take k) = true) ∧ Below w.heap.size w wr) (fun i _ => xs.length - (intOf i).toNat)
    case atStart => exact ⟨0, by omega, rfl, rfl, Below.refl _ _⟩
    case round =>
      obtain ⟨k, hk, rfl, HA, hbw⟩ := hrel
      by_cases hlt : k < xs.length
      · have hlt' : k < ys.length := by have := HLEN.out; omega
        rcases ha.2.2 with h | ⟨b, off, rfl, hbn, hrow⟩
        · subst h; simp at hlt
        rcases hb.2.2 with h | ⟨b', off', rfl, hbn', hrow'⟩
        · subst h; simp at hlt'
        have hbn1 : b < wr.heap.size := by have := hbw.size; omega
        have hbn2 : b' < wr.heap.size := by have := hbw.size; omega
        have hq := heq k hlt hlt'
        have HS := hid (all2_snoc f xs ys k hlt hlt')
        have HC := hid (all2_cut f xs ys k hlt hlt')
        have hr := hrow.below (hbw.mono hn) hbn
        have hr' := hrow'.below (hbw.mono hn) hbn'
        rcases he : xs[k] with ⟨name, vad, vcap, vars, mad, mcap, meths, pos⟩
        rcases he' : ys[k] with ⟨name', vad', vcap', vars', mad', mcap', meths', pos'⟩
        obtain ⟨c0, c1, c2, c3⟩ := row4 hr k hlt (by rw [he]; rfl)
        obtain ⟨d0, d1, d2, d3⟩ := row4 hr' k hlt' (by rw [he']; rfl)
        simp only [he, he', Mo.val, Mo.cells] at hq
        have HF := hid he
        have HF' := hid he'
        clear he he'
        cases hf : f xs[k] ys[k]
        · have hf2 := hf
          rw [HF.out, HF'.out] at hf2
          rw [hf2] at hq
          clear hf2
          have HFF := hid hf
          clear hf
          go_wp2_with (go_at_call 39; refine (hq _ (((hbw.mono hn).al hn _).al hn _)).mono ?_; rintro e w1 ⟨rfl, hb1⟩)
          go_ret
          exact ⟨ret_bool (HC.out HFF.out).symm, ((hbw.al le_rfl' _).al le_rfl' _).tr le_rfl' hb1⟩
        · have hf2 := hf
          rw [HF.out, HF'.out] at hf2
          rw [hf2] at hq
          clear hf2
          have HFF := hid hf
          clear hf
          go_wp2_with (go_at_call 39; refine (hq _ (((hbw.mono hn).al hn _).al hn _)).mono ?_; rintro e w1 ⟨rfl, hb1⟩)
          go_roundw
          case rel => exact ⟨k + 1, by omega, by go_num, by rw [HS.out, HA.out, HFF.out]; rfl, ((hbw.al le_rfl' _).al le_rfl' _).tr le_rfl' hb1⟩
          case measure => simp [intOf]; omega
      · have hk' : k = xs.length := by omega
        go_wp2
        go_ret
        refine ⟨ret_bool ?_, hbw⟩
        have := HA.out
        rw [hk', List.take_length, HLEN.out, List.take_length] at this
        exact this.symm
  · have hlb : ((xs.length : Int) != (ys.length : Int)) = true := by rw [bne_iff_ne]; omega
    have HL := hid (all2_len f xs ys hlen)
    clear hlen
    go_enter Tryz.func38, Tryz.ntmps38
    go_wp2
    go_ret
    exact ⟨ret_bool HL.out.symm, Below.refl _ _⟩
set_option maxRecDepth 100000 in
set_option maxHeartbeats 1000000 in
theorem eqf42 (f : Ro → Ro → Bool) (n₀ : Nat) (xs ys : List Ro) (ad ad' : Option Addr) (cap cap' : Nat) (w : World) (hn : n₀ ≤ w.heap.size) (ha : SlAt 5 Ro.cells n₀ w ad cap xs) (hb : SlAt 5 Ro.cells n₀ w ad' cap' ys)
    (heq : ∀ (k : Nat) (h1 : k < xs.length) (h2 : k < ys.length) W, Below n₀ w W → Calls Tryz.prog 41 #[Ro.val xs[k], Ro.val ys[k]] W fun e W' => e = .returned (.bool (f xs[k] ys[k])) ∧ Below W.heap.size W W') :
    Calls Tryz.prog 40 #[.slice ad xs.length cap, .slice ad' ys.length cap', .func (.func 41) #[] #[]] w fun e w' => e = .returned (.bool (all2 f xs ys)) ∧ Below w.heap.size w w' := by
  have hl1 := ha.1; have hl2 := ha.2.1; have hl3 := hb.1; have hl4 := hb.2.1
  unfold maxLen at hl2 hl4
  by_cases hlen : xs.length = ys.length
  · have hlb : ((xs.length : Int) != (ys.length : Int)) = false := by rw [bne_eq_false_iff_eq]; omega
    have HLEN := hid hlen
    clear hlen
    go_enter Tryz.func40, Tryz.ntmps40
    go_wp2
    go_loopw [17] (fun i wr => ∃ k : Nat, k ≤ xs.length ∧ i = .int .i64 k ∧ Hid (all2 f (xs.take k) (ys.take k) = true) ∧ Below w.heap.size w wr) (fun i _ => xs.length - (intOf i).toNat)
    case atStart => exact ⟨0, by omega, rfl, rfl, Below.refl _ _⟩
    case round =>
      obtain ⟨k, hk, rfl, HA, hbw⟩ := hrel
      by_cases hlt : k < xs.length
      · have hlt' : k < ys.length := by have := HLEN.out; omega
        rcases ha.2.2 with h | ⟨b, off, rfl, hbn, hrow⟩
        · subst h; simp at hlt
        rcases hb.2.2 with h | ⟨b', off', rfl, hbn', hrow'⟩
        · subst h; simp at hlt'
        have hbn1 : b < wr.heap.size := by have := hbw.size; omega
        have hbn2 : b' < wr.heap.size := by have := hbw.size; omega
        have hq := heq k hlt hlt'
        have HS := hid (all2_snoc f xs ys k hlt hlt')
        have HC := hid (all2_cut f xs ys k hlt hlt')
        have hr := hrow.below (hbw.mono hn) hbn
        have hr' := hrow'.below (hbw.mono hn) hbn'
        rcases he : xs[k] with ⟨name, star, count, ⟨bad, bcap, body⟩, pos⟩
        rcases he' : ys[k] with ⟨name', star', count', ⟨bad', bcap', body'⟩, pos'⟩
        obtain ⟨c0, c1, c2, c3, c4⟩ := row5 hr k hlt (by rw [he]; rfl)
        obtain ⟨d0, d1, d2, d3, d4⟩ := row5 hr' k hlt' (by rw [he']; rfl)
        simp only [Bl.slice] at c3 d3
        simp only [he, he', Ro.val, Ro.cells, Bl.slice] at hq
        have HF := hid he
        have HF' := hid he'
        clear he he'
        cases hf : f xs[k] ys[k]
        · have hf2 := hf
          rw [HF.out, HF'.out] at hf2
          rw [hf2] at hq
          clear hf2
          have HFF := hid hf
          clear hf
          go_wp2_with (go_at_call 41; refine (hq _ (((hbw.mono hn).al hn _).al hn _)).mono ?_; rintro e w1 ⟨rfl, hb1⟩)
          go_ret
          exact ⟨ret_bool (HC.out HFF.out).symm, ((hbw.al le_rfl' _).al le_rfl' _).tr le_rfl' hb1⟩
        · have hf2 := hf
          rw [HF.out, HF'.out] at hf2
          rw [hf2] at hq
          clear hf2
          have HFF := hid hf
          clear hf
          go_wp2_with (go_at_call 41; refine (hq _ (((hbw.mono hn).al hn _).al hn _)).mono ?_; rintro e w1 ⟨rfl, hb1⟩)
          go_roundw
          case rel => exact ⟨k + 1, by omega, by go_num, by rw [HS.out, HA.out, HFF.out]; rfl, ((hbw.al le_rfl' _).al le_rfl' _).tr le_rfl' hb1⟩
          case measure => simp [intOf]; omega
      · have hk' : k = xs.length := by omega
        go_wp2
        go_ret
        refine ⟨ret_bool ?_, hbw⟩
        have := HA.out
        rw [hk', List.take_length, HLEN.out, List.take_length] at this
        exact this.symm
  · have hlb : ((xs.length : Int) != (ys.length : Int)) = true := by rw [bne_iff_ne]; omega
    have HL := hid (all2_len f xs ys hlen)
    clear hlen
    go_enter Tryz.func40, Tryz.ntmps40
    go_wp2
    go_ret
    exact ⟨ret_bool HL.out.symm, Below.refl _ _⟩
end Go.Proofs.YtaekbgljbgmchaaGreatDoor
namespace Go.Proofs.YtaekbgljbgmchaaGreatDoor
open Go.RowKit
theorem stSame_mk (kind kind' : Int) (mon name mon' name' : ByteArray) (n n' : Int) (e e' : Ex) (ad ad' : Option Addr) (cap cap' : Nat) (blocks blocks' : List Bl) (pos pos' : Int) :
    (St.mk kind mon name n e ad cap blocks pos).same (St.mk kind' mon' name' n' e' ad' cap' blocks' pos') = ((kind == kind') && (mon.toList == mon'.toList) && (name.toList == name'.toList) && (n == n') && e.same e' && all2 Bl.same blocks blocks') := by
  rw [St.same, Bl.sameL_eq]
theorem blSame_mk (ad ad' : Option Addr) (cap cap' : Nat) (body body' : List St) : (Bl.mk ad cap body).same (Bl.mk ad' cap' body') = all2 St.same body body' := by rw [Bl.same, St.sameL_eq]
set_option maxRecDepth 100000 in
set_option maxHeartbeats 2000000 in
theorem sameStmt_step (n₀ : Nat) (kind : Int) (mon name : ByteArray) (n : Int) (e : Ex) (ad : Option Addr) (cap : Nat) (blocks : List Bl) (pos : Int)
    (ih : ∀ b ∈ blocks, ∀ (c : Bl) (w : World), n₀ ≤ w.heap.size → b.Is n₀ w → c.Is n₀ w → Calls Tryz.prog 80 #[b.slice, c.slice] w fun e w' => e = .returned (.bool (b.same c)) ∧ Below w.heap.size w w')
    (t : St) (w : World) (hn : n₀ ≤ w.heap.size) (ha : (St.mk kind mon name n e ad cap blocks pos).Is n₀ w) (hb : t.Is n₀ w) :
    Calls Tryz.prog 128 #[(St.mk kind mon name n e ad cap blocks pos).val, t.val] w fun r w' => r = .returned (.bool ((St.mk kind mon name n e ad cap blocks pos).same t)) ∧ Below w.heap.size w w' := by
  rcases t with ⟨kind', mon', name', n', e', ad', cap', blocks', pos'⟩
  have HS := hid (stSame_mk kind kind' mon name mon' name' n n' e e' ad ad' cap cap' blocks blocks' pos pos')
  have hE : ∀ W, Below n₀ w W → Calls Tryz.prog 24 #[e.val, e'.val] W fun r w' => r = .returned (.bool (e.same e')) ∧ Below W.heap.size W w' := fun W hW =>
    sameExpr_any n₀ e e' W (by have := hW.size; omega) (ha.down.2.1.below hW) (hb.down.2.1.below hW)
  have hC : ∀ W, Below n₀ w W → Calls Tryz.prog 165 #[.slice ad blocks.length cap, .slice ad' blocks'.length cap', .func (.func 80) #[] #[]] W fun r w' => r = .returned (.bool (all2 Bl.same blocks blocks')) ∧ Below W.heap.size W w' := fun W hW =>
    eqf67 Bl.same n₀ blocks blocks' ad ad' cap cap' W (by have := hW.size; omega) (ha.down.2.2.1.below hW) (hb.down.2.2.1.below hW)
      (fun k k1 k2 W' hW' => ih blocks[k] (List.getElem_mem k1) blocks'[k] W' (by have := hW.size; have := hW'.size; omega) ((ha.down.2.2.2 _ (List.getElem_mem k1)).below (hW.trans hW')) ((hb.down.2.2.2 _ (List.getElem_mem k2)).below (hW.trans hW')))
  clear ha hb ih
  obtain ⟨es, hes⟩ : ∃ es, e.same e' = es := ⟨_, rfl⟩
  have HES := hid hes
  rw [hes] at hE
  clear hes
  rcases e with ⟨eop, emon, ename, en, ead, ecap, ekids, epos⟩
  rcases e' with ⟨eop', emon', ename', en', ead', ecap', ekids', epos'⟩
  simp only [St.val, St.cells, Ex.val, Ex.cells, List.cons_append, List.nil_append] at hE ⊢
  cases h1 : (kind == kind')
  · go_enter Tryz.func128, Tryz.ntmps128
    go_wp2
    go_ret
    exact ⟨ret_bool (by rw [HS.out, h1]; rfl), ((Below.refl _ _).al le_rfl' _).al le_rfl' _⟩
  cases h2 : (mon.toList == mon'.toList)
  · go_enter Tryz.func128, Tryz.ntmps128
    go_wp2
    go_ret
    exact ⟨ret_bool (by rw [HS.out, h1, h2]; rfl), ((Below.refl _ _).al le_rfl' _).al le_rfl' _⟩
  cases h3 : (name.toList == name'.toList)
  · go_enter Tryz.func128, Tryz.ntmps128
    go_wp2
    go_ret
    exact ⟨ret_bool (by rw [HS.out, h1, h2, h3]; rfl), ((Below.refl _ _).al le_rfl' _).al le_rfl' _⟩
  cases h4 : (n == n')
  · go_enter Tryz.func128, Tryz.ntmps128
    go_wp2
    go_ret
    exact ⟨ret_bool (by rw [HS.out, h1, h2, h3, h4]; rfl), ((Below.refl _ _).al le_rfl' _).al le_rfl' _⟩
  cases es
  · go_enter Tryz.func128, Tryz.ntmps128
    go_wp2_with (go_at_call 24; refine (hE _ (((Below.refl n₀ w).al hn _).al hn _)).mono ?_; rintro r w1 ⟨rfl, hb1⟩)
    go_ret
    exact ⟨ret_bool (by rw [HS.out, h1, h2, h3, h4, HES.out]; rfl), (((Below.refl _ _).al le_rfl' _).al le_rfl' _).tr le_rfl' hb1⟩
  · go_enter Tryz.func128, Tryz.ntmps128
    go_wp2_with (first
      | (go_at_call 24; refine (hE _ (((Below.refl n₀ w).al hn _).al hn _)).mono ?_; rintro r w1 ⟨rfl, hb1⟩; obtain ⟨hcc, hff⟩ := bcell hb1)
      | (go_at_call 165; refine (hC _ ((((Below.refl n₀ w).al hn _).al hn _).tr hn hb1)).mono ?_; rintro r w2 ⟨rfl, hb2⟩))
    go_ret
    exact ⟨ret_bool (by rw [HS.out, h1, h2, h3, h4, HES.out]; rfl), ((((Below.refl _ _).al le_rfl' _).al le_rfl' _).tr le_rfl' hb1).tr le_rfl' hb2⟩
theorem sameStmts_any (n₀ : Nat) (b : Bl) : ∀ (c : Bl) (w : World), n₀ ≤ w.heap.size → b.Is n₀ w → c.Is n₀ w → Calls Tryz.prog 80 #[b.slice, c.slice] w fun e w' => e = .returned (.bool (b.same c)) ∧ Below w.heap.size w w' := by
  refine Bl.ind (P := fun s => ∀ (t : St) (w : World), n₀ ≤ w.heap.size → s.Is n₀ w → t.Is n₀ w → Calls Tryz.prog 128 #[s.val, t.val] w fun e w' => e = .returned (.bool (s.same t)) ∧ Below w.heap.size w w')
    (Q := fun b => ∀ (c : Bl) (w : World), n₀ ≤ w.heap.size → b.Is n₀ w → c.Is n₀ w → Calls Tryz.prog 80 #[b.slice, c.slice] w fun e w' => e = .returned (.bool (b.same c)) ∧ Below w.heap.size w w') ?_ ?_ b
  · intro kind mon name n e ad cap blocks pos ih t w hn ha hb
    exact sameStmt_step n₀ kind mon name n e ad cap blocks pos ih t w hn ha hb
  · rintro ad cap body ih ⟨ad', cap', body'⟩ w hn ha hb
    have hC := eqf45 St.same n₀ body body' ad ad' cap cap' w hn ha.down.1 hb.down.1
      (fun k k1 k2 W' hW' => ih body[k] (List.getElem_mem k1) body'[k] W' (by have := hW'.size; omega) ((ha.down.2 _ (List.getElem_mem k1)).below hW') ((hb.down.2 _ (List.getElem_mem k2)).below hW'))
    rw [blSame_mk]
    clear ih ha hb
    simp only [Bl.slice]
    go_enter Tryz.func80, Tryz.ntmps80
    go_wp2_with (go_at_call 127; refine hC.mono ?_; rintro r w1 ⟨rfl, hb1⟩)
    go_ret
    exact ⟨rfl, hb1⟩
set_option maxHeartbeats 1000000 in
theorem isNone_any (n₀ : Nat) (e : Ex) (w : World) (hn : n₀ ≤ w.heap.size) (he : e.Is n₀ w) :
    Calls Tryz.prog 139 #[e.val] w fun r w' => r = .returned (.bool (e.same (.mk 0 ⟨#[]⟩ ⟨#[]⟩ 0 none 0 [] 0))) ∧ Below w.heap.size w w' := by
  have hC : ∀ W, Below n₀ w W → Calls Tryz.prog 24 #[e.val, (Ex.mk 0 ⟨#[]⟩ ⟨#[]⟩ 0 none 0 [] 0).val] W fun r w' => r = .returned (.bool (e.same (.mk 0 ⟨#[]⟩ ⟨#[]⟩ 0 none 0 [] 0))) ∧ Below W.heap.size W w' := fun W hW =>
    sameExpr_any n₀ e _ W (by have := hW.size; omega) (he.below hW) (Ex.Is.up ⟨⟨by unfold I64; omega, by unfold I64; omega, by unfold I64; omega, Nat.zero_le _, Nat.zero_le _⟩, ⟨Nat.le_refl _, by unfold maxLen; omega, .inl rfl⟩, fun x hx => by cases hx⟩)
  obtain ⟨res, hres⟩ : ∃ res, e.same (.mk 0 ⟨#[]⟩ ⟨#[]⟩ 0 none 0 [] 0) = res := ⟨_, rfl⟩
  rw [hres] at hC ⊢
  clear hres he
  rcases e with ⟨op, mon, name, n, ad, cap, kids, pos⟩
  simp only [Ex.val, Ex.cells, List.length_nil] at hC ⊢
  go_enter Tryz.func139, Tryz.ntmps139
  go_wp2_with (go_at_call 24; refine (hC _ ((Below.refl n₀ w).al hn _)).mono ?_; rintro r w1 ⟨rfl, hb1⟩)
  go_ret
  exact ⟨rfl, ((Below.refl _ _).al le_rfl' _).tr le_rfl' hb1⟩
set_option maxHeartbeats 1000000 in
theorem sameVar_any (v u : Va) (w : World) (hv : v.Is) (hu : u.Is) :
    Calls Tryz.prog 77 #[v.val, u.val] w fun r w' => r = .returned (.bool (v.same u)) ∧ Below w.heap.size w w' := by
  rcases v with ⟨name, type, lo, hi, init, pos⟩
  rcases u with ⟨name', type', lo', hi', init', pos'⟩
  simp only [Va.val, Va.cells]
  have HS : Hid (Va.same ⟨name, type, lo, hi, init, pos⟩ ⟨name', type', lo', hi', init', pos'⟩ = ((name.toList == name'.toList) && (type == type') && (lo == lo') && (hi == hi') && (init == init'))) := rfl
  clear hv hu
  go_enter Tryz.func77, Tryz.ntmps77
  go_wp2
  all_goals go_ret
  all_goals exact ⟨ret_bool (by rw [HS.out]; simp_all), ((Below.refl _ _).al le_rfl' _).al le_rfl' _⟩
set_option maxHeartbeats 1000000 in
theorem sameMethod_any (n₀ : Nat) (m k : Me) (w : World) (hn : n₀ ≤ w.heap.size) (hm : m.Is n₀ w) (hk : k.Is n₀ w) :
    Calls Tryz.prog 79 #[m.val, k.val] w fun r w' => r = .returned (.bool (m.same k)) ∧ Below w.heap.size w w' := by
  have HS : Hid (m.same k = ((m.name.toList == k.name.toList) && m.body.same k.body)) := rfl
  have hC : ∀ W, Below n₀ w W → Calls Tryz.prog 80 #[m.body.slice, k.body.slice] W fun r w' => r = .returned (.bool (m.body.same k.body)) ∧ Below W.heap.size W w' := fun W hW =>
    sameStmts_any n₀ m.body k.body W (by have := hW.size; omega) (hm.2.2.below hW) (hk.2.2.below hW)
  obtain ⟨res, hres⟩ : ∃ res, m.same k = res := ⟨_, rfl⟩
  obtain ⟨bs, hbs⟩ : ∃ bs, m.body.same k.body = bs := ⟨_, rfl⟩
  rw [hbs] at hC HS
  rw [hres] at HS ⊢
  clear hres hbs hm hk
  rcases m with ⟨name, ⟨ad, cap, body⟩, pos⟩
  rcases k with ⟨name', ⟨ad', cap', body'⟩, pos'⟩
  simp only [Me.val, Me.cells, Bl.slice] at hC HS ⊢
  cases h1 : (name.toList == name'.toList)
  · go_enter Tryz.func79, Tryz.ntmps79
    go_wp2
    go_ret
    exact ⟨ret_bool (by rw [HS.out, h1]; rfl), ((Below.refl _ _).al le_rfl' _).al le_rfl' _⟩
  · go_enter Tryz.func79, Tryz.ntmps79
    go_wp2_with (go_at_call 80; refine (hC _ (((Below.refl n₀ w).al hn _).al hn _)).mono ?_; rintro r w1 ⟨rfl, hb1⟩)
    go_ret
    exact ⟨ret_bool (by rw [HS.out, h1]; rfl), (((Below.refl _ _).al le_rfl' _).al le_rfl' _).tr le_rfl' hb1⟩
set_option maxHeartbeats 1000000 in
theorem sameRole_any (n₀ : Nat) (m k : Ro) (w : World) (hn : n₀ ≤ w.heap.size) (hm : m.Is n₀ w) (hk : k.Is n₀ w) :
    Calls Tryz.prog 41 #[m.val, k.val] w fun r w' => r = .returned (.bool (m.same k)) ∧ Below w.heap.size w w' := by
  have HS : Hid (m.same k = ((m.name.toList == k.name.toList) && (m.star == k.star) && (m.count == k.count) && m.body.same k.body)) := rfl
  have hC : ∀ W, Below n₀ w W → Calls Tryz.prog 80 #[m.body.slice, k.body.slice] W fun r w' => r = .returned (.bool (m.body.same k.body)) ∧ Below W.heap.size W w' := fun W hW =>
    sameStmts_any n₀ m.body k.body W (by have := hW.size; omega) (hm.2.2.2.below hW) (hk.2.2.2.below hW)
  obtain ⟨res, hres⟩ : ∃ res, m.same k = res := ⟨_, rfl⟩
  obtain ⟨bs, hbs⟩ : ∃ bs, m.body.same k.body = bs := ⟨_, rfl⟩
  rw [hbs] at hC HS
  rw [hres] at HS ⊢
  clear hres hbs hm hk
  rcases m with ⟨name, star, count, ⟨ad, cap, body⟩, pos⟩
  rcases k with ⟨name', star', count', ⟨ad', cap', body'⟩, pos'⟩
  simp only [Ro.val, Ro.cells, Bl.slice] at hC HS ⊢
  cases h1 : (name.toList == name'.toList)
  · go_enter Tryz.func41, Tryz.ntmps41
    go_wp2
    go_ret
    exact ⟨ret_bool (by rw [HS.out, h1]; rfl), ((Below.refl _ _).al le_rfl' _).al le_rfl' _⟩
  cases h2 : (star == star')
  · go_enter Tryz.func41, Tryz.ntmps41
    go_wp2
    go_ret
    exact ⟨ret_bool (by rw [HS.out, h1, h2]; rfl), ((Below.refl _ _).al le_rfl' _).al le_rfl' _⟩
  cases h3 : (count == count')
  · go_enter Tryz.func41, Tryz.ntmps41
    go_wp2
    go_ret
    exact ⟨ret_bool (by rw [HS.out, h1, h2, h3]; rfl), ((Below.refl _ _).al le_rfl' _).al le_rfl' _⟩
  · go_enter Tryz.func41, Tryz.ntmps41
    go_wp2_with (go_at_call 80; refine (hC _ (((Below.refl n₀ w).al hn _).al hn _)).mono ?_; rintro r w1 ⟨rfl, hb1⟩)
    go_ret
    exact ⟨ret_bool (by rw [HS.out, h1, h2, h3]; rfl), (((Below.refl _ _).al le_rfl' _).al le_rfl' _).tr le_rfl' hb1⟩
set_option maxHeartbeats 1000000 in
theorem sameMonitor_any (n₀ : Nat) (m k : Mo) (w : World) (hn : n₀ ≤ w.heap.size) (hm : m.Is n₀ w) (hk : k.Is n₀ w) :
    Calls Tryz.prog 39 #[m.val, k.val] w fun r w' => r = .returned (.bool (m.same k)) ∧ Below w.heap.size w w' := by
  have HS : Hid (m.same k = ((m.name.toList == k.name.toList) && all2 Va.same m.vars k.vars && all2 Me.same m.meths k.meths)) := rfl
  have hC : ∀ W, Below n₀ w W → Calls Tryz.prog 76 #[.slice m.vad m.vars.length m.vcap, .slice k.vad k.vars.length k.vcap, .func (.func 77) #[] #[]] W fun r w' => r = .returned (.bool (all2 Va.same m.vars k.vars)) ∧ Below W.heap.size W w' := fun W hW =>
    eqf63 Va.same n₀ m.vars k.vars m.vad k.vad m.vcap k.vcap W (by have := hW.size; omega) (hm.2.1.1.below hW) (hk.2.1.1.below hW)
      (fun j k1 k2 W' _ => sameVar_any m.vars[j] k.vars[j] W' (hm.2.1.2 _ (List.getElem_mem k1)) (hk.2.1.2 _ (List.getElem_mem k2)))
  have hD : ∀ W, Below n₀ w W → Calls Tryz.prog 78 #[.slice m.mad m.meths.length m.mcap, .slice k.mad k.meths.length k.mcap, .func (.func 79) #[] #[]] W fun r w' => r = .returned (.bool (all2 Me.same m.meths k.meths)) ∧ Below W.heap.size W w' := fun W hW =>
    eqf65 Me.same n₀ m.meths k.meths m.mad k.mad m.mcap k.mcap W (by have := hW.size; omega) (hm.2.2.1.below hW) (hk.2.2.1.below hW)
      (fun j k1 k2 W' hW' => sameMethod_any n₀ m.meths[j] k.meths[j] W' (by have := hW.size; have := hW'.size; omega) ((hm.2.2.2 _ (List.getElem_mem k1)).below (hW.trans hW')) ((hk.2.2.2 _ (List.getElem_mem k2)).below (hW.trans hW')))
  obtain ⟨res, hres⟩ : ∃ res, m.same k = res := ⟨_, rfl⟩
  obtain ⟨bs, hbs⟩ : ∃ bs, all2 Va.same m.vars k.vars = bs := ⟨_, rfl⟩
  obtain ⟨cs, hcs⟩ : ∃ cs, all2 Me.same m.meths k.meths = cs := ⟨_, rfl⟩
  rw [hbs] at hC HS
  rw [hcs] at hD HS
  rw [hres] at HS ⊢
  clear hres hbs hcs hm hk
  rcases m with ⟨name, vad, vcap, vars, mad, mcap, meths, pos⟩
  rcases k with ⟨name', vad', vcap', vars', mad', mcap', meths', pos'⟩
  simp only [Mo.val, Mo.cells] at hC hD HS ⊢
  cases h1 : (name.toList == name'.toList)
  · go_enter Tryz.func39, Tryz.ntmps39
    go_wp2
    go_ret
    exact ⟨ret_bool (by rw [HS.out, h1]; rfl), ((Below.refl _ _).al le_rfl' _).al le_rfl' _⟩
  cases bs
  · go_enter Tryz.func39, Tryz.ntmps39
    go_wp2_with (go_at_call 76; refine (hC _ (((Below.refl n₀ w).al hn _).al hn _)).mono ?_; rintro r w1 ⟨rfl, hb1⟩)
    go_ret
    exact ⟨ret_bool (by rw [HS.out, h1]; rfl), (((Below.refl _ _).al le_rfl' _).al le_rfl' _).tr le_rfl' hb1⟩
  · go_enter Tryz.func39, Tryz.ntmps39
    go_wp2_with (first
      | (go_at_call 76; refine (hC _ (((Below.refl n₀ w).al hn _).al hn _)).mono ?_; rintro r w1 ⟨rfl, hb1⟩; obtain ⟨hcc, hff⟩ := bcell hb1)
      | (go_at_call 78; refine (hD _ ((((Below.refl n₀ w).al hn _).al hn _).tr hn hb1)).mono ?_; rintro r w2 ⟨rfl, hb2⟩))
    go_ret
    exact ⟨ret_bool (by rw [HS.out, h1]; rfl), ((((Below.refl _ _).al le_rfl' _).al le_rfl' _).tr le_rfl' hb1).tr le_rfl' hb2⟩
set_option maxHeartbeats 1000000 in
theorem same_any (n₀ : Nat) (m k : Pr) (w : World) (hn : n₀ ≤ w.heap.size) (hm : m.Is n₀ w) (hk : k.Is n₀ w) :
    Calls Tryz.prog 16 #[m.val, k.val] w fun r w' => r = .returned (.bool (m.same k)) ∧ Below w.heap.size w w' := by
  have HS : Hid (m.same k = (all2 Mo.same m.mons k.mons && all2 Ro.same m.roles k.roles)) := rfl
  have hC : ∀ W, Below n₀ w W → Calls Tryz.prog 38 #[.slice m.mad m.mons.length m.mcap, .slice k.mad k.mons.length k.mcap, .func (.func 39) #[] #[]] W fun r w' => r = .returned (.bool (all2 Mo.same m.mons k.mons)) ∧ Below W.heap.size W w' := fun W hW =>
    eqf40 Mo.same n₀ m.mons k.mons m.mad k.mad m.mcap k.mcap W (by have := hW.size; omega) (hm.1.1.below hW) (hk.1.1.below hW)
      (fun j k1 k2 W' hW' => sameMonitor_any n₀ m.mons[j] k.mons[j] W' (by have := hW.size; have := hW'.size; omega) ((hm.1.2 _ (List.getElem_mem k1)).below (hW.trans hW')) ((hk.1.2 _ (List.getElem_mem k2)).below (hW.trans hW')))
  have hD : ∀ W, Below n₀ w W → Calls Tryz.prog 40 #[.slice m.rad m.roles.length m.rcap, .slice k.rad k.roles.length k.rcap, .func (.func 41) #[] #[]] W fun r w' => r = .returned (.bool (all2 Ro.same m.roles k.roles)) ∧ Below W.heap.size W w' := fun W hW =>
    eqf42 Ro.same n₀ m.roles k.roles m.rad k.rad m.rcap k.rcap W (by have := hW.size; omega) (hm.2.1.below hW) (hk.2.1.below hW)
      (fun j k1 k2 W' hW' => sameRole_any n₀ m.roles[j] k.roles[j] W' (by have := hW.size; have := hW'.size; omega) ((hm.2.2 _ (List.getElem_mem k1)).below (hW.trans hW')) ((hk.2.2 _ (List.getElem_mem k2)).below (hW.trans hW')))
  obtain ⟨res, hres⟩ : ∃ res, m.same k = res := ⟨_, rfl⟩
  obtain ⟨bs, hbs⟩ : ∃ bs, all2 Mo.same m.mons k.mons = bs := ⟨_, rfl⟩
  obtain ⟨cs, hcs⟩ : ∃ cs, all2 Ro.same m.roles k.roles = cs := ⟨_, rfl⟩
  rw [hbs] at hC HS
  rw [hcs] at hD HS
  rw [hres] at HS ⊢
  clear hres hbs hcs hm hk
  rcases m with ⟨mad, mcap, mons, rad, rcap, roles⟩
  rcases k with ⟨mad', mcap', mons', rad', rcap', roles'⟩
  simp only [Pr.val] at hC hD ⊢
  cases bs
  · go_enter Tryz.func16, Tryz.ntmps16
    go_wp2_with (go_at_call 38; refine (hC _ (((Below.refl n₀ w).al hn _).al hn _)).mono ?_; rintro r w1 ⟨rfl, hb1⟩)
    go_ret
    exact ⟨ret_bool (by rw [HS.out]; rfl), (((Below.refl _ _).al le_rfl' _).al le_rfl' _).tr le_rfl' hb1⟩
  · go_enter Tryz.func16, Tryz.ntmps16
    go_wp2_with (first
      | (go_at_call 38; refine (hC _ (((Below.refl n₀ w).al hn _).al hn _)).mono ?_; rintro r w1 ⟨rfl, hb1⟩; obtain ⟨hcc, hff⟩ := bcell hb1)
      | (go_at_call 40; refine (hD _ ((((Below.refl n₀ w).al hn _).al hn _).tr hn hb1)).mono ?_; rintro r w2 ⟨rfl, hb2⟩))
    go_ret
    exact ⟨ret_bool (by rw [HS.out]; rfl), ((((Below.refl _ _).al le_rfl' _).al le_rfl' _).tr le_rfl' hb1).tr le_rfl' hb2⟩
end Go.Proofs.YtaekbgljbgmchaaGreatDoor
namespace Go.Proofs.YtaekbgljbgmchaaGreatDoor
open Go.RowKit
open Lx (Out)
open Pz
namespace Pz
/-- A relation that the four small steps keep. -/
structure Cl (Q : S → S → Prop) : Prop where
  refl : ∀ s, Q s s
  trans : ∀ {a b c}, Q a b → Q b c → Q a c
  fail : ∀ s e a, Q s (s.fail e a)
  pass : ∀ s, Q s s.pass
  more : ∀ s, Q s s.more
  less : ∀ s, Q s s.less
namespace Cl
variable {Q : S → S → Prop} (C : Cl Q)
include C
theorem refuse (s : S) (e : Int) : Q s (s.refuse e) := C.fail _ _ _
theorem want (s : S) (x : ByteArray) : Q s (s.want x) := by
  unfold S.want; split
  · exact C.pass s
  · exact C.trans (C.refuse s 40) (C.pass _)
theorem take (s : S) (k : Int) : Q s (s.take k).2 := by
  unfold S.take; split
  · exact C.pass s
  · exact C.refuse s 40
theorem path (s : S) : Q s (path s).2 := C.trans (C.trans (C.take s 1) (C.want _ _)) (C.take _ 1)
theorem enter (s : S) (x : ByteArray) : Q s (s.enter x) := by
  unfold S.enter
  refine C.trans (C.trans ?_ (C.want _ _)) (C.more _)
  split
  · exact C.refuse s 41
  · exact C.refl s
theorem within {α : Type} (sign : ByteArray) (rd : S → α × S) (h : ∀ s, Q s (rd s).2) (s : S) : Q s (within sign rd s).2 := C.trans (C.trans (C.enter s sign) (h _)) (C.less _)
theorem enclosed {α : Type} (a c : ByteArray) (rd : S → α × S) (h : ∀ s, Q s (rd s).2) (s : S) : Q s (enclosed a rd c s).2 := C.trans (C.within a rd h s) (C.want _ _)
theorem full (s : S) (b : Bool) : Q s (s.full b) := by
  unfold S.full
  refine C.trans ?_ (C.pass _)
  cases b
  · exact C.refl s
  · exact C.refuse s 6
theorem oneMore {α : Type} (l : List α) (most : Nat) (rd : S → α × S) (h : ∀ s, Q s (rd s).2) (s : S) : Q s (oneMore l most rd s).2 := C.trans (C.full s _) (h _)
theorem several {α : Type} (word : ByteArray) (most : Nat) (rd : S → α × S) (h : ∀ s, Q s (rd s).2) : ∀ (f : Nat) (l : List α) (s : S), Q s (several word most rd f l s).2 := by
  intro f
  induction f with
  | zero => intro l s; exact C.refl _
  | succ f ih =>
    intro l s
    rw [Pz.several]
    split
    · exact C.trans (C.oneMore l most rd h s) (ih _ _)
    · exact C.refl _
theorem expr (f : Nat) : (∀ l s, Q s (exprAt f l s).2) ∧ (∀ l x own s, Q s (loop f l x own s).2) ∧ (∀ s, Q s (term f s).2) := by
  induction f with
  | zero => exact ⟨fun l s => by rw [exprAt]; exact C.refl _, fun l x own s => by rw [loop]; exact C.refl _, fun s => by rw [term]; exact C.refl _⟩
  | succ f ih =>
    obtain ⟨h1, h2, h3⟩ := ih
    refine ⟨fun l s => ?_, fun l x own s => ?_, fun s => ?_⟩
    · rw [exprAt]
      split
      · exact C.trans (C.within _ _ (h1 _) s) (h2 _ _ _ _)
      · exact C.trans (h3 s) (h2 _ _ _ _)
    · rw [loop]
      split
      · exact C.refl _
      · exact C.trans (C.trans (C.pass s) (h1 _ _)) (h2 _ _ _ _)
    · rw [term]
      split
      · split
        · exact C.trans (C.pass s) (C.within _ _ h3 _)
        · exact C.pass s
      · split
        · exact C.path s
        · split
          · exact C.within _ _ h3 s
          · split
            · exact C.enclosed _ _ _ (h1 _) s
            · split
              · exact C.pass s
              · exact C.want _ _
theorem stmt (rx : S → Ex × S) (rb : S → Bl × S) (hx : ∀ s, Q s (rx s).2) (hb : ∀ s, Q s (rb s).2) (k : Nat) (s : S) : Q s (stmt rx rb k s).2 := by
  unfold Pz.stmt
  split
  · exact C.trans (C.want _ _) (C.want _ _)
  · exact C.trans (C.trans (C.trans (C.path s) (C.want _ _)) (hx _)) (C.want _ _)
  · unfold stIf
    simp only
    split
    · exact C.trans (C.trans (C.trans (C.trans (C.want _ _) (hx _)) (hb _)) (C.pass _)) (hb _)
    · exact C.trans (C.trans (C.want _ _) (hx _)) (hb _)
  · exact C.trans (C.trans (C.want _ _) (hx _)) (hb _)
  · exact C.trans (C.want _ _) (hb _)
  · exact C.trans (C.oneMore [] 8 rb hb s) (C.several _ _ _ hb _ _ _)
  · exact C.trans (C.trans (C.want _ _) (C.take _ _)) (hb _)
  · exact C.trans (C.trans (C.want _ _) (C.path _)) (C.want _ _)
  · unfold stWait
    simp only
    split
    · refine C.trans (C.trans (C.trans (C.want s k_wait) (C.take _ 1)) (C.take _ 2)) (C.trans ?_ (C.want _ _))
      split
      · exact C.fail _ _ _
      · exact C.refl _
    · exact C.trans (C.trans (C.want _ _) (C.take _ _)) (C.want _ _)
  · exact C.trans (C.trans (C.want _ _) (C.take _ _)) (C.want _ _)
  · exact C.trans (C.trans (C.want _ _) (C.take _ _)) (C.want _ _)
theorem block (rd : S → Bl × S) (h : ∀ s, Q s (rd s).2) (s : S) : Q s (block rd s).2 := C.enclosed _ _ rd h s
theorem stmts (f : Nat) : ∀ (l : List St) (s : S), Q s (stmtsF f l s).2 := by
  induction f with
  | zero => intro l s; exact C.refl _
  | succ f ih =>
    intro l s
    rw [stmtsF]
    split
    · exact C.refl _
    · exact C.trans (C.stmt _ _ (fun s => (C.expr f).1 1 s) (fun s => C.block _ (fun s => ih [] s) s) _ s) (ih _ _)
theorem blockF (f : Nat) (s : S) : Q s (blockF f s).2 := C.block _ (fun s => C.stmts f [] s) s
theorem integer (s : S) : Q s (integer s).2 := by
  unfold Pz.integer; split
  · exact C.trans (C.pass s) (C.take _ _)
  · exact C.take _ _
theorem truth (s : S) : Q s (truth s).2 := by
  unfold Pz.truth; split
  · exact C.pass s
  · exact C.want _ _
theorem bounds (s : S) : Q s (bounds s).2 := by
  have h : Q s (Pz.integer ((Pz.integer s).2.want s_dots)).2 := C.trans (C.trans (C.integer s) (C.want _ _)) (C.integer _)
  unfold Pz.bounds
  simp only
  split
  · exact C.trans h (C.fail _ _ _)
  · exact h
theorem typed (s : S) : Q s (typed s).2 := by
  unfold Pz.typed; split
  · exact C.trans (C.trans (C.pass s) (C.want _ _)) (C.truth _)
  · split
    · exact C.trans (C.trans (C.pass s) (C.want _ _)) (C.integer _)
    · exact C.trans (C.trans (C.bounds s) (C.want _ _)) (C.integer _)
theorem vari (s : S) : Q s (vari s).2 := C.trans (C.trans (C.trans (C.take s 1) (C.want _ _)) (C.typed _)) (C.want _ _)
theorem method (f : Nat) (s : S) : Q s (method f s).2 := C.trans (C.take s 1) (C.blockF f _)
theorem members (f : Nat) (s : S) : Q s (members f s).2 := C.trans (C.several _ _ _ C.vari _ _ _) (C.several _ _ _ (C.method f) _ _ _)
theorem monitor (f : Nat) (s : S) : Q s (monitor f s).2 := C.trans (C.take s 1) (C.enclosed _ _ _ (C.members f) _)
theorem role (f : Nat) (s : S) : Q s (role f s).2 := by
  unfold Pz.role
  simp only
  split
  · exact C.trans (C.trans (C.take s 1) (C.pass _)) (C.blockF f _)
  · exact C.trans (C.trans (C.take s 1) (C.take _ _)) (C.blockF f _)
theorem progF (g : Nat) : ∀ (f : Nat) (m : List Mo) (r : List Ro) (s : S), Q s (progF g f m r s).2 := by
  intro f
  induction f with
  | zero => intro m r s; exact C.refl _
  | succ f ih =>
    intro m r s
    rw [Pz.progF]
    split
    · exact C.trans (C.oneMore m 8 _ (C.monitor g) s) (ih _ _ _)
    · split
      · exact C.trans (C.oneMore r 8 _ (C.role g) s) (ih _ _ _)
      · exact C.refl _
end Cl
/-- The first error stays. -/
def Ek (s s' : S) : Prop := s.err ≠ 0 → s'.err = s.err ∧ s'.pos = s.pos
theorem ek : Cl Ek where
  refl _ _ := ⟨rfl, rfl⟩
  trans h k h0 := by obtain ⟨a, b⟩ := h h0; obtain ⟨c, d⟩ := k (by rw [a]; exact h0); exact ⟨c.trans a, d.trans b⟩
  fail s e a h := by unfold S.fail; rw [if_neg h]; exact ⟨rfl, rfl⟩
  pass s h := by unfold S.pass; split <;> exact ⟨rfl, rfl⟩
  more _ _ := ⟨rfl, rfl⟩
  less _ _ := ⟨rfl, rfl⟩
theorem ek_atEnd (s : S) : Ek s (atEnd s) := by
  unfold atEnd; split
  · exact ek.refl s
  · exact ek.refuse s 40
end Pz
end Go.Proofs.YtaekbgljbgmchaaGreatDoor
namespace Go.Proofs.YtaekbgljbgmchaaGreatDoor
open Go.RowKit
open Lx (Out)
open Pz
namespace Pz
/-- Two tokens are alike but for places, and their places go together. -/
def Tw (PP : Int → Int → Prop) (o o' : Out) : Prop := o'.kind = o.kind ∧ o'.text = o.text ∧ o'.n = o.n ∧ PP o.pos o'.pos
/-- Two rows of tokens, token for token; the last one is the end. -/
inductive Two (PP : Int → Int → Prop) : List Out → List Out → Prop
  | one {o o' : Out} (h : Tw PP o o') (h5 : o.kind = 5) : Two PP [o] [o']
  | cons {o o' : Out} {l l' : List Out} (h : Tw PP o o') (t : Two PP l l') : Two PP (o :: l) (o' :: l')
theorem Two.hd {PP : Int → Int → Prop} {l l' : List Out} (h : Two PP l l') : Tw PP (l.headD noTok) (l'.headD noTok) := by cases h <;> assumption
theorem Two.len {PP : Int → Int → Prop} {l l' : List Out} (h : Two PP l l') : l'.length = l.length := by
  induction h with
  | one => rfl
  | cons _ _ ih => simp [ih]
theorem Two.ne {PP : Int → Int → Prop} {l l' : List Out} (h : Two PP l l') : l ≠ [] ∧ l' ≠ [] := by cases h <;> simp
theorem Two.tail {PP : Int → Int → Prop} {l l' : List Out} (h : Two PP l l') (hk : (l.headD noTok).kind ≠ 5) : Two PP l.tail l'.tail := by
  cases h with
  | one _ h5 => exact absurd h5 hk
  | cons _ t => exact t
theorem last1_cons (a b : Out) (l : List Out) : last1 (a :: b :: l) = last1 (b :: l) := by
  unfold last1
  rw [show (a :: b :: l).length - 1 = ((b :: l).length - 1) + 1 by simp, List.drop_succ_cons]
theorem Two.last1 {PP : Int → Int → Prop} {l l' : List Out} (h : Two PP l l') : Two PP (last1 l) (last1 l') := by
  induction h with
  | one h h5 => exact .one h h5
  | cons _ t ih =>
    cases t with
    | one a b => exact ih
    | cons a b => rw [last1_cons, last1_cons]; exact ih
theorem tw_is {PP : Int → Int → Prop} {o o' : Out} (h : Tw PP o o') (x : ByteArray) : is o' x = is o x := by unfold is; rw [h.2.1]
theorem tw_oper {PP : Int → Int → Prop} {o o' : Out} (h : Tw PP o o') : operOf o' = operOf o := by unfold operOf; simp only [tw_is h]
theorem tw_kind {PP : Int → Int → Prop} {o o' : Out} (h : Tw PP o o') : kindOf o' = kindOf o := by unfold kindOf; simp only [tw_is h, h.1]
/-- Two readers that stand at like tokens. -/
structure Rl (PP : Int → Int → Prop) (s s' : S) : Prop where
  rest : Two PP s.rest s'.rest
  opn : s'.opn = s.opn
  err : s'.err = s.err
  pos : s.err ≠ 0 → PP s.pos s'.pos
namespace Rl
variable {PP : Int → Int → Prop} {s s' : S}
theorem hd (h : Rl PP s s') : Tw PP s.hd s'.hd := h.rest.hd
theorem sees (h : Rl PP s s') (x : ByteArray) : s'.sees x = s.sees x := tw_is h.hd x
theorem fail (h : Rl PP s s') (e a a' : Int) (hp : PP a a') : Rl PP (s.fail e a) (s'.fail e a') := by
  unfold S.fail
  rw [h.err]
  split
  · exact ⟨h.rest.last1, h.opn, rfl, fun _ => hp⟩
  · exact h
theorem refuse (h : Rl PP s s') (e : Int) : Rl PP (s.refuse e) (s'.refuse e) := h.fail e _ _ h.hd.2.2.2
theorem pass (h : Rl PP s s') : Rl PP s.pass s'.pass := by
  unfold S.pass
  rw [h.hd.1]
  split
  · exact h
  · rename_i hk; exact ⟨h.rest.tail hk, h.opn, h.err, h.pos⟩
theorem want (h : Rl PP s s') (x : ByteArray) : Rl PP (s.want x) (s'.want x) := by
  unfold S.want
  rw [h.sees]
  split
  · exact h.pass
  · exact (h.refuse 40).pass
theorem take (h : Rl PP s s') (k : Int) : Rl PP (s.take k).2 (s'.take k).2 := by
  unfold S.take
  rw [h.hd.1]
  split
  · exact h.pass
  · exact h.refuse 40
theorem takeT (h : Rl PP s s') (k : Int) : (s'.take k).1.text = (s.take k).1.text := by
  unfold S.take
  rw [h.hd.1]
  split
  · exact h.hd.2.1
  · rfl
theorem takeN (h : Rl PP s s') (k : Int) : (s'.take k).1.n = (s.take k).1.n := by
  unfold S.take
  rw [h.hd.1]
  split
  · exact h.hd.2.2.1
  · rfl
theorem path1 (h : Rl PP s s') : (path s').1 = (path s).1 := by
  unfold path
  rw [h.takeT, ((h.take 1).want s_dot).takeT]
theorem path2 (h : Rl PP s s') : Rl PP (path s).2 (path s').2 := ((h.take 1).want s_dot).take 1
theorem more (h : Rl PP s s') : Rl PP s.more s'.more := ⟨h.rest, by show s'.opn + 1 = s.opn + 1; rw [h.opn], h.err, h.pos⟩
theorem less (h : Rl PP s s') : Rl PP s.less s'.less := ⟨h.rest, by show s'.opn - 1 = s.opn - 1; rw [h.opn], h.err, h.pos⟩
theorem enter (h : Rl PP s s') (x : ByteArray) : Rl PP (s.enter x) (s'.enter x) := by
  unfold S.enter
  rw [h.sees, h.opn]
  split
  · exact ((h.refuse 41).want x).more
  · exact (h.want x).more
theorem full (h : Rl PP s s') (b : Bool) : Rl PP (s.full b) (s'.full b) := by
  unfold S.full
  cases b
  · exact h.pass
  · exact (h.refuse 6).pass
end Rl
/-- A reading that reads of like tokens the like. -/
def Rd2 {α : Type} (PP : Int → Int → Prop) (E : α → α → Bool) (rd : S → α × S) : Prop := ∀ s s', Rl PP s s' → E (rd s).1 (rd s').1 = true ∧ Rl PP (rd s).2 (rd s').2
theorem Rd2.within {α : Type} {PP : Int → Int → Prop} {E : α → α → Bool} {rd : S → α × S} (h : Rd2 PP E rd) (x : ByteArray) : Rd2 PP E (within x rd) := fun _ _ k => ⟨(h _ _ (k.enter x)).1, (h _ _ (k.enter x)).2.less⟩
theorem Rd2.enclosed {α : Type} {PP : Int → Int → Prop} {E : α → α → Bool} {rd : S → α × S} (h : Rd2 PP E rd) (x y : ByteArray) : Rd2 PP E (enclosed x rd y) := fun _ _ k => ⟨(h.within x _ _ k).1, (h.within x _ _ k).2.want y⟩
theorem all2_len_eq {α : Type} {E : α → α → Bool} {l l' : List α} (h : all2 E l l' = true) : l.length = l'.length := ((all2_iff E l l').1 h).1
theorem all2_add {α : Type} {E : α → α → Bool} : ∀ {l l' : List α} {a b : α}, all2 E l l' = true → E a b = true → all2 E (l ++ [a]) (l' ++ [b]) = true
  | [], [], a, b, _, k => by simp [all2, k]
  | [], _ :: _, _, _, h, _ => by simp [all2] at h
  | _ :: _, [], _, _, h, _ => by simp [all2] at h
  | x :: l, y :: l', a, b, h, k => by
    simp only [all2, Bool.and_eq_true] at h
    simp only [List.cons_append, all2, Bool.and_eq_true]
    exact ⟨h.1, all2_add h.2 k⟩
theorem Rd2.oneMore {α : Type} {PP : Int → Int → Prop} {E : α → α → Bool} {rd : S → α × S} (h : Rd2 PP E rd) (most : Nat) {l l' : List α} (hl : all2 E l l' = true) {s s' : S} (k : Rl PP s s') : all2 E (oneMore l most rd s).1 (oneMore l' most rd s').1 = true ∧ Rl PP (oneMore l most rd s).2 (oneMore l' most rd s').2 := by
  unfold Pz.oneMore
  rw [← all2_len_eq hl]
  have := h _ _ (k.full (decide (most ≤ l.length)))
  exact ⟨all2_add hl this.1, this.2⟩
theorem Rd2.several {α : Type} {PP : Int → Int → Prop} {E : α → α → Bool} {rd : S → α × S} (h : Rd2 PP E rd) (word : ByteArray) (most : Nat) : ∀ (f : Nat) {l l' : List α} (_ : all2 E l l' = true) {s s' : S} (_ : Rl PP s s'), all2 E (several word most rd f l s).1 (several word most rd f l' s').1 = true ∧ Rl PP (several word most rd f l s).2 (several word most rd f l' s').2 := by
  intro f
  induction f with
  | zero => intro l l' hl s s' k; exact ⟨hl, k⟩
  | succ f ih =>
    intro l l' hl s s' k
    rw [Pz.several, Pz.several, k.sees]
    split
    · have := h.oneMore most hl k
      exact ih this.1 this.2
    · exact ⟨hl, k⟩
theorem same_ex (op : Int) (mon name : ByteArray) (n : Int) {kids kids' : List Ex} (pos pos' : Int) (h : all2 Ex.same kids kids' = true) : (ex op mon name n kids pos).same (ex op mon name n kids' pos') = true := by simp [ex, Ex.same, Ex.sameL_eq, h]
theorem same_st (kind : Int) (mon name : ByteArray) (n : Int) {e e' : Ex} {bs bs' : List Bl} (pos pos' : Int) (he : e.same e' = true) (h : all2 Bl.same bs bs' = true) : (st kind mon name n e bs pos).same (st kind mon name n e' bs' pos') = true := by simp [st, St.same, Bl.sameL_eq, h, he]
theorem same_exZ : exZ.same exZ = true := same_ex _ _ _ _ _ _ rfl
theorem prefixed2 {PP : Int → Int → Prop} (op n : Int) (sign : ByteArray) {rd : S → Ex × S} (h : Rd2 PP Ex.same rd) (pos pos' : Int) {s s' : S} (k : Rl PP s s') : (prefixed op n sign rd pos s).1.same (prefixed op n sign rd pos' s').1 = true ∧ Rl PP (prefixed op n sign rd pos s).2 (prefixed op n sign rd pos' s').2 := by
  have := h.within sign _ _ k
  exact ⟨same_ex _ _ _ _ _ _ (by simp [all2, this.1]), this.2⟩
theorem expr2 {PP : Int → Int → Prop} (f : Nat) : (∀ l, Rd2 PP Ex.same (exprAt f l)) ∧ (∀ l own x x' s s', x.same x' = true → Rl PP s s' → (loop f l x own s).1.same (loop f l x' own s').1 = true ∧ Rl PP (loop f l x own s).2 (loop f l x' own s').2) ∧ Rd2 PP Ex.same (term f) := by
  induction f with
  | zero => exact ⟨fun l s s' k => by rw [exprAt, exprAt]; exact ⟨same_exZ, k⟩, fun l own x x' s s' hx k => by rw [loop, loop]; exact ⟨hx, k⟩, fun s s' k => by rw [term, term]; exact ⟨same_exZ, k⟩⟩
  | succ f ih =>
    obtain ⟨h1, h2, h3⟩ := ih
    refine ⟨fun l s s' k => ?_, fun l own x x' s s' hx k => ?_, fun s s' k => ?_⟩
    · rw [exprAt, exprAt, k.sees]
      split
      · have := prefixed2 5 0 s_bang (h1 3) s.hd.pos s'.hd.pos k
        exact h2 _ _ _ _ _ _ this.1 this.2
      · have := h3 _ _ k
        exact h2 _ _ _ _ _ _ this.1 this.2
    · rw [loop, loop, tw_oper k.hd]
      split
      · exact ⟨hx, k⟩
      · have := h1 (operOf s.hd).second _ _ k.pass
        exact h2 _ _ _ _ _ _ (same_ex _ _ _ _ _ _ (by simp [all2, this.1, hx])) this.2
    · rw [term, term, k.hd.1, k.hd.2.2.1]
      split
      · rw [k.pass.sees]
        split
        · exact prefixed2 _ _ _ h3 _ _ k.pass
        · exact ⟨same_ex _ _ _ _ _ _ rfl, k.pass⟩
      · split
        · rw [k.path1]; exact ⟨same_ex _ _ _ _ _ _ rfl, k.path2⟩
        · rw [k.sees]
          split
          · exact prefixed2 _ _ _ h3 _ _ k
          · rw [k.sees]
            split
            · exact (h1 1).enclosed _ _ _ _ k
            · rw [k.sees]
              split
              · exact ⟨same_ex _ _ _ _ _ _ rfl, k.pass⟩
              · exact ⟨same_ex _ _ _ _ _ _ rfl, k.want _⟩
theorem stmt2 {PP : Int → Int → Prop} {rx : S → Ex × S} {rb : S → Bl × S} (hx : Rd2 PP Ex.same rx) (hb : Rd2 PP Bl.same rb) (n : Nat) : Rd2 PP St.same (stmt rx rb n) := by
  intro s s' k
  unfold Pz.stmt
  split
  · exact ⟨same_st _ _ _ _ _ _ same_exZ rfl, (k.want _).want _⟩
  · unfold stSet
    have := hx _ _ (k.path2.want s_eq)
    rw [k.path1]
    exact ⟨same_st _ _ _ _ _ _ this.1 rfl, this.2.want _⟩
  · unfold stIf
    have h1 := hx _ _ (k.want k_if)
    have h2 := hb _ _ h1.2
    simp only
    rw [h2.2.sees]
    split
    · have h3 := hb _ _ h2.2.pass
      exact ⟨same_st _ _ _ _ _ _ h1.1 (by simp [all2, h2.1, h3.1]), h3.2⟩
    · exact ⟨same_st _ _ _ _ _ _ h1.1 (by simp [all2, h2.1]), h2.2⟩
  · unfold stWhile
    have h1 := hx _ _ (k.want k_while)
    have h2 := hb _ _ h1.2
    exact ⟨same_st _ _ _ _ _ _ h1.1 (by simp [all2, h2.1]), h2.2⟩
  · unfold stLoop
    have h2 := hb _ _ (k.want k_loop)
    exact ⟨same_st _ _ _ _ _ _ same_exZ (by simp [all2, h2.1]), h2.2⟩
  · unfold stChoose
    have h1 := hb.oneMore 8 (l := []) (l' := []) rfl k
    have h2 := hb.several k_or 8 (Pz.oneMore [] 8 rb s).2.rest.length h1.1 h1.2
    simp only
    rw [h1.2.rest.len]
    exact ⟨same_st _ _ _ _ _ _ same_exZ h2.1, h2.2⟩
  · unfold stSync
    have h2 := hb _ _ ((k.want k_sync).take 1)
    simp only
    rw [(k.want k_sync).takeT]
    exact ⟨same_st _ _ _ _ _ _ same_exZ (by simp [all2, h2.1]), h2.2⟩
  · unfold stCall
    rw [(k.want k_call).path1]
    exact ⟨same_st _ _ _ _ _ _ same_exZ rfl, (k.want k_call).path2.want _⟩
  · unfold stWait
    have h1 := (k.want k_wait).take 1
    simp only
    rw [h1.hd.1, (k.want k_wait).takeT, h1.takeN]
    split
    · refine ⟨same_st _ _ _ _ _ _ same_exZ rfl, ?_⟩
      split
      · exact ((h1.take 2).fail 40 _ _ h1.hd.2.2.2).want _
      · exact (h1.take 2).want _
    · exact ⟨same_st _ _ _ _ _ _ same_exZ rfl, h1.want _⟩
  · unfold stNotify
    rw [(k.want k_notify).takeT]
    exact ⟨same_st _ _ _ _ _ _ same_exZ rfl, ((k.want k_notify).take 1).want _⟩
  · unfold stAll
    rw [(k.want k_notifyall).takeT]
    exact ⟨same_st _ _ _ _ _ _ same_exZ rfl, ((k.want k_notifyall).take 1).want _⟩
theorem stAt_same (x y : St) (a b : Int) : (stAt x a).same (stAt y b) = x.same y := by cases x; cases y; simp [stAt, St.same]
theorem stmts2 {PP : Int → Int → Prop} (f : Nat) : ∀ {l l' : List St} (_ : all2 St.same l l' = true) {s s' : S} (_ : Rl PP s s'), (stmtsF f l s).1.same (stmtsF f l' s').1 = true ∧ Rl PP (stmtsF f l s).2 (stmtsF f l' s').2 := by
  induction f with
  | zero => intro l l' hl s s' k; exact ⟨by simp [stmtsF, bl, Bl.same, St.sameL_eq, hl], k⟩
  | succ f ih =>
    intro l l' hl s s' k
    rw [stmtsF, stmtsF, tw_kind k.hd]
    split
    · exact ⟨by simp [bl, Bl.same, St.sameL_eq, hl], k⟩
    · have hb : Rd2 PP Bl.same (block (stmtsF f [])) := Rd2.enclosed (fun s s' k => ih (l := []) (l' := []) rfl k) _ _
      have := stmt2 ((expr2 f).1 1) hb (kindOf s.hd) _ _ k
      exact ih (all2_add hl (by rw [stAt_same]; exact this.1)) this.2
theorem blockF2 {PP : Int → Int → Prop} (f : Nat) : Rd2 PP Bl.same (blockF f) := Rd2.enclosed (fun _ _ k => stmts2 f (l := []) (l' := []) rfl k) _ _
def eqI (a b : Int) : Bool := a == b
theorem integer2 {PP : Int → Int → Prop} {s s' : S} (k : Rl PP s s') : (integer s').1 = (integer s).1 ∧ Rl PP (integer s).2 (integer s').2 := by
  unfold integer
  rw [k.sees]
  split
  · rw [k.pass.takeN]; exact ⟨rfl, k.pass.take 2⟩
  · rw [k.takeN]; exact ⟨rfl, k.take 2⟩
theorem truth2 {PP : Int → Int → Prop} {s s' : S} (k : Rl PP s s') : (truth s').1 = (truth s).1 ∧ Rl PP (truth s).2 (truth s').2 := by
  unfold truth
  rw [k.sees]
  split
  · exact ⟨rfl, k.pass⟩
  · exact ⟨rfl, k.want _⟩
theorem bounds2 {PP : Int → Int → Prop} {s s' : S} (k : Rl PP s s') : (bounds s').1 = (bounds s).1 ∧ Rl PP (bounds s).2 (bounds s').2 := by
  have h1 := integer2 k
  have h2 := h1.2.want s_dots
  have h3 := integer2 h2
  unfold bounds
  simp only
  rw [h1.1, h3.1]
  refine ⟨rfl, ?_⟩
  split
  · exact h3.2.fail 40 _ _ h2.hd.2.2.2
  · exact h3.2
theorem typed2 {PP : Int → Int → Prop} {s s' : S} (k : Rl PP s s') : (typed s').1 = (typed s).1 ∧ Rl PP (typed s).2 (typed s').2 := by
  unfold typed
  rw [k.sees]
  split
  · have := truth2 (k.pass.want s_eq); rw [this.1]; exact ⟨rfl, this.2⟩
  · rw [k.sees]
    split
    · have := integer2 (k.pass.want s_eq); rw [this.1]; exact ⟨rfl, this.2⟩
    · have h1 := bounds2 k
      have := integer2 (h1.2.want s_eq); rw [h1.1, this.1]; exact ⟨rfl, this.2⟩
theorem vari2 {PP : Int → Int → Prop} : Rd2 PP Va.same vari := by
  intro s s' k
  have h := typed2 ((k.take 1).want s_colon)
  unfold vari
  simp only
  rw [k.takeT, h.1]
  exact ⟨by simp [Va.same], h.2.want _⟩
theorem method2 {PP : Int → Int → Prop} (f : Nat) : Rd2 PP Me.same (method f) := by
  intro s s' k
  have h := blockF2 f _ _ (k.take 1)
  unfold method
  rw [k.takeT]
  exact ⟨by simp [Me.same, h.1], h.2⟩
theorem members2 {PP : Int → Int → Prop} (f : Nat) : Rd2 PP Mo.same (members f) := by
  intro s s' k
  have h1 := (vari2 (PP := PP)).several k_var 16 s.rest.length (l := []) (l' := []) rfl k
  have h2 := (method2 (PP := PP) f).several k_method 16 (several k_var 16 vari s.rest.length [] s).2.rest.length (l := []) (l' := []) rfl h1.2
  unfold members
  simp only
  rw [k.rest.len, h1.2.rest.len]
  exact ⟨by simp [Mo.same, h1.1, h2.1], h2.2⟩
theorem monitor2 {PP : Int → Int → Prop} (f : Nat) : Rd2 PP Mo.same (monitor f) := by
  intro s s' k
  have h := (members2 (PP := PP) f).enclosed s_lbr s_rbr _ _ (k.take 1)
  unfold monitor
  simp only
  rw [k.takeT]
  have h1 := h.1
  unfold Mo.same at h1 ⊢
  simp only [Bool.and_eq_true] at h1 ⊢
  exact ⟨⟨⟨by simp, h1.1.2⟩, h1.2⟩, h.2⟩
theorem role2 {PP : Int → Int → Prop} (f : Nat) : Rd2 PP Ro.same (role f) := by
  intro s s' k
  have t := k.take 1
  unfold role
  simp only
  rw [t.sees, k.takeT]
  split
  · have h := blockF2 f _ _ t.pass
    exact ⟨by simp [Ro.same, h.1], h.2⟩
  · have h := blockF2 f _ _ (t.take 2)
    rw [t.takeN]
    exact ⟨by simp [Ro.same, h.1], h.2⟩
theorem progF2 {PP : Int → Int → Prop} (g : Nat) : ∀ (f : Nat) {m m' : List Mo} {r r' : List Ro} (_ : all2 Mo.same m m' = true) (_ : all2 Ro.same r r' = true) {s s' : S} (_ : Rl PP s s'), (progF g f m r s).1.same (progF g f m' r' s').1 = true ∧ Rl PP (progF g f m r s).2 (progF g f m' r' s').2 := by
  intro f
  induction f with
  | zero => intro m m' r r' hm hr s s' k; exact ⟨by simp [progF, pr, Pr.same, hm, hr], k⟩
  | succ f ih =>
    intro m m' r r' hm hr s s' k
    rw [progF, progF, k.sees]
    split
    · have := (monitor2 (PP := PP) g).oneMore 8 hm k
      exact ih this.1 hr this.2
    · rw [k.sees]
      split
      · have := (role2 (PP := PP) g).oneMore 8 hr k
        exact ih hm this.1 this.2
      · exact ⟨by simp [pr, Pr.same, hm, hr], k⟩
theorem program2 {PP : Int → Int → Prop} : Rd2 PP Pr.same program := by
  intro s s' k
  unfold program fuel
  rw [k.rest.len]
  exact progF2 _ _ rfl rfl k
theorem exprs2 {PP : Int → Int → Prop} : Rd2 PP Ex.same expr := by
  intro s s' k
  unfold expr fuel
  rw [k.rest.len]
  exact (expr2 _).1 1 _ _ k
theorem Rl.atEnd {PP : Int → Int → Prop} {s s' : S} (k : Rl PP s s') : Rl PP (atEnd s) (atEnd s') := by
  unfold Pz.atEnd
  rw [k.hd.1]
  split
  · exact k
  · exact k.refuse 40
end Pz
end Go.Proofs.YtaekbgljbgmchaaGreatDoor
namespace Go.Proofs.YtaekbgljbgmchaaGreatDoor
open Go.RowKit
namespace Lx
/-- A token without its place, and an error's number. -/
structure T where
  kind : Int
  text : List UInt8
  n : Int
  err : Int
def badT (e : Int) : T := ⟨0, [], 0, e⟩
def nameT (x : List UInt8) : T := if words.contains x then ⟨3, x, 0, 0⟩ else if 32 < x.length then badT 12 else ⟨1, x, 0, 0⟩
def numT (x : List UInt8) : T := if 1 < x.length ∧ x.head? = some 48 then badT 11 else if decVal x ≤ 9223372036854775807 then ⟨2, x, (decVal x : Nat), 0⟩ else badT 11
def second : List UInt8 → Int
  | _ :: d :: _ => (d.toNat : Int)
  | _ => 0
def signT (l : List UInt8) : T := match l with
  | [] => badT 10
  | c :: _ => if signLen (c.toNat : Int) (second l) = 0 then badT 10 else ⟨4, l.take (signLen (c.toNat : Int) (second l)), 0, 0⟩
/-- The token at the head of a list of bytes. -/
def tokL (l : List UInt8) : T := match l with
  | [] => badT 10
  | c :: _ => if letter c then nameT (l.takeWhile nameByte) else if digit c then numT (l.takeWhile digit) else signT l
def ofOut (o : Out) : T := ⟨o.kind, o.text.data.toList, o.n, o.err⟩
theorem tokL_out (s : ByteArray) (a : Nat) (ha : a < s.size) : tokL (s.data.toList.drop a) = ofOut (tokOut s a) := by
  have hdc := drop_cons s a ha
  cases hl : letter s[a]
  · cases hd : digit s[a]
    · rw [tokOut_sign s a ha hl hd]
      have hsec : second (s.data.toList.drop a) = byteAt s (a + 1) := by
        rw [hdc]
        by_cases h1 : a + 1 < s.size
        · rw [drop_cons s (a + 1) h1, byteAt_lt s (a + 1) h1]; rfl
        · rw [drop_over s (a + 1) (by omega), byteAt_over s (a + 1) h1]; rfl
      have hb := byteAt_lt s a ha
      have e : tokL (s.data.toList.drop a) = signT (s.data.toList.drop a) := by rw [hdc]; simp [tokL, hl, hd]
      rw [e]
      have e2 : signT (s.data.toList.drop a) = if signLen (byteAt s a) (byteAt s (a + 1)) = 0 then badT 10 else ⟨4, (s.data.toList.drop a).take (signLen (byteAt s a) (byteAt s (a + 1))), 0, 0⟩ := by
        rw [← hsec, hb]; rw [hdc]; rfl
      rw [e2]
      unfold signOut
      by_cases h0 : signLen (byteAt s a) (byteAt s (a + 1)) = 0
      · rw [if_pos h0, if_pos h0]; rfl
      · rw [if_neg h0, if_neg h0]
        simp only [ofOut, extract_list, Nat.add_sub_cancel_left]
    · rw [tokOut_digit s a ha hl hd]
      have e : tokL (s.data.toList.drop a) = numT ((s.data.toList.drop a).takeWhile digit) := by rw [hdc]; simp [tokL, hl, hd]
      rw [e, ← extract_span]
      have hh : (s.extract a (spanEnd digit s a)).data.toList.head? = some s[a] := by rw [extract_span, hdc]; simp [hd]
      have hsz : (s.extract a (spanEnd digit s a)).data.toList.length = (s.extract a (spanEnd digit s a)).size := by rw [Array.length_toList]; rfl
      have hb := byteAt_lt s a ha
      unfold numT numOut
      rw [hh, hsz, hb]
      have e48 : (some s[a] = some (48 : UInt8)) ↔ ((s[a].toNat : Int) = 48) := by
        constructor
        · intro h; rw [Option.some.inj h]; decide
        · intro h; rw [show s[a] = 48 from u8_eq _ 48 h]
      simp only [e48]
      split
      · rfl
      · split <;> rfl
  · rw [tokOut_letter s a ha hl]
    have e : tokL (s.data.toList.drop a) = nameT ((s.data.toList.drop a).takeWhile nameByte) := by rw [hdc]; simp [tokL, hl]
    rw [e, ← extract_span]
    have hsz : (s.extract a (spanEnd nameByte s a)).data.toList.length = (s.extract a (spanEnd nameByte s a)).size := by rw [Array.length_toList]; rfl
    unfold nameT nameOut word
    rw [hsz, ByteArray.toList_eq]
    split
    · rfl
    · split <;> rfl
/-- How a list of bytes is told. -/
inductive RL where
  | done (l : List T)
  | fail (e : Int) (k : Nat)
def consR (t : T) (m : Nat) : RL → RL
  | .done l => .done (t :: l)
  | .fail e k => .fail e (k + t.text.length + m)
inductive Scans : List UInt8 → RL → Prop
  | nil (l : List UInt8) (h : l.drop (skipC false l) = []) : Scans l (.done [])
  | bad (l : List UInt8) (c : UInt8) (r : List UInt8) (h : l.drop (skipC false l) = c :: r) (he : (tokL (c :: r)).err ≠ 0) : Scans l (.fail (tokL (c :: r)).err (skipC false l))
  | tok (l : List UInt8) (c : UInt8) (r : List UInt8) (R : RL) (h : l.drop (skipC false l) = c :: r) (he : (tokL (c :: r)).err = 0) (hR : Scans ((c :: r).drop (tokL (c :: r)).text.length) R) : Scans l (consR (tokL (c :: r)) (skipC false l) R)
theorem Scans.det {l : List UInt8} {R R' : RL} (h : Scans l R) (h' : Scans l R') : R = R' := by
  induction h generalizing R' with
  | nil l h =>
    cases h' with
    | nil => rfl
    | bad _ c r h2 => rw [h] at h2; cases h2
    | tok _ c r R h2 => rw [h] at h2; cases h2
  | bad l c r h he =>
    cases h' with
    | nil _ h2 => rw [h] at h2; cases h2
    | bad _ c' r' h2 => rw [h] at h2; cases h2; rfl
    | tok _ c' r' R h2 he2 => rw [h] at h2; cases h2; exact absurd he2 he
  | tok l c r R h he hR ih =>
    cases h' with
    | nil _ h2 => rw [h] at h2; cases h2
    | bad _ c' r' h2 he2 => rw [h] at h2; cases h2; exact absurd he he2
    | tok _ c' r' R2 h2 he2 hR2 => rw [h] at h2; cases h2; rw [ih hR2]
/-- What the scan from a place on tells, behind acc, is what is told of the bytes from there on. -/
def Fits (acc : List Out) (k : Nat) : ScanR → RL → Prop
  | .done l, .done ts => ∃ o, l = acc ++ o ∧ o.map ofOut = ts
  | .fail e j, .fail e' k' => e = e' ∧ j = k + k'
  | _, _ => False
theorem scan_fits (s : ByteArray) : ∀ (f k : Nat) (acc : List Out), k ≤ s.size → s.size ≤ skip s k + f → ∃ R, Scans (s.data.toList.drop k) R ∧ Fits acc k (scanF s f (skip s k) acc) R := by
  intro f
  have hdd : ∀ k, (s.data.toList.drop k).drop (skipC false (s.data.toList.drop k)) = s.data.toList.drop (skip s k) := by intro k; rw [List.drop_drop]; rfl
  induction f with
  | zero =>
    intro k acc hk hf
    refine ⟨.done [], .nil _ ?_, [], by simp, rfl⟩
    rw [hdd, drop_over s _ (by omega)]
  | succ f ih =>
    intro k acc hk hf
    by_cases hlt : skip s k < s.size
    · have hcons : (s.data.toList.drop k).drop (skipC false (s.data.toList.drop k)) = s[skip s k] :: s.data.toList.drop (skip s k + 1) := by rw [hdd, drop_cons s _ hlt]
      have htok : tokL (s[skip s k] :: s.data.toList.drop (skip s k + 1)) = ofOut (tokOut s (skip s k)) := by rw [← drop_cons s _ hlt]; exact tokL_out s _ hlt
      by_cases he : (tokOut s (skip s k)).err = 0
      · have hto := tok_ok s _ hlt he
        have hlen : (tokOut s (skip s k)).text.data.toList.length = (tokOut s (skip s k)).text.size := by rw [Array.length_toList]; rfl
        obtain ⟨R, hS, hF⟩ := ih (skip s k + (tokOut s (skip s k)).text.size) (acc ++ [tokOut s (skip s k)]) hto.2 (by have := le_skip s (skip s k + (tokOut s (skip s k)).text.size); omega)
        have hS2 : Scans ((s[skip s k] :: s.data.toList.drop (skip s k + 1)).drop (tokL (s[skip s k] :: s.data.toList.drop (skip s k + 1))).text.length) R := by
          rw [htok, ← drop_cons s _ hlt, List.drop_drop]
          show Scans (s.data.toList.drop (skip s k + (tokOut s (skip s k)).text.data.toList.length)) R
          rw [hlen]; exact hS
        refine ⟨_, .tok _ _ _ R hcons (by rw [htok]; exact he) hS2, ?_⟩
        rw [scanF, if_pos hlt, if_pos he]
        cases hR : R with
        | done ts =>
          rw [hR] at hF
          cases hsc : scanF s f (skip s (skip s k + (tokOut s (skip s k)).text.size)) (acc ++ [tokOut s (skip s k)]) with
          | done l =>
            rw [hsc] at hF
            obtain ⟨o, h1, h2⟩ := hF
            exact ⟨tokOut s (skip s k) :: o, by rw [h1]; simp, by rw [List.map_cons, h2, htok]⟩
          | fail e j => rw [hsc] at hF; exact hF.elim
        | fail e' k' =>
          rw [hR] at hF
          cases hsc : scanF s f (skip s (skip s k + (tokOut s (skip s k)).text.size)) (acc ++ [tokOut s (skip s k)]) with
          | done l => rw [hsc] at hF; exact hF.elim
          | fail e j =>
            rw [hsc] at hF
            obtain ⟨h1, h2⟩ := hF
            refine ⟨h1, ?_⟩
            rw [htok]
            show j = k + (k' + (tokOut s (skip s k)).text.data.toList.length + skipC false (s.data.toList.drop k))
            rw [hlen, h2]
            unfold skip; omega
      · refine ⟨_, .bad _ _ _ hcons (by rw [htok]; exact he), ?_⟩
        rw [scanF, if_pos hlt, if_neg he]
        exact ⟨by rw [htok]; rfl, rfl⟩
    · refine ⟨.done [], .nil _ (by rw [hdd, drop_over s _ (by omega)]), ?_⟩
      rw [scanF, if_neg hlt]
      exact ⟨[], by simp, rfl⟩
/-- A whole text's. -/
theorem scan_told (s : ByteArray) : ∃ R, Scans s.data.toList R ∧ Fits [] 0 (scan s) R := by
  have := scan_fits s s.size 0 [] (by omega) (by omega)
  simpa [scan] using this
theorem scan_of (s : ByteArray) (R : RL) (h : Scans s.data.toList R) : Fits [] 0 (scan s) R := by
  obtain ⟨R', h1, h2⟩ := scan_told s
  rw [h.det h1]; exact h2
end Lx
end Go.Proofs.YtaekbgljbgmchaaGreatDoor
namespace Go.Proofs.YtaekbgljbgmchaaGreatDoor
open Go.RowKit
namespace Lx
/-- A byte that ends every token ahead of it, as the end does. -/
def Brk (h : UInt8) : Prop := nameByte h = false ∧ digit h = false ∧ ∀ c : Int, signLen c (h.toNat : Int) = signLen c 0
theorem brk32 : Brk 32 := ⟨by decide, by decide, fun c => by simp only [show ((32 : UInt8).toNat : Int) = 32 from rfl]; unfold signLen; (repeat' split) <;> simp_all <;> omega⟩
theorem brk35 : Brk 35 := ⟨by decide, by decide, fun c => by simp only [show ((35 : UInt8).toNat : Int) = 35 from rfl]; unfold signLen; (repeat' split) <;> simp_all <;> omega⟩
theorem brk10 : Brk 10 := ⟨by decide, by decide, fun c => by simp only [show ((10 : UInt8).toNat : Int) = 10 from rfl]; unfold signLen; (repeat' split) <;> simp_all <;> omega⟩
theorem takeWhile_brk (p : UInt8 → Bool) (h : UInt8) (hp : p h = false) (l r : List UInt8) : (l ++ h :: r).takeWhile p = l.takeWhile p := by
  induction l with
  | nil => simp [hp]
  | cons c l ih => cases hc : p c <;> simp [hc, ih]
theorem signLen_two (c d : Int) : signLen c d ≤ 2 := by unfold signLen; (repeat' split) <;> omega
theorem signLen_end (c : UInt8) : signLen (c.toNat : Int) 0 ≤ 1 := by
  unfold signLen
  (repeat' split) <;> simp_all <;> omega
theorem signLen_one (c : UInt8) (d : Int) (h : signLen (c.toNat : Int) d = 1) : signLen (c.toNat : Int) 0 = 1 := by
  unfold signLen at h ⊢
  (repeat' split at h) <;> simp_all
theorem tok_stable (h : UInt8) (hb : Brk h) (c : UInt8) (l r : List UInt8) : tokL ((c :: l) ++ h :: r) = tokL (c :: l) := by
  have e : ∀ x, tokL (c :: x) = if letter c then nameT ((c :: x).takeWhile nameByte) else if digit c then numT ((c :: x).takeWhile digit) else signT (c :: x) := fun _ => rfl
  rw [List.cons_append, e, e, ← List.cons_append, takeWhile_brk nameByte h hb.1, takeWhile_brk digit h hb.2.1]
  split
  · rfl
  · split
    · rfl
    · cases l with
      | nil =>
        show (if signLen (c.toNat : Int) (h.toNat : Int) = 0 then badT 10 else ⟨4, ([c] ++ h :: r).take (signLen (c.toNat : Int) (h.toNat : Int)), 0, 0⟩) = (if signLen (c.toNat : Int) 0 = 0 then badT 10 else ⟨4, [c].take (signLen (c.toNat : Int) 0), 0, 0⟩)
        rw [hb.2.2, List.take_append_of_le_length (by simpa using signLen_end c)]
      | cons d l =>
        show (if signLen (c.toNat : Int) (d.toNat : Int) = 0 then badT 10 else ⟨4, ((c :: d :: l) ++ h :: r).take (signLen (c.toNat : Int) (d.toNat : Int)), 0, 0⟩) = (if signLen (c.toNat : Int) (d.toNat : Int) = 0 then badT 10 else ⟨4, (c :: d :: l).take (signLen (c.toNat : Int) (d.toNat : Int)), 0, 0⟩)
        rw [List.take_append_of_le_length (by have := signLen_two (c.toNat : Int) (d.toNat : Int); simp; omega)]
theorem takeWhile_self (p : UInt8 → Bool) (l : List UInt8) : (l.takeWhile p).takeWhile p = l.takeWhile p := by
  induction l with
  | nil => rfl
  | cons c l ih => cases hc : p c <;> simp [hc, ih]
theorem nameT_text (x : List UInt8) (h : (nameT x).err = 0) : (nameT x).text = x := by
  unfold nameT at h ⊢; split
  · rfl
  · rename_i hw; rw [if_neg hw] at h; split
    · rename_i h2; rw [if_pos h2] at h; simp [badT] at h
    · rfl
theorem numT_text (x : List UInt8) (h : (numT x).err = 0) : (numT x).text = x := by
  unfold numT at h ⊢; split
  · rename_i h2; rw [if_pos h2] at h; simp [badT] at h
  · rename_i h1; rw [if_neg h1] at h; split
    · rfl
    · rename_i h2; rw [if_neg h2] at h; simp [badT] at h
/-- A token's own text tells it; it begins as the list does. -/
theorem tok_self (c : UInt8) (l : List UInt8) (h : (tokL (c :: l)).err = 0) : tokL (tokL (c :: l)).text = tokL (c :: l) ∧ (∃ r, (tokL (c :: l)).text = c :: r) ∧ (tokL (c :: l)).text.length ≤ (c :: l).length := by
  have e : ∀ x, tokL (c :: x) = if letter c then nameT ((c :: x).takeWhile nameByte) else if digit c then numT ((c :: x).takeWhile digit) else signT (c :: x) := fun _ => rfl
  rw [e] at h ⊢
  cases hl : letter c
  · cases hd : digit c
    · simp only [hl, hd, Bool.false_eq_true, if_false] at h ⊢
      have es : ∀ x, tokL (c :: x) = signT (c :: x) := fun x => by rw [e]; simp [hl, hd]
      cases l with
      | nil =>
        have e1 : signT [c] = if signLen (c.toNat : Int) 0 = 0 then badT 10 else ⟨4, [c].take (signLen (c.toNat : Int) 0), 0, 0⟩ := rfl
        have h1 := signLen_end c
        rw [e1] at h ⊢
        by_cases h0 : signLen (c.toNat : Int) 0 = 0
        · rw [if_pos h0] at h; simp [badT] at h
        · have h2 : signLen (c.toNat : Int) 0 = 1 := by omega
          rw [if_neg h0, h2]
          refine ⟨?_, ⟨[], rfl⟩, by simp⟩
          show tokL [c] = _
          rw [es, e1, if_neg h0, h2]
      | cons d l =>
        have e1 : ∀ x, signT (c :: d :: x) = if signLen (c.toNat : Int) (d.toNat : Int) = 0 then badT 10 else ⟨4, (c :: d :: x).take (signLen (c.toNat : Int) (d.toNat : Int)), 0, 0⟩ := fun _ => rfl
        have h1 := signLen_two (c.toNat : Int) (d.toNat : Int)
        rw [e1] at h ⊢
        by_cases h0 : signLen (c.toNat : Int) (d.toNat : Int) = 0
        · rw [if_pos h0] at h; simp [badT] at h
        · rw [if_neg h0]
          by_cases h2 : signLen (c.toNat : Int) (d.toNat : Int) = 1
          · rw [h2]
            refine ⟨?_, ⟨[], rfl⟩, by simp⟩
            show tokL [c] = _
            have h3 := signLen_one c _ h2
            rw [es]
            show (if signLen (c.toNat : Int) 0 = 0 then badT 10 else ⟨4, [c].take (signLen (c.toNat : Int) 0), 0, 0⟩) = _
            rw [h3]; rfl
          · have h2' : signLen (c.toNat : Int) (d.toNat : Int) = 2 := by omega
            rw [h2']
            refine ⟨?_, ⟨[d], rfl⟩, by simp⟩
            show tokL [c, d] = _
            rw [es, e1, if_neg h0, h2']; rfl
    · simp only [hl, hd, Bool.false_eq_true, if_false, if_true] at h ⊢
      rw [numT_text _ h]
      have hx : (c :: l).takeWhile digit = c :: l.takeWhile digit := by simp [hd]
      refine ⟨?_, ⟨_, hx⟩, (List.takeWhile_sublist _).length_le⟩
      have hs := takeWhile_self digit (c :: l)
      rw [hx] at hs ⊢
      rw [e, hs]; simp [hl, hd]
  · simp only [hl, if_true] at h ⊢
    rw [nameT_text _ h]
    have hx : (c :: l).takeWhile nameByte = c :: l.takeWhile nameByte := by simp [nameByte, hl]
    refine ⟨?_, ⟨_, hx⟩, (List.takeWhile_sublist _).length_le⟩
    have hs := takeWhile_self nameByte (c :: l)
    rw [hx] at hs ⊢
    rw [e, hs]; simp [hl]
theorem skip_head : ∀ (l : List UInt8) (b : Bool) (c : UInt8) (r : List UInt8), l.drop (skipC b l) = c :: r → blank c = false ∧ c ≠ 35 := by
  intro l
  induction l with
  | nil => intro b c r h; simp at h
  | cons x l ih =>
    intro b c r h
    cases b with
    | true =>
      simp only [skipC] at h
      split at h
      · exact ih false c r (by simpa using h)
      · exact ih true c r (by simpa using h)
    | false =>
      simp only [skipC] at h
      split at h
      · exact ih true c r (by simpa using h)
      · rename_i h35
        split at h
        · exact ih false c r (by simpa using h)
        · rename_i hb
          simp at h
          rw [← h.1]
          exact ⟨by simpa using hb, h35⟩
def Good (t : T) : Prop := t.err = 0 ∧ tokL t.text = t ∧ ∃ c r, t.text = c :: r ∧ blank c = false ∧ c ≠ 35
theorem good_of {l : List UInt8} {R : RL} (h : Scans l R) : ∀ ts, R = .done ts → ∀ t ∈ ts, Good t := by
  induction h with
  | nil l h => intro ts e t ht; cases e; simp at ht
  | bad l c r h he => intro ts e; cases e
  | tok l c r R h he hR ih =>
    intro ts e t ht
    cases hRR : R with
    | fail e' k => rw [hRR] at e; cases e
    | done us =>
      rw [hRR] at e
      have e2 : tokL (c :: r) :: us = ts := by injection e
      rw [← e2] at ht
      rcases List.mem_cons.1 ht with rfl | ht
      · obtain ⟨h1, ⟨r', h2⟩, _⟩ := tok_self c r he
        obtain ⟨h3, h4⟩ := skip_head _ _ _ _ h
        exact ⟨he, h1, c, r', h2, h3, h4⟩
      · exact ih us hRR t ht
theorem skip_zero (c : UInt8) (l : List UInt8) (h : blank c = false) (h35 : c ≠ 35) : skipC false (c :: l) = 0 := by simp [skipC, h, h35]
theorem blank_step {l : List UInt8} {R : RL} (h : Scans l R) : ∀ ts, R = .done ts → Scans (32 :: l) (.done ts) := by
  have hs : ∀ l, skipC false (32 :: l) = skipC false l + 1 := fun l => by simp [skipC, blank]
  cases h with
  | nil _ h => intro ts e; cases e; exact .nil _ (by rw [hs]; simpa using h)
  | bad _ c r h he => intro ts e; cases e
  | tok _ c r R h he hR =>
    intro ts e
    cases hRR : R with
    | fail e' k => rw [hRR] at e; cases e
    | done us =>
      rw [hRR] at e hR
      have := Scans.tok (32 :: l) c r (.done us) (by rw [hs]; simpa using h) he hR
      rw [← e]; exact this
/-- TOLD AGAIN. -/
theorem again (ts : List T) (h : ∀ t ∈ ts, Good t) : Scans (ts.flatMap fun t => t.text ++ [32]) (.done ts) := by
  induction ts with
  | nil => exact .nil _ (by simp)
  | cons t ts ih =>
    obtain ⟨h0, h1, c, r, h2, h3, h4⟩ := h t (by simp)
    have hrest := blank_step (ih (fun t ht => h t (by simp [ht]))) ts rfl
    have e1 : ((t :: ts).flatMap fun t => t.text ++ [32]) = (c :: r) ++ 32 :: (ts.flatMap fun t => t.text ++ [32]) := by
      rw [List.flatMap_cons, h2]; simp
    have hst := tok_stable 32 brk32 c r (ts.flatMap fun t => t.text ++ [32])
    rw [← h2, h1] at hst
    have hsk : skipC false ((c :: r) ++ 32 :: (ts.flatMap fun t => t.text ++ [32])) = 0 := skip_zero c _ h3 h4
    rw [e1]
    have := Scans.tok ((c :: r) ++ 32 :: (ts.flatMap fun t => t.text ++ [32])) c (r ++ 32 :: (ts.flatMap fun t => t.text ++ [32])) (.done ts) (by rw [hsk]; rfl)
      (by rw [← List.cons_append, ← h2, hst]; exact h0) (by rw [← List.cons_append, ← h2, hst]; simpa using hrest)
    rw [← List.cons_append, ← h2, hst] at this
    rw [← h2]
    exact this
/-- What is passed over between two texts. -/
def Gap (g : List UInt8) : Prop := (∃ b r, g = b :: r ∧ Brk b) ∧ ∀ (b : Bool) (t : List UInt8), skipC b (g ++ t) = g.length + skipC false t
theorem skip_all (g t : List UInt8) (hg : Gap g) : ∀ (l : List UInt8) (b : Bool), skipC b l = l.length → skipC b (l ++ (g ++ t)) = l.length + (g.length + skipC false t) := by
  intro l
  induction l with
  | nil => intro b _; simpa using hg.2 b t
  | cons x l ih =>
    intro b h
    cases b with
    | true =>
      simp only [skipC, List.length_cons] at h
      simp only [List.cons_append, skipC, List.length_cons]
      split at h
      · rename_i h10; rw [if_pos h10, ih false (by omega)]; omega
      · rename_i h10; rw [if_neg h10, ih true (by omega)]; omega
    | false =>
      simp only [skipC, List.length_cons] at h
      simp only [List.cons_append, skipC, List.length_cons]
      split at h
      · rename_i h35; rw [if_pos h35, ih true (by omega)]; omega
      · rename_i h35
        rw [if_neg h35]
        split at h
        · rename_i hb; rw [if_pos hb, ih false (by omega)]; omega
        · omega
theorem skip_part (x : List UInt8) : ∀ (l : List UInt8) (b : Bool), skipC b l < l.length → skipC b (l ++ x) = skipC b l := by
  intro l
  induction l with
  | nil => intro b h; simp at h
  | cons y l ih =>
    intro b h
    cases b with
    | true =>
      simp only [skipC, List.length_cons] at h
      simp only [List.cons_append, skipC]
      split at h
      · rename_i h10; rw [if_pos h10, if_pos h10, ih false (by omega)]
      · rename_i h10; rw [if_neg h10, if_neg h10, ih true (by omega)]
    | false =>
      simp only [skipC, List.length_cons] at h
      simp only [List.cons_append, skipC]
      split at h
      · rename_i h35; rw [if_pos h35, if_pos h35, ih true (by omega)]
      · rename_i h35
        rw [if_neg h35, if_neg h35]
        split at h
        · rename_i hb; rw [if_pos hb, if_pos hb, ih false (by omega)]
        · rename_i hb; rw [if_neg hb, if_neg hb]
def addR (ts : List T) (m : Nat) : RL → RL
  | .done us => .done (ts ++ us)
  | .fail e k => .fail e (k + m)
theorem glue0 {l : List UInt8} (hl : l.drop (skipC false l) = []) (g t : List UInt8) (hg : Gap g) {R : RL} (hR : Scans t R) : Scans (l ++ (g ++ t)) (addR [] (l.length + g.length) R) := by
  have hall : skipC false l = l.length := by
    have h1 := skipC_le false l
    have h2 := congrArg List.length hl
    rw [List.length_drop, List.length_nil] at h2; omega
  have hsk := skip_all g t hg l false hall
  have hdr : ∀ m, (l ++ (g ++ t)).drop (l.length + (g.length + m)) = t.drop m := by
    intro m; rw [List.drop_append, List.drop_of_length_le (by omega), List.nil_append, List.drop_append, List.drop_of_length_le (by omega), List.nil_append]; congr 1; omega
  cases hR with
  | nil _ h => exact .nil _ (by rw [hsk, hdr]; exact h)
  | bad _ c r h he =>
    have := Scans.bad (l ++ (g ++ t)) c r (by rw [hsk, hdr]; exact h) he
    rw [hsk] at this
    show Scans _ (.fail _ (skipC false t + (l.length + g.length)))
    rw [show skipC false t + (l.length + g.length) = l.length + (g.length + skipC false t) by omega]; exact this
  | tok _ c r R h he hR =>
    have := Scans.tok (l ++ (g ++ t)) c r R (by rw [hsk, hdr]; exact h) he hR
    rw [hsk] at this
    cases R with
    | done us => exact this
    | fail e k =>
      show Scans _ (.fail e (k + (tokL (c :: r)).text.length + skipC false t + (l.length + g.length)))
      rw [show k + (tokL (c :: r)).text.length + skipC false t + (l.length + g.length) = k + (tokL (c :: r)).text.length + (l.length + (g.length + skipC false t)) by omega]; exact this
/-- TWO TEXTS WITH A GAP BETWEEN. -/
theorem glue {l : List UInt8} {R0 : RL} (h : Scans l R0) (g t : List UInt8) (hg : Gap g) {R : RL} (hR : Scans t R) : ∀ ts, R0 = .done ts → Scans (l ++ (g ++ t)) (addR ts (l.length + g.length) R) := by
  induction h with
  | nil l h => intro ts e; cases e; exact glue0 h g t hg hR
  | bad l c r h he => intro ts e; cases e
  | tok l c r R1 h he hR1 ih =>
    intro ts e
    cases hRR : R1 with
    | fail e' k => rw [hRR] at e; cases e
    | done us =>
      rw [hRR] at e
      have e2 : tokL (c :: r) :: us = ts := by injection e
      have ih2 := ih us hRR
      have hlt : skipC false l < l.length := by
        have h2 := congrArg List.length h
        rw [List.length_drop, List.length_cons] at h2; omega
      have hlen : (c :: r).length = l.length - skipC false l := by rw [← h, List.length_drop]
      obtain ⟨_, _, htl⟩ := tok_self c r he
      obtain ⟨⟨b, gr, rfl, hb⟩, _⟩ := hg
      have hst : tokL (c :: (r ++ (b :: gr ++ t))) = tokL (c :: r) := by
        have := tok_stable b hb c r (gr ++ t)
        simpa using this
      have hsk := skip_part (b :: gr ++ t) l false hlt
      have h3 : (l ++ (b :: gr ++ t)).drop (skipC false (l ++ (b :: gr ++ t))) = c :: (r ++ (b :: gr ++ t)) := by
        rw [hsk, List.drop_append_of_le_length (by omega), h]; rfl
      have := Scans.tok (l ++ (b :: gr ++ t)) c (r ++ (b :: gr ++ t)) _ h3 (by rw [hst]; exact he) (by
        rw [hst, ← List.cons_append, List.drop_append_of_le_length htl]; exact ih2)
      rw [hst, hsk] at this
      rw [← e2]
      cases R with
      | done vs => exact this
      | fail e k =>
        have hd : ((c :: r).drop (tokL (c :: r)).text.length).length = (c :: r).length - (tokL (c :: r)).text.length := List.length_drop
        show Scans _ (.fail e (k + (l.length + (b :: gr).length)))
        rw [show k + (l.length + (b :: gr).length) = k + (((c :: r).drop (tokL (c :: r)).text.length).length + (b :: gr).length) + (tokL (c :: r)).text.length + skipC false l by rw [hd]; omega]
        exact this
theorem gap1 : Gap [35, 32, 97, 32, 110, 111, 116, 101, 10] := by
  refine ⟨⟨_, _, rfl, brk35⟩, fun b t => ?_⟩
  cases b <;> simp [skipC] <;> omega
theorem gap2 : Gap [10, 35, 32, 97, 32, 110, 111, 116, 101, 10] := by
  refine ⟨⟨_, _, rfl, brk10⟩, fun b t => ?_⟩
  cases b <;> simp [skipC, blank] <;> omega
end Lx
end Go.Proofs.YtaekbgljbgmchaaGreatDoor
namespace Go.Proofs.YtaekbgljbgmchaaGreatDoor
open Go.RowKit
namespace Lx
/-- Texts one behind the other, a blank between two. -/
def joinB : List ByteArray → List UInt8
  | [] => []
  | x :: r => x.data.toList ++ r.flatMap (fun y => 32 :: y.data.toList)
theorem joinB_first (l : List ByteArray) (h : 0 < l.length) : joinB (l.take 1) = l[0].data.toList := by
  cases l with
  | nil => simp at h
  | cons x r => simp [joinB]
theorem joinB_next (l : List ByteArray) (k : Nat) (h : k < l.length) (hk : 0 < k) : joinB (l.take (k + 1)) = joinB (l.take k) ++ (32 :: l[k].data.toList) := by
  rw [List.take_succ_eq_append_getElem h]
  cases hl : l.take k with
  | nil => exfalso; have h2 := congrArg List.length hl; rw [List.length_take, List.length_nil] at h2; omega
  | cons x r => simp [joinB]
theorem joinB_take_le (l : List ByteArray) (k : Nat) : (joinB (l.take k)).length ≤ (joinB l).length := by
  cases l with
  | nil => simp
  | cons x r =>
    cases k with
    | zero => simp [joinB]
    | succ k =>
      simp only [List.take_succ_cons, joinB, List.length_append]
      have h1 : (r.flatMap (fun y => 32 :: y.data.toList)) = (r.take k).flatMap (fun y => 32 :: y.data.toList) ++ (r.drop k).flatMap (fun y => 32 :: y.data.toList) := by
        rw [← List.flatMap_append, List.take_append_drop]
      rw [h1, List.length_append]; omega
end Lx
/-- A token of this text lies at a place. -/
def TokAt (w : World) (b off : Nat) (x : ByteArray) : Prop := ∃ k n p : Int, w.cell? ⟨b, off, none⟩ = some (.int .i64 k) ∧ w.cell? ⟨b, off + 1, none⟩ = some (.string x) ∧ w.cell? ⟨b, off + 2, none⟩ = some (.int .i64 n) ∧ w.cell? ⟨b, off + 3, none⟩ = some (.int .i64 p)
/-- Tokens of these texts lie there, one behind the other. -/
def TextsAt (w : World) (b off : Nat) (l : List ByteArray) : Prop := ∀ (j : Nat) (h : j < l.length), TokAt w b (off + j * 4) l[j]
theorem kept_box {wr W1 : World} {b : Nat} {c0 c1 c2 c3 : Value} (h : Lib.OthersKept 5 (some b) (wr.alloc (.cells #[c0, c1, c2, c3] 57)) W1) (hne : b < wr.heap.size) : W1.cell? ⟨wr.heap.size, 1, none⟩ = some c1 ∧ W1.frozen? ⟨wr.heap.size, 1, none⟩ = false := by
  have h1 := h wr.heap.size (.cells #[c0, c1, c2, c3] 57 (0, 0)) (heap_alloc_new wr _) (by intro e; cases e; omega) (by intro c fz e; cases e)
  constructor
  · simp [World.cell?, h1]
  · simp [World.frozen?, h1]
theorem IsBuilderF_lt {T e : TypeId} {B b : Nat} {bs : List Value} {w : World} (h : Lib.IsBuilderF T e B b bs w) : b < w.heap.size := h.elim (fun x => x.lt) (fun x => x.lt)
theorem text_le (l : List ByteArray) (k : Nat) (h : k < l.length) : (Lx.joinB (l.take k)).length + 1 ≤ (Lx.joinB l).length + 1 ∧ l[k].size ≤ (Lx.joinB l).length := by
  have h1 := Lx.joinB_take_le l k
  have h2 := Lx.joinB_take_le l (k + 1)
  refine ⟨by omega, ?_⟩
  have e : l[k].size = l[k].data.toList.length := by simp
  by_cases hk : 0 < k
  · rw [Lx.joinB_next l k h hk] at h2
    simp only [List.length_append, List.length_cons] at h2; omega
  · obtain rfl : k = 0 := by omega
    rw [show 0 + 1 = 1 from rfl, Lx.joinB_first l h] at h2; omega
set_option maxRecDepth 100000 in
set_option maxHeartbeats 1000000 in
theorem join_any (l : List ByteArray) (b off c : Nat) (w : World) (hb : b < w.heap.size) (hn : l.length ≤ 1000000) (ht : TextsAt w b off l) (hlen : (Lx.joinB l).length ≤ 1000000000) :
    Calls Tryz.prog 27 #[.slice (some ⟨b, off, none⟩) l.length c] w fun e w' => e = .returned (.string ⟨(Lx.joinB l).toArray⟩) ∧ Below w.heap.size w w' := by
  go_enter Tryz.func27, Tryz.ntmps27
  go_wp2
  go_loopw [8] (fun i wr => ∃ k : Nat, k ≤ l.length ∧ i = .int .i64 k ∧ Lib.IsBuilderF 96 5 w.heap.size w.heap.size (Lib.byteCells (Lx.joinB (l.take k))) wr ∧ Below w.heap.size w wr)
    (fun i _ => l.length - (intOf i).toNat)
  case atStart => exact ⟨0, by omega, rfl, Lib.IsBuilderF.of (Lib.fresh_isBuilder 96 5 w), (Below.refl _ w).alloc (Nat.le_refl _) _⟩
  case round =>
    obtain ⟨k, hk, rfl, hI, hbw⟩ := hrel
    have hsz := hbw.size
    by_cases hlt : k < l.length
    · obtain ⟨tk, tn, tp, c0, c1, c2, c3⟩ := ht k hlt
      rw [← hbw.cell (p := ⟨b, _, none⟩) hb] at c0 c1 c2 c3
      have hlb := IsBuilderF_lt hI
      obtain ⟨hl1, hl2⟩ := text_le l k hlt
      by_cases hk0 : 0 < k
      · have HJ := hid (Lx.joinB_next l k hlt hk0)
        go_wp2_with (first
          | (go_at_call 59; refine (Tryz.Builder_WriteByte_k w.heap.size w.heap.size _ 32 _ (hI.elim (fun x => .inl (x.alloc _)) (fun x => .inr (x.alloc _))) (by rw [Lib.byteCells_length]; omega) (by simp; omega)).mono ?_; rintro e W1 ⟨rfl, h1, b1, k1⟩; obtain ⟨kb1, kb2⟩ := kept_box k1 hlb; have hz1 : w.heap.size ≤ W1.heap.size := (by have := b1.size; simp at this; omega))
          | (go_at_call 60; refine (Tryz.Builder_WriteString_k w.heap.size w.heap.size _ l[k] _ (.inr h1) (by rw [List.length_append, Lib.byteCells_length]; simp; omega) hz1).mono ?_; rintro e W2 ⟨rfl, h2, b2, k2⟩))
        go_roundw
        case rel =>
          refine ⟨k + 1, by omega, by go_num, ?_, ((hbw.alloc hsz _).trans b1).trans b2⟩
          rw [HJ.out]
          have e : Lib.byteCells (Lx.joinB (l.take k) ++ (32 :: l[k].data.toList)) = Lib.byteCells (Lx.joinB (l.take k)) ++ [.int .u8 32] ++ Lib.strCells l[k] := by
            simp [Lib.byteCells, Lib.strCells]
          rw [e]
          exact Or.inr h2
        case measure => simp [intOf]; omega
      · obtain rfl : k = 0 := by omega
        have HJ := hid (Lx.joinB_first l hlt)
        simp only [Nat.zero_mul, Nat.add_zero] at c0 c1 c2 c3
        go_wp2_with (go_at_call 60; refine (Tryz.Builder_WriteString_k w.heap.size w.heap.size _ l[0] _ (hI.elim (fun x => .inl (x.alloc _)) (fun x => .inr (x.alloc _))) (by rw [Lib.byteCells_length]; omega) (by simp; omega)).mono ?_; rintro e W2 ⟨rfl, h2, b2, k2⟩)
        go_roundw
        case rel =>
          refine ⟨1, by omega, by go_num, ?_, (hbw.alloc hsz _).trans b2⟩
          rw [HJ.out]
          have e : Lib.byteCells (l[0].data.toList) = Lib.byteCells (Lx.joinB (l.take 0)) ++ Lib.strCells l[0] := by
            simp [Lib.byteCells, Lib.strCells, Lx.joinB]
          rw [e]
          exact Or.inr h2
        case measure => simp [intOf]; omega
    · have hk1 : k = l.length := by omega
      rw [show l.take k = l by rw [hk1]; simp] at hI
      have hk2 : l.length ≤ k := by omega
      clear hk1
      go_wp2_with (go_at_call 61; refine (Tryz.Builder_String_any_k w.heap.size w.heap.size _ _ hI (by omega)).mono ?_; rintro e W1 ⟨rfl, _, b1, _⟩)
      go_ret
      exact ⟨rfl, hbw.trans b1⟩
end Go.Proofs.YtaekbgljbgmchaaGreatDoor
namespace Go.Proofs.YtaekbgljbgmchaaGreatDoor
open Go.RowKit
namespace Lx
theorem tok_facts (s : ByteArray) (a : Nat) (ha : a < s.size) (he : (tokOut s a).err = 0) : (tokOut s a).pos = a ∧ (tokOut s a).kind ≠ 5 ∧ (tokOut s a).text = s.extract a (a + (tokOut s a).text.size) := by
  have hx : ∀ b, a ≤ b → b ≤ s.size → s.extract a b = s.extract a (a + (s.extract a b).size) := by
    intro b h1 h2
    have : (s.extract a b).size = b - a := by simp; omega
    rw [this, show a + (b - a) = b by omega]
  cases hl : letter s[a]
  · cases hd : digit s[a]
    · rw [tokOut_sign s a ha hl hd] at he ⊢
      have hle := signLen_le s a ha
      unfold signOut at he ⊢
      split
      · rename_i h; rw [if_pos h] at he; simp [bad] at he
      · exact ⟨rfl, by show (4 : Int) ≠ 5; decide, hx _ (by omega) hle⟩
    · rw [tokOut_digit s a ha hl hd] at he ⊢
      have hle := spanEnd_le digit s a (by omega)
      have hge := le_spanEnd digit s a
      unfold numOut at he ⊢
      split
      · rename_i h; rw [if_pos h] at he; simp [bad] at he
      · rename_i h1; rw [if_neg h1] at he
        split
        · exact ⟨rfl, by show (2 : Int) ≠ 5; decide, hx _ hge hle⟩
        · rename_i h2; rw [if_neg h2] at he; simp [bad] at he
  · rw [tokOut_letter s a ha hl] at he ⊢
    have hle := spanEnd_le nameByte s a (by omega)
    have hge := le_spanEnd nameByte s a
    unfold nameOut at he ⊢
    split
    · exact ⟨rfl, by show (3 : Int) ≠ 5; decide, hx _ hge hle⟩
    · rename_i h1; rw [if_neg h1] at he
      split
      · rename_i h2; rw [if_pos h2] at he; simp [bad] at he
      · exact ⟨rfl, by show (1 : Int) ≠ 5; decide, hx _ hge hle⟩
/-- Tokens stand one behind the other from a place on, with nothing but blanks and notes between. -/
def Chain (s : ByteArray) : Nat → List Out → Prop
  | k, [] => s.size ≤ skip s k
  | k, o :: r => o.pos = skip s k ∧ o.pos < s.size ∧ o.err = 0 ∧ o = tokOut s o.pos ∧ Chain s (o.pos + o.text.size) r
theorem scanF_chain (s : ByteArray) : ∀ (f k : Nat) (acc l : List Out), s.size ≤ skip s k + f → scanF s f (skip s k) acc = .done l → ∃ r, l = acc ++ r ∧ Chain s k r := by
  intro f
  induction f with
  | zero => intro k acc l hf h; simp only [scanF] at h; injection h with h; exact ⟨[], by simp [h], by show s.size ≤ _; omega⟩
  | succ f ih =>
    intro k acc l hf h
    simp only [scanF] at h
    split at h
    · rename_i hlt
      split at h
      · rename_i he
        have hto := tok_ok s _ hlt he
        have hp := tok_facts s _ hlt he
        obtain ⟨r, h1, h2⟩ := ih _ _ _ (by have := le_skip s (skip s k + (tokOut s (skip s k)).text.size); omega) h
        refine ⟨tokOut s (skip s k) :: r, by rw [h1]; simp, hp.1, by rw [hp.1]; exact hlt, he, by rw [hp.1], ?_⟩
        rw [hp.1]; exact h2
      · cases h
    · rename_i hlt
      injection h with h
      exact ⟨[], by simp [h], by show s.size ≤ _; omega⟩
theorem join_flat (l : List ByteArray) : joinB (l ++ [⟨#[]⟩]) = l.flatMap fun x => x.data.toList ++ [32] := by
  have h : ∀ r : List ByteArray, (r ++ [(⟨#[]⟩ : ByteArray)]).flatMap (fun y => 32 :: y.data.toList) = 32 :: (r.flatMap fun x => x.data.toList ++ [32]) := by
    intro r
    induction r with
    | nil => simp
    | cons x r ih => rw [List.cons_append, List.flatMap_cons, ih, List.flatMap_cons]; simp
  cases l with
  | nil => simp [joinB]
  | cons x r => rw [List.cons_append]; simp only [joinB]; rw [h, List.flatMap_cons]; simp
theorem again_outs (s : ByteArray) (l : List Out) (h : scan s = .done l) : ∃ l', scan ⟨(joinB ((l ++ [endTok s]).map fun o => o.text)).toArray⟩ = .done l' ∧ l'.map ofOut = l.map ofOut := by
  obtain ⟨R, h1, h2⟩ := scan_told s
  rw [h] at h2
  cases R with
  | fail e k => exact h2.elim
  | done ts =>
    obtain ⟨o, h3, h4⟩ := h2
    rw [List.nil_append] at h3
    subst h3
    have hg := good_of h1 ts rfl
    have ha := again ts hg
    have e : (ByteArray.mk (joinB ((l ++ [endTok s]).map fun o => o.text)).toArray).data.toList = ts.flatMap fun t => t.text ++ [32] := by
      have e1 : ((l ++ [endTok s]).map fun o => o.text) = (l.map fun o => o.text) ++ [⟨#[]⟩] := by simp [endTok]
      rw [e1, join_flat, ← h4]
      simp [List.flatMap_map, ofOut]
    rw [← e] at ha
    have hf := scan_of _ _ ha
    generalize scan ⟨(joinB ((l ++ [endTok s]).map fun o => o.text)).toArray⟩ = S at hf
    cases S with
    | fail e k => exact hf.elim
    | done l' =>
      obtain ⟨o, h5, h6⟩ := hf
      rw [List.nil_append] at h5
      exact ⟨l', rfl, by rw [h5, h6, h4]⟩
theorem chain_inc (s : ByteArray) : ∀ (l : List Out) (k : Nat), Chain s k l → (∀ o ∈ l, k ≤ o.pos ∧ o.pos < s.size) ∧ l.Pairwise (fun a b => a.pos < b.pos) := by
  intro l
  induction l with
  | nil => intro k _; exact ⟨by simp, .nil⟩
  | cons o r ih =>
    intro k h
    obtain ⟨h1, h2, h3, h4, h5⟩ := h
    have hk : k ≤ o.pos := by rw [h1]; exact le_skip s k
    have hz : 1 ≤ o.text.size := by rw [h4]; exact (tok_ok s _ h2 (by rw [← h4]; exact h3)).1
    obtain ⟨i1, i2⟩ := ih _ h5
    refine ⟨fun x hx => ?_, List.pairwise_cons.2 ⟨fun x hx => ?_, i2⟩⟩
    · rcases List.mem_cons.1 hx with rfl | hx
      · exact ⟨hk, h2⟩
      · have := i1 x hx; omega
    · have := i1 x hx; omega
/-- The places of a text's tokens rise. -/
theorem outs_inc (s : ByteArray) (l : List Out) (h : scan s = .done l) : (l ++ [endTok s]).Pairwise (fun a b => a.pos < b.pos) := by
  obtain ⟨r, h1, h2⟩ := scanF_chain s s.size 0 [] l (by omega) h
  rw [List.nil_append] at h1
  subst h1
  obtain ⟨i1, i2⟩ := chain_inc s l 0 h2
  refine List.pairwise_append.2 ⟨i2, by simp, fun a ha b hb => ?_⟩
  rw [List.mem_singleton] at hb
  subst hb
  exact (i1 a ha).2
/-- The tokens of bytes of which the parts are known. -/
theorem scan_list (s : ByteArray) (ts : List T) (h : Scans s.data.toList (.done ts)) : ∃ l, scan s = .done l ∧ l.map ofOut = ts := by
  have hf := scan_of s _ h
  generalize hS : scan s = R at hf
  cases R with
  | fail e k => exact hf.elim
  | done l =>
    obtain ⟨o, h5, h6⟩ := hf
    rw [List.nil_append] at h5
    exact ⟨l, rfl, by rw [h5, h6]⟩
theorem tok_step (c : UInt8) (r : List UInt8) (t : T) (ts : List T) (hb : blank c = false) (h35 : c ≠ 35) (ht : tokL (c :: r) = t) (he : t.err = 0) (hR : Scans ((c :: r).drop t.text.length) (.done ts)) : Scans (c :: r) (.done (t :: ts)) := by
  have h0 := skip_zero c r hb h35
  have := Scans.tok (c :: r) c r (.done ts) (by rw [h0]; rfl) (by rw [ht]; exact he) (by rw [ht]; exact hR)
  rw [ht] at this
  exact this
end Lx
end Go.Proofs.YtaekbgljbgmchaaGreatDoor
namespace Go.Proofs.YtaekbgljbgmchaaGreatDoor
open Go.RowKit
open Lx (Out)
open Pz
open Lx (ofOut scan_list outs_inc endTok scan outs errOf atOf joinB Chain)
namespace Pz
theorem tw_of {PP : Int → Int → Prop} {o o' : Out} (h : ofOut o' = ofOut o) (hp : PP o.pos o'.pos) : Tw PP o o' := by
  unfold ofOut at h
  injection h with h1 h2 h3 h4
  exact ⟨h1, ByteArray.ext (Array.toList_inj.1 h2), h3, hp⟩
theorem two_of {PP : Int → Int → Prop} (z z' : Out) (hz : ofOut z' = ofOut z) (h5 : z.kind = 5) : ∀ (A A' : List Out), A'.map ofOut = A.map ofOut → (∀ (i : Nat) (h : i < (A ++ [z]).length) (h' : i < (A' ++ [z']).length), PP (A ++ [z])[i].pos (A' ++ [z'])[i].pos) → Two PP (A ++ [z]) (A' ++ [z'])
  | [], [], _, hp => .one (tw_of hz (hp 0 (by simp) (by simp))) h5
  | [], _ :: _, h, _ => by simp at h
  | _ :: _, [], h, _ => by simp at h
  | a :: A, a' :: A', h, hp => by
    simp only [List.map_cons, List.cons.injEq] at h
    exact .cons (tw_of h.1 (hp 0 (by simp) (by simp))) (two_of z z' hz h5 A A' h.2 fun i hi hi' => by have := hp (i + 1) (by simpa using hi) (by simpa using hi'); simpa using this)
/-- Two places are those of the same token. -/
def PosAt (L L' : List Out) (a b : Int) : Prop := ∃ i, ∃ (h : i < L.length) (h' : i < L'.length), (L[i].pos : Int) = a ∧ (L'[i].pos : Int) = b
theorem whole2 {PP : Int → Int → Prop} {x x' : Pr × S} (h : x.1.same x'.1 = true) (k : Rl PP x.2 x'.2) : (wholeOfP x').2.1 = (wholeOfP x).2.1 ∧ (wholeOfP x).1.same (wholeOfP x').1 = true ∧ ((wholeOfP x).2.1 ≠ 0 → PP (wholeOfP x).2.2 (wholeOfP x').2.2) := by
  have ke := k.atEnd
  unfold wholeOfP
  rw [ke.err]
  by_cases h0 : (atEnd x.2).err = 0
  · rw [if_pos h0, if_pos h0]; exact ⟨rfl, h, fun h => absurd rfl h⟩
  · rw [if_neg h0, if_neg h0]; exact ⟨rfl, rfl, fun _ => ke.pos h0⟩
theorem chain_sum (s : ByteArray) : ∀ (l : List Out) (k : Nat), Chain s k l → k ≤ s.size → (l.map fun o => o.text.size).sum + k ≤ s.size ∧ l.length ≤ (l.map fun o => o.text.size).sum := by
  intro l
  induction l with
  | nil => intro k _ hk; simp; exact hk
  | cons o r ih =>
    intro k h hk
    obtain ⟨h1, h2, h3, h4, h5⟩ := h
    have hk2 : k ≤ o.pos := by rw [h1]; exact Lx.le_skip s k
    have hz : 1 ≤ o.text.size ∧ o.pos + o.text.size ≤ s.size := by rw [h4]; have := Lx.tok_ok s _ h2 (by rw [← h4]; exact h3); rw [← h4] at this ⊢; exact this
    obtain ⟨i1, i2⟩ := ih _ h5 hz.2
    simp only [List.map_cons, List.sum_cons, List.length_cons]
    omega
theorem flat_len (l : List Out) : (l.flatMap fun x => x.text.data.toList ++ [32]).length = (l.map fun o => o.text.size).sum + l.length := by
  induction l with
  | nil => rfl
  | cons a l ih =>
    simp only [List.flatMap_cons, List.length_append, ih, List.map_cons, List.sum_cons, List.length_cons, List.length_nil]
    have : a.text.data.toList.length = a.text.size := by rw [Array.length_toList]; rfl
    omega
theorem join_size (s : ByteArray) (l : List Out) (h : scan s = .done l) : (joinB ((l ++ [endTok s]).map fun o => o.text)).length ≤ 2 * s.size ∧ l.length ≤ s.size := by
  obtain ⟨r, h1, h2⟩ := Lx.scanF_chain s s.size 0 [] l (by omega) h
  rw [List.nil_append] at h1
  subst h1
  obtain ⟨i1, i2⟩ := chain_sum s l 0 h2 (by omega)
  have e1 : ((l ++ [endTok s]).map fun o => o.text) = (l.map fun o => o.text) ++ [⟨#[]⟩] := by simp [endTok]
  rw [e1, Lx.join_flat, List.flatMap_map, flat_len]
  omega
theorem reader_done {s : ByteArray} {l : List Out} (h : scan s = .done l) : reader s = ⟨l ++ [endTok s], 0, 0, 0⟩ := by
  obtain ⟨h1, h2, -⟩ := Lx.of_done s l h
  unfold reader
  rw [h2, if_pos rfl, h1]
/-- The text that Join makes of a text's tokens. -/
def joined (s : ByteArray) : ByteArray := ⟨(joinB ((outs s).map fun o => o.text)).toArray⟩
theorem tokens_alike (s : ByteArray) (l : List Out) (h : scan s = .done l) : errOf (joined s) = 0 ∧ (outs (joined s)).length = (outs s).length ∧ (wholeOfP (program (reader (joined s)))).2.1 = (wholeOfP (program (reader s))).2.1 ∧ (wholeOfP (program (reader s))).1.same (wholeOfP (program (reader (joined s)))).1 = true ∧ ((wholeOfP (program (reader s))).2.1 ≠ 0 → PosAt (outs s) (outs (joined s)) (wholeOfP (program (reader s))).2.2 (wholeOfP (program (reader (joined s)))).2.2) := by
  obtain ⟨l', h1, h2⟩ := Lx.again_outs s l h
  obtain ⟨r1, r2, r3⟩ := Lx.of_done s l h
  have hJ : joined s = ⟨(joinB ((l ++ [endTok s]).map fun o => o.text)).toArray⟩ := by unfold joined; rw [r1]
  rw [← hJ] at h1
  obtain ⟨q1, q2, q3⟩ := Lx.of_done _ l' h1
  have hlen : l'.length = l.length := by have := congrArg List.length h2; simpa using this
  have hR : Rl (PosAt (outs s) (outs (joined s))) (reader s) (reader (joined s)) := by
    rw [reader_done h, reader_done h1]
    refine ⟨two_of (endTok s) (endTok (joined s)) rfl rfl l l' h2 fun i hi hi' => ?_, rfl, rfl, fun h => absurd rfl h⟩
    refine ⟨i, by rw [r1]; exact hi, by rw [q1]; exact hi', ?_, ?_⟩
    · simp only [r1]
    · simp only [q1]
  have hP := program2 _ _ hR
  refine ⟨q2, by rw [q1, r1]; simp [hlen], ?_⟩
  exact whole2 hP.1 hP.2
/-- The place of a text's token tells which it is. -/
theorem pos_inj (s : ByteArray) (l : List Out) (h : scan s = .done l) (i j : Nat) (hi : i < (outs s).length) (hj : j < (outs s).length) (hlt : i < j) : (outs s)[i].pos ≠ (outs s)[j].pos := by
  have hp := outs_inc s l h
  rw [← (Lx.of_done s l h).1] at hp
  have := List.pairwise_iff_getElem.1 hp i j hi hj hlt
  omega
theorem parse_fails (s : ByteArray) (h : errOf s ≠ 0) : (wholeOfP (program (reader s))).2.1 = errOf s := by
  have hr : (reader s).err = errOf s := by unfold reader; rw [if_neg h]
  have he := ek.trans (ek.progF (fuel (reader s)) (reader s).rest.length [] [] (reader s)) (ek_atEnd _) (by rw [hr]; exact h)
  have he1 : (atEnd (program (reader s)).2).err = errOf s := he.1.trans hr
  unfold wholeOfP
  rw [if_neg (by rw [he1]; exact h)]
  exact he1
end Pz
theorem all2_map {α : Type} (f : α → α → Bool) (g : α → α) : ∀ (xs ys : List α), (∀ x ∈ xs, ∀ y, f (g x) (g y) = f x y) → all2 f (xs.map g) (ys.map g) = all2 f xs ys
  | [], [], _ => rfl
  | [], _ :: _, _ => rfl
  | _ :: _, [], _ => rfl
  | x :: xs, y :: ys, h => by
    simp only [List.map_cons, all2]
    rw [h x (by simp) y, all2_map f g xs ys fun a ha => h a (List.mem_cons_of_mem _ ha)]
theorem Ex.same_clr : ∀ (a b : Ex), a.clr.same b.clr = a.same b := by
  intro a
  induction a using Ex.ind with
  | h op mon name n ad cap kids pos ih =>
    intro b
    rcases b with ⟨op', mon', name', n', ad', cap', kids', pos'⟩
    rw [Ex.clr, Ex.clr]
    simp only [Ex.same, Ex.sameL_eq, Ex.clrL_eq]
    rw [all2_map Ex.same Ex.clr kids kids' ih]
theorem Bl.same_clr : ∀ (a b : Bl), a.clr.same b.clr = a.same b :=
  Bl.ind (P := fun s => ∀ t : St, s.clr.same t.clr = s.same t) (Q := fun b => ∀ c : Bl, b.clr.same c.clr = b.same c)
    (fun kind mon name n e ad cap blocks pos ih t => by
      rcases t with ⟨kind', mon', name', n', e', ad', cap', blocks', pos'⟩
      rw [St.clr, St.clr]
      simp only [St.same, Bl.sameL_eq, Bl.clrL_eq, Ex.same_clr]
      rw [all2_map Bl.same Bl.clr blocks blocks' ih])
    (fun ad cap body ih c => by
      rcases c with ⟨ad', cap', body'⟩
      rw [Bl.clr, Bl.clr]
      simp only [Bl.same, St.sameL_eq, St.clrL_eq]
      exact all2_map St.same St.clr body body' ih)
theorem Me.same_clr (a b : Me) : a.clr.same b.clr = a.same b := by unfold Me.same Me.clr; simp only [Bl.same_clr]
theorem Ro.same_clr (a b : Ro) : a.clr.same b.clr = a.same b := by unfold Ro.same Ro.clr; simp only [Bl.same_clr]
theorem Mo.same_clr (a b : Mo) : a.clr.same b.clr = a.same b := by
  unfold Mo.same Mo.clr
  simp only
  rw [all2_map Va.same Va.clr _ _ fun _ _ _ => rfl, all2_map Me.same Me.clr _ _ fun x _ y => Me.same_clr x y]
theorem Pr.same_clr (a b : Pr) : a.clr.same b.clr = a.same b := by
  unfold Pr.same Pr.clr
  simp only
  rw [all2_map Mo.same Mo.clr _ _ fun x _ y => Mo.same_clr x y, all2_map Ro.same Ro.clr _ _ fun x _ y => Ro.same_clr x y]
end Go.Proofs.YtaekbgljbgmchaaGreatDoor
namespace Go.Proofs.YtaekbgljbgmchaaGreatDoor
open Go.RowKit
open Lx (Out)
open Pz
open Lx (outs errOf atOf scan)
/-- What parse.Parse hands back: a program that lies in memory. -/
theorem parse_lies (s : ByteArray) (P : Pr) (c a : Int) (w : World) (hs : s.size ≤ 20000) (hE : HasErr w) (hO : Opers w) (h : wholeOfP (Pz.program (reader s)) = (P, c, a)) : Calls Tryz.prog 14 #[.string s] w fun r w' => (∃ mad mcp nm rad rcp nr lm lr, r = .returned (.tuple #[.agg #[.slice mad nm mcp, .slice rad nr rcp], .int .i64 c, .int .i64 a]) ∧ Hid (nm = (lm : List Mo).length ∧ nr = (lr : List Ro).length ∧ (Pr.mk mad mcp lm rad rcp lr).clr = P ∧ (Pr.mk mad mcp lm rad rcp lr).Is w'.heap.size w')) ∧ Below w.heap.size w w' := by
  refine (parse_any s w hs hE hO).mono ?_
  rintro r w1 ⟨⟨mad, mcp, lm, rad, rcp, lr, rfl, hclr, hBy⟩, b1⟩
  rw [h] at hclr ⊢
  exact ⟨⟨mad, mcp, lm.length, rad, rcp, lr.length, lm, lr, rfl, rfl, rfl, hclr, hBy.is⟩, b1⟩
theorem same_lies {P Q : Pr} (hPQ : P.same Q = true) {mad mad' rad rad' : Option Addr} {nm mcp nr rcp nm' mcp' nr' rcp' : Nat} {lm lm' : List Mo} {lr lr' : List Ro} {w1 w2 w : World}
    (h1 : nm = lm.length ∧ nr = lr.length ∧ (Pr.mk mad mcp lm rad rcp lr).clr = P ∧ (Pr.mk mad mcp lm rad rcp lr).Is w1.heap.size w1) (h2 : nm' = lm'.length ∧ nr' = lr'.length ∧ (Pr.mk mad' mcp' lm' rad' rcp' lr').clr = Q ∧ (Pr.mk mad' mcp' lm' rad' rcp' lr').Is w2.heap.size w2) (b1 : Below w1.heap.size w1 w) (b2 : Below w2.heap.size w2 w) :
    Calls Tryz.prog 16 #[.agg #[.slice mad nm mcp, .slice rad nr rcp], .agg #[.slice mad' nm' mcp', .slice rad' nr' rcp']] w fun r w' => r = .returned (.bool true) ∧ Below w.heap.size w w' := by
  obtain ⟨rfl, rfl, rfl, i1⟩ := h1
  obtain ⟨rfl, rfl, rfl, i2⟩ := h2
  have := same_any w.heap.size _ _ w (Nat.le_refl _) ((i1.below b1).mono b1.size) ((i2.below b2).mono b2.size)
  rw [Pr.same_clr] at hPQ
  rw [hPQ] at this
  exact this
/-- The tokens of a row. -/
def RowTok (w : World) (g : Nat) (l : List Out) : Prop := ∀ (j : Nat) (h : j < l.length), w.cell? ⟨g, j * 4 + 3, none⟩ = some (.int .i64 (l[j].pos : Int))
theorem rowTok_of {w : World} {g : Nat} {l : List Out} (h : ∀ j, j < l.length * 4 → w.cell? ⟨g, j, none⟩ = (Lx.cellsOf l)[j]?) : RowTok w g l := fun j hj => by
  rw [h (j * 4 + 3) (by omega), flat4 l j hj 3 (by omega)]; rfl
theorem textsAt_of {w : World} {g : Nat} {l : List Out} (h : ∀ j, j < l.length * 4 → w.cell? ⟨g, j, none⟩ = (Lx.cellsOf l)[j]?) : TextsAt w g 0 (l.map fun o => o.text) := fun j hj => by
  have hj' : j < l.length := by simpa using hj
  have e0 := h (j * 4 + 0) (by omega)
  have e1 := h (j * 4 + 1) (by omega)
  have e2 := h (j * 4 + 2) (by omega)
  have e3 := h (j * 4 + 3) (by omega)
  rw [flat4 l j hj' 0 (by omega)] at e0
  rw [flat4 l j hj' 1 (by omega)] at e1
  rw [flat4 l j hj' 2 (by omega)] at e2
  rw [flat4 l j hj' 3 (by omega)] at e3
  rw [Nat.zero_add]
  refine ⟨l[j].kind, l[j].n, (l[j].pos : Int), e0, ?_, e2, e3⟩
  rw [e1]; simp [Lx.cells1]
theorem TextsAt.below {w w' : World} {g off : Nat} {l : List ByteArray} (h : TextsAt w g off l) (hg : g < w.heap.size) (hb : Below w.heap.size w w') : TextsAt w' g off l := fun j hj => by
  obtain ⟨k, n, p, c0, c1, c2, c3⟩ := h j hj
  exact ⟨k, n, p, (hb.cell (p := ⟨g, _, none⟩) hg).trans c0, (hb.cell (p := ⟨g, _, none⟩) hg).trans c1, (hb.cell (p := ⟨g, _, none⟩) hg).trans c2, (hb.cell (p := ⟨g, _, none⟩) hg).trans c3⟩
theorem RowTok.below {w w' : World} {g : Nat} {l : List Out} (h : RowTok w g l) (hg : g < w.heap.size) (hb : Below w.heap.size w w') : RowTok w' g l := fun j hj => (hb.cell (p := ⟨g, _, none⟩) hg).trans (h j hj)
theorem two_cells {w : World} {b : Nat} {x y : Value} {T : TypeId} (h : w.heap[b]? = some (.cells #[x, y] T (0, 0))) : w.cell? ⟨b, 0, none⟩ = some x ∧ w.cell? ⟨b, 1, none⟩ = some y := ⟨cellB h 0, cellB h 1⟩
set_option maxRecDepth 100000 in
set_option maxHeartbeats 2000000 in
theorem parseTokens_walk (s : ByteArray) (w : World) (hs : s.size ≤ 140737488351232) (hE : HasErr w) (hO : Opers w) : Calls Tryz.prog 7 #[.string s] w fun r w' => r = .returned (.bool true) ∧ Below w.heap.size w w' := by
  have hlive : ∀ V, Below w.heap.size w V → Calls Tryz.prog 9 #[] V fun r w' => r = .returned (.bool true) ∧ Below V.heap.size V w' := fun V hV => live_any V (hE.after hV) (hO.below hV)
  by_cases hl : 4000 < s.size
  · have B := Below.refl w.heap.size w
    go_enter Tryz.func7, Tryz.ntmps7
    go_wp2_with (go_at_call 9; (with_reducible refine (hlive _ B).mono ?_); rintro r w5 ⟨rfl, bb⟩; have B := B.tr le_rfl' bb)
    go_ret
    exact ⟨rfl, B⟩
  · go_enter Tryz.func7, Tryz.ntmps7
    go_wp2_with fail
    refine (scan_any s w (by omega) hE).mono ?_
    rintro e w1 ⟨v1, rfl, hown1, B⟩
    cases hsc : scan s with
    | fail er k =>
      obtain ⟨r1, r2, r3⟩ := Lx.of_fail s er k hsc
      have hne := scan_no s er k hsc
      have hpf := parse_fails s (by rw [r2]; exact hne)
      have hneb : (er != 0) = true := by rw [bne_iff_ne]; exact hne
      rw [r1] at hown1
      rw [r2, r3]
      rw [r2] at hpf
      obtain ⟨P, a, hP⟩ : ∃ P a, wholeOfP (Pz.program (reader s)) = (P, er, a) := ⟨_, _, by rw [← hpf]⟩
      have hX : ∀ V, Below w.heap.size w V → _ := fun V hV => parse_lies s P er a V (by omega) (hE.after hV) (hO.below hV) hP
      have hv : v1 = .slice none 0 0 ∨ ∃ a c, v1 = .slice (some a) 0 c := by
        obtain ⟨_, ⟨h, _⟩ | ⟨g, cap, cur, h, _⟩⟩ := hown1
        · exact Or.inl h
        · exact Or.inr ⟨_, _, h⟩
      clear hown1 hsc r1 r2 r3 hne hpf hP
      rcases hv with rfl | ⟨va, vc, rfl⟩
      all_goals
        go_wp2_with (first
          | (go_at_call 13; (with_reducible refine (num_c _ _).mono ?_); rintro r w' ⟨rfl, hw'⟩; subst hw')
          | (go_at_call 14; (with_reducible refine (hX _ B).mono ?_); rintro r w2 ⟨⟨mad, mcp, nm, rad, rcp, nr, lm, lr, rfl, HP⟩, bb⟩; have B := B.tr le_rfl' bb; have B := B.al le_rfl' (.cells #[.slice mad nm mcp, .slice rad nr rcp] 37))
          | (go_at_call 9; (with_reducible refine (hlive _ B).mono ?_); rintro r w5 ⟨rfl, bb⟩; have B := B.tr le_rfl' bb))
        go_ret
        exact ⟨rfl, B⟩
    | done l =>
      obtain ⟨r1, r2, r3⟩ := Lx.of_done s l hsc
      obtain ⟨t1, t2, t3, t4, t5⟩ := tokens_alike s l hsc
      have hinj := pos_inj s l hsc
      obtain ⟨z1, z2⟩ := join_size s l hsc
      have hlen : (outs s).length = l.length + 1 := by rw [r1]; simp
      rw [r2, r3]
      obtain ⟨g, cap, rfl, hB0, hg, hcap, hmx, hcell⟩ := owns_shape hown1 (by omega)
      have hrow := rowTok_of hcell
      have htx := textsAt_of hcell
      have hjs : (joined s).size ≤ 8000 := by unfold joined; rw [r1]; show (Lx.joinB _).toArray.size ≤ _; simp only [List.size_toArray]; omega
      have hjo : ∀ V, Below w1.heap.size w1 V → Calls Tryz.prog 27 #[.slice (some ⟨g, 0, none⟩) (outs s).length cap] V fun e w' => e = .returned (.string (joined s)) ∧ Below V.heap.size V w' := fun V hV => by
        have := join_any ((outs s).map fun o => o.text) g 0 cap V (Nat.lt_of_lt_of_le hg hV.size) (by rw [List.length_map]; omega) (htx.below hg hV) (by rw [r1]; omega)
        rw [List.length_map] at this
        exact this
      obtain ⟨P, c, a, hP⟩ : ∃ P c a, wholeOfP (Pz.program (reader s)) = (P, c, a) := ⟨_, _, _, rfl⟩
      obtain ⟨Q, c', k, hQ⟩ : ∃ Q c k, wholeOfP (Pz.program (reader (joined s))) = (Q, c, k) := ⟨_, _, _, rfl⟩
      rw [hP, hQ] at t3 t4 t5
      simp only at t3 t4 t5
      subst t3
      have hX : ∀ V, Below w.heap.size w V → _ := fun V hV => parse_lies s P c' a V (by omega) (hE.after hV) (hO.below hV) hP
      have hY : ∀ V, Below w.heap.size w V → _ := fun V hV => parse_lies (joined s) Q c' k V (by omega) (hE.after hV) (hO.below hV) hQ
      have hsJ : ∀ V, Below w.heap.size w V → _ := fun V hV => scan_any (joined s) V (by omega) (hE.after hV)
      rw [t1] at hsJ
      obtain ⟨J, hJ⟩ : ∃ J, joined s = J := ⟨_, rfl⟩
      obtain ⟨L, hL⟩ : ∃ L, outs s = L := ⟨_, rfl⟩
      obtain ⟨M, hM⟩ : ∃ M, outs J = M := ⟨_, rfl⟩
      obtain ⟨aJ, haJ⟩ : ∃ x, atOf J = x := ⟨_, rfl⟩
      rw [hJ] at hjo hY hsJ t2 t5
      rw [hM, haJ] at hsJ
      rw [hM] at t2 t5
      rw [hL] at hjo t2 t5 hlen hrow hinj
      simp only [hL]
      have HT2 := hid t2
      have HT5 := hid t5
      have HSAME := hid t4
      have HROW := hid hrow
      have HINJ := hid hinj
      obtain ⟨N, hN⟩ : ∃ N, L.length = N := ⟨_, rfl⟩
      rw [hN] at hjo hlen
      simp only [hN]
      have HN := hid hN
      have hN0 : 0 < N := by omega
      have hNs : N ≤ 4001 := by omega
      clear hP hQ hsc r1 r2 r3 t1 t2 t4 t5 hinj z1 z2 hown1 hcell hrow htx hjs hJ hL hM haJ hN hlen
      have B1 := Below.refl w1.heap.size w1
      by_cases hc0 : c' = 0
      · subst hc0
        go_wp2_with (first
          | (go_at_call 13; (with_reducible refine (num_c _ _).mono ?_); rintro r w' ⟨rfl, hw'⟩; subst hw')
          | (go_at_call 14; (with_reducible refine (hX _ B).mono ?_); rintro r w2 ⟨⟨mad, mcp, nm, rad, rcp, nr, lm, lr, rfl, HP⟩, bb⟩; have B := B.tr le_rfl' bb; have B1 := B1.tr le_rfl' bb; have bP := newB w2 #[.slice mad nm mcp, .slice rad nr rcp] 37; have B := B.al le_rfl' (.cells #[.slice mad nm mcp, .slice rad nr rcp] 37); have B1 := B1.al le_rfl' (.cells #[.slice mad nm mcp, .slice rad nr rcp] 37); have B2 := bel_al w2 (.cells #[.slice mad nm mcp, .slice rad nr rcp] 37); have hlt2 : w2.heap.size < (w2.alloc (.cells #[.slice mad nm mcp, .slice rad nr rcp] 37)).heap.size := (by simp))
          | (go_at_call 27; (with_reducible refine (hjo _ B1).mono ?_); rintro r w3 ⟨rfl, bb⟩; have B := B.tr le_rfl' bb; have B1 := B1.tr le_rfl' bb; have B2 := B2.tr le_rfl' bb; have bP := bel_box bP bb)
          | (go_at_call 14; (with_reducible refine (hY _ B).mono ?_); rintro r w4 ⟨⟨mad', mcp', nm', rad', rcp', nr', lm', lr', rfl, HQ⟩, bb⟩; have B := B.tr le_rfl' bb; have B1 := B1.tr le_rfl' bb; have B2 := B2.tr le_rfl' bb; have bP := bel_box bP bb; have bQ := newB w4 #[.slice mad' nm' mcp', .slice rad' nr' rcp'] 37; have b4 := bel_al w4 (.cells #[.slice mad' nm' mcp', .slice rad' nr' rcp'] 37); have B := B.tr le_rfl' b4; have B1 := B1.tr le_rfl' b4; have B2 := B2.tr le_rfl' b4; have bP := bel_box bP b4; obtain ⟨p0, p1⟩ := two_cells bP; obtain ⟨q0, q1⟩ := two_cells bQ; have pl := ltB bP; have ql := ltB bQ)
          | (go_at_call 16; (with_reducible refine (same_lies HSAME.out HP.out HQ.out B2 b4).mono ?_); rintro r w6 ⟨rfl, bb⟩; have B := B.tr le_rfl' bb)
          | (go_at_call 9; (with_reducible refine (hlive _ B).mono ?_); rintro r w5 ⟨rfl, bb⟩; have B := B.tr le_rfl' bb))
        go_ret
        exact ⟨rfl, B⟩
      · have hcb : (c' == 0) = false := by simpa using hc0
        obtain ⟨i0, hi0, hi0', ha0, hk0⟩ := HT5.out hc0
        have hMN : M.length = N := by rw [HT2.out, HN.out]
        have hiN : i0 < N := by rw [← HN.out]; exact hi0
        rw [hMN] at hsJ
        have HA0 := hid ha0
        have HK0 := hid hk0
        have HMN := hid hMN
        clear HT5 HT2 ha0 hk0 hMN
        go_wp2_with (first
          | (go_at_call 13; (with_reducible refine (num_c _ _).mono ?_); rintro r w' ⟨rfl, hw'⟩; subst hw')
          | (go_at_call 14; (with_reducible refine (hX _ B).mono ?_); rintro r w2 ⟨⟨mad, mcp, nm, rad, rcp, nr, lm, lr, rfl, HP⟩, bb⟩; have B := B.tr le_rfl' bb; have B1 := B1.tr le_rfl' bb; have bP := newB w2 #[.slice mad nm mcp, .slice rad nr rcp] 37; have B := B.al le_rfl' (.cells #[.slice mad nm mcp, .slice rad nr rcp] 37); have B1 := B1.al le_rfl' (.cells #[.slice mad nm mcp, .slice rad nr rcp] 37); have B2 := bel_al w2 (.cells #[.slice mad nm mcp, .slice rad nr rcp] 37); have hlt2 : w2.heap.size < (w2.alloc (.cells #[.slice mad nm mcp, .slice rad nr rcp] 37)).heap.size := (by simp))
          | (go_at_call 27; (with_reducible refine (hjo _ B1).mono ?_); rintro r w3 ⟨rfl, bb⟩; have B := B.tr le_rfl' bb; have B1 := B1.tr le_rfl' bb; have B2 := B2.tr le_rfl' bb; have bP := bel_box bP bb)
          | (go_at_call 14; (with_reducible refine (hY _ B).mono ?_); rintro r w4 ⟨⟨mad', mcp', nm', rad', rcp', nr', lm', lr', rfl, HQ⟩, bb⟩; have B := B.tr le_rfl' bb; have B1 := B1.tr le_rfl' bb; have B2 := B2.tr le_rfl' bb; have bP := bel_box bP bb; have bQ := newB w4 #[.slice mad' nm' mcp', .slice rad' nr' rcp'] 37; have b4 := bel_al w4 (.cells #[.slice mad' nm' mcp', .slice rad' nr' rcp'] 37); have B := B.tr le_rfl' b4; have B1 := B1.tr le_rfl' b4; have B2 := B2.tr le_rfl' b4; have bP := bel_box bP b4; obtain ⟨p0, p1⟩ := two_cells bP; obtain ⟨q0, q1⟩ := two_cells bQ; have pl := ltB bP; have ql := ltB bQ)
          | (go_at_call 16; (with_reducible refine (same_lies HSAME.out HP.out HQ.out B2 b4).mono ?_); rintro r w6 ⟨rfl, bb⟩; have B := B.tr le_rfl' bb; have B1 := B1.tr le_rfl' bb; have B2 := B2.tr le_rfl' bb; have bP := bel_box bP bb)
          | (go_at_call 26; (with_reducible refine (hsJ _ B).mono ?_); rintro r w7 ⟨v3, rfl, hown3, bb⟩; have B := B.tr le_rfl' bb; have B1 := B1.tr le_rfl' bb; obtain ⟨g3, cap3, rfl, hB3, hg3, hcap3, hmx3, hcell3⟩ := owns_shape hown3 hN0))
        have R1 : RowTok w7 g L := HROW.out.below hg B1
        have R2 : RowTok w7 g3 M := rowTok_of (fun j hj => hcell3 j (by rw [← HMN.out]; exact hj))
        clear hcell3 hown3 hX hY hjo hsJ HP HQ HSAME HROW B2 bP bQ b4 p0 p1 q0 q1 pl ql hlt2
        go_loopw [18] (fun vi wr => ∃ j : Nat, vi = .int .i64 (j : Int) ∧ j ≤ i0 ∧ Below w.heap.size w wr ∧ Hid (RowTok wr g L) ∧ Hid (RowTok wr g3 M)) (fun i _ => N - (intOf i).toNat)
        case atStart => exact ⟨0, rfl, by omega, B, R1, R2⟩
        case round =>
          clear B R1 R2
          obtain ⟨j, rfl, hj, B, R1, R2⟩ := hrel
          have hjN : j < N := by omega
          have hjN' : (j : Int) < (N : Int) := by omega
          have hjL : j < L.length := by rw [HN.out]; exact hjN
          have hjM : j < M.length := by rw [HMN.out]; exact hjN
          have c1 := R1.out j hjL
          have c2 := R2.out j hjM
          obtain ⟨pj, hpj⟩ : ∃ pj : Int, (L[j].pos : Int) = pj := ⟨_, rfl⟩
          obtain ⟨qj, hqj⟩ : ∃ qj : Int, (M[j].pos : Int) = qj := ⟨_, rfl⟩
          rw [hpj] at c1
          rw [hqj] at c2
          by_cases hji : j = i0
          · subst hji
            have e1 : pj = a := by rw [← hpj, ← HA0.out]
            have e2 : qj = k := by rw [← hqj, ← HK0.out]
            subst e1 e2
            clear hpj hqj
            obtain ⟨wx, hwx⟩ : ∃ wx : World, wx = wr := ⟨_, rfl⟩
            subst hwx
            go_wp2_with (go_at_call 9; (with_reducible refine (hlive _ B).mono ?_); rintro r w5 ⟨rfl, bb⟩; have B := B.tr le_rfl' bb)
            go_ret
            exact ⟨rfl, B⟩
          · have hne : pj ≠ a := by
              intro h
              have h2 := HINJ.out j i0 hjL hi0 (by omega)
              apply h2
              have h3 := HA0.out
              omega
            have hneb : (pj == a) = false := by simpa using hne
            clear hpj hqj
            go_wp2
            go_roundw
            case rel => exact ⟨j + 1, by go_num, by omega, B, R1, R2⟩
            case measure => simp [intOf]; omega
end Go.Proofs.YtaekbgljbgmchaaGreatDoor
namespace Go.Proofs.YtaekbgljbgmchaaGreatDoor
open Go.ChangeShapes Go.WideShapes Go.ChangeAt Go.RowKit Go.Deep Go.Joins
theorem own : ownKnob Tryz.prog.godebug = none := by kernel_rfl
theorem laidOut : laidOutB Tryz.prog = true := by kernel_rfl
theorem gER : Tryz.prog.globalNamed "strconv.ErrRange" = some 5 := by kernel_rfl
theorem gERType : (Tryz.prog.globals[5]?).map (·.type) = some 117 := by kernel_rfl
theorem starE : "*" ++ "errors.errorString" = "*errors.errorString" := by decide
theorem rowErr (u : TypeId) (h : Tryz.prog.typeName? 3 u = some "*errors.errorString") : u = 244 :=
  typeName_ptr_named (nm := "errors.errorString") (by rw [starE]; kernel_rfl) (by kernel_rfl) (by decide) u (by rw [starE]; exact h)
theorem cellsE : Tryz.prog.cellsOf 246 = 1 := by kernel_rfl
theorem cellsS : Tryz.prog.cellsOf 9 = 1 := by kernel_rfl
theorem lt_of_cell {w : World} {b o : Nat} {v : Value} (h : w.cell? ⟨b, o, none⟩ = some v) : b < w.heap.size := by
  rcases Nat.lt_or_ge b w.heap.size with h1 | h1
  · exact h1
  · exfalso
    have h2 : w.heap[b]? = none := by rw [Array.getElem?_eq_none_iff]; exact h1
    simp [World.cell?, h2] at h
theorem hasErr_of {W : World} (h : laidMet Tryz.prog Rows.parseDeepRow.laid W) : HasErr W := by
  obtain ⟨a, s, hv, -, -, -⟩ := laid_sentinel h.tail.tail.tail gER gERType Tryz.underlying117 rowErr Tryz.underlying244 Tryz.underlying246 rfl rfl Tryz.underlying9 cellsE cellsS
  have h0 := World.var?_cell gER hv 0
  have h1 : W.cell? ⟨5, 0, none⟩ = some (.iface 244 (.pointer (some a))) := by simpa using h0
  exact ⟨_, _, h1, lt_of_cell h1⟩
/-- The table of operators, row for row. -/
def opRows : List (List UInt8 × Int × Int × Int × Int) := [([124, 124], 17, 1, 1, 2), ([38, 38], 16, 2, 2, 3), ([61, 61], 10, 4, 5, 5), ([33, 61], 11, 4, 5, 5), ([60], 12, 4, 5, 5), ([60, 61], 13, 4, 5, 5), ([62], 14, 4, 5, 5), ([62, 61], 15, 4, 5, 5), ([43], 8, 5, 5, 6), ([45], 9, 5, 5, 6)]
theorem ops_at (k : Nat) (hk : k < 10) (l : List (DataW Unit)) (h : (Rows.laid_vigil_parse_operators : DataW Unit) = .agg l) : ∃ x0 x1 x2 x3 x4, opRows[k]? = some (x0, x1, x2, x3, x4) ∧ l[k]? = some (.agg [.lit (.string x0), .lit (.int .i64 x1), .lit (.int .i64 x2), .lit (.int .i64 x3), .lit (.int .i64 x4)]) := by
  have h' := h
  unfold Rows.laid_vigil_parse_operators at h'
  injection h' with h'
  subst h'
  have hc : k = 0 ∨ k = 1 ∨ k = 2 ∨ k = 3 ∨ k = 4 ∨ k = 5 ∨ k = 6 ∨ k = 7 ∨ k = 8 ∨ k = 9 := by omega
  rcases hc with rfl | rfl | rfl | rfl | rfl | rfl | rfl | rfl | rfl | rfl <;> exact ⟨_, _, _, _, _, rfl, rfl⟩
set_option maxRecDepth 100000 in
theorem ops_cells {W : World} {cs : Array Value} {fuel : Nat} {p : List MemPlace} (hv : W.var? Tryz.prog "vigil/parse.operators" = some cs) (hd : DataW.trod (fun _ => ()) Tryz.prog W 0 (fun _ => true) false fuel 193 cs.toList = some (Rows.laid_vigil_parse_operators, p)) (k : Nat) (hk : k < 10) :
    ∃ x0 x1 x2 x3 x4, opRows[k]? = some (x0, x1, x2, x3, x4) ∧ W.cell? ⟨2, k * 5, none⟩ = some (.string ⟨x0.toArray⟩) ∧ W.cell? ⟨2, k * 5 + 1, none⟩ = some (.int .i64 x1) ∧ W.cell? ⟨2, k * 5 + 2, none⟩ = some (.int .i64 x2) ∧ W.cell? ⟨2, k * 5 + 3, none⟩ = some (.int .i64 x3) ∧ W.cell? ⟨2, k * 5 + 4, none⟩ = some (.int .i64 x4) := by
  obtain ⟨xs, m, rfl, hx, hlen, hxl, hE⟩ := DataW.trod_array Tryz.underlying193 hd
  have hx1 : (Rows.laid_vigil_parse_operators : DataW Unit) = .agg (xs.map (·.1)) := congrArg Prod.fst hx
  obtain ⟨x0, x1, x2, x3, x4, hrow, hat⟩ := ops_at k hk _ hx1
  refine ⟨x0, x1, x2, x3, x4, hrow, ?_⟩
  have hE := hE k hk
  rw [show Tryz.prog.cellsOf 162 = 5 from by kernel_rfl] at hE
  obtain ⟨y, hy⟩ : ∃ y, xs[k]? = some y := ⟨xs[k], List.getElem?_eq_getElem (by omega)⟩
  rw [hy] at hE
  have hy1 : y.1 = .agg [.lit (.string x0), .lit (.int .i64 x1), .lit (.int .i64 x2), .lit (.int .i64 x3), .lit (.int .i64 x4)] := by
    rw [List.getElem?_map, hy] at hat
    simpa using hat
  obtain ⟨zs, m2, _, rfl, hl2, hzl, hf⟩ := DataW.trod_struct Tryz.underlying162 hE
  rw [show Tryz.prog.cellsOf 162 = 5 from by kernel_rfl] at hl2
  have hzl : zs.length = 5 := hzl
  have hz1 : zs.map (·.1) = [.lit (.string x0), .lit (.int .i64 x1), .lit (.int .i64 x2), .lit (.int .i64 x3), .lit (.int .i64 x4)] := by simpa using hy1
  have gc : ∀ i, i < 5 → W.cell? ⟨2, k * 5 + i, none⟩ = ((cs.toList.drop (k * 5)).take 5)[i]? := by
    intro i hi
    rw [World.var?_cell (g := 2) (by kernel_rfl) hv, List.getElem?_take, if_pos hi, List.getElem?_drop, Array.getElem?_toList]
  generalize (cs.toList.drop (k * 5)).take 5 = seg at hl2 hf gc
  obtain ⟨s0, s1, s2, s3, s4, rfl⟩ : ∃ s0 s1 s2 s3 s4, seg = [s0, s1, s2, s3, s4] := by
    match seg, hl2 with
    | [s0, s1, s2, s3, s4], _ => exact ⟨s0, s1, s2, s3, s4, rfl⟩
  obtain ⟨z0, z1, z2, z3, z4, rfl⟩ : ∃ z0 z1 z2 z3 z4, zs = [z0, z1, z2, z3, z4] := by
    match zs, hzl with
    | [z0, z1, z2, z3, z4], _ => exact ⟨z0, z1, z2, z3, z4, rfl⟩
  simp only [List.map_cons, List.map_nil, List.cons.injEq, and_true] at hz1
  obtain ⟨e0, e1, e2, e3, e4⟩ := hz1
  have g0 : DataW.trod (fun _ => ()) Tryz.prog W 0 (fun _ => true) false m2 9 [s0] = some z0 := by
    have q : DataW.trod (fun _ => ()) Tryz.prog W 0 (fun _ => true) false m2 9 (([s0, s1, s2, s3, s4].drop 0).take (Tryz.prog.cellsOf 9)) = some z0 := hf 0 _ rfl
    rw [show Tryz.prog.cellsOf 9 = 1 from by kernel_rfl] at q
    exact q
  have g1 : DataW.trod (fun _ => ()) Tryz.prog W 0 (fun _ => true) false m2 3 [s1] = some z1 := by
    have q : DataW.trod (fun _ => ()) Tryz.prog W 0 (fun _ => true) false m2 3 (([s0, s1, s2, s3, s4].drop 1).take (Tryz.prog.cellsOf 3)) = some z1 := hf 1 _ rfl
    rw [show Tryz.prog.cellsOf 3 = 1 from by kernel_rfl] at q
    exact q
  have g2 : DataW.trod (fun _ => ()) Tryz.prog W 0 (fun _ => true) false m2 3 [s2] = some z2 := by
    have q : DataW.trod (fun _ => ()) Tryz.prog W 0 (fun _ => true) false m2 3 (([s0, s1, s2, s3, s4].drop 2).take (Tryz.prog.cellsOf 3)) = some z2 := hf 2 _ rfl
    rw [show Tryz.prog.cellsOf 3 = 1 from by kernel_rfl] at q
    exact q
  have g3 : DataW.trod (fun _ => ()) Tryz.prog W 0 (fun _ => true) false m2 3 [s3] = some z3 := by
    have q : DataW.trod (fun _ => ()) Tryz.prog W 0 (fun _ => true) false m2 3 (([s0, s1, s2, s3, s4].drop 3).take (Tryz.prog.cellsOf 3)) = some z3 := hf 3 _ rfl
    rw [show Tryz.prog.cellsOf 3 = 1 from by kernel_rfl] at q
    exact q
  have g4 : DataW.trod (fun _ => ()) Tryz.prog W 0 (fun _ => true) false m2 3 [s4] = some z4 := by
    have q : DataW.trod (fun _ => ()) Tryz.prog W 0 (fun _ => true) false m2 3 (([s0, s1, s2, s3, s4].drop 4).take (Tryz.prog.cellsOf 3)) = some z4 := hf 4 _ rfl
    rw [show Tryz.prog.cellsOf 3 = 1 from by kernel_rfl] at q
    exact q
  obtain ⟨b0, q0, r0, _⟩ := DataW.trod_string Tryz.underlying9 g0
  rw [r0] at e0
  simp at q0 e0
  subst q0
  have e0' : b0 = ⟨x0.toArray⟩ := ByteArray.ext (by rw [← e0])
  subst e0'
  obtain ⟨b1, q1, r1, _⟩ := DataW.trod_int Tryz.underlying3 g1
  rw [r1] at e1
  simp at q1 e1
  subst q1 e1
  obtain ⟨b2, q2, r2, _⟩ := DataW.trod_int Tryz.underlying3 g2
  rw [r2] at e2
  simp at q2 e2
  subst q2 e2
  obtain ⟨b3, q3, r3, _⟩ := DataW.trod_int Tryz.underlying3 g3
  rw [r3] at e3
  simp at q3 e3
  subst q3 e3
  obtain ⟨b4, q4, r4, _⟩ := DataW.trod_int Tryz.underlying3 g4
  rw [r4] at e4
  simp at q4 e4
  subst q4 e4
  exact ⟨gc 0 (by omega), gc 1 (by omega), gc 2 (by omega), gc 3 (by omega), gc 4 (by omega)⟩
theorem opers_of {W : World} (h : laidMet Tryz.prog Rows.parseDeepRow.laid W) : Opers W := by
  have h5 : laidMet Tryz.prog (Rows.parseDeepRow.laid.drop 5) W := h.tail.tail.tail.tail.tail
  obtain ⟨ps, ⟨g, t, cs, fuel, p, q, hg, ht, hv, hd, _, _⟩, _⟩ := h5
  obtain rfl : g = 2 := Option.some.inj (hg.symm.trans (show Tryz.prog.globalNamed "vigil/parse.operators" = some 2 by kernel_rfl))
  obtain rfl : t = 193 := Option.some.inj (ht.symm.trans (show (Tryz.prog.globals[2]?).map (·.type) = some 193 by kernel_rfl))
  have H := ops_cells hv hd
  refine ⟨fun i hi => ?_, ?_⟩
  · obtain ⟨k, j, hk, hj, rfl⟩ : ∃ k j, k < 10 ∧ j < 5 ∧ i = k * 5 + j := ⟨i / 5, i % 5, by omega, by omega, by omega⟩
    obtain ⟨x0, x1, x2, x3, x4, hr, h0, h1, h2, h3, h4⟩ := H k hk
    have hc : k = 0 ∨ k = 1 ∨ k = 2 ∨ k = 3 ∨ k = 4 ∨ k = 5 ∨ k = 6 ∨ k = 7 ∨ k = 8 ∨ k = 9 := by omega
    have hcj : j = 0 ∨ j = 1 ∨ j = 2 ∨ j = 3 ∨ j = 4 := by omega
    rcases hc with rfl | rfl | rfl | rfl | rfl | rfl | rfl | rfl | rfl | rfl <;> (cases hr; rcases hcj with rfl | rfl | rfl | rfl | rfl <;> first | exact h0 | exact h1 | exact h2 | exact h3 | exact h4)
  · obtain ⟨x0, x1, x2, x3, x4, hr, h0, -⟩ := H 0 (by omega)
    exact lt_of_cell h0
def setCells (c : Array Value) : Obj → Obj
  | .cells _ t frozen => .cells c t frozen
  | o => o
/-- So many blocks has the settled world. -/
noncomputable def low : Nat := (World.holding Tryz.prog default ⟨#[], #[], []⟩).heap.size
/-- The settled world with two blocks more, each an errors.errorString; the six variables as their initialisers lay them. -/
noncomputable def laidWorld (os : Os) : World :=
  let w0 := World.holding Tryz.prog os ⟨#[.cells #[.string ⟨#[105, 110, 118, 97, 108, 105, 100, 32, 115, 121, 110, 116, 97, 120]⟩] 246, .cells #[.string ⟨#[118, 97, 108, 117, 101, 32, 111, 117, 116, 32, 111, 102, 32, 114, 97, 110, 103, 101]⟩] 246], #[], []⟩
  { w0 with heap := ((((((w0.heap.modify 4 (setCells #[.iface 244 (.pointer (some ⟨low, 0, none⟩))])).modify 5 (setCells #[.iface 244 (.pointer (some ⟨low + 1, 0, none⟩))])).modify 3 (setCells #[.int .u64 1, .int .u64 10, .int .u64 100, .int .u64 1000, .int .u64 10000, .int .u64 100000, .int .u64 1000000, .int .u64 10000000, .int .u64 100000000, .int .u64 1000000000, .int .u64 10000000000, .int .u64 100000000000, .int .u64 1000000000000, .int .u64 10000000000000, .int .u64 100000000000000, .int .u64 1000000000000000, .int .u64 10000000000000000, .int .u64 100000000000000000, .int .u64 1000000000000000000, .int .u64 10000000000000000000])).modify 6 (setCells #[.int .u8 0, .int .u8 1, .int .u8 28, .int .u8 2, .int .u8 29, .int .u8 14, .int .u8 24, .int .u8 3, .int .u8 30, .int .u8 22, .int .u8 20, .int .u8 15, .int .u8 25, .int .u8 17, .int .u8 4, .int .u8 8, .int .u8 31, .int .u8 27, .int .u8 13, .int .u8 23, .int .u8 21, .int .u8 19, .int .u8 16, .int .u8 7, .int .u8 26, .int .u8 12, .int .u8 18, .int .u8 6, .int .u8 11, .int .u8 5, .int .u8 10, .int .u8 9])).modify 7 (setCells #[.int .u8 0, .int .u8 1, .int .u8 56, .int .u8 2, .int .u8 57, .int .u8 49, .int .u8 28, .int .u8 3, .int .u8 61, .int .u8 58, .int .u8 42, .int .u8 50, .int .u8 38, .int .u8 29, .int .u8 17, .int .u8 4, .int .u8 62, .int .u8 47, .int .u8 59, .int .u8 36, .int .u8 45, .int .u8 43, .int .u8 51, .int .u8 22, .int .u8 53, .int .u8 39, .int .u8 33, .int .u8 30, .int .u8 24, .int .u8 18, .int .u8 12, .int .u8 5, .int .u8 63, .int .u8 55, .int .u8 48, .int .u8 27, .int .u8 60, .int .u8 41, .int .u8 37, .int .u8 16, .int .u8 46, .int .u8 35, .int .u8 44, .int .u8 21, .int .u8 52, .int .u8 32, .int .u8 23, .int .u8 11, .int .u8 54, .int .u8 26, .int .u8 40, .int .u8 15, .int .u8 34, .int .u8 20, .int .u8 31, .int .u8 10, .int .u8 25, .int .u8 14, .int .u8 19, .int .u8 9, .int .u8 13, .int .u8 8, .int .u8 7, .int .u8 6])).modify 2 (setCells #[.string ⟨#[124, 124]⟩, .int .i64 17, .int .i64 1, .int .i64 1, .int .i64 2, .string ⟨#[38, 38]⟩, .int .i64 16, .int .i64 2, .int .i64 2, .int .i64 3, .string ⟨#[61, 61]⟩, .int .i64 10, .int .i64 4, .int .i64 5, .int .i64 5, .string ⟨#[33, 61]⟩, .int .i64 11, .int .i64 4, .int .i64 5, .int .i64 5, .string ⟨#[60]⟩, .int .i64 12, .int .i64 4, .int .i64 5, .int .i64 5, .string ⟨#[60, 61]⟩, .int .i64 13, .int .i64 4, .int .i64 5, .int .i64 5, .string ⟨#[62]⟩, .int .i64 14, .int .i64 4, .int .i64 5, .int .i64 5, .string ⟨#[62, 61]⟩, .int .i64 15, .int .i64 4, .int .i64 5, .int .i64 5, .string ⟨#[43]⟩, .int .i64 8, .int .i64 5, .int .i64 5, .int .i64 6, .string ⟨#[45]⟩, .int .i64 9, .int .i64 5, .int .i64 5, .int .i64 6])) }
theorem laid_met (os : Os) (args : Array Value) : laidMet Tryz.prog Rows.parseDeepRow.laid ((laidWorld os).forCall (fun _ _ => 0) ⟨#[], args, []⟩).memory :=
  laidMet_of_run' 8 (by kernel_rfl) (by kernel_rfl)
theorem weights_each {H : Type} {P : Program} {t : TypeId} {ts : List TypeId} {d : DataW H} {ds : List (DataW H)} (h : (DataW.weightsEach P (t :: ts) (d :: ds)).all (· ≤ reachBytes) = true) : (∀ k ∈ d.weights P t, k ≤ reachBytes) ∧ (DataW.weightsEach P ts ds).all (· ≤ reachBytes) = true := by
  rw [DataW.weightsEach, List.all_append, Bool.and_eq_true] at h
  exact ⟨fun k hk => by simpa using List.all_eq_true.1 h.1 k hk, h.2⟩
end Go.Proofs.YtaekbgljbgmchaaGreatDoor
namespace Go.Proofs.YtaekbgljbgmchaaGreatDoor
open Go.ChangeShapes Go.WideShapes Go.ChangeAt Go.RowKit Go.Deep Go.Joins
open Go.ChangeMaps (open_string shut_string)
set_option maxRecDepth 100000 in
theorem parseTokens_contract (H : Type) (enc : TypeId × Value → H) (W : World) (base : Nat) (args : Array Value) (ds gs : List (DataW H)) (before : List MemPlace)
    (hval : ∀ (j : Nat) t v, Tryz.f7.params[j]? = some t → args[j]? = some v → Value.okWide Tryz.prog W .any base t v)
    (hW : DataW.Whole enc Tryz.prog Tryz.f7.params.toList Rows.parseTokensSpec.vars false W args.toList ds gs before)
    (hsz0 : (DataW.weightsEach Tryz.prog (Tryz.f7.params.toList ++ Rows.parseTokensSpec.plain.varTypes Tryz.prog) (ds ++ gs)).all (· ≤ reachBytes) = true)
    (hL : laidMetH Tryz.prog Rows.parseTokensRow.laid W) :
    Calls Tryz.prog 7 args W fun e W' => ∃ v, e = .returned v ∧ Rows.parseTokensSpec.post enc Tryz.prog Tryz.f7 false true false false W args v W' := by
  have hE := hasErr_of (show laidMet Tryz.prog Rows.parseDeepRow.laid W from hL)
  have hO := opers_of (show laidMet Tryz.prog Rows.parseDeepRow.laid W from hL)
  have hW' := hW
  obtain ⟨p, q, hA0, hV, rfl, hfz, hnd⟩ := hW
  have hA : DataW.TrodAll enc Tryz.prog W 0 (fun _ => true) true Tryz.f7.params.toList args.toList ds p := hA0
  have hsz := hsz0
  rw [Tryz.params7] at hA hval hsz
  obtain ⟨v0, d0, rfl, rfl, h0⟩ := trodAll_one hA
  obtain ⟨rfl, rfl⟩ := trodVars_none hV
  clear hA0
  obtain ⟨x0, rfl, rfl, rfl, hx0⟩ := open_string Tryz.underlying9 (hval 0 9 v0 rfl rfl) h0
  have hlim0 : x0.size ≤ 140737488351232 := by
    have h1 := sized_string hsz (j := 0) (t := 9) rfl rfl
    have e1 : x0.size = x0.data.size := rfl
    have e2 : x0.data.toList.length = x0.data.size := Array.length_toList
    have e3 : reachBytes = 140737488351232 := by decide
    omega
  simp only [List.append_nil] at hW'
  refine (parseTokens_walk x0 W hlim0 hE hO).mono fun e W' ⟨he, hnx⟩ => ?_
  subst he
  refine ⟨_, rfl, _, _, _, [], [], [], hW', ?_, ?_, rfl, hnx.frame _, fun h => by cases h⟩
  · exact trodAll_mk1 (shut_bool Tryz.underlying4 true)
  · exact trodAll_mk1 (shut_string Tryz.underlying9 hx0)
theorem parseTokens_reads (os : Os) {H : Type} (enc : TypeId × Value → H) : ∃ places, DataW.whole enc Tryz.prog ((laidWorld os).forCall (fun _ _ => 0) ⟨#[], #[Value.string ⟨#[]⟩], []⟩).memory Tryz.f7.params.toList Rows.parseTokensSpec.vars false #[Value.string ⟨#[]⟩].toList 8 = some ([.lit (.string [])], [], places) :=
  ⟨[], by kernel_rfl⟩
set_option maxRecDepth 100000 in
theorem parseTokens_lifted (os : Os) (started : os.Started) (H : Type) (enc : TypeId × Value → H) (F : Stop.Interp) :
    ReturnsInHanded {} Tryz.checked os 7 .any ((OpenSpec.ofChange Rows.parseTokensSpec).preRow enc Tryz.prog Tryz.f7 Rows.parseTokensRow.domain false Rows.parseTokensRow.laid) (((OpenSpec.ofChange Rows.parseTokensSpec).at F).post enc Tryz.prog Tryz.f7 false true false false) := by
  obtain ⟨places, hx⟩ := parseTokens_reads os enc
  refine returnsInHanded_of_row (C := Tryz.checked) (s := OpenSpec.ofChange Rows.parseTokensSpec) own started (by kernel_rfl) Tryz.func7
    (witness_row_at (enc := enc) (C := Tryz.checked) false (laidWorld os) #[Value.string ⟨#[]⟩] rfl (by kernel_rfl) (by kernel_rfl) (by kernel_rfl)
      (OpenSpec.preRow_of_cond 8 hx (by kernel_rfl) (fun k hk => by cases hk) (by kernel_rfl) (laid_met os _))) ?_
  intro W base args ds gs before hval hW _ _ hsz hL _ _
  exact parseTokens_contract H enc W base args ds gs before hval hW hsz hL
theorem parseTokens_said : Rows.ParseTokensSaid :=
  OpenClaim.holds_of_cond 7 Tryz.f7 rfl rfl rfl rfl rfl rfl rfl ⟨rfl, rfl, rfl, rfl, rfl⟩ rfl rfl rfl rfl rfl (by kernel_rfl) Tryz.func7 (by kernel_rfl)
    (of_decide_eq_true (by kernel_rfl)) (by unfold Func.isWrapper; first | (rw [if_pos (by decide +kernel)]; kernel_rfl) | (rw [if_neg (by decide +kernel)]; exact ⟨rfl, rfl⟩))
    (fun os started H enc _ F => by rw [OpenClaim.pre_eq_preRow]; exact parseTokens_lifted os started H enc F)
theorem parseTokens_plain (f : FuncId) (fn : Func) (hf : Tryz.pinned.checked.prog.funcNamed "vigil/vigillaw04.ParseTokens" = some f) (hfn : Tryz.pinned.checked.prog.funcs[f]? = some fn) :
    true = Tryz.pinned.checked.prog.looks [] ∧ ∀ (j : Nat) t, fn.params[j]? = some t → Tryz.pinned.checked.prog.wantsStandIn t = false := by
  obtain rfl : f = 7 := Option.some.inj ((show Tryz.prog.funcNamed "vigil/vigillaw04.ParseTokens" = some 7 by kernel_rfl).symm.trans hf) |>.symm
  obtain rfl : fn = Tryz.f7 := (Option.some.inj (Tryz.func7.symm.trans hfn)).symm
  refine ⟨by kernel_rfl, fun j t ht => ?_⟩
  rw [Tryz.params7] at ht
  obtain rfl : t = 9 := by simpa using Array.mem_of_getElem? ht
  exact (show Tryz.prog.wantsStandIn 9 = false by kernel_rfl)
theorem parseTokens_card : Rows.ParseTokensCardSaid :=
  Claim7.holds_tied_plain_at .later [] _ _ _ _ parseTokens_said (fun _ h => by cases h) (by kernel_rfl) (fun _ h => by cases h) parseTokens_row_tie rfl ⟨rfl, rfl⟩ (by kernel_rfl) rfl parseTokens_plain (by kernel_rfl)
end Go.Proofs.YtaekbgljbgmchaaGreatDoor
