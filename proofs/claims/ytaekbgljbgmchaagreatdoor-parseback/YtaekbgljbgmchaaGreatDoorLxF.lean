/-
  numberAt and tokenAt of package lex make the tokens that plain Lean functions on the text's bytes say.
-/
import Derived.Test.YtaekbgljbgmchaaGreatDoorLxE
import Derived.Lib.ParseIntBCases
namespace Go.Proofs.YtaekbgljbgmchaaGreatDoor
open Go.RowKit
namespace Lx
/-- The value of digits, with acc ahead of them. -/
def decF (acc : Nat) (l : List UInt8) : Nat := l.foldl (fun n c => n * 10 + (c.toNat - 48)) acc
def decVal (l : List UInt8) : Nat := decF 0 l
theorem le_decF (acc : Nat) (l : List UInt8) : acc ≤ decF acc l := by
  induction l generalizing acc with
  | nil => simp [decF]
  | cons c r ih =>
    have := ih (acc * 10 + (c.toNat - 48))
    simp only [decF, List.foldl_cons] at this ⊢
    omega
theorem digit_iff (c : UInt8) : digit c = true ↔ 48 ≤ c.toNat ∧ c.toNat ≤ 57 := by rw [digit_eq]; simp; omega
theorem parse_digits (l : List UInt8) (hd : l.all digit = true) (acc : Nat) (ha : acc < 18446744073709551616) :
    Lib.parseUint10 acc l = if decF acc l < 18446744073709551616 then .ok (decF acc l) else .range := by
  induction l generalizing acc with
  | nil => simp [Lib.parseUint10, decF, ha]
  | cons c r ih =>
    simp only [List.all_cons, Bool.and_eq_true] at hd
    have hc := (digit_iff c).1 hd.1
    have hge := le_decF (acc * 10 + (c.toNat - 48)) r
    have e : decF acc (c :: r) = decF (acc * 10 + (c.toNat - 48)) r := rfl
    simp only [Lib.parseUint10]
    rw [if_pos hc, e]
    by_cases h1 : 1844674407370955162 ≤ acc
    · rw [if_pos h1, if_neg (by omega)]
    · rw [if_neg h1]
      by_cases h2 : 18446744073709551616 ≤ acc * 10 + (c.toNat - 48)
      · rw [if_pos h2, if_neg (by omega)]
      · rw [if_neg h2, ih hd.2 _ (by omega)]
theorem parseInt_digits (l : List UInt8) (h0 : l ≠ []) (hd : l.all digit = true) :
    Lib.parseIntB 64 l = if decVal l ≤ 9223372036854775807 then .ok (decVal l : Nat) else .range := by
  cases l with
  | nil => exact absurd rfl h0
  | cons c r =>
    have hd' := hd
    simp only [List.all_cons, Bool.and_eq_true] at hd
    have hc := (digit_iff c).1 hd.1
    rw [Lib.parseIntB_plain 64 c r (by omega) (by omega), Lib.parseUintB_64]
    have e : Lib.parseMag (c :: r) = Lib.parseUint10 0 (c :: r) := by simp [Lib.parseMag]
    rw [e, parse_digits _ hd' 0 (by omega)]
    show Lib.signlessC 9223372036854775808 _ = _
    unfold decVal
    by_cases h1 : decF 0 (c :: r) < 18446744073709551616
    · rw [if_pos h1]
      by_cases h2 : decF 0 (c :: r) ≤ 9223372036854775807
      · rw [if_pos h2]; show (if _ then _ else _) = _; rw [if_neg (by omega)]
      · rw [if_neg h2]; show (if _ then _ else _) = _; rw [if_pos (by omega)]
    · rw [if_neg h1, if_neg (by omega)]; rfl
/-- The number at a place. -/
def numOut (s : ByteArray) (a : Nat) : Out :=
  if 1 < (s.extract a (spanEnd digit s a)).size ∧ byteAt s a = 48 then bad 11 else
  if decVal (s.extract a (spanEnd digit s a)).data.toList ≤ 9223372036854775807 then ⟨2, s.extract a (spanEnd digit s a), (decVal (s.extract a (spanEnd digit s a)).data.toList : Nat), a, 0⟩ else bad 11
theorem extract_list (s : ByteArray) (a b : Nat) : (s.extract a b).data.toList = (s.data.toList.drop a).take (b - a) := by
  have h := ByteArray.data_extract (a := s) (b := a) (e := b)
  rw [h]; simp [List.extract_eq_take_drop]
theorem extract_span (p : UInt8 → Bool) (s : ByteArray) (a : Nat) : (s.extract a (spanEnd p s a)).data.toList = (s.data.toList.drop a).takeWhile p := by
  rw [extract_list]
  unfold spanEnd
  rw [Nat.add_sub_cancel_left]
  generalize s.data.toList.drop a = l
  induction l with
  | nil => simp
  | cons c r ih => cases h : p c <;> simp [h, ih]
theorem all_takeWhile (p : UInt8 → Bool) (l : List UInt8) : (l.takeWhile p).all p = true := by
  induction l with
  | nil => rfl
  | cons c r ih => cases h : p c <;> simp [h]
theorem digits_of (s : ByteArray) (a : Nat) (ha : a < s.size) (hd : digit s[a] = true) :
    (s.extract a (spanEnd digit s a)).data.toList ≠ [] ∧ (s.extract a (spanEnd digit s a)).data.toList.all digit = true := by
  rw [extract_span, drop_cons s a ha]
  refine ⟨by simp [hd], ?_⟩
  exact all_takeWhile _ _
end Lx
theorem keep_cell {w1 W2 : World} {o : Obj} {B i : Nat} {c : Value} (hb : Below (w1.alloc o).heap.size (w1.alloc o) W2) (hB : B < w1.heap.size) (h : w1.cell? ⟨B, i, none⟩ = some c) : W2.cell? ⟨B, i, none⟩ = some c := by
  rw [hb.cell (p := ⟨B, i, none⟩) (by simp; omega), World.cell?_alloc_past _ _ _ hB]; exact h
theorem keep_frozen {w1 W2 : World} {o : Obj} {B : Nat} (hb : Below (w1.alloc o).heap.size (w1.alloc o) W2) (hB : B < w1.heap.size) (h : ∀ i, w1.frozen? ⟨B, i, none⟩ = false) : ∀ i, W2.frozen? ⟨B, i, none⟩ = false := by
  intro i
  rw [hb.frozen (p := ⟨B, i, none⟩) (by simp; omega), World.frozen?_alloc_old _ _ _ (by show B ≠ _; omega)]; exact h i
theorem parse_ok (x : ByteArray) (v : Int) (w : World) (hx : x.size ≤ 20000) (h : Lib.parseIntB 64 x.data.toList = .ok v) :
    Calls Tryz.prog 146 #[.string x, .int .i64 10, .int .i64 64] w fun e w' => ∃ _ : Unit, e = .returned (.tuple #[.int .i64 v, .nilIface]) ∧ Below w.heap.size w w' := by
  refine (Tryz.strconv_ParseInt_10_at64_ok x (by omega) v h w).mono ?_
  rintro e w' ⟨rfl, hw | ⟨t, rfl⟩⟩
  · exact ⟨(), rfl, hw ▸ Below.refl _ _⟩
  · exact ⟨(), rfl, Lib.bytesWorld_below _ _ _⟩
/-- strconv.ErrRange holds an error. -/
def HasErr (w : World) : Prop := ∃ te pe, w.cell? ⟨5, 0, none⟩ = some (.iface te pe) ∧ 5 < w.heap.size
theorem HasErr.below {B : Nat} {w w' : World} (h : HasErr w) (hb : Below B w w') (hB : 5 < B) : HasErr w' := by
  obtain ⟨te, pe, hc, hz⟩ := h
  exact ⟨te, pe, (hb.cell (p := ⟨5, 0, none⟩) hB).trans hc, by have := hb.size; omega⟩
theorem HasErr.after {w w' : World} (h : HasErr w) (hb : Below w.heap.size w w') : HasErr w' := h.below hb h.choose_spec.choose_spec.2
theorem HasErr.alloc {w : World} (h : HasErr w) (o : Obj) : HasErr (w.alloc o) := h.after ((Below.refl _ _).alloc (Nat.le_refl _) _)
theorem parse_range (x : ByteArray) (w : World) (hx : x.size ≤ 20000) (h : Lib.parseIntB 64 x.data.toList = .range) (he : HasErr w) :
    Calls Tryz.prog 146 #[.string x, .int .i64 10, .int .i64 64] w fun e w' => ∃ N : Nat, e = .returned (.tuple #[.int .i64 (Lib.intSat 64 x.data.toList), .iface 225 (.pointer (some ⟨N, 0, none⟩))]) ∧ Below w.heap.size w w' := by
  obtain ⟨te, pe, hc, _⟩ := he
  refine (Tryz.strconv_ParseInt_10_at64_range x (by omega) h _ w hc (Or.inr ⟨te, pe, rfl⟩)).mono ?_
  rintro e w' ⟨N, rfl, _, _, hb⟩
  exact ⟨N, rfl, hb⟩
set_option maxHeartbeats 2000000 in
theorem numberAt_any (s : ByteArray) (a : Nat) (w : World) (hs : s.size ≤ 20000) (ha : a < s.size) (hd : Lx.digit s[a] = true) (hE : HasErr w) :
    Calls Tryz.prog 104 #[.string s, .int .i64 (a : Int)] w fun e w' => e = .returned (.tuple #[Value.agg #[.int .i64 (Lx.numOut s a).kind, .string (Lx.numOut s a).text, .int .i64 (Lx.numOut s a).n, .int .i64 ((Lx.numOut s a).pos : Int)], .int .i64 (Lx.numOut s a).err]) ∧ Below w.heap.size w w' := by
  have hle := Lx.spanEnd_le Lx.digit s a (by omega)
  have hge : a ≤ Lx.spanEnd Lx.digit s a := Lx.le_spanEnd Lx.digit s a
  have hxs : (s.extract a (Lx.spanEnd Lx.digit s a)).size = Lx.spanEnd Lx.digit s a - a := by simp; omega
  obtain ⟨hne, hall⟩ := Lx.digits_of s a ha hd
  have HP := hid (Lx.parseInt_digits _ hne hall)
  have hpos : a < Lx.spanEnd Lx.digit s a := by rcases Nat.lt_or_ge a (Lx.spanEnd Lx.digit s a) with h | h; exact h; exfalso; apply hne; rw [Lx.extract_list]; rw [show Lx.spanEnd Lx.digit s a - a = 0 by omega]; rfl
  have HC := hid (Lx.byteAt_lt s a ha)
  have hx0 : ∀ (h : 0 < (s.extract a (Lx.spanEnd Lx.digit s a)).size), (s.extract a (Lx.spanEnd Lx.digit s a))[0]'h = s[a] := by intro h; simp [ByteArray.getElem_extract]
  clear hne hall
  by_cases h1 : 1 < Lx.spanEnd Lx.digit s a - a
  · cases h48 : ((s[a].toNat : Int) == 48)
    · skip
      have hcond : ¬ (1 < (s.extract a (Lx.spanEnd Lx.digit s a)).size ∧ Lx.byteAt s a = 48) := by rintro ⟨-, h⟩; rw [HC.out] at h; rw [h] at h48; simp at h48
      by_cases hv : Lx.decVal (s.extract a (Lx.spanEnd Lx.digit s a)).data.toList ≤ 9223372036854775807
      · have HR : Hid (Lx.numOut s a = ⟨2, (s.extract a (Lx.spanEnd Lx.digit s a)), ((Lx.decVal (s.extract a (Lx.spanEnd Lx.digit s a)).data.toList : Nat) : Int), a, 0⟩) := by show _ = _; unfold Lx.numOut; rw [if_neg hcond, if_pos hv]
        have HV := hid hv
        clear hv hcond
        go_enter Tryz.func104, Tryz.ntmps104
        go_wp2_with (first
          | (go_at_call 145; refine (numberEnd_any s a _ hs (by omega)).mono ?_; rintro e w' ⟨rfl, rfl⟩)
          | (go_at_call 142; refine (tokenOf_any 2 s a _ _ hs hge hle).mono ?_; rintro e w1 ⟨rfl, hbel⟩; obtain ⟨k0, k1, k2, k3, kf, klt⟩ := box4 hbel)
          | (go_at_call 146; refine (parse_ok (s.extract a (Lx.spanEnd Lx.digit s a)) ((Lx.decVal (s.extract a (Lx.spanEnd Lx.digit s a)).data.toList : Nat) : Int) _ (by omega) (by rw [HP.out, if_pos HV.out])).mono ?_; rintro e w2 ⟨tp, rfl, hb2⟩; obtain ⟨m0, m1, m2, m3, mf, mlt⟩ := box4 hb2; have n0 := keep_cell hb2 klt k0; have n1 := keep_cell hb2 klt k1; have n2 := keep_cell hb2 klt k2; have n3 := keep_cell hb2 klt k3; have nf := keep_frozen hb2 klt kf; have nlt : w.heap.size < w2.heap.size := (by omega)))
        refine bodyPost_ret (v := .tuple #[Value.agg #[.int .i64 2, .string (s.extract a (Lx.spanEnd Lx.digit s a)), .int .i64 ((Lx.decVal (s.extract a (Lx.spanEnd Lx.digit s a)).data.toList : Nat) : Int), .int .i64 (a : Int)], .int .i64 0]) ?_ rfl ⟨by rw [HR.out] <;> rfl, ?_⟩
        · simp [results, Tryz.results104, go_sem, n0, n1, n2, n3]
        · repeat (refine Below.setCell ?_ (by simp; try omega) _)
          refine Below.trans ?_ (hb2.mono (by simp; omega))
          refine Below.alloc ?_ (by omega) _
          exact ((Below.refl _ _).alloc (Nat.le_refl _) _).trans (hbel.mono (by simp))
      · have HR : Hid (Lx.numOut s a = ⟨0, ⟨#[]⟩, 0, 0, 11⟩) := by show _ = _; unfold Lx.numOut; rw [if_neg hcond, if_neg hv]; rfl
        have HV := hid hv
        clear hv hcond
        go_enter Tryz.func104, Tryz.ntmps104
        go_wp2_with (first
          | (go_at_call 145; refine (numberEnd_any s a _ hs (by omega)).mono ?_; rintro e w' ⟨rfl, rfl⟩)
          | (go_at_call 142; refine (tokenOf_any 2 s a _ _ hs hge hle).mono ?_; rintro e w1 ⟨rfl, hbel⟩; obtain ⟨k0, k1, k2, k3, kf, klt⟩ := box4 hbel)
          | (go_at_call 146; refine (parse_range (s.extract a (Lx.spanEnd Lx.digit s a)) _ (by omega) (by rw [HP.out, if_neg HV.out]) (by exact (hE.alloc _ |>.after hbel).alloc _)).mono ?_; rintro e w2 ⟨tp, rfl, hb2⟩; obtain ⟨m0, m1, m2, m3, mf, mlt⟩ := box4 hb2; have n0 := keep_cell hb2 klt k0; have n1 := keep_cell hb2 klt k1; have n2 := keep_cell hb2 klt k2; have n3 := keep_cell hb2 klt k3; have nf := keep_frozen hb2 klt kf; have nlt : w.heap.size < w2.heap.size := (by omega)))
        refine bodyPost_ret (v := .tuple #[Value.agg #[.int .i64 0, .string ⟨#[]⟩, .int .i64 0, .int .i64 0], .int .i64 11]) ?_ rfl ⟨by rw [HR.out] <;> rfl, ?_⟩
        · simp [results, Tryz.results104, go_sem, n0, n1, n2, n3]
        · repeat (refine Below.setCell ?_ (by simp; try omega) _)
          refine Below.trans ?_ (hb2.mono (by simp; omega))
          refine Below.alloc ?_ (by omega) _
          exact ((Below.refl _ _).alloc (Nat.le_refl _) _).trans (hbel.mono (by simp))
    · have HR : Hid (Lx.numOut s a = ⟨0, ⟨#[]⟩, 0, 0, 11⟩) := by show _ = _; unfold Lx.numOut; rw [if_pos ⟨by omega, by rw [HC.out]; exact eq_of_beq h48⟩]; rfl
      go_enter Tryz.func104, Tryz.ntmps104
      go_wp2_with (first
        | (go_at_call 145; refine (numberEnd_any s a _ hs (by omega)).mono ?_; rintro e w' ⟨rfl, rfl⟩)
        | (go_at_call 142; refine (tokenOf_any 2 s a _ _ hs hge hle).mono ?_; rintro e w1 ⟨rfl, hbel⟩; obtain ⟨k0, k1, k2, k3, kf, klt⟩ := box4 hbel))
      refine bodyPost_ret (v := .tuple #[Value.agg #[.int .i64 0, .string ⟨#[]⟩, .int .i64 0, .int .i64 0], .int .i64 11]) ?_ rfl ⟨by rw [HR.out] <;> rfl, ?_⟩
      · simp [results, Tryz.results104, go_sem, klt, k0, k1, k2, k3]
      · refine Below.alloc ?_ (by simp; omega) _
        repeat (refine Below.setCell ?_ (by simp) _)
        exact ((Below.refl _ _).alloc (Nat.le_refl _) _).trans (hbel.mono (by simp))
  · skip
    have hcond : ¬ (1 < (s.extract a (Lx.spanEnd Lx.digit s a)).size ∧ Lx.byteAt s a = 48) := by omega
    by_cases hv : Lx.decVal (s.extract a (Lx.spanEnd Lx.digit s a)).data.toList ≤ 9223372036854775807
    · have HR : Hid (Lx.numOut s a = ⟨2, (s.extract a (Lx.spanEnd Lx.digit s a)), ((Lx.decVal (s.extract a (Lx.spanEnd Lx.digit s a)).data.toList : Nat) : Int), a, 0⟩) := by show _ = _; unfold Lx.numOut; rw [if_neg hcond, if_pos hv]
      have HV := hid hv
      clear hv hcond
      go_enter Tryz.func104, Tryz.ntmps104
      go_wp2_with (first
        | (go_at_call 145; refine (numberEnd_any s a _ hs (by omega)).mono ?_; rintro e w' ⟨rfl, rfl⟩)
        | (go_at_call 142; refine (tokenOf_any 2 s a _ _ hs hge hle).mono ?_; rintro e w1 ⟨rfl, hbel⟩; obtain ⟨k0, k1, k2, k3, kf, klt⟩ := box4 hbel)
        | (go_at_call 146; refine (parse_ok (s.extract a (Lx.spanEnd Lx.digit s a)) ((Lx.decVal (s.extract a (Lx.spanEnd Lx.digit s a)).data.toList : Nat) : Int) _ (by omega) (by rw [HP.out, if_pos HV.out])).mono ?_; rintro e w2 ⟨tp, rfl, hb2⟩; obtain ⟨m0, m1, m2, m3, mf, mlt⟩ := box4 hb2; have n0 := keep_cell hb2 klt k0; have n1 := keep_cell hb2 klt k1; have n2 := keep_cell hb2 klt k2; have n3 := keep_cell hb2 klt k3; have nf := keep_frozen hb2 klt kf; have nlt : w.heap.size < w2.heap.size := (by omega)))
      refine bodyPost_ret (v := .tuple #[Value.agg #[.int .i64 2, .string (s.extract a (Lx.spanEnd Lx.digit s a)), .int .i64 ((Lx.decVal (s.extract a (Lx.spanEnd Lx.digit s a)).data.toList : Nat) : Int), .int .i64 (a : Int)], .int .i64 0]) ?_ rfl ⟨by rw [HR.out] <;> rfl, ?_⟩
      · simp [results, Tryz.results104, go_sem, n0, n1, n2, n3]
      · repeat (refine Below.setCell ?_ (by simp; try omega) _)
        refine Below.trans ?_ (hb2.mono (by simp; omega))
        refine Below.alloc ?_ (by omega) _
        exact ((Below.refl _ _).alloc (Nat.le_refl _) _).trans (hbel.mono (by simp))
    · have HR : Hid (Lx.numOut s a = ⟨0, ⟨#[]⟩, 0, 0, 11⟩) := by show _ = _; unfold Lx.numOut; rw [if_neg hcond, if_neg hv]; rfl
      have HV := hid hv
      clear hv hcond
      go_enter Tryz.func104, Tryz.ntmps104
      go_wp2_with (first
        | (go_at_call 145; refine (numberEnd_any s a _ hs (by omega)).mono ?_; rintro e w' ⟨rfl, rfl⟩)
        | (go_at_call 142; refine (tokenOf_any 2 s a _ _ hs hge hle).mono ?_; rintro e w1 ⟨rfl, hbel⟩; obtain ⟨k0, k1, k2, k3, kf, klt⟩ := box4 hbel)
        | (go_at_call 146; refine (parse_range (s.extract a (Lx.spanEnd Lx.digit s a)) _ (by omega) (by rw [HP.out, if_neg HV.out]) (by exact (hE.alloc _ |>.after hbel).alloc _)).mono ?_; rintro e w2 ⟨tp, rfl, hb2⟩; obtain ⟨m0, m1, m2, m3, mf, mlt⟩ := box4 hb2; have n0 := keep_cell hb2 klt k0; have n1 := keep_cell hb2 klt k1; have n2 := keep_cell hb2 klt k2; have n3 := keep_cell hb2 klt k3; have nf := keep_frozen hb2 klt kf; have nlt : w.heap.size < w2.heap.size := (by omega)))
      refine bodyPost_ret (v := .tuple #[Value.agg #[.int .i64 0, .string ⟨#[]⟩, .int .i64 0, .int .i64 0], .int .i64 11]) ?_ rfl ⟨by rw [HR.out] <;> rfl, ?_⟩
      · simp [results, Tryz.results104, go_sem, n0, n1, n2, n3]
      · repeat (refine Below.setCell ?_ (by simp; try omega) _)
        refine Below.trans ?_ (hb2.mono (by simp; omega))
        refine Below.alloc ?_ (by omega) _
        exact ((Below.refl _ _).alloc (Nat.le_refl _) _).trans (hbel.mono (by simp))
end Go.Proofs.YtaekbgljbgmchaaGreatDoor
