/-
  The document's own token at a place is the one that the plain Lean function says: names and numbers.
-/
import Derived.Test.YtpebddinnnmdaaaDoorLxU
import Derived.Test.YtpebddinnnmdaaaDoorLxG
namespace Go.Proofs.YtpebddinnnmdaaaDoor
open Go.RowKit
namespace Lx
theorem word_size (x : ByteArray) (h : word x = true) : x.size ≤ 9 := by
  have h1 : x.toList ∈ words := List.contains_iff_mem.1 h
  have h2 : ∀ y ∈ words, y.length ≤ 9 := by decide
  have h3 := h2 _ h1
  rw [ByteArray.toList_eq] at h3
  simpa using h3
theorem nameOut_word (s : ByteArray) (a : Nat) (h : word (s.extract a (spanEnd nameByte s a)) = true) : nameOut s a = ⟨3, s.extract a (spanEnd nameByte s a), 0, a, 0⟩ := by unfold nameOut; rw [if_pos h]
theorem nameOut_long (s : ByteArray) (a : Nat) (h : word (s.extract a (spanEnd nameByte s a)) = false) (h2 : 32 < (s.extract a (spanEnd nameByte s a)).size) : nameOut s a = ⟨0, ⟨#[]⟩, 0, 0, 12⟩ := by unfold nameOut; rw [if_neg (by rw [h]; simp), if_pos h2]; rfl
theorem nameOut_name (s : ByteArray) (a : Nat) (h : word (s.extract a (spanEnd nameByte s a)) = false) (h2 : ¬ 32 < (s.extract a (spanEnd nameByte s a)).size) : nameOut s a = ⟨1, s.extract a (spanEnd nameByte s a), 0, a, 0⟩ := by unfold nameOut; rw [if_neg (by rw [h]; simp), if_neg h2]
theorem numOut_eq (s : ByteArray) (a : Nat) (ha : a < s.size) (hd : digit s[a] = true) : numOut s a = if numOk (s.extract a (spanEnd digit s a)) then ⟨2, s.extract a (spanEnd digit s a), (decVal (s.extract a (spanEnd digit s a)).data.toList : Nat), a, 0⟩ else ⟨0, ⟨#[]⟩, 0, 0, 11⟩ := by
  have hh : (s.extract a (spanEnd digit s a)).data.toList.head? = some s[a] := by
    rw [extract_span, drop_cons s a ha]; simp [hd]
  have hb := byteAt_lt s a ha
  unfold numOut numOk
  rw [hh, hb]
  clear hh hb
  generalize s.extract a (spanEnd digit s a) = x
  have e : ((s[a].toNat : Int) = 48) ↔ (some s[a] = some (48 : UInt8)) := by
    constructor
    · intro h; rw [show s[a] = 48 from u8_eq _ 48 h]
    · intro h; rw [Option.some.inj h]; decide
  by_cases h1 : 1 < x.size ∧ (s[a].toNat : Int) = 48
  · rw [if_pos h1, show (decide (1 < x.size) && decide (some s[a] = some (48 : UInt8))) = true by rw [← Bool.decide_and]; exact decide_eq_true ⟨h1.1, e.1 h1.2⟩]
    rfl
  · rw [if_neg h1, show (decide (1 < x.size) && decide (some s[a] = some (48 : UInt8))) = false by rw [← Bool.decide_and]; exact decide_eq_false (fun h => h1 ⟨h.1, e.2 h.2⟩)]
    by_cases h2 : decVal x.data.toList ≤ 9223372036854775807
    · rw [if_pos h2, if_pos (by rw [decide_eq_true h2]; rfl)]
    · rw [if_neg h2, if_neg (by rw [decide_eq_false h2]; decide)]; rfl
end Lx
theorem box4b {w w1 : World} {c0 c1 c2 c3 : Value} {T : TypeId} {o : Obj} (hb : Below ((w.alloc (.cells #[c0, c1, c2, c3] T)).alloc o).heap.size ((w.alloc (.cells #[c0, c1, c2, c3] T)).alloc o) w1) :
    w1.cell? ⟨w.heap.size, 0, none⟩ = some c0 ∧ w1.cell? ⟨w.heap.size, 1, none⟩ = some c1 ∧ w1.cell? ⟨w.heap.size, 2, none⟩ = some c2 ∧ w1.cell? ⟨w.heap.size, 3, none⟩ = some c3 ∧
    (∀ o, w1.frozen? ⟨w.heap.size, o, none⟩ = false) ∧ w.heap.size + 1 < w1.heap.size := by
  have hz := hb.size
  simp at hz
  have hB : w.heap.size < (w.alloc (.cells #[c0, c1, c2, c3] T)).heap.size := by simp
  refine ⟨keep_cell hb hB ?_, keep_cell hb hB ?_, keep_cell hb hB ?_, keep_cell hb hB ?_, keep_frozen hb hB ?_, by omega⟩
  · rw [World.cell?_alloc_at _ _ _ _ rfl]; rfl
  · rw [World.cell?_alloc_at _ _ _ _ rfl]; rfl
  · rw [World.cell?_alloc_at _ _ _ _ rfl]; rfl
  · rw [World.cell?_alloc_at _ _ _ _ rfl]; rfl
  · intro i; rw [World.frozen?_alloc_at _ _ _ _ rfl]
set_option maxHeartbeats 2000000 in
theorem oneName_any (s : ByteArray) (a : Nat) (w : World) (hs : s.size ≤ 20000) (ha : a < s.size) (hl : Lx.letter s[a] = true) :
    Calls Tryd.prog 24 #[.string s, .int .i64 (a : Int)] w fun e w' => e = .returned (.tuple #[Value.agg #[.int .i64 (Lx.nameOut s a).kind, .string (Lx.nameOut s a).text, .int .i64 (Lx.nameOut s a).n, .int .i64 ((Lx.nameOut s a).pos : Int)], .int .i64 (Lx.nameOut s a).err]) ∧ Below w.heap.size w w' := by
  have hle := Lx.spanEnd_le Lx.nameByte s a (by omega)
  have hge := Lx.le_spanEnd Lx.nameByte s a
  have hxs : (s.extract a (Lx.spanEnd Lx.nameByte s a)).size = Lx.spanEnd Lx.nameByte s a - a := by simp; omega
  have HXS := hid hxs
  clear hxs
  go_enter Tryd.func24, Tryd.ntmps24
  go_wp2_with (first | (go_at_call 28; refine (refLetter_any _ _).mono ?_; rintro e w' ⟨rfl, hw'⟩; have hw2 := hw'.symm; subst hw2) | (go_at_call 29; refine (refDigit_any _ _).mono ?_; rintro e w' ⟨rfl, hw'⟩; have hw2 := hw'.symm; subst hw2))
  go_loop [7] (fun i => ∃ k : Nat, a ≤ k ∧ k ≤ s.size ∧ i = .int .i64 k ∧ Lx.spanEnd Lx.nameByte s k = Lx.spanEnd Lx.nameByte s a) (fun i => s.size - (intOf i).toNat)
  case atStart => exact ⟨a, by omega, by omega, rfl, rfl⟩
  case round =>
    obtain ⟨k, hak, hk, rfl, hq⟩ := hrel
    have HQ := hid hq
    clear hq
    have hend : ∀ (hk2 : Lx.spanEnd Lx.nameByte s k = k), k = Lx.spanEnd Lx.nameByte s a := fun h => by rw [← HQ.out, h]
    have HEND := hid hend
    clear hend
    by_cases hlt : k < s.size
    · cases hk1 : Lx.letter s[k]
      · cases hk2 : Lx.digit s[k]
        · cases hu : ((s[k].toNat : Int) == 95)
          · have HN : Hid (k = Lx.spanEnd Lx.nameByte s a) := by
              have : s[k] ≠ 95 := by intro h; rw [h] at hu; simp at hu
              exact HEND.out (Lx.spanEnd_stop _ _ _ hlt (by simp [Lx.nameByte, hk1, hk2, this]))
            have hkk := HN.out
            subst hkk
            clear HN HEND HQ
            cases hw : Lx.word (s.extract a (Lx.spanEnd Lx.nameByte s a))
            · by_cases h32 : 32 < Lx.spanEnd Lx.nameByte s a - a
              · have HR := hid (Lx.nameOut_long s a hw (by rw [HXS.out]; exact h32))
                go_wp2_with (first
                  | (go_at_call 28; refine (refLetter_any _ _).mono ?_; rintro e w' ⟨rfl, hw'⟩; have hw2 := hw'.symm; subst hw2)
                  | (go_at_call 29; refine (refDigit_any _ _).mono ?_; rintro e w' ⟨rfl, hw'⟩; have hw2 := hw'.symm; subst hw2)
                  | (go_at_call 15; refine (refWord_any _ _).mono ?_; rintro e w1 ⟨rfl, hb1⟩; obtain ⟨m0, m1, m2, m3, mf, mlt⟩ := box4 hb1; simp only [World.size_alloc] at m0 m1 m2 m3 mf mlt; obtain ⟨n0, n1, n2, n3, nf, nlt⟩ := box4b hb1))
                refine bodyPost_ret (v := .tuple #[Value.agg #[.int .i64 0, .string ⟨#[]⟩, .int .i64 0, .int .i64 0], .int .i64 12]) ?_ rfl ⟨by rw [HR.out] <;> rfl, ?_⟩
                · simp [results, Tryd.results24, go_sem, n0, n1, n2, n3]
                · repeat (refine Below.setCell ?_ (by simp) _)
                  exact (((Below.refl _ _).alloc (Nat.le_refl _) _).alloc (by simp) _).trans (hb1.mono (by simp; omega))
              · have HR := hid (Lx.nameOut_name s a hw (by rw [HXS.out]; exact h32))
                go_wp2_with (first
                  | (go_at_call 28; refine (refLetter_any _ _).mono ?_; rintro e w' ⟨rfl, hw'⟩; have hw2 := hw'.symm; subst hw2)
                  | (go_at_call 29; refine (refDigit_any _ _).mono ?_; rintro e w' ⟨rfl, hw'⟩; have hw2 := hw'.symm; subst hw2)
                  | (go_at_call 15; refine (refWord_any _ _).mono ?_; rintro e w1 ⟨rfl, hb1⟩; obtain ⟨m0, m1, m2, m3, mf, mlt⟩ := box4 hb1; simp only [World.size_alloc] at m0 m1 m2 m3 mf mlt; obtain ⟨n0, n1, n2, n3, nf, nlt⟩ := box4b hb1))
                refine bodyPost_ret (v := .tuple #[Value.agg #[.int .i64 1, .string (s.extract a (Lx.spanEnd Lx.nameByte s a)), .int .i64 0, .int .i64 (a : Int)], .int .i64 0]) ?_ rfl ⟨by rw [HR.out] <;> rfl, ?_⟩
                · simp [results, Tryd.results24, go_sem, n0, n1, n2, n3]
                · repeat (refine Below.setCell ?_ (by simp) _)
                  exact (((Below.refl _ _).alloc (Nat.le_refl _) _).alloc (by simp) _).trans (hb1.mono (by simp; omega))
            · have HR := hid (Lx.nameOut_word s a hw)
              have h33 : Lx.spanEnd Lx.nameByte s a - a ≤ 9 := by have := Lx.word_size _ hw; rw [HXS.out] at this; exact this
              go_wp2_with (first
                | (go_at_call 28; refine (refLetter_any _ _).mono ?_; rintro e w' ⟨rfl, hw'⟩; have hw2 := hw'.symm; subst hw2)
                | (go_at_call 29; refine (refDigit_any _ _).mono ?_; rintro e w' ⟨rfl, hw'⟩; have hw2 := hw'.symm; subst hw2)
                | (go_at_call 15; refine (refWord_any _ _).mono ?_; rintro e w1 ⟨rfl, hb1⟩; obtain ⟨m0, m1, m2, m3, mf, mlt⟩ := box4 hb1; simp only [World.size_alloc] at m0 m1 m2 m3 mf mlt; obtain ⟨n0, n1, n2, n3, nf, nlt⟩ := box4b hb1))
              refine bodyPost_ret (v := .tuple #[Value.agg #[.int .i64 3, .string (s.extract a (Lx.spanEnd Lx.nameByte s a)), .int .i64 0, .int .i64 (a : Int)], .int .i64 0]) ?_ rfl ⟨by rw [HR.out] <;> rfl, ?_⟩
              · simp [results, Tryd.results24, go_sem, n0, n1, n2, n3]
              · repeat (refine Below.setCell ?_ (by simp) _)
                exact (((Below.refl _ _).alloc (Nat.le_refl _) _).alloc (by simp) _).trans (hb1.mono (by simp; omega))
          · skip
            have HN : Hid (Lx.nameByte s[k] = true) := by
              show Lx.nameByte s[k] = true
              have h95 : s[k] = 95 := u8_eq _ 95 (eq_of_beq hu)
              simp [Lx.nameByte, h95]
            go_wp2_with (first | (go_at_call 28; refine (refLetter_any _ _).mono ?_; rintro e w' ⟨rfl, hw'⟩; have hw2 := hw'.symm; subst hw2) | (go_at_call 29; refine (refDigit_any _ _).mono ?_; rintro e w' ⟨rfl, hw'⟩; have hw2 := hw'.symm; subst hw2))
            go_round
            case rel => exact ⟨k + 1, by omega, by omega, by go_num, (Lx.spanEnd_step _ _ _ hlt HN.out).trans HQ.out⟩
            case measure => simp [intOf]; omega
        · skip
          have HN : Hid (Lx.nameByte s[k] = true) := by
            show Lx.nameByte s[k] = true
            simp [Lx.nameByte, hk2]
          go_wp2_with (first | (go_at_call 28; refine (refLetter_any _ _).mono ?_; rintro e w' ⟨rfl, hw'⟩; have hw2 := hw'.symm; subst hw2) | (go_at_call 29; refine (refDigit_any _ _).mono ?_; rintro e w' ⟨rfl, hw'⟩; have hw2 := hw'.symm; subst hw2))
          go_round
          case rel => exact ⟨k + 1, by omega, by omega, by go_num, (Lx.spanEnd_step _ _ _ hlt HN.out).trans HQ.out⟩
          case measure => simp [intOf]; omega
      · skip
        have HN : Hid (Lx.nameByte s[k] = true) := by
          show Lx.nameByte s[k] = true
          simp [Lx.nameByte, hk1]
        go_wp2_with (first | (go_at_call 28; refine (refLetter_any _ _).mono ?_; rintro e w' ⟨rfl, hw'⟩; have hw2 := hw'.symm; subst hw2) | (go_at_call 29; refine (refDigit_any _ _).mono ?_; rintro e w' ⟨rfl, hw'⟩; have hw2 := hw'.symm; subst hw2))
        go_round
        case rel => exact ⟨k + 1, by omega, by omega, by go_num, (Lx.spanEnd_step _ _ _ hlt HN.out).trans HQ.out⟩
        case measure => simp [intOf]; omega
    · have HN : Hid (k = Lx.spanEnd Lx.nameByte s a) := HEND.out (Lx.spanEnd_over _ _ _ (by omega))
      have hkk := HN.out
      subst hkk
      clear HN HEND HQ
      cases hw : Lx.word (s.extract a (Lx.spanEnd Lx.nameByte s a))
      · by_cases h32 : 32 < Lx.spanEnd Lx.nameByte s a - a
        · have HR := hid (Lx.nameOut_long s a hw (by rw [HXS.out]; exact h32))
          go_wp2_with (first
            | (go_at_call 28; refine (refLetter_any _ _).mono ?_; rintro e w' ⟨rfl, hw'⟩; have hw2 := hw'.symm; subst hw2)
            | (go_at_call 29; refine (refDigit_any _ _).mono ?_; rintro e w' ⟨rfl, hw'⟩; have hw2 := hw'.symm; subst hw2)
            | (go_at_call 15; refine (refWord_any _ _).mono ?_; rintro e w1 ⟨rfl, hb1⟩; obtain ⟨m0, m1, m2, m3, mf, mlt⟩ := box4 hb1; simp only [World.size_alloc] at m0 m1 m2 m3 mf mlt; obtain ⟨n0, n1, n2, n3, nf, nlt⟩ := box4b hb1))
          refine bodyPost_ret (v := .tuple #[Value.agg #[.int .i64 0, .string ⟨#[]⟩, .int .i64 0, .int .i64 0], .int .i64 12]) ?_ rfl ⟨by rw [HR.out] <;> rfl, ?_⟩
          · simp [results, Tryd.results24, go_sem, n0, n1, n2, n3]
          · repeat (refine Below.setCell ?_ (by simp) _)
            exact (((Below.refl _ _).alloc (Nat.le_refl _) _).alloc (by simp) _).trans (hb1.mono (by simp; omega))
        · have HR := hid (Lx.nameOut_name s a hw (by rw [HXS.out]; exact h32))
          go_wp2_with (first
            | (go_at_call 28; refine (refLetter_any _ _).mono ?_; rintro e w' ⟨rfl, hw'⟩; have hw2 := hw'.symm; subst hw2)
            | (go_at_call 29; refine (refDigit_any _ _).mono ?_; rintro e w' ⟨rfl, hw'⟩; have hw2 := hw'.symm; subst hw2)
            | (go_at_call 15; refine (refWord_any _ _).mono ?_; rintro e w1 ⟨rfl, hb1⟩; obtain ⟨m0, m1, m2, m3, mf, mlt⟩ := box4 hb1; simp only [World.size_alloc] at m0 m1 m2 m3 mf mlt; obtain ⟨n0, n1, n2, n3, nf, nlt⟩ := box4b hb1))
          refine bodyPost_ret (v := .tuple #[Value.agg #[.int .i64 1, .string (s.extract a (Lx.spanEnd Lx.nameByte s a)), .int .i64 0, .int .i64 (a : Int)], .int .i64 0]) ?_ rfl ⟨by rw [HR.out] <;> rfl, ?_⟩
          · simp [results, Tryd.results24, go_sem, n0, n1, n2, n3]
          · repeat (refine Below.setCell ?_ (by simp) _)
            exact (((Below.refl _ _).alloc (Nat.le_refl _) _).alloc (by simp) _).trans (hb1.mono (by simp; omega))
      · have HR := hid (Lx.nameOut_word s a hw)
        have h33 : Lx.spanEnd Lx.nameByte s a - a ≤ 9 := by have := Lx.word_size _ hw; rw [HXS.out] at this; exact this
        go_wp2_with (first
          | (go_at_call 28; refine (refLetter_any _ _).mono ?_; rintro e w' ⟨rfl, hw'⟩; have hw2 := hw'.symm; subst hw2)
          | (go_at_call 29; refine (refDigit_any _ _).mono ?_; rintro e w' ⟨rfl, hw'⟩; have hw2 := hw'.symm; subst hw2)
          | (go_at_call 15; refine (refWord_any _ _).mono ?_; rintro e w1 ⟨rfl, hb1⟩; obtain ⟨m0, m1, m2, m3, mf, mlt⟩ := box4 hb1; simp only [World.size_alloc] at m0 m1 m2 m3 mf mlt; obtain ⟨n0, n1, n2, n3, nf, nlt⟩ := box4b hb1))
        refine bodyPost_ret (v := .tuple #[Value.agg #[.int .i64 3, .string (s.extract a (Lx.spanEnd Lx.nameByte s a)), .int .i64 0, .int .i64 (a : Int)], .int .i64 0]) ?_ rfl ⟨by rw [HR.out] <;> rfl, ?_⟩
        · simp [results, Tryd.results24, go_sem, n0, n1, n2, n3]
        · repeat (refine Below.setCell ?_ (by simp) _)
          exact (((Below.refl _ _).alloc (Nat.le_refl _) _).alloc (by simp) _).trans (hb1.mono (by simp; omega))
end Go.Proofs.YtpebddinnnmdaaaDoor
