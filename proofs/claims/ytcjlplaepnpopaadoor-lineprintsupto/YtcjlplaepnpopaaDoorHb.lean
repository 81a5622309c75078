/-
  The document's bare: a text without blanks at its ends.
-/
import Derived.Test.YtcjlplaepnpopaaDoorHa
import Derived.LoopN
import Derived.OwnWalk
import Derived.WalkSmall
import Derived.BigQuiet
import Derived.Deep.QuietTactic
namespace Go.Proofs.YtcjlplaepnpopaaDoor
open Go.RowKit
/-- Whether a byte is a blank; whether a text is empty, or has none at its ends. -/
def blk (c : Nat) : Prop := c = 32 ∨ c = 9
instance (c : Nat) : Decidable (blk c) := inferInstanceAs (Decidable (_ ∨ _))
def okE (s : ByteArray) : Bool := decide (s.size = 0 ∨ ¬ blk (byt s 0) ∧ ¬ blk (byt s (s.size - 1)))
/-- What is left when a text is trimmed. -/
structure Cutd (s : ByteArray) (a b : Nat) : Prop where
  le : a ≤ b
  top : b ≤ s.size
  front : 0 < a → blk (byt s 0)
  back : b < s.size → blk (byt s (s.size - 1))
theorem extract_same {s : ByteArray} {a b : Nat} (h1 : a ≤ b) (h2 : b ≤ s.size) : s.extract a b = s ↔ a = 0 ∧ b = s.size := by
  constructor
  · intro h
    have e := congrArg ByteArray.size h
    rw [ByteArray.size_extract] at e
    omega
  · rintro ⟨rfl, rfl⟩
    exact ByteArray.extract_zero_size
theorem Cutd.says {s : ByteArray} {a b : Nat} (h : Cutd s a b) (h1 : a = 0 → a < b → ¬ blk (byt s a)) (h2 : b = s.size → a < b → ¬ blk (byt s (b - 1))) : s.extract a b = s ↔ okE s = true := by
  rw [extract_same h.le h.top, okE, decide_eq_true_iff]
  constructor
  · rintro ⟨rfl, rfl⟩
    by_cases c : s.size = 0
    · exact .inl c
    · exact .inr ⟨h1 rfl (by omega), h2 rfl (by omega)⟩
  · rintro (c | ⟨c1, c2⟩)
    · have := h.le; have := h.top; omega
    · constructor
      · by_cases q : 0 < a
        · exact absurd (h.front q) c1
        · omega
      · by_cases q : b < s.size
        · exact absurd (h.back q) c2
        · have := h.top; omega
theorem extract_all {s : ByteArray} {a : Nat} : (s.extract a s.size).extract 1 (s.extract a s.size).size = s.extract (a + 1) s.size := by
  rw [ByteArray.extract_extract, ByteArray.size_extract]
  by_cases h : a ≤ s.size
  · rw [show min (a + (min s.size s.size - a)) s.size = s.size by omega]
  · apply ByteArray.ext
    simp only [ByteArray.data_extract]
    rw [Array.extract_empty_of_stop_le_start (by omega), Array.extract_empty_of_stop_le_start (by omega)]
theorem extract_less {s : ByteArray} {a b : Nat} (hb : b ≤ s.size) (h : a < b) : (s.extract a b).extract 0 ((s.extract a b).size - 1) = s.extract a (b - 1) := by
  rw [ByteArray.extract_extract, ByteArray.size_extract]
  rw [show min (a + (min b s.size - a - 1)) b = b - 1 by omega, Nat.add_zero]
theorem Cutd.start (s : ByteArray) : Cutd s 0 s.size := ⟨Nat.zero_le _, Nat.le_refl _, fun h => by omega, fun h => by omega⟩
theorem Cutd.lead {s : ByteArray} {a b : Nat} (h : Cutd s a b) (hl : a < b) (hb : blk (byt s a)) : Cutd s (a + 1) b :=
  ⟨by omega, h.top, fun _ => by
    by_cases q : 0 < a
    · exact h.front q
    · obtain rfl : a = 0 := by omega
      exact hb, h.back⟩
theorem Cutd.trail {s : ByteArray} {a b : Nat} (h : Cutd s a b) (hl : a < b) (hb : blk (byt s (b - 1))) : Cutd s a (b - 1) :=
  ⟨by omega, by have := h.top; omega, h.front, fun _ => by
    by_cases q : b < s.size
    · exact h.back q
    · obtain rfl : b = s.size := by have := h.top; omega
      exact hb⟩
/-- Where the first byte that is no blank stands; behind the last one. -/
def ldN (s : ByteArray) : Nat → Nat → Nat
  | 0, a => a
  | f + 1, a => if a < s.size ∧ blk (byt s a) then ldN s f (a + 1) else a
def trN (s : ByteArray) (a : Nat) : Nat → Nat → Nat
  | 0, b => b
  | f + 1, b => if a < b ∧ blk (byt s (b - 1)) then trN s a f (b - 1) else b
def bareT (s : ByteArray) : ByteArray := s.extract (ldN s s.size 0) (trN s (ldN s s.size 0) s.size s.size)
theorem ldN_go {s : ByteArray} {a : Nat} (h : a < s.size) (k : blk (byt s a)) : ldN s (s.size - a) a = ldN s (s.size - (a + 1)) (a + 1) := by
  rw [show s.size - a = (s.size - (a + 1)) + 1 by omega, ldN, if_pos ⟨h, k⟩]
theorem ldN_stop {s : ByteArray} {a : Nat} (k : ¬ (a < s.size ∧ blk (byt s a))) : ldN s (s.size - a) a = a := by
  cases s.size - a with
  | zero => rfl
  | succ f => rw [ldN, if_neg k]
theorem trN_go {s : ByteArray} {a b : Nat} (h : a < b) (k : blk (byt s (b - 1))) : trN s a b b = trN s a (b - 1) (b - 1) := by
  obtain ⟨c, rfl⟩ : ∃ c, b = c + 1 := ⟨b - 1, by omega⟩
  rw [trN, if_pos ⟨h, k⟩]
  rfl
theorem trN_stop {s : ByteArray} {a b : Nat} (k : ¬ (a < b ∧ blk (byt s (b - 1)))) : trN s a b b = b := by
  cases b with
  | zero => rfl
  | succ f => rw [trN, if_neg k]
def szV : Value → Nat
  | .string t => t.size
  | _ => 0
set_option maxRecDepth 100000 in
set_option maxHeartbeats 1000000 in
theorem bare_any (s : ByteArray) (w : World) (hs : s.size ≤ 140737488351232) : Calls Tryd.prog 29 #[.string s] w fun e w' => e = .returned (.string (bareT s)) ∧ w' = w := by
  go_enter Tryd.func29, Tryd.ntmps29
  go_wp2
  go_loopw [0] (fun x wr => wr = w ∧ ∃ a : Nat, x = .string (s.extract a s.size) ∧ Hid (Cutd s a s.size ∧ ldN s (s.size - a) a = ldN s s.size 0)) (fun x _ => szV x)
  case atStart => exact ⟨rfl, 0, by rw [ByteArray.extract_zero_size], Cutd.start s, rfl⟩
  case round =>
    obtain ⟨rfl, a, rfl, hC⟩ := hrel
    obtain ⟨t, eT⟩ : ∃ t, s.extract a s.size = t := ⟨_, rfl⟩
    have hz : t.size = s.size - a := by rw [← eT, ByteArray.size_extract]; omega
    have hle : a ≤ s.size := hC.out.1.le
    have hq : t.extract 1 t.size = s.extract (a + 1) s.size := by rw [← eT]; exact extract_all
    have hb0 : byt t 0 = byt s a := by rw [← eT, byt_tail, Nat.add_zero]
    by_cases k : a < s.size ∧ blk (byt s a)
    · obtain ⟨c, k⟩ := k
      have c1 : 0 < t.size := by omega
      have c2 : (0 : Int) < (t.size : Int) := by omega
      have c3 : (1 : Int) ≤ (t.size : Int) := by omega
      have q0 : (t[0]'c1).toNat = byt t 0 := byt_eq t 0 c1
      rw [hb0] at q0
      have HC : Hid (Cutd s (a + 1) s.size ∧ ldN s (s.size - (a + 1)) (a + 1) = ldN s s.size 0) := ⟨hC.out.1.lead c k, by rw [← ldN_go c k]; exact hC.out.2⟩
      have HQ : Hid (t.extract 1 t.size = s.extract (a + 1) s.size) := hq
      obtain ⟨Y, eY⟩ : ∃ Y, byt s a = Y := ⟨_, rfl⟩
      rw [eY] at q0 k
      clear hC hq hb0 eY
      rw [eT]
      clear eT hz
      rcases k with k | k
      · subst k
        go_wp2
        refine ⟨⟨trivial, a + 1, by rw [HQ.out], HC⟩, ?_⟩
        show (t.extract 1 t.size).size < t.size
        rw [ByteArray.size_extract]; omega
      · subst k
        go_wp2
        refine ⟨⟨trivial, a + 1, by rw [HQ.out], HC⟩, ?_⟩
        show (t.extract 1 t.size).size < t.size
        rw [ByteArray.size_extract]; omega
    · have HA : Hid (a = 0 → a < s.size → ¬ blk (byt s a)) := fun _ h1 h2 => k ⟨h1, h2⟩
      have HC : Hid (Cutd s a s.size ∧ trN s a s.size s.size = trN s (ldN s s.size 0) s.size s.size ∧ a = ldN s s.size 0) := by
        have e := hC.out.2
        rw [ldN_stop k] at e
        exact ⟨hC.out.1, by rw [← e], e⟩
      have HT : Hid (t = s.extract a s.size) := eT.symm
      rw [eT]
      by_cases c : a < s.size
      · have c1 : 0 < t.size := by omega
        have c2 : (0 : Int) < (t.size : Int) := by omega
        have c3 : (1 : Int) ≤ (t.size : Int) := by omega
        have q0 : (t[0]'c1).toNat = byt t 0 := byt_eq t 0 c1
        rw [hb0] at q0
        have k1 : ¬ blk (byt s a) := fun h => k ⟨c, h⟩
        obtain ⟨Y, eY⟩ : ∃ Y, byt s a = Y := ⟨_, rfl⟩
        rw [eY] at q0 k1
        have k2 : ¬ Y = 32 ∧ ¬ Y = 9 := ⟨fun h => k1 (.inl h), fun h => k1 (.inr h)⟩
        have e1 : ((Y : Int) == 32) = false := beq_false_of_ne (by omega)
        have e2 : ((Y : Int) == 9) = false := beq_false_of_ne (by omega)
        clear hC hq hb0 eY k k1 k2 hz
        go_wp2
        clear eT
        go_loopw [0] (fun x wr' => wr' = wr ∧ ∃ b : Nat, x = .string (s.extract a b) ∧ Hid (Cutd s a b ∧ trN s a b b = trN s (ldN s s.size 0) s.size s.size ∧ a = ldN s s.size 0)) (fun x _ => szV x)
        case atStart => exact ⟨rfl, s.size, by rw [HT.out], HC⟩
        case round =>
          clear HT HC
          obtain ⟨rfl, b, rfl, hC2⟩ := hrel
          obtain ⟨t2, eT2⟩ : ∃ t2, s.extract a b = t2 := ⟨_, rfl⟩
          have hab : a ≤ b := hC2.out.1.le
          have hbs : b ≤ s.size := hC2.out.1.top
          have hz2 : t2.size = b - a := by rw [← eT2, ByteArray.size_extract]; omega
          by_cases k2 : a < b ∧ blk (byt s (b - 1))
          · obtain ⟨c4, k2⟩ := k2
            have hq2 : t2.extract 0 (t2.size - 1) = s.extract a (b - 1) := by rw [← eT2]; exact extract_less hbs c4
            have hb2 : byt t2 (t2.size - 1) = byt s (b - 1) := by rw [hz2, ← eT2, byt_extract s a b _ hbs (by omega)]; congr 1; omega
            have c5 : 0 < t2.size := by omega
            have c6 : (0 : Int) < (t2.size : Int) := by omega
            have c7 : (1 : Int) ≤ (t2.size : Int) := by omega
            have c8 : ((t2.size : Int) - 1).toNat = t2.size - 1 := by omega
            have c9 : (t2.size : Int) - 1 < (t2.size : Int) := by omega
            have c10 : (0 : Int) ≤ (t2.size : Int) - 1 := by omega
            have c12 : (t2.size : Int) ≤ 140737488351232 := by omega
            have c11 : t2.size - 1 < t2.size := by omega
            have q1 : (t2[t2.size - 1]'c11).toNat = byt t2 (t2.size - 1) := byt_eq t2 _ c11
            rw [hb2] at q1
            have HC3 : Hid (Cutd s a (b - 1) ∧ trN s a (b - 1) (b - 1) = trN s (ldN s s.size 0) s.size s.size ∧ a = ldN s s.size 0) := ⟨hC2.out.1.trail c4 k2, by rw [← trN_go c4 k2]; exact hC2.out.2.1, hC2.out.2.2⟩
            have HQ2 : Hid (t2.extract 0 (t2.size - 1) = s.extract a (b - 1)) := hq2
            obtain ⟨Z, eZ⟩ : ∃ Z, byt s (b - 1) = Z := ⟨_, rfl⟩
            rw [eZ] at q1 k2
            clear hC2 hq2 hb2 eZ HA
            rw [eT2]
            clear eT2 hz2
            rcases k2 with k2 | k2
            · subst k2
              go_wp2
              refine ⟨⟨trivial, b - 1, by rw [HQ2.out], HC3⟩, ?_⟩
              show (t2.extract 0 (t2.size - 1)).size < t2.size
              rw [ByteArray.size_extract]; omega
            · subst k2
              go_wp2
              refine ⟨⟨trivial, b - 1, by rw [HQ2.out], HC3⟩, ?_⟩
              show (t2.extract 0 (t2.size - 1)).size < t2.size
              rw [ByteArray.size_extract]; omega
          · have HF : Hid (t2 = bareT s) := by
              unfold Hid
              have e := hC2.out.2.1
              rw [trN_stop k2] at e
              rw [← eT2]
              unfold bareT
              rw [← hC2.out.2.2, e, ← hC2.out.2.2]
            rw [eT2]
            by_cases c4 : a < b
            · have hb2 : byt t2 (t2.size - 1) = byt s (b - 1) := by rw [hz2, ← eT2, byt_extract s a b _ hbs (by omega)]; congr 1; omega
              have c5 : 0 < t2.size := by omega
              have c6 : (0 : Int) < (t2.size : Int) := by omega
              have c7 : (1 : Int) ≤ (t2.size : Int) := by omega
              have c8 : ((t2.size : Int) - 1).toNat = t2.size - 1 := by omega
              have c9 : (t2.size : Int) - 1 < (t2.size : Int) := by omega
              have c10 : (0 : Int) ≤ (t2.size : Int) - 1 := by omega
              have c12 : (t2.size : Int) ≤ 140737488351232 := by omega
              have c11 : t2.size - 1 < t2.size := by omega
              have q1 : (t2[t2.size - 1]'c11).toNat = byt t2 (t2.size - 1) := byt_eq t2 _ c11
              rw [hb2] at q1
              have k3 : ¬ blk (byt s (b - 1)) := fun h => k2 ⟨c4, h⟩
              obtain ⟨Z, eZ⟩ : ∃ Z, byt s (b - 1) = Z := ⟨_, rfl⟩
              rw [eZ] at q1 k3
              have k4 : ¬ Z = 32 ∧ ¬ Z = 9 := ⟨fun h => k3 (.inl h), fun h => k3 (.inr h)⟩
              have e3 : ((Z : Int) == 32) = false := beq_false_of_ne (by omega)
              have e4 : ((Z : Int) == 9) = false := beq_false_of_ne (by omega)
              clear hC2 hb2 eZ HA eT2 hz2 k2 k3 k4
              go_wp2
              exact bodyPost_ret (v := .string t2) (by simp [results, Tryd.results29, go_sem]) rfl ⟨by rw [HF.out], rfl⟩
            · have c5 : t2.size = 0 := by omega
              have c6 : ¬ (0 : Int) < (t2.size : Int) := by omega
              clear hC2 HA eT2 hz2 k2
              go_wp2
              exact bodyPost_ret (v := .string t2) (by simp [results, Tryd.results29, go_sem]) rfl ⟨by rw [HF.out], rfl⟩
      · have c0 : t.size = 0 := by omega
        have c2 : ¬ (0 : Int) < (t.size : Int) := by omega
        clear hC hq hb0 k hz
        go_wp2
        clear eT
        go_loopw [0] (fun x wr' => wr' = wr ∧ ∃ b : Nat, x = .string (s.extract a b) ∧ Hid (Cutd s a b ∧ trN s a b b = trN s (ldN s s.size 0) s.size s.size ∧ a = ldN s s.size 0)) (fun x _ => szV x)
        case atStart => exact ⟨rfl, s.size, by rw [HT.out], HC⟩
        case round =>
          clear HT HC
          obtain ⟨rfl, b, rfl, hC2⟩ := hrel
          obtain ⟨t2, eT2⟩ : ∃ t2, s.extract a b = t2 := ⟨_, rfl⟩
          have hab : a ≤ b := hC2.out.1.le
          have hbs : b ≤ s.size := hC2.out.1.top
          have hz2 : t2.size = b - a := by rw [← eT2, ByteArray.size_extract]; omega
          by_cases k2 : a < b ∧ blk (byt s (b - 1))
          · obtain ⟨c4, k2⟩ := k2
            have hq2 : t2.extract 0 (t2.size - 1) = s.extract a (b - 1) := by rw [← eT2]; exact extract_less hbs c4
            have hb2 : byt t2 (t2.size - 1) = byt s (b - 1) := by rw [hz2, ← eT2, byt_extract s a b _ hbs (by omega)]; congr 1; omega
            have c5 : 0 < t2.size := by omega
            have c6 : (0 : Int) < (t2.size : Int) := by omega
            have c7 : (1 : Int) ≤ (t2.size : Int) := by omega
            have c8 : ((t2.size : Int) - 1).toNat = t2.size - 1 := by omega
            have c9 : (t2.size : Int) - 1 < (t2.size : Int) := by omega
            have c10 : (0 : Int) ≤ (t2.size : Int) - 1 := by omega
            have c12 : (t2.size : Int) ≤ 140737488351232 := by omega
            have c11 : t2.size - 1 < t2.size := by omega
            have q1 : (t2[t2.size - 1]'c11).toNat = byt t2 (t2.size - 1) := byt_eq t2 _ c11
            rw [hb2] at q1
            have HC3 : Hid (Cutd s a (b - 1) ∧ trN s a (b - 1) (b - 1) = trN s (ldN s s.size 0) s.size s.size ∧ a = ldN s s.size 0) := ⟨hC2.out.1.trail c4 k2, by rw [← trN_go c4 k2]; exact hC2.out.2.1, hC2.out.2.2⟩
            have HQ2 : Hid (t2.extract 0 (t2.size - 1) = s.extract a (b - 1)) := hq2
            obtain ⟨Z, eZ⟩ : ∃ Z, byt s (b - 1) = Z := ⟨_, rfl⟩
            rw [eZ] at q1 k2
            clear hC2 hq2 hb2 eZ HA
            rw [eT2]
            clear eT2 hz2
            rcases k2 with k2 | k2
            · subst k2
              go_wp2
              refine ⟨⟨trivial, b - 1, by rw [HQ2.out], HC3⟩, ?_⟩
              show (t2.extract 0 (t2.size - 1)).size < t2.size
              rw [ByteArray.size_extract]; omega
            · subst k2
              go_wp2
              refine ⟨⟨trivial, b - 1, by rw [HQ2.out], HC3⟩, ?_⟩
              show (t2.extract 0 (t2.size - 1)).size < t2.size
              rw [ByteArray.size_extract]; omega
          · have HF : Hid (t2 = bareT s) := by
              unfold Hid
              have e := hC2.out.2.1
              rw [trN_stop k2] at e
              rw [← eT2]
              unfold bareT
              rw [← hC2.out.2.2, e, ← hC2.out.2.2]
            rw [eT2]
            by_cases c4 : a < b
            · have hb2 : byt t2 (t2.size - 1) = byt s (b - 1) := by rw [hz2, ← eT2, byt_extract s a b _ hbs (by omega)]; congr 1; omega
              have c5 : 0 < t2.size := by omega
              have c6 : (0 : Int) < (t2.size : Int) := by omega
              have c7 : (1 : Int) ≤ (t2.size : Int) := by omega
              have c8 : ((t2.size : Int) - 1).toNat = t2.size - 1 := by omega
              have c9 : (t2.size : Int) - 1 < (t2.size : Int) := by omega
              have c10 : (0 : Int) ≤ (t2.size : Int) - 1 := by omega
              have c12 : (t2.size : Int) ≤ 140737488351232 := by omega
              have c11 : t2.size - 1 < t2.size := by omega
              have q1 : (t2[t2.size - 1]'c11).toNat = byt t2 (t2.size - 1) := byt_eq t2 _ c11
              rw [hb2] at q1
              have k3 : ¬ blk (byt s (b - 1)) := fun h => k2 ⟨c4, h⟩
              obtain ⟨Z, eZ⟩ : ∃ Z, byt s (b - 1) = Z := ⟨_, rfl⟩
              rw [eZ] at q1 k3
              have k4 : ¬ Z = 32 ∧ ¬ Z = 9 := ⟨fun h => k3 (.inl h), fun h => k3 (.inr h)⟩
              have e3 : ((Z : Int) == 32) = false := beq_false_of_ne (by omega)
              have e4 : ((Z : Int) == 9) = false := beq_false_of_ne (by omega)
              clear hC2 hb2 eZ HA eT2 hz2 k2 k3 k4
              go_wp2
              exact bodyPost_ret (v := .string t2) (by simp [results, Tryd.results29, go_sem]) rfl ⟨by rw [HF.out], rfl⟩
            · have c5 : t2.size = 0 := by omega
              have c6 : ¬ (0 : Int) < (t2.size : Int) := by omega
              clear hC2 HA eT2 hz2 k2
              go_wp2
              exact bodyPost_ret (v := .string t2) (by simp [results, Tryd.results29, go_sem]) rfl ⟨by rw [HF.out], rfl⟩
theorem ldN_says (s : ByteArray) : ∀ f a, a + f = s.size → (0 < a → blk (byt s 0)) → a ≤ ldN s f a ∧ ldN s f a ≤ s.size ∧ (0 < ldN s f a → blk (byt s 0)) ∧ (ldN s f a < s.size → ¬ blk (byt s (ldN s f a)))
  | 0, a, h, h0 => ⟨Nat.le_refl _, by show a ≤ _; omega, h0, fun q => by have q : a < s.size := q; omega⟩
  | f + 1, a, h, h0 => by
    rw [ldN]
    by_cases c : a < s.size ∧ blk (byt s a)
    · rw [if_pos c]
      have := ldN_says s f (a + 1) (by omega) fun _ => by
        by_cases q : 0 < a
        · exact h0 q
        · obtain rfl : a = 0 := by omega
          exact c.2
      exact ⟨by omega, this.2⟩
    · rw [if_neg c]
      exact ⟨Nat.le_refl _, by omega, h0, fun q k => c ⟨q, k⟩⟩
theorem trN_says (s : ByteArray) (a : Nat) (ha : a ≤ s.size) : ∀ f b, b ≤ f → a ≤ b → b ≤ s.size → (b < s.size → blk (byt s (s.size - 1))) → Cutd s 0 (trN s a f b) ∧ a ≤ trN s a f b ∧ (a < trN s a f b → ¬ blk (byt s (trN s a f b - 1)))
  | 0, b, h, h1, h2, h0 => ⟨⟨Nat.zero_le _, h2, fun q => by omega, h0⟩, h1, fun q => by have q : a < b := q; omega⟩
  | f + 1, b, h, h1, h2, h0 => by
    rw [trN]
    by_cases c : a < b ∧ blk (byt s (b - 1))
    · rw [if_pos c]
      exact trN_says s a ha f (b - 1) (by omega) (by omega) (by omega) fun _ => by
        by_cases q : b < s.size
        · exact h0 q
        · obtain rfl : b = s.size := by omega
          exact c.2
    · rw [if_neg c]
      exact ⟨⟨Nat.zero_le _, h2, fun q => by omega, h0⟩, h1, fun q k => c ⟨q, k⟩⟩
theorem bare_is (s : ByteArray) : bareT s = s ↔ okE s = true := by
  obtain ⟨-, h2, h3, h4⟩ := ldN_says s s.size 0 (by omega) fun h => by omega
  obtain ⟨k1, k2, k3⟩ := trN_says s (ldN s s.size 0) h2 s.size s.size (Nat.le_refl _) h2 (Nat.le_refl _) fun h => by omega
  have hC : Cutd s (ldN s s.size 0) (trN s (ldN s s.size 0) s.size s.size) := ⟨k2, k1.top, h3, k1.back⟩
  exact hC.says (fun _ h => h4 (Nat.lt_of_lt_of_le h k1.top)) (fun _ h => k3 h)
end Go.Proofs.YtcjlplaepnpopaaDoor
