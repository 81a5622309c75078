/-
  A span that a field says: what both answer.
-/
import Derived.Test.YtcjlplaepnpopaaDoorRr
import Derived.Lib.CutLaws
import Derived.Lib.IndexMore
namespace Go.Proofs.YtcjlplaepnpopaaDoor
open Go.RowKit
/-- Two dots stand at i. -/
def Dt (s : ByteArray) (i : Nat) : Prop := i + 1 < s.size ∧ byt s i = 46 ∧ byt s (i + 1) = 46
theorem pre2 (l : List UInt8) : ([46, 46] : List UInt8).isPrefixOf l = true ↔ l[0]? = some 46 ∧ l[1]? = some 46 := by
  cases l with
  | nil => simp [List.isPrefixOf]
  | cons a l =>
    cases l with
    | nil => simp [List.isPrefixOf]
    | cons b l =>
      show ((46 == a) && ((46 == b) && true)) = true ↔ some a = some 46 ∧ some b = some 46
      rw [Bool.and_true, Bool.and_eq_true, beq_iff_eq, beq_iff_eq, Option.some.injEq, Option.some.injEq]
      exact ⟨fun h => ⟨h.1.symm, h.2.symm⟩, fun h => ⟨h.1.symm, h.2.symm⟩⟩
theorem at46 (s : ByteArray) (i : Nat) : s.data.toList[i]? = some 46 ↔ i < s.size ∧ byt s i = 46 := by
  by_cases h : i < s.size
  · have hl : i < s.data.toList.length := by rw [Array.length_toList]; exact h
    rw [List.getElem?_eq_getElem hl]
    have e : s.data.toList[i] = s[i]'h := by rw [Array.getElem_toList]; rfl
    rw [e]
    have := byt_eq s i h
    constructor
    · intro q
      cases q' : s[i]'h
      rw [Option.some.injEq] at q
      rw [q] at this
      exact ⟨h, this.symm⟩
    · rintro ⟨-, q⟩
      rw [q] at this
      rw [Option.some.injEq]
      exact UInt8.toNat_inj.1 this
  · rw [List.getElem?_eq_none (by rw [Array.length_toList]; exact Nat.le_of_not_lt h)]
    simp [h]
theorem occ_iff (s : ByteArray) (i : Nat) : Lib.occAt s.data.toList [46, 46] i = true ↔ Dt s i := by
  unfold Lib.occAt Dt
  rw [pre2, List.getElem?_drop, List.getElem?_drop, at46, at46]
  constructor
  · rintro ⟨⟨h1, h2⟩, h3, h4⟩
    exact ⟨h3, h2, h4⟩
  · rintro ⟨h1, h2, h3⟩
    exact ⟨⟨by omega, h2⟩, h1, h3⟩
/-- What a text is that is cut at its first two dots. -/
theorem cut_dots (s : ByteArray) : ((∀ i, ¬ Dt s i) ∧ (⟨(Lib.cut s.data.toList (⟨#[46, 46]⟩ : ByteArray).data.toList).1.toArray⟩ : ByteArray) = s ∧ (Lib.cut s.data.toList (⟨#[46, 46]⟩ : ByteArray).data.toList).2.2 = false) ∨
    ∃ i, Dt s i ∧ (∀ j, j < i → ¬ Dt s j) ∧ (⟨(Lib.cut s.data.toList (⟨#[46, 46]⟩ : ByteArray).data.toList).1.toArray⟩ : ByteArray) = s.extract 0 i ∧ (⟨(Lib.cut s.data.toList (⟨#[46, 46]⟩ : ByteArray).data.toList).2.1.toArray⟩ : ByteArray) = s.extract (i + 2) s.size ∧ (Lib.cut s.data.toList (⟨#[46, 46]⟩ : ByteArray).data.toList).2.2 = true := by
  rcases Lib.index_spec s.data.toList [46, 46] with ⟨h1, h2⟩ | ⟨i, h1, h2, h3, h4⟩
  · obtain ⟨e1, e2, e3⟩ := Lib.cutB_miss s ⟨#[46, 46]⟩ h1
    refine .inl ⟨fun i hi => ?_, e1, e3⟩
    have := h2 i (by rw [Array.length_toList]; have := hi.1; exact Nat.le_of_lt (by show i < s.size; omega))
    rw [(occ_iff s i).2 hi] at this
    cases this
  · obtain ⟨e1, e2, e3⟩ := Lib.cutB_hit s ⟨#[46, 46]⟩ i h1
    have hno : ∀ j, j < i → ¬ Dt s j := fun j hj hd => by
      have := h4 j hj
      rw [(occ_iff s j).2 hd] at this
      cases this
    exact .inr ⟨i, (occ_iff s i).1 h3, hno, e1, e2, e3⟩
theorem ptN_dot {s : ByteArray} {i : Nat} (h : i < s.size) (h2 : byt s i = 46) : ptN s = none := ptN_digs fun q => by
  have := q i h
  rw [h2] at this
  exact absurd this (by decide)
theorem dots_front {s : ByteArray} {i j : Nat} (h : Dt s i) (hij : i < j) (hj : j ≤ s.size) : ptN (s.extract 0 j) = none :=
  ptN_dot (i := i) (by rw [ByteArray.size_extract]; omega) (by rw [byt_front s j i hj hij]; exact h.2.1)
/-- What a span's field says: the two ends and the error's number. -/
def RgR (s : ByteArray) (a b c : Int) : Prop :=
  (∃ p : Nat, ptN s = some p ∧ a = p ∧ b = p ∧ c = 0) ∨ (ptN s = none ∧ ∃ i x y : Nat, Good s i x y ∧ a = x ∧ b = y ∧ c = 0) ∨ (ptN s = none ∧ (∀ i x y, ¬ Good s i x y) ∧ a = 0 ∧ b = 0 ∧ c = 91)
theorem RgIs.parts {s : ByteArray} {e : Ending} (h : RgIs s e) : ∃ a b c, RgR s a b c ∧ e = .returned (.tuple #[.int .i32 a, .int .i32 b, .int .i64 c]) := by
  rcases h with ⟨p, h1, h2⟩ | ⟨h1, i, a, b, h2, h3⟩ | ⟨h1, h2, h3⟩
  · exact ⟨p, p, 0, .inl ⟨p, h1, rfl, rfl, rfl⟩, h2⟩
  · exact ⟨a, b, 0, .inr (.inl ⟨h1, i, a, b, h2, rfl, rfl, rfl⟩), h3⟩
  · exact ⟨0, 0, 91, .inr (.inr ⟨h1, h2, rfl, rfl, rfl⟩), h3⟩
theorem Good.one {s : ByteArray} {i a b j x y : Nat} (h : Good s i a b) (h2 : Good s j x y) : a = x ∧ b = y := by
  have hij : i = j := by
    rcases Nat.lt_trichotomy i j with q | q | q
    · have := dots_front (s := s) ⟨h.1, h.2.1, h.2.2.1⟩ q (by have := h2.1; omega)
      rw [h2.2.2.2.1] at this; cases this
    · exact q
    · have := dots_front (s := s) ⟨h2.1, h2.2.1, h2.2.2.1⟩ q (by have := h.1; omega)
      rw [h.2.2.2.1] at this; cases this
  subst hij
  have e1 := h.2.2.2.1.symm.trans h2.2.2.2.1
  have e2 := h.2.2.2.2.1.symm.trans h2.2.2.2.2.1
  cases e1; cases e2
  exact ⟨rfl, rfl⟩
theorem RgR.one {s : ByteArray} {a b c x y z : Int} (h : RgR s a b c) (h2 : RgR s x y z) : a = x ∧ b = y ∧ c = z := by
  rcases h with ⟨p, h1, rfl, rfl, rfl⟩ | ⟨h1, i, k, l, hg, rfl, rfl, rfl⟩ | ⟨h1, hg, rfl, rfl, rfl⟩ <;>
  rcases h2 with ⟨q, g1, rfl, rfl, rfl⟩ | ⟨g1, j, m, n, gg, rfl, rfl, rfl⟩ | ⟨g1, gg, rfl, rfl, rfl⟩
  · have := h1.symm.trans g1; cases this; exact ⟨rfl, rfl, rfl⟩
  · rw [h1] at g1; cases g1
  · rw [h1] at g1; cases g1
  · rw [h1] at g1; cases g1
  · obtain ⟨rfl, rfl⟩ := hg.one gg; exact ⟨rfl, rfl, rfl⟩
  · exact absurd hg (gg _ _ _)
  · rw [h1] at g1; cases g1
  · exact absurd gg (hg _ _ _)
  · exact ⟨rfl, rfl, rfl⟩
theorem good_dt {s : ByteArray} {i a b : Nat} (h : Good s i a b) : Dt s i := ⟨h.1, h.2.1, h.2.2.1⟩
/-- Cut at the first two dots. -/
theorem RgR.cut {s : ByteArray} {i : Nat} (h : Dt s i) (hf : ∀ j, j < i → ¬ Dt s j) :
    (∀ a b : Nat, ptN (s.extract 0 i) = some a → ptN (s.extract (i + 2) s.size) = some b → a ≤ b → RgR s a b 0) ∧ ((∀ a b : Nat, ptN (s.extract 0 i) = some a → ptN (s.extract (i + 2) s.size) = some b → ¬ a ≤ b) → RgR s 0 0 91) := by
  have hn : ptN s = none := ptN_dot (i := i) (by have := h.1; omega) h.2.1
  refine ⟨fun a b h1 h2 h3 => .inr (.inl ⟨hn, i, a, b, ⟨h.1, h.2.1, h.2.2, h1, h2, h3⟩, rfl, rfl, rfl⟩), fun hno => .inr (.inr ⟨hn, fun j x y hg => ?_, rfl, rfl, rfl⟩)⟩
  rcases Nat.lt_trichotomy j i with q | q | q
  · exact hf j q (good_dt hg)
  · subst q; exact hno x y hg.2.2.2.1 hg.2.2.2.2.1 hg.2.2.2.2.2
  · have := dots_front h q (by have := hg.1; omega)
    rw [hg.2.2.2.1] at this; cases this
theorem RgR.whole {s : ByteArray} (h : ∀ i, ¬ Dt s i) : (∀ p : Nat, ptN s = some p → RgR s p p 0) ∧ (ptN s = none → RgR s 0 0 91) :=
  ⟨fun p hp => .inl ⟨p, hp, rfl, rfl, rfl⟩, fun hn => .inr (.inr ⟨hn, fun i _ _ hg => h i (good_dt hg), rfl, rfl, rfl⟩)⟩
end Go.Proofs.YtcjlplaepnpopaaDoor
