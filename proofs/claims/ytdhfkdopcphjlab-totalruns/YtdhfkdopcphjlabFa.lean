/-
  Reckoning with floats where a no number may come out: its bits are left open, all else is as IEEE has it. What a slot holds stands for bits, or for no number.
-/
import Derived.Test.YtdhfkdopcphjlabEx2
import Derived.Test.YtdhfkdopcphjlabUp
import Derived.Laws.FloatArith
namespace Go.Proofs.Ytdhfkdopcphjlab
open Go.RowKit Ieee
/-- A world like another, but for what was drawn. -/
structure Alike (w w' : World) : Prop where
  heap : w'.heap = w.heap
  os : w'.os = w.os
  tape : w'.tape = w.tape
  output : w'.output = w.output
theorem Alike.refl (w : World) : Alike w w := ⟨rfl, rfl, rfl, rfl⟩
theorem Alike.trans {a b c : World} (h : Alike a b) (k : Alike b c) : Alike a c := ⟨k.heap.trans h.heap, k.os.trans h.os, k.tape.trans h.tape, k.output.trans h.output⟩
theorem Alike.below {a b : World} (h : Alike a b) (B : Nat) : Below B a b := ⟨h.os, h.tape, h.output, by rw [h.heap]; exact Nat.le_refl _, fun _ _ => by rw [h.heap]⟩
theorem Alike.cell {a b : World} (h : Alike a b) (p : Addr) : b.cell? p = a.cell? p := by unfold World.cell?; rw [h.heap]
def isNaN (k : FloatKind) (r : Nat) : Prop := isN k.format r = true ∧ r < 2 ^ k.format.width
/-- These bits, or those of any no number. -/
def Fr (k : FloatKind) (r : Nat) (o : Option Nat) : Prop := match o with | some s => r = s | none => isNaN k r
theorem cut_nan (k : FloatKind) (x y t : Nat) : isNaN k ((Question.nanBits k x y).cut t) := by
  cases k
  · unfold isNaN isN
    have e1 : FloatKind.f32.format.signWeight = 2147483648 := rfl
    have e2 : FloatKind.f32.format.infRung = 2139095040 := rfl
    have e3 : (2 : Nat) ^ FloatKind.f32.format.width = 4294967296 := rfl
    have e4 : (Question.nanBits .f32 x y).cut t = (t % 2) * 2147483648 + 2139095040 + 1 + (t / 2) % 8388607 := rfl
    rw [e1, e2, e3, e4]
    have h1 := Nat.mod_lt (t / 2) (show 8388607 > 0 by decide)
    have h2 := Nat.mod_lt t (show 2 > 0 by decide)
    generalize t / 2 % 8388607 = p at *
    generalize t % 2 = q at *
    refine ⟨decide_eq_true ?_, ?_⟩ <;> omega
  · unfold isNaN isN
    have e1 : FloatKind.f64.format.signWeight = 9223372036854775808 := rfl
    have e2 : FloatKind.f64.format.infRung = 9218868437227405312 := rfl
    have e3 : (2 : Nat) ^ FloatKind.f64.format.width = 18446744073709551616 := rfl
    have e4 : (Question.nanBits .f64 x y).cut t = (t % 2) * 9223372036854775808 + 9218868437227405312 + 1 + (t / 2) % 4503599627370495 := rfl
    rw [e1, e2, e3, e4]
    have h1 := Nat.mod_lt (t / 2) (show 4503599627370495 > 0 by decide)
    have h2 := Nat.mod_lt t (show 2 > 0 by decide)
    generalize t / 2 % 4503599627370495 = p at *
    generalize t % 2 = q at *
    refine ⟨decide_eq_true ?_, ?_⟩ <;> omega
def isAr : BinOp → Bool
  | .add => true
  | .sub => true
  | .mul => true
  | .quo => true
  | _ => false
/-- One operation on floats. -/
theorem run_flt {P : Program} (op : BinOp) (t : TypeId) (k : FloatKind) (x y : Nat) (w : World) (ho : isAr op = true) : ∃ r w', (binOp op t (.float k x) (.float k y)).run P w = .ok (.float k r) w' ∧ Fr k r (floatBits op k x y) ∧ Alike w w' := by
  cases h : floatBits op k x y with
  | some r => exact ⟨r, w, run_float_arith w op t k x y r h, rfl, Alike.refl w⟩
  | none =>
    refine ⟨(Question.nanBits k x y).cut (w.tape w.drawn (.nanBits k x y)), { w with drawn := w.drawn + 1 }, ?_, cut_nan k x y _, ⟨rfl, rfl, rfl, rfl⟩⟩
    cases op <;> first | (exact absurd ho (by decide)) | (unfold floatBits at h; simp only at h; simp only [binOp, Op.floatArith, h]; rw [if_neg (fun q => q rfl)]; rfl)
section
variable {P : Program} {ops : Array Oper} {rest : List Oper} {o : Oper} {a : Act} {w : World} {Q : Exit → Act → World → Prop}
theorem wpList_flt (hgd : o.guard = none) (op : BinOp) (k : FloatKind) (t t' : TypeId) (x y : Operand) (ho : o.op = .binOp op t x y t') (hop : isAr op = true) (p q : Nat) (hx : a.eval x = .float k p) (hy : a.eval y = .float k q)
    (h : ∀ r w', Hid (Fr k r (floatBits op k p q)) → Hid (Alike w w') → wpList P ops Q rest (a.put o.dst (.float k r)) w') : wpList P ops Q (o :: rest) a w :=
  wpList_plain hgd fun K hK => by
    obtain ⟨r, w', h1, h2, h3⟩ := run_flt (P := P) op t k p q w hop
    have he : (eqGuard op t x y (.float k p) (.float k q)).run P w = .ok () w := by cases op <;> first | rfl | (exact absurd hop (by decide))
    unfold Oper.wp execOp
    simp only [ho, hx, hy, Sem.run_bind, Sem.run_pure, Result.andThen_ok, he, h1]
    exact hK _ _ (h r w' h2 h3)
end
/-- Bits, or no number. -/
def Is (r : Nat) (o : Option Nat) : Prop := match o with | some s => r = s ∧ nan64 s = false ∧ s < 18446744073709551616 | none => nan64 r = true ∧ r < 18446744073709551616
/-- What bits stand for. -/
def inj (b : Nat) : Option Nat := if nan64 b = true then none else some b
theorem is_inj {b : Nat} (h : b < 18446744073709551616) : Is b (inj b) := by
  unfold inj
  cases hn : nan64 b
  · rw [if_neg (by decide)]; exact ⟨rfl, hn, h⟩
  · rw [if_pos rfl]; exact ⟨hn, h⟩
theorem Is.lt {r : Nat} {o : Option Nat} (h : Is r o) : r < 18446744073709551616 := by
  cases o with
  | none => exact h.2
  | some s => obtain ⟨rfl, -, h⟩ := h; exact h
/-- An operation on what stands for bits. -/
def fop (op : BinOp) (x y : Option Nat) : Option Nat := x.bind fun a => y.bind fun b => (floatBits op .f64 a b).bind inj
theorem read_nan {f : Format} (hk : 1 ≤ f.exponentBits) {a : Nat} (h : isN f a = true) : ∃ s q, f.read a = .nan s q := by
  have h := of_decide_eq_true h
  have hk' : 2 ≤ 2 ^ f.exponentBits := Nat.pow_le_pow_right (n := 2) (i := 1) (by omega) hk
  have h0 : f.binade ≤ f.infRung := by unfold Format.infRung; exact Nat.le_mul_of_pos_left _ (by omega)
  exact ⟨_, _, by
    unfold Format.read; dsimp only
    rw [if_neg (by omega), if_neg (by omega), if_neg (by omega)]⟩
theorem bits_nan (op : BinOp) {a b : Nat} (h : nan64 a = true ∨ nan64 b = true) : floatBits op .f64 a b = none := by
  have key : ∀ s q d, (Datum.nan s q).sum d = none ∧ (Datum.nan s q).product d = none ∧ (Datum.nan s q).quotient 54 d = none := fun s q d => by cases d <;> exact ⟨rfl, rfl, rfl⟩
  have key2 : ∀ s q (d : Datum), d.sum (.nan s q) = none ∧ d.product (.nan s q) = none ∧ d.quotient 54 (.nan s q) = none := fun s q d => by cases d <;> exact ⟨rfl, rfl, rfl⟩
  have ho : ∀ s q, (Datum.nan s q).opposite = .nan (!s) q ∨ ∃ s' q', (Datum.nan s q).opposite = .nan s' q' := fun s q => .inr ⟨_, _, rfl⟩
  rcases h with h | h
  · obtain ⟨s, q, hr⟩ := read_nan (f := FloatKind.f64.format) (by decide) h
    have e : ∀ d : Datum, FloatKind.f64.format.fractionBits + 2 = 54 := fun _ => rfl
    unfold floatBits
    cases op <;> first | rfl | skip
    · show ((FloatKind.f64.format.read a).sum _).map _ = none; rw [hr, (key s q _).1]; rfl
    · show ((FloatKind.f64.format.read a).sum _).map _ = none; rw [hr, (key s q _).1]; rfl
    · show ((FloatKind.f64.format.read a).product _).map _ = none; rw [hr, (key s q _).2.1]; rfl
    · show ((FloatKind.f64.format.read a).quotient 54 _).map _ = none; rw [hr, (key s q _).2.2]; rfl
  · obtain ⟨s, q, hr⟩ := read_nan (f := FloatKind.f64.format) (by decide) h
    unfold floatBits
    cases op <;> first | rfl | skip
    · show (Datum.sum _ (FloatKind.f64.format.read b)).map _ = none; rw [hr, (key2 s q _).1]; rfl
    · show (Datum.sum _ (FloatKind.f64.format.read b).opposite).map _ = none
      rw [hr]
      rcases ho s q with e | ⟨s', q', e⟩ <;> rw [e, (key2 _ _ _).1] <;> rfl
    · show (Datum.product _ (FloatKind.f64.format.read b)).map _ = none; rw [hr, (key2 s q _).2.1]; rfl
    · show (Datum.quotient 54 _ (FloatKind.f64.format.read b)).map _ = none; rw [hr, (key2 s q _).2.2]; rfl
theorem bits_lt {op : BinOp} {a b r : Nat} (h : floatBits op .f64 a b = some r) : r < 18446744073709551616 := by
  have := floatBits_wf h
  simpa [Lit.wf] using this
/-- What an operation gives stands for the operation on what its operands stand for. -/
theorem Is.op {op : BinOp} {r s t : Nat} {x y : Option Nat} (hx : Is r x) (hy : Is s y) (h : Fr .f64 t (floatBits op .f64 r s)) : Is t (fop op x y) := by
  cases x with
  | none =>
    rw [bits_nan op (.inl hx.1)] at h
    exact h
  | some a =>
    obtain ⟨rfl, h1, h2⟩ := hx
    cases y with
    | none =>
      rw [bits_nan op (.inr hy.1)] at h
      exact h
    | some b =>
      obtain ⟨rfl, h3, h4⟩ := hy
      show Is t ((floatBits op .f64 r s).bind inj)
      cases hb : floatBits op .f64 r s with
      | none => rw [hb] at h; exact h
      | some u =>
        rw [hb] at h
        obtain rfl : t = u := h
        exact is_inj (bits_lt hb)
end Go.Proofs.Ytdhfkdopcphjlab
