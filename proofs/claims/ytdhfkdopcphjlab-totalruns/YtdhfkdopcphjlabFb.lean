/-
  The contracts of Two and Split, of the code and of the document: sums, what was lost, halves. Condition: the floats' bits fit.
-/
import Derived.Test.YtdhfkdopcphjlabFa
namespace Go.Proofs.Ytdhfkdopcphjlab
open Go.RowKit
/-- A sum, and what it lost. -/
def twS (x y : Option Nat) : Option Nat := fop .add x y
def twL (x y : Option Nat) : Option Nat := fop .add (fop .sub x (fop .sub (twS x y) (fop .sub (twS x y) x))) (fop .sub y (fop .sub (twS x y) x))
/-- Halves. -/
def spU (x : Option Nat) : Option Nat := fop .sub (fop .mul (some 4728779608772575232) x) (fop .sub (fop .mul (some 4728779608772575232) x) x)
def spL (x : Option Nat) : Option Nat := fop .sub x (spU x)
theorem is_spl : Is 4728779608772575232 (some 4728779608772575232) := ⟨rfl, by decide +kernel, by decide⟩
set_option maxRecDepth 100000 in
set_option maxHeartbeats 400000 in
theorem two_any (a b : Nat) (x y : Option Nat) (w : World) (hx : Is a x) (hy : Is b y) : Calls Try.prog 107 #[.float .f64 a, .float .f64 b] w fun e w' => ∃ r s, e = .returned (.tuple #[.float .f64 r, .float .f64 s]) ∧ Is r (twS x y) ∧ Is s (twL x y) ∧ Alike w w' := by
  replace hx : Hid (Is a x) := hx
  replace hy : Hid (Is b y) := hy
  go_enter Try.func107, Try.ntmps107
  go_wp2_with (refine wpList_flt rfl .add .f64 _ _ _ _ rfl rfl _ _ rfl rfl ?_)
  intro r1 w1 f1 a1
  go_wp2_with (refine wpList_flt rfl .sub .f64 _ _ _ _ rfl rfl _ _ rfl rfl ?_)
  intro r2 w2 f2 a2
  go_wp2_with (refine wpList_flt rfl .sub .f64 _ _ _ _ rfl rfl _ _ rfl rfl ?_)
  intro r3 w3 f3 a3
  go_wp2_with (refine wpList_flt rfl .sub .f64 _ _ _ _ rfl rfl _ _ rfl rfl ?_)
  intro r4 w4 f4 a4
  go_wp2_with (refine wpList_flt rfl .sub .f64 _ _ _ _ rfl rfl _ _ rfl rfl ?_)
  intro r5 w5 f5 a5
  go_wp2_with (refine wpList_flt rfl .add .f64 _ _ _ _ rfl rfl _ _ rfl rfl ?_)
  intro r6 w6 f6 a6
  go_wp2
  go_ret2
  have i1 := hx.out.op hy.out f1.out
  have i2 := i1.op hx.out f2.out
  have i3 := i1.op i2 f3.out
  have i4 := hx.out.op i3 f4.out
  have i5 := hy.out.op i2 f5.out
  have i6 := i4.op i5 f6.out
  exact ⟨_, _, rfl, i1, i6, (((((a1.out.trans a2.out).trans a3.out).trans a4.out).trans a5.out).trans a6.out)⟩
set_option maxRecDepth 100000 in
set_option maxHeartbeats 400000 in
theorem rtwo_any (a b : Nat) (x y : Option Nat) (w : World) (hx : Is a x) (hy : Is b y) : Calls Try.prog 78 #[.float .f64 a, .float .f64 b] w fun e w' => ∃ r s, e = .returned (.tuple #[.float .f64 r, .float .f64 s]) ∧ Is r (twS x y) ∧ Is s (twL x y) ∧ Alike w w' := by
  replace hx : Hid (Is a x) := hx
  replace hy : Hid (Is b y) := hy
  go_enter Try.func78, Try.ntmps78
  go_wp2_with (refine wpList_flt rfl .add .f64 _ _ _ _ rfl rfl _ _ rfl rfl ?_)
  intro r1 w1 f1 a1
  go_wp2_with (refine wpList_flt rfl .sub .f64 _ _ _ _ rfl rfl _ _ rfl rfl ?_)
  intro r2 w2 f2 a2
  go_wp2_with (refine wpList_flt rfl .sub .f64 _ _ _ _ rfl rfl _ _ rfl rfl ?_)
  intro r3 w3 f3 a3
  go_wp2_with (refine wpList_flt rfl .sub .f64 _ _ _ _ rfl rfl _ _ rfl rfl ?_)
  intro r4 w4 f4 a4
  go_wp2_with (refine wpList_flt rfl .sub .f64 _ _ _ _ rfl rfl _ _ rfl rfl ?_)
  intro r5 w5 f5 a5
  go_wp2_with (refine wpList_flt rfl .add .f64 _ _ _ _ rfl rfl _ _ rfl rfl ?_)
  intro r6 w6 f6 a6
  go_wp2
  go_ret2
  have i1 := hx.out.op hy.out f1.out
  have i2 := i1.op hx.out f2.out
  have i3 := i1.op i2 f3.out
  have i4 := hx.out.op i3 f4.out
  have i5 := hy.out.op i2 f5.out
  have i6 := i4.op i5 f6.out
  exact ⟨_, _, rfl, i1, i6, (((((a1.out.trans a2.out).trans a3.out).trans a4.out).trans a5.out).trans a6.out)⟩
end Go.Proofs.Ytdhfkdopcphjlab
