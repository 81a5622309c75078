/-
  The contract of add: a product of two floats, added to the sum. Conditions: the floats' bits fit; the sum lies in one block.
-/
import Derived.Test.YtdhfkdopcphjlabAd
namespace Go.Proofs.Ytdhfkdopcphjlab
open Go.RowKit
theorem pt_rng (b : Nat) : (pt 52 11 1023 b).mant < 9007199254740992 ∧ -1074 ≤ (pt 52 11 1023 b).exp ∧ (pt 52 11 1023 b).exp ≤ 971 ∧ ((pt 52 11 1023 b).kind = 0 ∨ (pt 52 11 1023 b).kind = 1 ∨ (pt 52 11 1023 b).kind = 2 ∨ (pt 52 11 1023 b).kind = 3 ∨ (pt 52 11 1023 b).kind = 4) ∧ ((pt 52 11 1023 b).kind = 1 ∨ (pt 52 11 1023 b).kind = 2 → 0 < (pt 52 11 1023 b).mant) ∧ ((pt 52 11 1023 b).kind = 0 → (pt 52 11 1023 b).mant = 0) ∧ ((pt 52 11 1023 b).kind = 2 ∨ (pt 52 11 1023 b).exp = 0 ∨ (pt 52 11 1023 b).exp = -1074) ∧ ((pt 52 11 1023 b).kind = 2 → 4503599627370496 ≤ (pt 52 11 1023 b).mant) ∧ ((pt 52 11 1023 b).kind = 0 → (pt 52 11 1023 b).exp = 0) ∧ ((pt 52 11 1023 b).kind = 1 → (pt 52 11 1023 b).exp = -1074) := by
  have q1 : (2 : Nat) ^ 52 = 4503599627370496 := by decide
  have q2 : (2 : Nat) ^ 11 = 2048 := by decide
  have h1 := Nat.mod_lt b (show 4503599627370496 > 0 by decide)
  have h2 := Nat.mod_lt (b / 4503599627370496) (show 2048 > 0 by decide)
  unfold pt
  rw [q1, q2]
  repeat' split
  all_goals (dsimp only; omega)
def pSn (p q : Pt) : Bool := p.neg != q.neg
def pNt (p q : Pt) : Bool := p.kind == 0 || q.kind == 0
def pIn (p q : Pt) : Bool := p.kind == 3 || q.kind == 3
def pNn (p q : Pt) : Bool := p.kind == 4 || q.kind == 4 || (pIn p q && pNt p q)
/-- What a sum has met, with a product more. -/
def Fl.add (F : Fl) (p q : Pt) : Fl := ⟨F.n || pNn p q, F.a || (!pNn p q && pIn p q && !pSn p q), F.l || (!pNn p q && pIn p q && pSn p q), F.m || (pNt p q && pSn p q), F.o || !(pNt p q && pSn p q)⟩
/-- The product, as so many of the least. -/
def prod (p q : Pt) : Int := if (pNn p q || pIn p q || pNt p q) = true then 0 else if pSn p q = true then -((p.mant * q.mant * 2 ^ (p.exp + q.exp + 2148).toNat : Nat) : Int) else ((p.mant * q.mant * 2 ^ (p.exp + q.exp + 2148).toNat : Nat) : Int)
def AddDone (b : Nat) (t : TypeId) (R : Nat → Option Value) (F : Fl) (Z : Int) (w : World) (e : Ending) (w' : World) : Prop := e = .returned (.tuple #[]) ∧ ExAt w' b t R F Z ∧ w.grownBy w' (some b)
theorem emod_plus {a b d T : Int} (h : a % T = b % T) : (a + d) % T = (b + d) % T := by rw [Int.add_emod, h, ← Int.add_emod]
theorem Fl.ext {F G : Fl} (h1 : F.n = G.n) (h2 : F.a = G.a) (h3 : F.l = G.l) (h4 : F.m = G.m) (h5 : F.o = G.o) : F = G := by cases F; cases G; simp_all
/-- The last step: -0 or another. -/
theorem add_last {b : Nat} {t : TypeId} {R : Nat → Option Value} {F G : Fl} {Z : Int} {w w1 : World} (sn nt : Bool) (a : Act) (hE : ExAt w1 b t R F Z) (hG : w.grownBy w1 (some b)) (hF : G = { F with m := F.m || (nt && sn), o := F.o || !(nt && sn) }) (ha : At 101 [(0, .pointer (some ⟨b, 0, none⟩)), (8, .bool sn), (9, .bool nt)] a) : Code.wp Try.prog (sq 5 body40) (bodyPost Try.prog Try.f51 (AddDone b t R G Z w)) a w1 := by
  obtain ⟨f1, f2, f3, f4, f5⟩ := hE.flags
  refine ad_e b sn nt a w1 _ _ f4 (hE.frozen 69) f5 (hE.frozen 70) ?_ ha
  subst hF
  cases h : nt && sn
  · refine ⟨rfl, hE.put 70 (by decide) (by decide) fun cs hc => ?_, grownBy_set hG _⟩
    have := hc.set.2.2.2.2
    simpa using this
  · refine ⟨rfl, hE.put 69 (by decide) (by decide) fun cs hc => ?_, grownBy_set hG _⟩
    have := hc.set.2.2.2.1
    simpa using this
set_option maxHeartbeats 1000000 in
theorem add_any (x y b : Nat) (t : TypeId) (R : Nat → Option Value) (F : Fl) (Z : Int) (w : World) (hx : x < 18446744073709551616) (hy : y < 18446744073709551616) (hE : ExAt w b t R F Z) :
    Calls Try.prog 51 #[.pointer (some ⟨b, 0, none⟩), .float .f64 x, .float .f64 y] w (AddDone b t R (F.add (pt 52 11 1023 x) (pt 52 11 1023 y)) (Z + prod (pt 52 11 1023 x) (pt 52 11 1023 y)) w) := by
  have k1 := fun w => Parts_any x w hx
  have k2 := fun w => Parts_any y w hy
  obtain ⟨pm, pe1, pe2, -⟩ := pt_rng x
  obtain ⟨qm, qe1, qe2, -⟩ := pt_rng y
  generalize pt 52 11 1023 x = p at *
  generalize pt 52 11 1023 y = q at *
  refine ad_0 x y b p q w k1 k2 fun a w1 g1 g2 B1 h1 h2 z1 z2 ha => ?_
  refine ad_1 b g1 g2 p q a w1 h1 h2 (fun a ha => ?_) ha
  refine ad_2 b g1 g2 p q a w1 h1 h2 (fun a ha => ?_) ha
  have E1 := hE.below B1
  have G1 : w.grownBy w1 (some b) := grownBy_of_below _ B1
  obtain ⟨f1, f2, f3, f4, f5⟩ := E1.flags
  change At 101 [_, _, _, (8, .bool (pSn p q)), (9, .bool (pNt p q)), (10, .bool (pIn p q))] a at ha
  cases hn : pNn p q
  · have e12 : (p.kind == 4) = false ∧ (q.kind == 4) = false ∧ (pIn p q && pNt p q) = false := by
      unfold pNn at hn
      simpa [Bool.or_eq_false_iff, and_assoc] using hn
    obtain ⟨e1, e2, e3⟩ := e12
    cases hi : pIn p q
    · cases ht : pNt p q
      · -- a number
        rw [hi, ht] at ha
        obtain ⟨cs, W, c1, c2, c3, c4, c5⟩ := E1
        obtain ⟨A, hA⟩ : ∃ A : Nat, p.exp + q.exp + 2148 = (A : Int) := ⟨(p.exp + q.exp + 2148).toNat, by omega⟩
        have hpq : p.mant * q.mant < 18446744073709551616 * 18446744073709551616 := Nat.lt_of_lt_of_le (Nat.mul_lt_mul'' pm qm) (by decide)
        have hdm : p.mant * q.mant / 18446744073709551616 * 18446744073709551616 + p.mant * q.mant % 18446744073709551616 = p.mant * q.mant := by omega
        have hA2 : wrap64 (p.exp + q.exp + 2148) = ((64 * (A / 64) + A % 64 : Nat) : Int) := by unfold wrap64; omega
        have k54 := put_any (pSn p q) b t cs W (p.mant * q.mant / 18446744073709551616) (p.mant * q.mant % 18446744073709551616) (A / 64) (A % 64) w1 (by have := c3.1; omega) c2 (by omega) (by omega) (by omega) (by omega) c1
        rw [hdm, show 64 * (A / 64) + A % 64 = A by omega] at k54
        rw [show 64 * (A / 64) + A % 64 = A by omega] at hA2
        refine ad_p b g1 g2 _ _ (pSn p q) p q a w1 h1 h2 e1 e2 (p.exp + q.exp) (A : Int) (by rw [IntKind.wrap_i64]; omega) hA2 (fun w => Try.bits_Mul64 p.mant q.mant (by omega) (by omega) w) _ k54 (fun e w' h => h.1) (fun a w2 hd ha => ?_) ha
        obtain ⟨-, U, u1, u2, u3, u4⟩ := hd
        refine add_last (F := F) (pSn p q) false a ⟨cs, U, u3, u1, c3, c4, ?_⟩ (grownBy_trans G1 u4) ?_ ha
        · have hp : prod p q = if pSn p q = true then -((p.mant * q.mant * 2 ^ A : Nat) : Int) else ((p.mant * q.mant * 2 ^ A : Nat) : Int) := by
            unfold prod
            rw [hn, hi, ht, hA, Int.toNat_natCast]
            rfl
          rw [u2, emod_plus c5, hp]
        · refine Fl.ext ?_ ?_ ?_ ?_ ?_ <;> simp [Fl.add, hn, hi, ht]
      · -- a nought
        refine ad_z b g1 g2 (pSn p q) (pNt p q) (pIn p q) p q a w1 h1 h2 e1 e2 hi ht (fun a ha => ?_) ha
        rw [ht] at ha
        have hp0 : prod p q = 0 := by unfold prod; rw [hn, hi, ht]; rfl
        rw [hp0, Int.add_zero]
        refine add_last (F := F) (pSn p q) true a E1 G1 ?_ ha
        refine Fl.ext ?_ ?_ ?_ ?_ ?_ <;> simp [Fl.add, hn, hi, ht]
    · have ht : pNt p q = false := by rw [hi] at e3; simpa using e3
      have hp0 : prod p q = 0 := by unfold prod; rw [hn, hi, ht]; rfl
      rw [hp0, Int.add_zero]
      cases hs : pSn p q
      · refine ad_a b g1 g2 (pSn p q) (pNt p q) (pIn p q) p q a w1 h1 h2 _ f2 (E1.frozen 67) e1 e2 hi ht hs (fun a ha => ?_) ha
        rw [ht, hs] at ha
        refine add_last (F := { F with a := true }) false false a (E1.put 67 (by decide) (by decide) fun cs hc => hc.set.2.1) (grownBy_set G1 _) ?_ ha
        refine Fl.ext ?_ ?_ ?_ ?_ ?_ <;> simp [Fl.add, hn, hi, ht, hs]
      · refine ad_l b g1 g2 (pSn p q) (pNt p q) (pIn p q) p q a w1 h1 h2 _ f3 (E1.frozen 68) e1 e2 hi ht hs (fun a ha => ?_) ha
        rw [ht, hs] at ha
        refine add_last (F := { F with l := true }) true false a (E1.put 68 (by decide) (by decide) fun cs hc => hc.set.2.2.1) (grownBy_set G1 _) ?_ ha
        refine Fl.ext ?_ ?_ ?_ ?_ ?_ <;> simp [Fl.add, hn, hi, ht, hs]
  · have hp0 : prod p q = 0 := by unfold prod; rw [hn]; rfl
    rw [hp0, Int.add_zero]
    refine ad_n b g1 g2 (pSn p q) (pNt p q) (pIn p q) p q a w1 h1 h2 _ f1 (E1.frozen 66) hn (fun a ha => ?_) ha
    refine add_last (F := { F with n := true }) (pSn p q) (pNt p q) a (E1.put 66 (by decide) (by decide) fun cs hc => hc.set.1) (grownBy_set G1 _) ?_ ha
    refine Fl.ext ?_ ?_ ?_ ?_ ?_ <;> simp [Fl.add, hn]
end Go.Proofs.Ytdhfkdopcphjlab
