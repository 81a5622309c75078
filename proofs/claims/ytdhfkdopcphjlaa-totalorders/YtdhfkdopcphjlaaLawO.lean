/-
  What the statement of the sum's order asks: it is true. Conditions: the floats' bits fit; the list takes no more bytes than there are.
-/
import Derived.Test.YtdhfkdopcphjlaaOr3
namespace Go.Proofs.Ytdhfkdopcphjlaa
open Go.RowKit
theorem Fl.add_comm (F : Fl) (p q r : Pt) : (F.add p r).add q r = (F.add q r).add p r := by
  refine Fl.ext ?_ ?_ ?_ ?_ ?_ <;> exact Bool.or_right_comm _ _ _
theorem exF_perm {xs ys : List Nat} (h : xs.Perm ys) : exF xs = exF ys := List.Perm.foldl_eq' h (fun _ _ _ _ F => Fl.add_comm F _ _ _) _
theorem exZ_perm {xs ys : List Nat} (h : xs.Perm ys) : exZ xs = exZ ys := List.Perm.foldl_eq' h (fun _ _ _ _ _ => Int.add_right_comm _ _ _) _
theorem exB_perm {xs ys : List Nat} (h : xs.Perm ys) : exB xs = exB ys := by unfold exB; rw [exF_perm h, exZ_perm h]
theorem exB_lt (bs : List Nat) : exB bs < 18446744073709551616 := by
  unfold exB exV
  have h : rz (exZ bs) < 18446744073709551616 := by
    unfold rz
    have := nearB_le lay64 ((cutF (exZ bs).natAbs : Int) - 2148) (show mantF (exZ bs).natAbs < 18446744073709551616 by have := mant_lt (exZ bs).natAbs; omega)
    rw [show ((2 : Nat) ^ 11 - 1) * 2 ^ 52 = 9218868437227405312 from rfl] at this
    split <;> omega
  repeat' split
  all_goals first | decide | exact h
theorem zero_parts : pt 52 11 1023 0 = ⟨0, false, 0, 0, false, 0⟩ := by decide +kernel
theorem one_parts : one64 = ⟨2, false, 4503599627370496, -52, false, 0⟩ := by decide +kernel
theorem noughts (bs : List Nat) : exZ (bs ++ [0, 0]) = exZ bs ∧ exF (bs ++ [0, 0]) = { exF bs with o := true } := by
  have e : bs ++ [0, 0] = bs ++ [0] ++ [0] := by simp
  rw [e, exZ_snoc, exZ_snoc, exF_snoc, exF_snoc, zero_parts, one_parts]
  have hp : prod ⟨0, false, 0, 0, false, 0⟩ ⟨2, false, 4503599627370496, -52, false, 0⟩ = 0 := by decide +kernel
  rw [hp, Int.add_zero, Int.add_zero]
  refine ⟨rfl, Fl.ext ?_ ?_ ?_ ?_ ?_⟩ <;> simp [Fl.add, pNn, pIn, pNt, pSn]
theorem rz_zero : rz 0 = 0 := by decide +kernel
/-- A sum of noughts alone has no number. -/
theorem minus_zero : ∀ bs : List Nat, (exF bs).n = false → (exF bs).a = false → (exF bs).l = false → (exF bs).o = false → exZ bs = 0 := by
  intro bs
  rw [← List.reverse_reverse bs]
  generalize bs.reverse = l
  induction l with
  | nil => intro _ _ _ _; rfl
  | cons b l ih =>
    intro h1 h2 h3 h4
    rw [List.reverse_cons, exF_snoc] at h1 h2 h3 h4
    simp only [Fl.add, Bool.or_eq_false_iff] at h1 h2 h3 h4
    rw [List.reverse_cons, exZ_snoc, ih h1.1 h2.1 h3.1 h4.1, Int.zero_add]
    have ht : pNt (pt 52 11 1023 b) one64 = true := by
      have := h4.2
      cases hn : pNt (pt 52 11 1023 b) one64
      · rw [hn] at this; simp at this
      · rfl
    unfold prod
    rw [ht, Bool.or_true]
    rfl
theorem nan_order_none {x : Nat} (h : nan64 x = true) (y : Nat) : FloatKind.f64.format.order x y = none := order_nan_left _ (by decide) h y
theorem order_self {x : Nat} (hx : x < 18446744073709551616) (h : nan64 x = false) : FloatKind.f64.format.order x x = some .eq := by
  rw [order_is hx hx h h, cmp_self]
/-- With noughts put in the sum is the same number. -/
theorem nought_same (bs : List Nat) : FloatKind.f64.format.order (exB bs) (exB (bs ++ [0, 0])) = some .eq ∨ (FloatKind.f64.format.order (exB bs) (exB (bs ++ [0, 0])) = none ∧ FloatKind.f64.format.order (exB bs) (exB bs) = none ∧ FloatKind.f64.format.order (exB (bs ++ [0, 0])) (exB (bs ++ [0, 0])) = none) := by
  obtain ⟨hZ, hF⟩ := noughts bs
  have key : exB (bs ++ [0, 0]) = exB bs → FloatKind.f64.format.order (exB bs) (exB (bs ++ [0, 0])) = some .eq ∨ (FloatKind.f64.format.order (exB bs) (exB (bs ++ [0, 0])) = none ∧ FloatKind.f64.format.order (exB bs) (exB bs) = none ∧ FloatKind.f64.format.order (exB (bs ++ [0, 0])) (exB (bs ++ [0, 0])) = none) := fun e => by
    rw [e]
    cases hn : nan64 (exB bs)
    · exact .inl (order_self (exB_lt bs) hn)
    · exact .inr ⟨nan_order_none hn _, nan_order_none hn _, nan_order_none hn _⟩
  by_cases hc : (exF bs).n = false ∧ (exF bs).a = false ∧ (exF bs).l = false ∧ (exF bs).o = false ∧ (exF bs).m = true
  · obtain ⟨c1, c2, c3, c4, c5⟩ := hc
    have h0 := minus_zero bs c1 c2 c3 c4
    have e1 : exB bs = 9223372036854775808 := by unfold exB exV; rw [c1, c2, c3, c4, c5]; rfl
    have e2 : exB (bs ++ [0, 0]) = 0 := by
      unfold exB exV
      rw [hZ, hF, h0]
      dsimp only
      rw [c1, c2, c3, c5, rz_zero]
      rfl
    rw [e1, e2]
    left
    decide +kernel
  · refine key ?_
    unfold exB exV
    rw [hZ, hF]
    dsimp only
    cases h1 : (exF bs).n
    · cases h2 : (exF bs).a
      · cases h3 : (exF bs).l
        · cases h5 : (exF bs).m
          · rfl
          · cases h4 : (exF bs).o
            · exact absurd ⟨h1, h2, h3, h4, h5⟩ hc
            · rfl
        · rfl
      · rfl
    · rfl
theorem law_short (v : Value) (k : Int) (w : World) (n c : Nat) (p : Option Addr) (hv : v = .slice p n c) (hn2 : n ≤ 140737488355328) (h : n < 1 ∨ 1000 < n ∨ k < 0) : Calls Try.prog 6 #[v, .int .i64 k] w fun e w' => e = .returned (.bool true) ∧ Below w.heap.size w w' := by
  subst hv
  by_cases c1 : n < 1
  · have h1 : (n : Int) < 1 := by omega
    go_enter Try.func6, Try.ntmps6
    go_wp2_with fail
    refine (awake_any _).mono ?_
    rintro e w1 ⟨rfl, b1⟩
    go_wp2
    go_ret
    exact ⟨rfl, b1⟩
  · have h1 : ¬ (n : Int) < 1 := by omega
    by_cases c2 : 1000 < n
    · have h2 : (1000 : Int) < (n : Int) := by omega
      go_enter Try.func6, Try.ntmps6
      go_wp2_with fail
      refine (awake_any _).mono ?_
      rintro e w1 ⟨rfl, b1⟩
      go_wp2
      go_ret
      exact ⟨rfl, b1⟩
    · have h2 : ¬ (1000 : Int) < (n : Int) := by omega
      have h3 : k < 0 := by omega
      go_enter Try.func6, Try.ntmps6
      go_wp2_with fail
      refine (awake_any _).mono ?_
      rintro e w1 ⟨rfl, b1⟩
      go_wp2
      go_ret
      exact ⟨rfl, b1⟩
theorem flt_app (xs ys : List Nat) : flt (xs ++ ys) = flt xs ++ flt ys := List.map_append
set_option maxHeartbeats 1000000 in
theorem law_orders (bs : List Nat) (v : Value) (k : Int) (w : World) (hb : ∀ b ∈ bs, b < 18446744073709551616) (hl : 8 * bs.length ≤ 140737488355328) (hr : Rd w v (flt bs)) (hcap : ∀ p n c, v = .slice p n c → n ≤ c) : Calls Try.prog 6 #[v, .int .i64 k] w fun e w' => e = .returned (.bool true) ∧ Below w.heap.size w w' := by
  obtain ⟨p, c0, hv, h0⟩ := hr
  rw [flt_len] at hv h0
  by_cases hc : bs.length < 1 ∨ 1000 < bs.length ∨ k < 0
  · exact law_short v k w _ c0 p hv (by omega) hc
  obtain ⟨g, off, rfl, hd⟩ := h0 (by omega)
  have hcp := hcap _ _ _ hv
  clear hcap
  have hr : Rd w v (flt bs) := ⟨_, _, by rw [flt_len]; exact hv, fun _ => ⟨g, off, rfl, fun j hj => hd j (by rwa [flt_len] at hj)⟩⟩
  subst hv
  obtain ⟨k, rfl⟩ : ∃ n : Nat, k = n := ⟨k.toNat, by omega⟩
  have hmod : ((k : Int)).tmod (bs.length : Int) = ((k % bs.length : Nat) : Int) := by rw [Int.tmod_eq_emod_of_nonneg (by omega)]; omega
  have hat : k % bs.length < bs.length := Nat.mod_lt _ (by omega)
  generalize k % bs.length = at0 at *
  refine or_0 bs g off c0 k at0 w (by omega) (by omega) hmod hd fun a w1 vb B1 O1 ha => ?_
  have hd1 : ∀ j, j < bs.length → w1.cell? ⟨g, off + j, none⟩ = some ((flt bs).getD j undef) := fun j hj => (B1.cell (p := ⟨g, off + j, none⟩) (by simpa using World.block_lt_of_cell? w _ (hd j hj))).trans (hd j hj)
  refine or_9 bs g off c0 at0 vb a w1 hat (by omega) hcp hd1 (fun a w2 vt B2 O2 ha => ?_) ha
  have hd2 : ∀ j, j < bs.length → w2.cell? ⟨g, off + j, none⟩ = some ((flt bs).getD j undef) := fun j hj => (B2.cell (p := ⟨g, off + j, none⟩) (by simpa using World.block_lt_of_cell? w1 _ (hd1 j hj))).trans (hd1 j hj)
  have C2 := B1.trans (B2.mono B1.size)
  refine or_10 bs g off c0 vb vt a w2 (by omega) hd2 (fun a w3 vn B3 O3 ha => ?_) ha
  have C3 := C2.trans (B3.mono C2.size)
  have hLb : Rd w3 vb (flt bs.reverse) := Rd.of_owns (b := w.heap.size) (e := 25) (by rw [flt_len, List.length_reverse]; exact owns_below (owns_below O1 B2) B3)
  have hLt : Rd w3 vt (flt (bs.drop at0 ++ bs.take at0)) := Rd.of_owns (b := w1.heap.size) (e := 25) (by
    rw [flt_len, List.length_append, List.length_drop, List.length_take, show bs.length - at0 + min at0 bs.length = bs.length by omega, flt_app]
    exact owns_below O2 B3)
  have hLn : Rd w3 vn (flt (bs ++ [0, 0])) := Rd.of_owns (b := w2.heap.size) (e := 25) (by
    rw [flt_len, List.length_append, flt_app]
    exact O3)
  have hL : Rd w3 _ (flt bs) := (hr.below C3)
  have p1 : bs.reverse.Perm bs := List.reverse_perm bs
  have p2 : (bs.drop at0 ++ bs.take at0).Perm bs := (List.perm_append_comm).trans (by rw [List.take_append_drop])
  have e1 := exB_perm p1
  have e2 := exB_perm p2
  have k1 := exact_any bs _ w3 hb (by omega) hL
  refine or_11 _ vb vt vn (exB bs) a w3 k1 (fun a w4 B4 ha => ?_) ha
  have C4 := C3.trans (B4.mono C3.size)
  have k2 := exact_any bs.reverse vb w4 (fun b h => hb b (List.mem_reverse.1 h)) (by rw [List.length_reverse]; omega) (hLb.below B4)
  refine or_12 _ vb vt vn (exB bs) (exB bs.reverse) a w4 k2 (fun a w5 B5 ha => ?_) ha
  have C5 := C4.trans (B5.mono C4.size)
  have k3 := exact_any _ vt w5 (fun b h => hb b (p2.mem_iff.1 h)) (by rw [p2.length_eq]; omega) ((hLt.below B4).below B5)
  refine or_13 _ vb vt vn (exB bs) (exB bs.reverse) _ a w5 k3 (fun a w6 B6 ha => ?_) ha
  have C6 := C5.trans (B6.mono C5.size)
  have k4 := exact_any (bs ++ [0, 0]) vn w6 (fun b h => (List.mem_append.1 h).elim (hb b) fun h => by simp at h; omega) (by rw [List.length_append]; simp; omega) (((hLn.below B4).below B5).below B6)
  refine or_14 _ vb vt vn (exB bs) (exB bs.reverse) _ _ a w6 k4 (fun a w7 B7 ha => ?_) ha
  have C7 := C6.trans (B7.mono C6.size)
  have hs : ∀ y, y = exB bs → (nan64 (exB bs) = true ∧ nan64 y = true) ∨ (exB bs = y ∧ nan64 (exB bs) = false) := fun y h => by
    subst h
    cases hn : nan64 (exB bs)
    · exact .inr ⟨rfl, rfl⟩
    · exact .inl ⟨rfl, rfl⟩
  refine or_15 _ _ _ _ a w7 (hs _ e1) (hs _ e2) (nought_same bs) (fun w8 B8 => ?_) ha
  exact ⟨rfl, C7.trans (B8.mono C7.size)⟩
end Go.Proofs.Ytdhfkdopcphjlaa
