/-
  How lists of units stand: the order of numbers, slices.Compare and the document's loop. Conditions: the lists take no more bytes than there are.
-/
import Derived.Test.YtabofadjnbpjkacDoorUn
import Derived.Test.YtabofadjnbpjkacDoorCu
import Derived.Test.YtabofadjnbpjkacDoorRw
namespace Go.Proofs.YtabofadjnbpjkacDoor
open Go.RowKit Go.Lib
/-- How two lists of numbers stand: -1, 0 or 1. -/
def cmpL : List Int → List Int → Int
  | [], [] => 0
  | [], _ :: _ => -1
  | _ :: _, [] => 1
  | x :: l, y :: m => if x < y then -1 else if y < x then 1 else cmpL l m
theorem cmpL_range : ∀ a b : List Int, cmpL a b = -1 ∨ cmpL a b = 0 ∨ cmpL a b = 1
  | [], [] => by simp [cmpL]
  | [], _ :: _ => by simp [cmpL]
  | _ :: _, [] => by simp [cmpL]
  | x :: l, y :: m => by
    rw [cmpL]
    split
    · simp
    · split
      · simp
      · exact cmpL_range l m
theorem cmpL_neg : ∀ a b : List Int, cmpL b a = -cmpL a b
  | [], [] => by simp [cmpL]
  | [], _ :: _ => by simp [cmpL]
  | _ :: _, [] => by simp [cmpL]
  | x :: l, y :: m => by
    rw [cmpL, cmpL]
    by_cases h : x < y
    · rw [if_neg (by omega), if_pos h, if_pos h]; rfl
    · by_cases h2 : y < x
      · rw [if_pos h2, if_neg h, if_pos h2]
      · rw [if_neg h2, if_neg h, if_neg h, if_neg h2, cmpL_neg l m]
theorem cmpL_zero : ∀ a b : List Int, cmpL a b = 0 ↔ a = b
  | [], [] => by simp [cmpL]
  | [], _ :: _ => by simp [cmpL]
  | _ :: _, [] => by simp [cmpL]
  | x :: l, y :: m => by
    rw [cmpL]
    by_cases h : x < y
    · rw [if_pos h]; simp; omega
    · by_cases h2 : y < x
      · rw [if_neg h, if_pos h2]; simp; omega
      · have e : x = y := by omega
        rw [if_neg h, if_neg h2, cmpL_zero l m, e]; simp
theorem cmpL_trans : ∀ a b c : List Int, cmpL a b = cmpL b c → cmpL a c = cmpL a b
  | [], [], c => fun h => h.symm
  | [], _ :: _, [] => by simp [cmpL]
  | [], _ :: _, _ :: _ => by simp [cmpL]
  | _ :: _, [], [] => by simp [cmpL]
  | _ :: _, [], _ :: _ => by simp [cmpL]
  | x :: l, y :: m, [] => by
    intro h
    rw [h]; simp [cmpL]
  | x :: l, y :: m, z :: n => by
    intro h
    simp only [cmpL] at h ⊢
    by_cases h1 : x < y
    · rw [if_pos h1] at h ⊢
      by_cases h3 : y < z
      · rw [if_pos (by omega)]
      · rw [if_neg h3] at h
        by_cases h4 : z < y
        · rw [if_pos h4] at h; omega
        · rw [if_pos (by omega)]
    · rw [if_neg h1] at h ⊢
      by_cases h2 : y < x
      · rw [if_pos h2] at h ⊢
        by_cases h3 : y < z
        · rw [if_pos h3] at h; omega
        · rw [if_neg (by omega), if_pos (by omega)]
      · have e : x = y := by omega
        subst e
        rw [if_neg h2] at h ⊢
        by_cases h3 : x < z
        · rw [if_pos h3] at h ⊢; exact h.symm
        · rw [if_neg h3] at h ⊢
          by_cases h4 : z < x
          · rw [if_pos h4] at h ⊢; exact h.symm
          · rw [if_neg h4] at h ⊢
            exact cmpL_trans l m n h
theorem cmpL_app : ∀ p a b : List Int, cmpL (p ++ a) (p ++ b) = cmpL a b
  | [], _, _ => rfl
  | x :: p, a, b => by
    show cmpL (x :: (p ++ a)) (x :: (p ++ b)) = _
    rw [cmpL, if_neg (by omega), if_neg (by omega)]
    exact cmpL_app p a b
theorem cmpL_one (x y : Int) (a b : List Int) (h : x ≠ y) : cmpL (x :: a) (y :: b) = if x < y then -1 else 1 := by
  rw [cmpL]
  split
  · rfl
  · rw [if_pos (by omega)]
theorem cmpL_same (x : Int) (a b : List Int) : cmpL (x :: a) (x :: b) = cmpL a b := cmpL_app [x] a b
/-- The units of two unlike scalar values part before either ends. -/
theorem cmpL_un (r q : Int) (a b : List Int) (hr : (0 ≤ r ∧ r < 55296) ∨ (57343 < r ∧ r ≤ 1114111)) (hq : (0 ≤ q ∧ q < 55296) ∨ (57343 < q ∧ q ≤ 1114111)) (h : r ≠ q) : cmpL (un1 r ++ a) (un1 q ++ b) = cmpL (un1 r) (un1 q) := by
  unfold un1
  by_cases h1 : r < 65536
  · rw [if_pos h1]
    by_cases h2 : q < 65536
    · rw [if_pos h2]
      show cmpL (r :: a) (q :: b) = cmpL (r :: []) (q :: [])
      rw [cmpL_one _ _ _ _ h, cmpL_one _ _ _ _ h]
    · rw [if_neg h2]
      show cmpL (r :: a) (_ :: _ :: b) = cmpL (r :: []) (_ :: _ :: [])
      rw [cmpL_one _ _ _ _ (by omega), cmpL_one _ _ _ _ (by omega)]
  · rw [if_neg h1]
    by_cases h2 : q < 65536
    · rw [if_pos h2]
      show cmpL (_ :: _ :: a) (q :: b) = cmpL (_ :: _ :: []) (q :: [])
      rw [cmpL_one _ _ _ _ (by omega), cmpL_one _ _ _ _ (by omega)]
    · rw [if_neg h2]
      show cmpL (_ :: _ :: a) (_ :: _ :: b) = cmpL (_ :: _ :: []) (_ :: _ :: [])
      by_cases e : (r - 65536) / 1024 = (q - 65536) / 1024
      · rw [e]
        rw [cmpL_same, cmpL_same, cmpL_one _ _ _ _ (by omega), cmpL_one _ _ _ _ (by omega)]
      · rw [cmpL_one _ _ _ _ (by omega), cmpL_one _ _ _ _ (by omega)]
theorem uns_cons (r : Int) (l : List Int) : uns (r :: l) = un1 r ++ uns l := rfl
theorem un1_ne (r : Int) : un1 r ≠ [] := by unfold un1; split <;> simp
set_option maxRecDepth 100000 in
theorem nan16 (x : Int) (w : World) : Calls Tryd.prog 50 #[.int .u16 x] w fun e w' => e = .returned (.bool false) ∧ w' = w := by
  go_enter Tryd.func50, Tryd.ntmps50
  go_wp2
  go_ret
  exact ⟨by simp, rfl⟩
/-- How two numbers stand. -/
def cmpI (x y : Int) : Int := if x < y then -1 else if y < x then 1 else 0
set_option maxRecDepth 100000 in
theorem cmp16 (x y : Int) (w : World) : Calls Tryd.prog 43 #[.int .u16 x, .int .u16 y] w fun e w' => e = .returned (.int .i64 (cmpI x y)) ∧ w' = w := by
  unfold cmpI
  by_cases h : x < y
  · rw [if_pos h]
    go_enter Tryd.func43, Tryd.ntmps43
    go_wp2_with (go_at_call 50; refine (nan16 _ _).mono ?_; rintro e w' ⟨rfl, rfl⟩)
    go_ret
    exact ⟨rfl, rfl⟩
  · rw [if_neg h]
    by_cases h2 : y < x
    · rw [if_pos h2]
      go_enter Tryd.func43, Tryd.ntmps43
      go_wp2_with (go_at_call 50; refine (nan16 _ _).mono ?_; rintro e w' ⟨rfl, rfl⟩)
      go_ret
      exact ⟨rfl, rfl⟩
    · rw [if_neg h2]
      go_enter Tryd.func43, Tryd.ntmps43
      go_wp2_with (go_at_call 50; refine (nan16 _ _).mono ?_; rintro e w' ⟨rfl, rfl⟩)
      go_ret
      exact ⟨rfl, rfl⟩
theorem cmpL_nil (A B : List Int) (k : Nat) (hk : A.length ≤ k) : cmpL (A.drop k) (B.drop k) = if k < B.length then -1 else 0 := by
  rw [List.drop_eq_nil_of_le hk]
  by_cases h : k < B.length
  · rw [if_pos h, List.drop_eq_getElem_cons h]; rfl
  · rw [if_neg h, List.drop_eq_nil_of_le (by omega)]; rfl
theorem cmpL_more (A B : List Int) (k : Nat) (ha : k < A.length) (hb : B.length ≤ k) : cmpL (A.drop k) (B.drop k) = 1 := by
  rw [List.drop_eq_nil_of_le hb, List.drop_eq_getElem_cons ha]; rfl
theorem cmpL_step (A B : List Int) (k : Nat) (ha : k < A.length) (hb : k < B.length) : cmpL (A.drop k) (B.drop k) = if cmpI (A.getD k 0) (B.getD k 0) = 0 then cmpL (A.drop (k + 1)) (B.drop (k + 1)) else cmpI (A.getD k 0) (B.getD k 0) := by
  rw [List.drop_eq_getElem_cons ha, List.drop_eq_getElem_cons hb, cmpL]
  have e1 : A.getD k 0 = A[k] := by simp [List.getD, List.getElem?_eq_getElem ha]
  have e2 : B.getD k 0 = B[k] := by simp [List.getD, List.getElem?_eq_getElem hb]
  rw [e1, e2]
  unfold cmpI
  split
  · simp
  · split <;> simp
/-- What a list of units reads at a place. -/
theorem rds_at {kd : IntKind} {W : World} {v : Value} {A : List Int} (h : Rds kd W v A) : ∃ a c, v = .slice a A.length c ∧ (0 < A.length → ∃ g o, a = some ⟨g, o, none⟩) ∧ ∀ k, k < A.length → ∃ g o, a = some ⟨g, o, none⟩ ∧ W.cell? ⟨g, o + k, none⟩ = some (.int kd (A.getD k 0)) := by
  obtain ⟨a, c, rfl, hn⟩ := h
  refine ⟨a, c, rfl, fun hp => ?_, fun k hk => ?_⟩
  · obtain ⟨g, o, h, _⟩ := hn hp; exact ⟨g, o, h⟩
  · obtain ⟨g, o, h, hc⟩ := hn (by omega); exact ⟨g, o, h, hc k hk⟩
set_option maxRecDepth 100000 in
set_option maxHeartbeats 2000000 in
theorem scmp_any (A B : List Int) (v v' : Value) (w : World) (hA : Rds .u16 w v A) (hB : Rds .u16 w v' B) (ha : A.length ≤ 140737488355328) (hb : B.length ≤ 140737488355328) :
    Calls Tryd.prog 28 #[v, v'] w fun e w' => e = .returned (.int .i64 (cmpL A B)) ∧ w' = w := by
  have HA : Hid (Rds .u16 w v A) := hA
  have HB : Hid (Rds .u16 w v' B) := hB
  obtain ⟨a, c, rfl, hn⟩ := hA
  obtain ⟨a', c', rfl, hn'⟩ := hB
  clear hn hn'
  go_enter Tryd.func28, Tryd.ntmps28
  go_wp2
  go_loopw [11] (fun i wr => ∃ k : Nat, i = .int .i64 k ∧ k ≤ A.length ∧ k ≤ B.length ∧ Hid (cmpL (A.drop k) (B.drop k) = cmpL A B) ∧ wr = w) (fun i _ => A.length - (RowKit.intOf i).toNat)
  case atStart => exact ⟨0, rfl, Nat.zero_le _, Nat.zero_le _, by simp [Hid], rfl⟩
  case round =>
    obtain ⟨k, rfl, hk, hk', HE, rfl⟩ := hrel
    by_cases l1 : k < A.length
    · have l1i : (k : Int) < (A.length : Int) := by omega
      obtain ⟨a2, c2, e2, hn2⟩ := HA.out
      obtain ⟨g, o, ea, hc⟩ := hn2 (by omega)
      cases e2
      subst ea
      have c1 := hc k l1
      clear hn2 hc
      by_cases l2 : k < B.length
      · have l2i : ¬ (B.length : Int) ≤ (k : Int) := by omega
        have l2j : (k : Int) < (B.length : Int) := by omega
        obtain ⟨a3, c3, e3, hn3⟩ := HB.out
        obtain ⟨g', o', ea', hc'⟩ := hn3 (by omega)
        cases e3
        subst ea'
        have d1 := hc' k l2
        clear hn3 hc'
        have hs := cmpL_step A B k l1 l2
        rw [HE.out] at hs
        generalize A.getD k 0 = x at *
        generalize B.getD k 0 = y at *
        by_cases hz : cmpI x y = 0
        · rw [if_pos hz] at hs
          have KC := fun W => cmp16 x y W
          rw [hz] at KC
          have HN : Hid (cmpL (A.drop (k + 1)) (B.drop (k + 1)) = cmpL A B) := hs.symm
          clear hs HE hz
          go_wp2_with (go_at_call 43; refine (KC _).mono ?_; rintro e w' ⟨rfl, rfl⟩)
          exact ⟨⟨k + 1, by go_num, by omega, by omega, HN, by simp⟩, by simp [RowKit.intOf]; omega⟩
        · rw [if_neg hz] at hs
          have KC := fun W => cmp16 x y W
          rw [← hs] at KC hz
          have hz' : (cmpL A B == 0) = false := beq_false_of_ne hz
          obtain ⟨r, hr⟩ : ∃ r, cmpL A B = r := ⟨_, rfl⟩
          rw [hr] at KC hz'
          have HR : Hid (cmpL A B = r) := hr
          clear hs HE hz hr
          go_wp2_with (go_at_call 43; refine (KC _).mono ?_; rintro e w' ⟨rfl, rfl⟩)
          go_ret
          exact ⟨by rw [HR.out]; rfl, rfl⟩
      · have l2i : (B.length : Int) ≤ (k : Int) := by omega
        have hs := cmpL_more A B k l1 (by omega)
        rw [HE.out] at hs
        have HR : Hid (cmpL A B = 1) := hs
        clear hs HE
        go_wp2
        go_ret
        exact ⟨by rw [HR.out]; rfl, rfl⟩
    · have l1i : ¬ (k : Int) < (A.length : Int) := by omega
      have e : k = A.length := by omega
      subst e
      have hs := cmpL_nil A B A.length (Nat.le_refl _)
      rw [HE.out] at hs
      by_cases l3 : A.length < B.length
      · rw [if_pos l3] at hs
        have HR : Hid (cmpL A B = -1) := hs
        have l3i : (A.length : Int) < (B.length : Int) := by omega
        clear hs HE
        go_wp2
        go_ret
        exact ⟨by rw [HR.out]; rfl, rfl⟩
      · rw [if_neg l3] at hs
        have HR : Hid (cmpL A B = 0) := hs
        have l3i : ¬ (A.length : Int) < (B.length : Int) := by omega
        clear hs HE
        go_wp2
        go_ret
        exact ⟨by rw [HR.out]; rfl, rfl⟩
end Go.Proofs.YtabofadjnbpjkacDoor
