/-
  A list whose others are put in again is the list.
-/
import Derived.Test.YtahmeejcgddlhabQn
namespace Go.Proofs.Ytahmeejcgddlhab
open Go.RowKit
/-- Those of a list that are marked, below a place. -/
def sel (zs : List Int) (mk : Nat → Bool) (n : Nat) : List Int := ((List.range n).filter mk).map fun j => zs.getD j 0
theorem sel_succ (zs : List Int) (mk : Nat → Bool) (n : Nat) : sel zs mk (n + 1) = sel zs mk n ++ if mk n then [zs.getD n 0] else [] := by
  unfold sel
  rw [List.range_succ, List.filter_append, List.map_append]
  cases h : mk n <;> simp [h]
theorem sel_len (zs : List Int) (mk : Nat → Bool) : ∀ n, (sel zs mk n).length = cnt mk n
  | 0 => by simp [sel, cnt]
  | n + 1 => by
    rw [sel_succ, List.length_append, sel_len zs mk n, cnt]
    cases mk n <;> simp
theorem sel_congr (zs : List Int) {mk mk' : Nat → Bool} : ∀ n, (∀ j, j < n → mk j = mk' j) → sel zs mk n = sel zs mk' n
  | 0, _ => by simp [sel]
  | n + 1, h => by rw [sel_succ, sel_succ, sel_congr zs n (fun j hj => h j (by omega)), h n (by omega)]
theorem ins_left (a : Int) : ∀ (A B : List Int) (k : Nat), k ≤ A.length → (A ++ B).insertIdx k a = A.insertIdx k a ++ B
  | A, B, 0, _ => by simp
  | [], B, k + 1, h => by simp at h
  | x :: A, B, k + 1, h => by
    have := ins_left a A B k (by simpa using h)
    simp [List.insertIdx_succ_cons, this]
theorem ins_end (a : Int) : ∀ (A : List Int), A.insertIdx A.length a = A ++ [a]
  | [] => by simp
  | x :: A => by simp [List.insertIdx_succ_cons, ins_end a A]
theorem sel_ins (zs : List Int) (mk : Nat → Bool) (x : Nat) (hm : mk x = false) : ∀ n, x < n → (sel zs mk n).insertIdx (cnt mk x) (zs.getD x 0) = sel zs (setB mk x true) n
  | 0, h => by omega
  | n + 1, h => by
    rw [sel_succ, sel_succ]
    by_cases c : x = n
    · subst c
      have e1 : sel zs (setB mk x true) x = sel zs mk x := sel_congr zs x fun j hj => by unfold setB; rw [if_neg (by omega)]
      have e2 : setB mk x true x = true := by unfold setB; rw [if_pos rfl]
      rw [hm, e1, e2, if_pos rfl, if_neg (by simp), List.append_nil, ← sel_len zs mk x, ins_end]
    · have e2 : setB mk x true n = mk n := by unfold setB; rw [if_neg (by omega)]
      rw [ins_left _ _ _ _ (by rw [sel_len]; exact cnt_mono mk (by omega)), sel_ins zs mk x hm n (by omega), e2]
theorem sel_all (zs : List Int) (mk : Nat → Bool) (h : ∀ j, j < zs.length → mk j = true) : sel zs mk zs.length = zs := by
  unfold sel
  rw [List.filter_eq_self.2 (fun j hj => h j (by simpa using hj))]
  apply List.ext_getElem (by simp)
  intro j h1 h2
  simp [List.getD_eq_getElem?_getD, h2]
theorem bsL_sel (p : Bt) (zs : List Int) : ∀ k, k ≤ zs.length → bsL p zs k = sel zs (mkB p zs zs.length) k
  | 0, _ => by simp [bsL, sel]
  | k + 1, h => by
    rw [sel_succ]
    have hk : mkB p zs zs.length k = isB p (zs.getD k 0) := by unfold mkB; rw [show decide (k < zs.length) = true from decide_eq_true (by omega)]; rfl
    rw [hk]
    cases hb : isB p (zs.getD k 0) with
    | true => rw [bsL_yes p zs k (by omega) hb, bsL_sel p zs k (by omega), if_pos rfl]
    | false => rw [bsL_no p zs k (by omega) hb, bsL_sel p zs k (by omega), if_neg (by simp), List.append_nil]
/-- What is put in, of those whose places these are. -/
def putL (zs : List Int) : List Int → (Nat → Bool) → List (Int × Nat)
  | [], _ => []
  | x :: os, mk => (KZ zs x, cnt mk x.toNat) :: putL zs os (setB mk x.toNat true)
def mkAll : List Int → (Nat → Bool) → Nat → Bool
  | [], mk => mk
  | x :: os, mk => mkAll os (setB mk x.toNat true)
theorem mkAll_on : ∀ (os : List Int) (mk : Nat → Bool) (j : Nat), (mk j = true ∨ (j : Int) ∈ os) → mkAll os mk j = true
  | [], mk, j, h => by rcases h with h | h; exact h; simp at h
  | x :: os, mk, j, h => by
    rw [mkAll]
    apply mkAll_on os
    unfold setB
    by_cases c : j = x.toNat
    · left; rw [if_pos c]
    · rw [if_neg c]
      rcases h with h | h
      · left; exact h
      · rcases List.mem_cons.1 h with e | e
        · exfalso; apply c; rw [← e]; simp
        · right; exact e
theorem ins_putL (zs : List Int) : ∀ (os : List Int) (mk : Nat → Bool) (n i : Int) (m : Nat), EO zs os n i m mk → insAll (sel zs mk zs.length) (putL zs os mk) = sel zs (mkAll os mk) zs.length
  | [], mk, n, i, m, _ => rfl
  | x :: os, mk, n, i, m, h => by
    obtain ⟨x0, x1, x2⟩ := h.rng x (by simp)
    have e := sel_ins zs mk x.toNat x2 zs.length (by omega)
    rw [putL, mkAll, ← ins_putL zs os _ _ _ _ h.step, ← e]
    rfl
theorem putL_len (zs : List Int) : ∀ (os : List Int) (mk : Nat → Bool), (putL zs os mk).length = os.length
  | [], _ => rfl
  | x :: os, mk => by rw [putL, List.length_cons, putL_len, List.length_cons]
/-- A list whose others are put in is the list. -/
theorem back_list (p : Bt) (zs os : List Int) (hs : SrtL (KZ zs) (osL p zs zs.length) os) (hv : ∀ j, j < zs.length → isB p (zs.getD j 0) = false → p.first ≤ zs.getD j 0) : insAll (bsL p zs zs.length) (putL zs os (mkB p zs zs.length)) = zs := by
  rw [bsL_sel p zs zs.length (Nat.le_refl _), ins_putL zs os _ _ _ _ (EO.start p zs os hs hv)]
  apply sel_all
  intro j hj
  apply mkAll_on
  cases hb : isB p (zs.getD j 0) with
  | true => left; unfold mkB; rw [hb, decide_eq_true hj]; rfl
  | false => right; exact (hs.mem _).2 ((osL_mem p zs zs.length _).2 ⟨j, rfl, hj, hb⟩)
end Go.Proofs.Ytahmeejcgddlhab
