/-
  The contract of the document's alike: two lists of numbers of the same length are compared. Condition: of the same length.
-/
import Derived.Test.YtookbgmolggohaaUd
import Derived.BigQuiet
import Derived.Deep.QuietTactic
namespace Go.Proofs.Ytookbgmolggohaa
open Go.RowKit
/-- A list of numbers that reads so. -/
def RdI (w : World) (v : Value) (L : List Int) : Prop :=
  ∃ a c, v = .slice a L.length c ∧ L.length ≤ c ∧ (0 < L.length → ∃ g off, a = some ⟨g, off, none⟩ ∧ ∀ j, j < L.length → w.cell? ⟨g, off + j, none⟩ = some (.int .i64 (L.getD j 0)))
theorem RdI.below {w w' : World} {v : Value} {L : List Int} (h : RdI w v L) (hb : Below w.heap.size w w') : RdI w' v L := by
  obtain ⟨a, c, rfl, hl, hc⟩ := h
  refine ⟨a, c, rfl, hl, fun hp => ?_⟩
  obtain ⟨g, off, rfl, hd⟩ := hc hp
  have hg := World.block_lt_of_cell? w _ (hd 0 hp)
  exact ⟨g, off, rfl, fun j hj => (World.cell?_of_block (hb.block g hg)).trans (hd j hj)⟩
set_option maxRecDepth 100000 in
theorem alike_any (A B : List Int) (v u : Value) (w : World) (hA : RdI w v A) (hB : RdI w u B) (hl : A.length = B.length) (hs : A.length ≤ 1000000) (R : Bool) (hR : R = true ↔ A = B) : Calls Try.prog 44 #[v, u] w fun e w' => e = .returned (.bool R) ∧ Below w.heap.size w w' := by
  obtain ⟨a, c, rfl, hl1, hc1⟩ := hA
  obtain ⟨b, d, rfl, hl2, hc2⟩ := hB
  rw [← hl] at hc2 hl2 ⊢
  have HA : Hid (∀ j, j < A.length → ∃ g off, a = some ⟨g, off, none⟩ ∧ w.cell? ⟨g, off + j, none⟩ = some (.int .i64 (A.getD j 0))) := fun j hj => by
    obtain ⟨g, off, e, hd⟩ := hc1 (by omega)
    exact ⟨g, off, e, hd j hj⟩
  have HB : Hid (∀ j, j < A.length → ∃ g off, b = some ⟨g, off, none⟩ ∧ w.cell? ⟨g, off + j, none⟩ = some (.int .i64 (B.getD j 0))) := fun j hj => by
    obtain ⟨g, off, e, hd⟩ := hc2 (by omega)
    exact ⟨g, off, e, hd j hj⟩
  have HR : Hid (R = true ↔ A = B) := hR
  have HL : Hid (A.length = B.length) := hl
  clear hc1 hc2 hR hl
  go_enter Try.func44, Try.ntmps44
  go_wp2_with fail
  go_loopw [8] (fun z wr => ∃ k : Nat, k ≤ A.length ∧ z = .int .i64 (k : Nat) ∧ Hid (Below w.heap.size w wr) ∧ Hid (∀ j, j < k → A.getD j 0 = B.getD j 0)) (fun y _ => (A.length - (intOf y).toNat : Nat))
  case atStart => exact ⟨0, by omega, rfl, Below.refl _ _, fun j hj => by omega⟩
  case round =>
    obtain ⟨k, hk, rfl, hB, hE⟩ := hrel
    by_cases hkl : k < A.length
    · have jl : (k : Int) < (A.length : Int) := by omega
      have j3 : ¬ A.length ≤ k := by omega
      obtain ⟨g, off, rfl, c1⟩ := HA.out k hkl
      obtain ⟨g2, off2, rfl, c2⟩ := HB.out k hkl
      replace c1 := (World.cell?_of_block (hB.out.block g (World.block_lt_of_cell? w _ c1))).trans c1
      replace c2 := (World.cell?_of_block (hB.out.block g2 (World.block_lt_of_cell? w _ c2))).trans c2
      have HX : Hid (A.getD k 0 = B.getD k 0 → ∀ j, j < k + 1 → A.getD j 0 = B.getD j 0) := fun e j hj => by
        by_cases q : j = k
        · subst q; exact e
        · exact hE.out j (by omega)
      have HY : Hid (A.getD k 0 ≠ B.getD k 0 → R = false) := fun e => by
        cases h : R
        · rfl
        · exact absurd (by rw [HR.out.1 h]) e
      clear HA HB HR HL hE
      generalize A.getD k 0 = x at *
      generalize B.getD k 0 = y at *
      by_cases hxy : x = y
      · have hd : (x != y) = false := by simpa using hxy
        have HX2 : Hid _ := HX.out hxy
        clear HX HY hxy
        go_wp2_with fail
        go_region
        go_wp2
        refine ⟨⟨k + 1, ?r1, ?r2, hB.out.drew, HX2.out⟩, ?r3⟩
        case r1 => omega
        case r2 => go_num
        case r3 => simp [intOf]; omega
      · have hd : (x != y) = true := by simpa using hxy
        have HY2 : Hid (R = false) := HY.out hxy
        clear HX HY hxy
        go_wp2_with fail
        go_region
        go_wp2
        go_ret
        exact ⟨by rw [HY2.out]; rfl, hB.out.drew⟩
    · have hkk : k = A.length := by omega
      have HT : Hid (R = true) := HR.out.2 (List.ext_getElem HL.out fun i h1 h2 => by
        have := hE.out i (by omega)
        rw [List.getD_eq_getElem?_getD, List.getD_eq_getElem?_getD, List.getElem?_eq_getElem h1, List.getElem?_eq_getElem h2] at this
        exact this)
      subst hkk
      clear HA HB HR HL hE
      go_wp2
      go_ret
      exact ⟨by rw [HT.out]; rfl, hB.out⟩
/-- The i-th stretch: what it says, and where the next one begins. -/
theorem Rn.ix {F : Int → Int} : ∀ {X : List Rw} {m e : Int}, Rn F m X e → ∀ i, i < X.length →
    m ≤ (X.getD i (0, 0, 0)).1 ∧ (X.getD i (0, 0, 0)).1 ≤ (X.getD i (0, 0, 0)).2.1 ∧ (X.getD i (0, 0, 0)).2.1 < e ∧ (∀ p, (X.getD i (0, 0, 0)).1 ≤ p → p ≤ (X.getD i (0, 0, 0)).2.1 → F p = (X.getD i (0, 0, 0)).2.2) ∧ (i = 0 → (X.getD i (0, 0, 0)).1 = m) ∧ (i + 1 < X.length → (X.getD (i + 1) (0, 0, 0)).1 = (X.getD i (0, 0, 0)).2.1 + 1) ∧ (i + 1 = X.length → (X.getD i (0, 0, 0)).2.1 + 1 = e)
  | [], m, e, _, i, hi => by simp at hi
  | r :: X, m, e, h, i, hi => by
    obtain ⟨h1, h2, h3, h4, -⟩ := h.tail
    obtain ⟨q1, q2⟩ := h4.mem
    cases i with
    | zero =>
      refine ⟨by simp; omega, by simpa using h2, ?_, by simpa using h3, fun _ => by simpa using h1, fun hl => ?_, fun hl => ?_⟩
      · show r.2.1 < e
        omega
      · cases X with
        | nil => simp at hl
        | cons s X =>
          obtain ⟨k1, -⟩ := h4.tail
          show s.1 = r.2.1 + 1
          exact k1
      · have : X = [] := by
          cases X with
          | nil => rfl
          | cons s X => simp at hl
        subst this
        have k : r.2.1 + 1 = e := h4
        exact k
    | succ i =>
      have hi' : i < X.length := by simpa using hi
      obtain ⟨a1, a2, a3, a4, -, a6, a7⟩ := Rn.ix h4 i hi'
      refine ⟨?_, a2, a3, a4, (fun c => absurd c (Nat.succ_ne_zero i)), (fun hl => a6 (by simpa using hl)), (fun hl => a7 (by simpa using hl))⟩
      have a1' : r.2.1 + 1 ≤ (X.getD i (0, 0, 0)).1 := a1
      show m ≤ (X.getD i (0, 0, 0)).1
      omega
/-- A stretch that ends ahead of a code point is not the last one. -/
theorem Rn.more {F : Int → Int} {X : List Rw} {e : Int} (h : Rn F 0 X e) {i : Nat} (hi : i < X.length) {p : Int} (hp : p < e) (h2 : (X.getD i (0, 0, 0)).2.1 < p) : i + 1 < X.length ∧ (X.getD (i + 1) (0, 0, 0)).1 ≤ p := by
  obtain ⟨-, -, -, -, -, a6, a7⟩ := h.ix i hi
  have hl : i + 1 < X.length := by
    by_cases c : i + 1 < X.length
    · exact c
    · have := a7 (by omega)
      omega
  refine ⟨hl, ?_⟩
  rw [a6 hl]
  omega
/-- Two blocks within one stretch are the same. -/
theorem blk_ahead {F : Int → Int} {b : Nat} {x y n : Int} (h : ∀ p, x ≤ p → p ≤ y → F p = n) (h1 : x ≤ 128 * ((b + 1 : Nat) : Int) - 128) (h2 : 128 * ((b + 1 : Nat) : Int) + 127 ≤ y) : blk F (b + 1) = blk F b := by
  funext j
  unfold blk
  by_cases c : j < 128
  · rw [if_pos c, if_pos c, h _ (by omega) (by omega), h _ (by omega) (by omega)]
  · rw [if_neg c, if_neg c]
/-- What a block that is as the one ahead does to the lists. -/
theorem plc_ahead {F : Int → Int} {b : Nat} (h : blk F (b + 1) = blk F b) : plc F (b + 1) = plc F b ∧ unl F (b + 2) = unl F (b + 1) := by
  have hm : blk F (b + 1) ∈ unl F (b + 1) := by rw [h]; exact unl_last F b
  obtain ⟨e1, e2⟩ := plc_step F (b + 1) hm
  refine ⟨?_, e1⟩
  rw [e2, h]
  exact plc_is F (Nat.lt_succ_self b)
/-- The 128 numbers of a block, as a list's cells; the places so. -/
def rowI (f : Nat → Int) (n : Nat) : List Value := (List.range n).map fun j => Value.int .i64 (f j)
def celI (P : List Nat) : List Value := P.map fun p => Value.int .i64 (p : Nat)
theorem rowI_len (f : Nat → Int) (n : Nat) : (rowI f n).length = n := by simp [rowI]
theorem rowI_succ (f : Nat → Int) (n : Nat) : rowI f (n + 1) = rowI f n ++ [.int .i64 (f n)] := by simp [rowI, List.range_succ]
theorem celI_snoc (P : List Nat) (p : Nat) : celI (P ++ [p]) = celI P ++ [.int .i64 (p : Nat)] := by simp [celI]
structure Rp (w : World) (B : Nat) (vi vu : Value) (us : List Value) (P : List Nat) (U : List (Nat → Int)) : Prop where
  i : w.ownsRow B 3 1 vi P.length (celI P)
  u : w.ownsRow B 54 1 vu U.length us
  e : ∀ (j : Nat) f, U[j]? = some f → ∃ v, us[j]? = some v ∧ w.ownsRow B 3 1 v 128 (rowI f 128) ∧ v.ownBlock ≠ vi.ownBlock
theorem ownB {w : World} {B : Nat} {e : TypeId} {s : Nat} {v : Value} {n : Nat} {xs : List Value} (h : w.ownsRow B e s v n xs) : v.ownBlock = none ∨ ∃ g, v.ownBlock = some g ∧ B ≤ g ∧ g < w.heap.size ∧ ∃ cur, w.heap[g]? = some (.cells cur e (0, 0)) := by
  obtain ⟨-, ⟨rfl, -⟩ | ⟨g, cap, cur, rfl, h1, h2, -⟩⟩ := h
  · exact .inl rfl
  · exact .inr ⟨g, rfl, h1, (Array.getElem?_eq_some_iff.1 h2).1, cur, h2⟩
theorem own_pos {w : World} {B : Nat} {e : TypeId} {s : Nat} {v : Value} {n : Nat} {xs : List Value} (h : w.ownsRow B e s v n xs) (hn : 0 < n) : ∃ g, v.ownBlock = some g ∧ B ≤ g ∧ g < w.heap.size := by
  obtain ⟨-, ⟨rfl, h0⟩ | ⟨g, cap, cur, rfl, h1, h2, -⟩⟩ := h
  · omega
  · exact ⟨g, rfl, h1, (Array.getElem?_eq_some_iff.1 h2).1⟩
/-- Lists of unlike types are apart. -/
theorem own_unlike {w : World} {B B' : Nat} {e e' : TypeId} {s s' : Nat} {v v' : Value} {n n' : Nat} {xs xs' : List Value} (h : w.ownsRow B e s v n xs) (h' : w.ownsRow B' e' s' v' n' xs') (hne : e ≠ e') : v.ownBlock = none ∨ v.ownBlock ≠ v'.ownBlock := by
  rcases ownB h with q | ⟨g, q, -, -, cur, hc⟩
  · exact .inl q
  · refine .inr fun c => ?_
    rcases ownB h' with q' | ⟨g', q', -, -, cur', hc'⟩
    · rw [q, q'] at c; cases c
    · rw [q, q'] at c
      cases c
      rw [hc] at hc'
      cases hc'
      exact hne rfl
theorem Rp.below {w w' : World} {B : Nat} {vi vu : Value} {us : List Value} {P : List Nat} {U : List (Nat → Int)} (h : Rp w B vi vu us P U) (hb : Below w.heap.size w w') : Rp w' B vi vu us P U :=
  ⟨owns_below h.i hb, owns_below h.u hb, fun j f hf => by
    obtain ⟨v, h1, h2, h3⟩ := h.e j f hf
    exact ⟨v, h1, owns_below h2 hb, h3⟩⟩
theorem Rp.addI {w w' : World} {B : Nat} {vi vu vi' : Value} {us : List Value} {P : List Nat} {U : List (Nat → Int)} (h : Rp w B vi vu us P U) (p : Nat) (ho : w'.ownsRow B 3 1 vi' (P.length + 1) (celI P ++ [.int .i64 (p : Nat)])) (hg : w.grownBy w' vi.ownBlock) (hv : vi'.ownBlock = vi.ownBlock ∨ vi'.ownBlock = some w.heap.size) : Rp w' B vi' vu us (P ++ [p]) U := by
  refine ⟨by rw [celI_snoc, List.length_append]; exact ho, h.u.kept hg (own_unlike h.u h.i (by decide)), fun j f hf => ?_⟩
  obtain ⟨v, h1, h2, h3⟩ := h.e j f hf
  refine ⟨v, h1, h2.kept hg (.inr h3), ?_⟩
  obtain ⟨g, q1, -, q2⟩ := own_pos h2 (by decide)
  rcases hv with hv | hv
  · rw [hv]; exact h3
  · rw [hv, q1]
    intro c
    cases c
    omega
theorem Rp.addU {w w' : World} {B : Nat} {vi vu vu' vb : Value} {us : List Value} {P : List Nat} {U : List (Nat → Int)} (h : Rp w B vi vu us P U) (f : Nat → Int) (hb : w.ownsRow B 3 1 vb 128 (rowI f 128)) (hne : vb.ownBlock ≠ vi.ownBlock) (ho : w'.ownsRow B 54 1 vu' (U.length + 1) (us ++ [vb])) (hg : w.grownBy w' vu.ownBlock) : Rp w' B vi vu' (us ++ [vb]) P (U ++ [f]) := by
  have hl : us.length = U.length := by have := h.u.1; omega
  refine ⟨h.i.kept hg (own_unlike h.i h.u (by decide)), by rw [List.length_append]; exact ho, fun j f' hf => ?_⟩
  by_cases c : j < U.length
  · rw [List.getElem?_append_left c] at hf
    obtain ⟨v, h1, h2, h3⟩ := h.e j f' hf
    exact ⟨v, by rw [List.getElem?_append_left (by omega)]; exact h1, h2.kept hg (own_unlike h2 h.u (by decide)), h3⟩
  · have hj : j = U.length := by
      have := (List.getElem?_eq_some_iff.1 hf).1
      simp at this
      omega
    subst hj
    rw [List.getElem?_append_right (Nat.le_refl _)] at hf
    simp at hf
    subst hf
    exact ⟨vb, by rw [List.getElem?_append_right (by omega), hl]; simp, hb.kept hg (own_unlike hb h.u (by decide)), hne⟩
theorem RdI.of_owns {w : World} {B : Nat} {v : Value} {L : List Int} (h : w.ownsRow B 3 1 v L.length (L.map fun z => Value.int .i64 z)) : RdI w v L := by
  obtain ⟨h0, ⟨rfl, hl⟩ | ⟨g, cap, cur, rfl, h1, h2, h3, h4, h5, h6⟩⟩ := h
  · exact ⟨none, 0, by rw [hl], by omega, fun c => by omega⟩
  · refine ⟨_, cap, rfl, h3, fun _ => ⟨g, 0, rfl, fun j hj => ?_⟩⟩
    have e : cur[j]? = some (Value.int .i64 (L.getD j 0)) := by
      have : (cur.toList.take (L.length * 1))[j]? = some (Value.int .i64 (L.getD j 0)) := by
        rw [h6, List.getElem?_map, List.getElem?_eq_getElem hj]
        simp [List.getD, List.getElem?_eq_getElem hj]
      rw [List.getElem?_take_of_lt (by omega)] at this
      simpa using this
    rw [Nat.zero_add]
    simp [World.cell?, h2, e]
theorem rowI_map (f : Nat → Int) (n : Nat) : rowI f n = ((List.range n).map f).map fun z => Value.int .i64 z := by simp [rowI]
theorem rowI_eq {f g : Nat → Int} : (List.range 128).map f = (List.range 128).map g ↔ ∀ j, j < 128 → f j = g j := by
  constructor
  · intro h j hj
    have := congrArg (fun l : List Int => l[j]?) h
    simpa [hj] using this
  · intro h
    exact List.map_congr_left fun j hj => h j (List.mem_range.1 hj)
end Go.Proofs.Ytookbgmolggohaa
