/-
  The stable sort of a list of places.
-/
import Derived.Test.YtahmeejcgddlhabQk
namespace Go.Proofs.Ytahmeejcgddlhab
open Go.RowKit
set_option maxRecDepth 100000 in
theorem ins_empty (v fv : Value) (w : World) : Calls Try.prog 61 #[v, .int .i64 0, .int .i64 0, fv] w fun e w' => e = .returned (.tuple #[]) ∧ w' = w := by
  go_enter Try.func61, Try.ntmps61
  go_wp2
  go_loopw [8] (fun x wr => x = .int .i64 1 ∧ Hid (wr = w)) (fun _ _ => 0)
  case atStart => exact ⟨rfl, rfl⟩
  case round =>
    obtain ⟨rfl, hw⟩ := hrel
    rw [Hid] at hw
    subst hw
    go_wp2
    go_end0
    exact ⟨rfl, rfl⟩
set_option maxRecDepth 100000 in
theorem stable_empty (v fv : Value) (w : World) : Calls Try.prog 56 #[v, .int .i64 0, fv] w fun e w' => e = .returned (.tuple #[]) ∧ w' = w := by
  have k := fun w => ins_empty v fv w
  go_enter Try.func56, Try.ntmps56
  go_wp2
  go_loopw [7, 8] (fun x y wr => x = .int .i64 0 ∧ y = .int .i64 20 ∧ Hid (wr = w)) (fun _ _ _ => 0)
  case atStart => exact ⟨rfl, rfl, rfl⟩
  case round =>
    obtain ⟨rfl, rfl, hw⟩ := hrel
    rw [Hid] at hw
    subst hw
    go_wp2_with (go_at_call 61; refine (k _).mono ?_; rintro e w' ⟨rfl, hw⟩; rw [hw]; clear hw)
    go_loopw [6] (fun x wq => x = .int .i64 20 ∧ Hid (wq = wr)) (fun _ _ => 0)
    case atStart => exact ⟨rfl, rfl⟩
    case round =>
      obtain ⟨rfl, hw⟩ := hrel
      rw [Hid] at hw
      subst hw
      go_wp2
      go_end0
      exact ⟨rfl, rfl⟩
theorem only_keep {kd : IntKind} {e : TypeId} {g cap n : Nat} {f : Nat → Int} {w w' : World} (hC : CelC kd e w g cap n f) (ho : Only g w w') : KeepT e w w' := by
  intro k cs t fr hk ht
  rw [ho.block k (Array.getElem?_eq_some_iff.1 hk).1 ?_]
  · exact hk
  · intro q
    cases q
    obtain ⟨cur, h1, _⟩ := hC
    rw [h1] at hk
    simp at hk
    exact ht hk.2.1.symm
theorem only_below {g b : Nat} {w w' : World} (ho : Only g w w') (hb : b ≤ g) (hs : b ≤ w.heap.size) : Below b w w' := Only.below (Below.refl _ _) hb hs ho
/-- A list that is in order, and has the same elements. -/
structure SrtL (K : Int → Int) (os os' : List Int) : Prop where
  len : os'.length = os.length
  mem : ∀ x, x ∈ os' ↔ x ∈ os
  srt : os'.Pairwise (LT K)
set_option maxRecDepth 100000 in
set_option maxHeartbeats 1000000 in
theorem sort_any (B lb b : Nat) (zs os : List Int) (v : Value) (w : World) (hI : os ≠ [] → InL B lb zs w) (hB : B ≤ b) (hb : b ≤ w.heap.size) (hn : os.length < 1048577) (hd : ∀ x ∈ os, 0 ≤ x ∧ x < (zs.length : Int)) (hasc : os.Pairwise (· < ·)) (hR : Rw .i64 3 b w v os) :
    Calls Try.prog 49 #[v, .func (.func 50) #[] #[.pointer (some ⟨lb, 0, none⟩)]] w fun e w' => e = .returned (.tuple #[]) ∧ (∃ os', Rw .i64 3 b w' v os' ∧ SrtL (KZ zs) os os') ∧ Below b w w' ∧ KeepT 3 w w' := by
  by_cases c : os = []
  · subst c
    obtain ⟨a, cc, rfl, -⟩ := owns_slice hR
    have k := stable_empty (.slice a ([] : List Int).length cc) (.func (.func 50) #[] #[.pointer (some ⟨lb, 0, none⟩)]) w
    have HR : Hid (Rw .i64 3 b w (.slice a ([] : List Int).length cc) []) := hR
    clear hI hd hasc hR
    go_enter Try.func49, Try.ntmps49
    go_wp2_with (go_at_call 56; refine k.mono ?_; rintro e w' ⟨rfl, hw⟩; rw [hw]; clear hw)
    go_end0
    exact ⟨rfl, ⟨[], HR.out, rfl, fun _ => Iff.rfl, .nil⟩, Below.refl _ _, KeepT.refl _ _⟩
  · have hpos : 0 < os.length := List.length_pos_iff.2 c
    obtain ⟨g, cap, rfl, hg, hC⟩ := hR.celc hpos
    have hgd : ∀ j, j < os.length → os.getD j 0 ∈ os := fun j hj => by
      rw [List.getD_eq_getElem?_getD, List.getElem?_eq_getElem hj]; exact List.getElem_mem hj
    have k := stable_any B lb zs g cap os.length (fun j => os.getD j 0) w (hI c) (by omega) hn (fun j hj => hd _ (hgd j hj)) (fun u v h1 h2 => by
      have := (List.pairwise_iff_getElem.1 hasc) u v (by omega) h2 h1
      simpa [List.getD, List.getElem?_eq_getElem (show u < os.length by omega), List.getElem?_eq_getElem h2] using this) hC
    have HF : Hid (∀ w' h, CelC .i64 3 w' g cap os.length h → Sam (fun j => os.getD j 0) h 0 os.length → Srt (KZ zs) h 0 os.length → Only g w w' → Hid ((∃ os', Rw .i64 3 b w' (.slice (some ⟨g, 0, none⟩) os.length cap) os' ∧ SrtL (KZ zs) os os') ∧ Below b w w' ∧ KeepT 3 w w')) := fun w' h h1 h2 h3 h4 => by
      refine ⟨⟨(List.range os.length).map h, ?_, ?_, ?_, ?_⟩, only_below h4 hg hb, only_keep hC h4⟩
      · have hL : ((List.range os.length).map h).length = os.length := by simp
        have : CelC .i64 3 w' g cap ((List.range os.length).map h).length (fun j => ((List.range os.length).map h).getD j 0) := by
          rw [hL]
          exact h1.congr (fun j hj => by simp [List.getD, hj])
        have := this.owns b hg
        rw [hL] at this
        exact this
      · simp
      · intro x
        simp only [List.mem_map, List.mem_range]
        constructor
        · rintro ⟨j, hj, rfl⟩
          obtain ⟨i, _, y2, y3⟩ := h2.to j (Nat.zero_le _) hj
          rw [y3]; exact hgd i y2
        · intro hx
          obtain ⟨i, hi, rfl⟩ := List.getElem_of_mem hx
          obtain ⟨j, _, y2, y3⟩ := h2.of i (Nat.zero_le _) hi
          refine ⟨j, y2, ?_⟩
          rw [← y3]
          simp [List.getD, List.getElem?_eq_getElem hi]
      · rw [List.pairwise_iff_getElem]
        intro i j hi hj hij
        simp only [List.getElem_map, List.getElem_range]
        exact h3 i j (Nat.zero_le _) hij (by simpa using hj)
    clear hI hd hasc hR hC hgd hpos c
    go_enter Try.func49, Try.ntmps49
    go_wp2_with (go_at_call 56; refine (calls_hid k).mono ?_)
    intro _ w2 hq
    obtain ⟨rfl, ⟨h2, q1, q2, q3⟩, q4⟩ := hq.out
    have HE := HF.out w2 h2 q1 q2 q3 q4
    clear hq q1 q2 q3 q4 HF k
    go_wp2
    go_end0
    exact ⟨rfl, HE.out⟩
end Go.Proofs.Ytahmeejcgddlhab
