/-
  The contracts of firstWrong and Encode, at every list. No condition but that a list takes no more places than there are.
-/
import Derived.Test.YtabofadjnbpjkabDoorVal
import Derived.Test.YtabofadjnbpjkabDoorSame
namespace Go.Proofs.YtabofadjnbpjkabDoor
open Go.RowKit Go.Lib
/-- A slice that reads as these numbers. -/
def Rds (kd : IntKind) (w : World) (v : Value) (zs : List Int) : Prop :=
  ∃ a c, v = .slice a zs.length c ∧ (0 < zs.length → ∃ g off, a = some ⟨g, off, none⟩ ∧ ∀ j, j < zs.length → w.cell? ⟨g, off + j, none⟩ = some (.int kd (zs.getD j 0)))
theorem Rds.below {kd : IntKind} {w w' : World} {v : Value} {zs : List Int} (h : Rds kd w v zs) (hb : Below w.heap.size w w') : Rds kd w' v zs := by
  obtain ⟨a, c, rfl, hc⟩ := h
  refine ⟨a, c, rfl, fun hp => ?_⟩
  obtain ⟨g, off, rfl, hd⟩ := hc hp
  refine ⟨g, off, rfl, fun j hj => ?_⟩
  have := World.block_lt_of_cell? w _ (hd j hj)
  exact (hb.cell (p := ⟨g, off + j, none⟩) (by simpa using this)).trans (hd j hj)
theorem Rds.of_owns {kd : IntKind} {w : World} {b e : Nat} {v : Value} {zs : List Int} (h : w.ownsRow b e 1 v zs.length (zs.map fun z => Value.int kd z)) : Rds kd w v zs := by
  obtain ⟨a, c, rfl, hn⟩ := owns_slice h
  refine ⟨a, c, rfl, fun hp => ?_⟩
  obtain ⟨g, rfl⟩ := hn hp
  refine ⟨g, 0, rfl, fun j hj => ?_⟩
  rw [Nat.zero_add]
  exact owns_cell h rfl j _ (by simp [List.getD, List.getElem?_eq_getElem hj])
set_option maxHeartbeats 400000 in
theorem fw_any (zs : List Int) (v : Value) (w : World) (hz : zs.length ≤ 140737488355328) (h : Rds .i32 w v zs) :
    Calls Tryd.prog 33 #[v] w fun e w' => e = .returned (.int .i64 (badFrom zs 0)) ∧ w' = w := by
  obtain ⟨a, c, rfl, hc⟩ := h
  cases zs with
  | nil =>
    clear hc
    show Calls Tryd.prog 33 #[.slice a 0 c] w fun e w' => e = .returned (.int .i64 (-1)) ∧ w' = w
    go_enter Tryd.func33, Tryd.ntmps33
    go_wp2_with fail
    refine wp_loop_rounds 1 ?_
    rw [rounds_succ]
    go_wp2
    go_ret
    exact ⟨rfl, rfl⟩
  | cons z l =>
    obtain ⟨g, off, rfl, hd⟩ := hc (by simp)
    exact firstWrong_any (z :: l) g off c w hz hd
/-- What Encode answers. -/
def encA (zs : List Int) : Value := if badFrom zs 0 = -1 then .tuple #[.string (runesBytes zs), .int .i64 0, .int .i64 0] else .tuple #[.string ⟨#[]⟩, .int .i64 (badFrom zs 0), .int .i64 20]
set_option maxHeartbeats 400000 in
theorem enc_any (zs : List Int) (v : Value) (w : World) (hz : zs.length ≤ 140737488355328) (h : Rds .i32 w v zs) :
    Calls Tryd.prog 12 #[v] w fun e w' => e = .returned (encA zs) ∧ w' = w := by
  have key := fw_any zs v w hz h
  obtain ⟨a, c, rfl, hc⟩ := h
  rcases badFrom_nonneg zs 0 with hb | hb
  · have e : encA zs = .tuple #[.string (runesBytes zs), .int .i64 0, .int .i64 0] := by unfold encA; rw [if_pos hb]
    rw [e]
    cases zs with
    | nil =>
      clear hc
      rw [hb] at key
      have hcv : (convert 23 9 (.slice a 0 c)).run Tryd.prog w = .ok (.string (runesBytes [])) w := by
        cases a with
        | none => exact run_convert_runes_nil w 23 9 21 0 c Tryd.underlying23 Tryd.underlying21 Tryd.underlying9
        | some ad => exact run_convert_runes w 23 9 21 ad 0 c [] (Nat.le_refl _) Tryd.underlying23 Tryd.underlying21 Tryd.underlying9 (fun j hj => by simp at hj)
      go_enter Tryd.func12, Tryd.ntmps12
      go_wp2_with (go_at_call 33; refine key.mono ?_; rintro e w' ⟨rfl, rfl⟩)
      go_ret3
      exact ⟨rfl, rfl⟩
    | cons z l =>
      obtain ⟨g, off, rfl, hd⟩ := hc (by simp)
      exact encode_right (z :: l) g off c w hz hd hb
  · have e : encA zs = .tuple #[.string ⟨#[]⟩, .int .i64 (badFrom zs 0), .int .i64 20] := by unfold encA; rw [if_neg (by omega)]
    rw [e]
    obtain ⟨z, hz0⟩ : ∃ z, badFrom zs 0 = z := ⟨_, rfl⟩
    rw [hz0] at key hb ⊢
    have h0 : 0 ≤ z := by omega
    clear hc hz0 hb e
    go_enter Tryd.func12, Tryd.ntmps12
    go_wp2_with (go_at_call 33; refine key.mono ?_; rintro e w' ⟨rfl, rfl⟩)
    go_ret3
    exact ⟨rfl, rfl⟩
/-- The law's same, at two lists that read the same. -/
theorem same_rds (zs : List Int) (v v' : Value) (w : World) (h1 : Rds .i32 w v zs) (h2 : Rds .i32 w v' zs) (hl : zs.length ≤ 140737488355328) :
    Calls Tryd.prog 13 #[v, v'] w fun e w' => e = .returned (.bool true) ∧ Below w.heap.size w w' := by
  obtain ⟨a1, c1, rfl, hn1⟩ := h1
  obtain ⟨a2, c2, rfl, hn2⟩ := h2
  go_enter Tryd.func13, Tryd.ntmps13
  go_wp2
  go_loopw [13] (fun i wr => ∃ (k m : Nat), i = .int .i64 k ∧ k ≤ zs.length ∧ wr = w.drewN m) (fun i _ => zs.length - (RowKit.intOf i).toNat)
  case atStart => exact ⟨0, 0, rfl, by omega, rfl⟩
  case round =>
    obtain ⟨k, m, rfl, hk, rfl⟩ := hrel
    by_cases hlt : k < zs.length
    · have hlti : (k : Int) < (zs.length : Int) := by omega
      obtain ⟨g1, o1, rfl, d1⟩ := hn1 (by omega)
      obtain ⟨g2, o2, rfl, d2⟩ := hn2 (by omega)
      have d1 := d1 k hlt
      have d2 := d2 k hlt
      obtain ⟨z, hz⟩ : ∃ z, zs.getD k 0 = z := ⟨_, rfl⟩
      rw [hz] at d1 d2
      clear hz hn1 hn2
      go_wp2
      go_quiet (fail)
      go_wp2
      exact ⟨⟨k + 1, _, by go_num, by omega, rfl⟩, by simp [RowKit.intOf]; omega⟩
    · have hlti : ¬ (k : Int) < (zs.length : Int) := by omega
      go_wp2
      go_ret
      exact ⟨rfl, below_drewN (Below.refl _ _) _⟩
end Go.Proofs.YtabofadjnbpjkabDoor
