/-
  The contracts of appendUnits, Units and the document's Units, at every list. No condition but that a list takes no more bytes than there are.
-/
import Derived.Test.YtabofadjnbpjkabDoorRe
namespace Go.Proofs.YtabofadjnbpjkabDoor.U
open Go.RowKit Go.Lib
theorem info69 : (Tryd.prog.info? 73).map (fun i => (i.zero, i.size, i.bytes)) = some (some (.int .u16 0), 1, 2) := by kernel_rfl
/-- The units of a scalar value. -/
def un1 (r : Int) : List Int := if r < 65536 then [r] else [55296 + (r - 65536) / 1024, 56320 + (r - 65536) % 1024]
def uns (zs : List Int) : List Int := zs.flatMap un1
theorem un1_len (r : Int) : (un1 r).length ≤ 2 := by unfold un1; split <;> simp
theorem uns_len : ∀ zs : List Int, (uns zs).length ≤ 2 * zs.length
  | [] => by simp [uns]
  | z :: l => by
    have h := uns_len l
    have h1 := un1_len z
    have : uns (z :: l) = un1 z ++ uns l := rfl
    rw [this, List.length_append, List.length_cons]
    omega
theorem uns_take (zs : List Int) (k : Nat) (h : k < zs.length) : uns (zs.take (k + 1)) = uns (zs.take k) ++ un1 (zs.getD k 0) := by
  have e : zs.take (k + 1) = zs.take k ++ [zs.getD k 0] := by
    rw [List.take_add_one, List.getElem?_eq_getElem h]
    simp [List.getD, List.getElem?_eq_getElem h]
  rw [e]
  simp [uns]
theorem and1023 (x : Nat) (hx : x < 2147483648) : bits .and .i32 (x : Int) 1023 = ((x % 1024 : Nat) : Int) := by
  have h1 : (BitVec.ofInt 32 (x : Int)).toNat = x := by
    rw [BitVec.ofInt_natCast, BitVec.toNat_ofNat]; exact Nat.mod_eq_of_lt (by omega)
  have h2 : (BitVec.ofInt 32 (1023 : Int)).toNat = 1023 := by decide
  have h3 : x &&& 1023 = x % 1024 := Nat.and_two_pow_sub_one_eq_mod x 10
  show IntKind.i32.wrap ((BitVec.ofInt 32 (x : Int) &&& BitVec.ofInt 32 (1023 : Int)).toNat : Int) = _
  rw [BitVec.toNat_and, h1, h2, h3]
  rw [IntKind.wrap_i32]; omega
theorem unitCount_any (r : Int) (w : World) : Calls Tryd.prog 42 #[.int .i32 r] w fun e w' => e = .returned (.int .i64 (if r < 65536 then 1 else 2)) ∧ w' = w := by
  by_cases h : r < 65536
  · rw [if_pos h]
    go_enter Tryd.func42, Tryd.ntmps42
    go_wp2
    go_ret
    exact ⟨rfl, rfl⟩
  · rw [if_neg h]
    go_enter Tryd.func42, Tryd.ntmps42
    go_wp2
    go_ret
    exact ⟨rfl, rfl⟩
set_option maxRecDepth 100000 in
set_option maxHeartbeats 1000000 in
theorem au_any (bs : List Int) (u : Value) (r : Int) (b : Nat) (w : World) (hown : w.ownsRow b 73 1 u bs.length (bs.map fun z => Value.int .u16 z)) (hb : b ≤ w.heap.size) (hv : Lib.validRune r = true) (hl : 2 * bs.length + 4 ≤ 140737488355328) :
    Calls Tryd.prog 39 #[u, .int .i32 r] w fun e w' => ∃ u', e = .returned u' ∧ w'.ownsRow b 73 1 u' (bs ++ un1 r).length ((bs ++ un1 r).map fun z => Value.int .u16 z) ∧ Below b w w' := by
  obtain ⟨i0, hi, hz0, hz1, hz2⟩ := info_parts info69
  have key := unitCount_any r w
  have hr2 : (0 ≤ r ∧ r < 55296) ∨ (57343 < r ∧ r ≤ 1114111) := by simpa [Lib.validRune] using hv
  have HO : Hid (w.ownsRow b 73 1 u bs.length (bs.map fun z => Value.int .u16 z)) := hown
  clear hown hv
  by_cases h : r < 65536
  · have e : un1 r = [r] := by unfold un1; rw [if_pos h]
    rw [if_pos h] at key
    rw [e]
    have hcn := cell_one_new w (.int .u16 r) 73
    clear e
    go_enter Tryd.func39, Tryd.ntmps39
    go_wp2_with (first | (go_at_call 42; refine key.mono ?_; rintro e w' ⟨rfl, rfl⟩) | (at_builtin; go_must (refine wpList_append_own _ rfl _ _ 43 rfl b 73 i0 (.int .u16 0) 1 2 Tryd.underlying43 hi hz0 hz1 hz2 rfl (by decide) _ _ _ rfl (HO.out.alloc _) ⟨_, 0, none⟩ 1 1 [.int .u16 r] rfl rfl hcn (by simp [Value.oneCell']) (by unfold maxLen; omega) (by omega) (by simp; omega) ?_)))
    intro v' w1 hown' hgrow _
    have hbel := ((Below.refl b w').alloc hb (.cells #[.int .u16 r] 73)).grown hgrow (by simp; omega) (fun j hj => (HO.out.lt j hj).1)
    have HW : Hid (w1.ownsRow b 73 1 v' (bs ++ [r]).length ((bs ++ [r]).map fun z => Value.int .u16 z)) := by
      unfold Hid
      rw [List.map_append, List.length_append]
      exact hown'
    clear hown' hgrow
    go_wp2
    go_ret
    exact ⟨_, rfl, HW.out, hbel⟩
  · have e : un1 r = [55296 + (r - 65536) / 1024, 56320 + (r - 65536) % 1024] := by unfold un1; rw [if_neg h]
    rw [if_neg h] at key
    rw [e]
    obtain ⟨a, ha⟩ : ∃ a, (r - 65536) / 1024 = a := ⟨_, rfl⟩
    obtain ⟨d, hd⟩ : ∃ d, (r - 65536) % 1024 = d := ⟨_, rfl⟩
    have hbit : bits .and .i32 (r - 65536) 1023 = d := by
      have := and1023 (r - 65536).toNat (by omega)
      rw [show (((r - 65536).toNat : Nat) : Int) = r - 65536 by omega] at this
      rw [this]
      omega
    rw [ha, hd]
    have ba : 0 ≤ a ∧ a < 1024 := by omega
    have bd : 0 ≤ d ∧ d < 1024 := by omega
    have hcn := cells_new w #[.int .u16 (55296 + a), .int .u16 (56320 + d)] 73
    clear e hd
    go_enter Tryd.func39, Tryd.ntmps39
    go_wp2_with (first | (go_at_call 42; refine key.mono ?_; rintro e w' ⟨rfl, rfl⟩) | (at_builtin; go_must (refine wpList_append_own _ rfl _ _ 43 rfl b 73 i0 (.int .u16 0) 1 2 Tryd.underlying43 hi hz0 hz1 hz2 rfl (by decide) _ _ _ rfl (HO.out.alloc _) ⟨_, 0, none⟩ 2 2 [.int .u16 (55296 + a), .int .u16 (56320 + d)] rfl rfl hcn (by simp [Value.oneCell']) (by unfold maxLen; omega) (by omega) (by simp; omega) ?_)))
    intro v' w1 hown' hgrow _
    have hbel := ((Below.refl b w').alloc hb (.cells #[.int .u16 (55296 + a), .int .u16 (56320 + d)] 73)).grown hgrow (by simp; omega) (fun j hj => (HO.out.lt j hj).1)
    have HW : Hid (w1.ownsRow b 73 1 v' (bs ++ [55296 + a, 56320 + d]).length ((bs ++ [55296 + a, 56320 + d]).map fun z => Value.int .u16 z)) := by
      unfold Hid
      rw [List.map_append, List.length_append]
      exact hown'
    clear hown' hgrow
    go_wp2
    go_ret
    exact ⟨_, rfl, HW.out, hbel⟩
/-- What Units answers: the place, the error, the list. -/
def unP (zs : List Int) : Int := if badFrom zs 0 = -1 then 0 else badFrom zs 0
def unE (zs : List Int) : Int := if badFrom zs 0 = -1 then 0 else 20
def unL (zs : List Int) : List Int := if badFrom zs 0 = -1 then uns zs else []
theorem unL_len (zs : List Int) : (unL zs).length ≤ 2 * zs.length := by
  unfold unL
  split
  · exact uns_len zs
  · simp
theorem rds_nil (kd : IntKind) (w : World) (a : Option Addr) (c : Nat) : Rds kd w (.slice a 0 c) [] := ⟨a, c, rfl, fun h => by simp at h⟩
set_option maxRecDepth 100000 in
set_option maxHeartbeats 1000000 in
theorem units_any (zs : List Int) (v : Value) (w : World) (hz : 4 * zs.length ≤ 140737488355328) (h : Rds .i32 w v zs) :
    Calls Tryd.prog 22 #[v] w fun e w' => ∃ u, e = .returned (.tuple #[u, .int .i64 (unP zs), .int .i64 (unE zs)]) ∧ Rds .u16 w' u (unL zs) ∧ Below w.heap.size w w' := by
  have key := fw_any zs v w (by omega) h
  have HN : Hid (Rds .i32 w v zs) := h
  obtain ⟨a0, c0, rfl, hn⟩ := h
  rcases badFrom_nonneg zs 0 with hb | hb
  · have hp : unP zs = 0 := by unfold unP; rw [if_pos hb]
    have he : unE zs = 0 := by unfold unE; rw [if_pos hb]
    have hu : unL zs = uns zs := by unfold unL; rw [if_pos hb]
    have hval := (all_valid zs 0).1 hb
    rw [hp, he, hu]
    rw [hb] at key
    clear hp he hu hb
    go_enter Tryd.func22, Tryd.ntmps22
    go_wp2_with (go_at_call 33; refine key.mono ?_; rintro e w' ⟨rfl, rfl⟩)
    go_loopw [6, 16] (fun u i wr => ∃ (k : Nat), i = .int .i64 k ∧ k ≤ zs.length ∧ Hid (wr.ownsRow w'.heap.size 73 1 u (uns (zs.take k)).length ((uns (zs.take k)).map fun z => Value.int .u16 z) ∧ Below w'.heap.size w' wr)) (fun _ i _ => zs.length - (RowKit.intOf i).toNat)
    case atStart => exact ⟨0, rfl, Nat.zero_le _, World.ownsRow_nil _ _ _ _, Below.refl _ _⟩
    case round =>
      obtain ⟨k, rfl, hk, HI⟩ := hrel
      obtain ⟨hown, hB⟩ := HI.out
      by_cases hlt : k < zs.length
      · have hlti : (k : Int) < (zs.length : Int) := by omega
        obtain ⟨g, off, rfl, _⟩ := hn (by omega)
        have hcl : wr.cell? ⟨g, off + k, none⟩ = some (.int .i32 (zs.getD k 0)) := by
          obtain ⟨a1, c1, e1, h1⟩ := HN.out.below hB
          cases e1
          obtain ⟨g1, o1, e1, h1⟩ := h1 (by omega)
          cases e1
          exact h1 k hlt
        have hT := uns_take zs k hlt
        have hL := uns_len (zs.take k)
        rw [List.length_take] at hL
        have hv : Lib.validRune (zs.getD k 0) = true := hval _ (by simp [List.getD, List.getElem?_eq_getElem hlt])
        have k2 := au_any (uns (zs.take k)) u6 (zs.getD k 0) w'.heap.size wr hown hB.size hv (by omega)
        rw [← hT] at k2
        obtain ⟨r, hr⟩ : ∃ r, zs.getD k 0 = r := ⟨_, rfl⟩
        rw [hr] at hcl k2
        have HB : Hid (Below w'.heap.size w' wr) := hB
        clear hT hown hr hv HI hn hB key
        go_wp2_with (go_at_call 39; refine k2.mono ?_; rintro e w2 ⟨u', rfl, ho2, hb2⟩)
        exact ⟨⟨k + 1, by go_num, by omega, ho2, HB.out.trans hb2⟩, by simp [RowKit.intOf]; omega⟩
      · have hlti : ¬ (k : Int) < (zs.length : Int) := by omega
        have e : k = zs.length := by omega
        subst e
        rw [List.take_length] at hown
        have hres := Rds.of_owns hown
        clear hown
        go_wp2
        go_ret3
        exact ⟨_, rfl, hres, hB⟩
  · have hp : unP zs = badFrom zs 0 := by unfold unP; rw [if_neg (by omega)]
    have he : unE zs = 20 := by unfold unE; rw [if_neg (by omega)]
    have hu : unL zs = [] := by unfold unL; rw [if_neg (by omega)]
    rw [hp, he, hu]
    obtain ⟨z, hz0⟩ : ∃ z, badFrom zs 0 = z := ⟨_, rfl⟩
    rw [hz0] at key hb ⊢
    have h0 : 0 ≤ z := by omega
    clear hz0 hb hp he hu hn
    go_enter Tryd.func22, Tryd.ntmps22
    go_wp2_with (go_at_call 33; refine key.mono ?_; rintro e w' ⟨rfl, rfl⟩)
    go_ret3
    exact ⟨_, rfl, rds_nil _ _ _ _, Below.refl _ _⟩
end Go.Proofs.YtabofadjnbpjkabDoor.U
