/-
  The contracts of appendUnits, Units and the document's Units, at every list. No condition but that a list takes no more bytes than there are.
-/
import Derived.Test.YtabofadjnbpjkacDoorRe
namespace Go.Proofs.YtabofadjnbpjkacDoor
open Go.RowKit Go.Lib
theorem info69 : (Tryd.prog.info? 30).map (fun i => (i.zero, i.size, i.bytes)) = some (some (.int .u16 0), 1, 2) := by kernel_rfl
/-- The units of a scalar value. -/
def un1 (r : Int) : List Int := if r < 65536 then [r] else [55296 + (r - 65536) / 1024, 56320 + (r - 65536) % 1024]
def uns (zs : List Int) : List Int := zs.flatMap un1
theorem un1_len (r : Int) : (un1 r).length ≤ 2 := by unfold un1; split <;> simp
theorem uns_len : ∀ zs : List Int, (uns zs).length ≤ 2 * zs.length
  | [] => by simp [uns]
  | z :: l => by
    have h := uns_len l
    have h1 := un1_len z
    have : uns (z :: l) = un1 z ++ uns l := rfl
    rw [this, List.length_append, List.length_cons]
    omega
theorem uns_take (zs : List Int) (k : Nat) (h : k < zs.length) : uns (zs.take (k + 1)) = uns (zs.take k) ++ un1 (zs.getD k 0) := by
  have e : zs.take (k + 1) = zs.take k ++ [zs.getD k 0] := by
    rw [List.take_add_one, List.getElem?_eq_getElem h]
    simp [List.getD, List.getElem?_eq_getElem h]
  rw [e]
  simp [uns]
theorem and1023 (x : Nat) (hx : x < 2147483648) : bits .and .i32 (x : Int) 1023 = ((x % 1024 : Nat) : Int) := by
  have h1 : (BitVec.ofInt 32 (x : Int)).toNat = x := by
    rw [BitVec.ofInt_natCast, BitVec.toNat_ofNat]; exact Nat.mod_eq_of_lt (by omega)
  have h2 : (BitVec.ofInt 32 (1023 : Int)).toNat = 1023 := by decide
  have h3 : x &&& 1023 = x % 1024 := Nat.and_two_pow_sub_one_eq_mod x 10
  show IntKind.i32.wrap ((BitVec.ofInt 32 (x : Int) &&& BitVec.ofInt 32 (1023 : Int)).toNat : Int) = _
  rw [BitVec.toNat_and, h1, h2, h3]
  rw [IntKind.wrap_i32]; omega
theorem unitCount_any (r : Int) (w : World) : Calls Tryd.prog 38 #[.int .i32 r] w fun e w' => e = .returned (.int .i64 (if r < 65536 then 1 else 2)) ∧ w' = w := by
  by_cases h : r < 65536
  · rw [if_pos h]
    go_enter Tryd.func38, Tryd.ntmps38
    go_wp2
    go_ret
    exact ⟨rfl, rfl⟩
  · rw [if_neg h]
    go_enter Tryd.func38, Tryd.ntmps38
    go_wp2
    go_ret
    exact ⟨rfl, rfl⟩
set_option maxRecDepth 100000 in
set_option maxHeartbeats 1000000 in
theorem au_any (bs : List Int) (u : Value) (r : Int) (b : Nat) (w : World) (hown : w.ownsRow b 30 1 u bs.length (bs.map fun z => Value.int .u16 z)) (hb : b ≤ w.heap.size) (hv : Lib.validRune r = true) (hl : 2 * bs.length + 4 ≤ 140737488355328) :
    Calls Tryd.prog 21 #[u, .int .i32 r] w fun e w' => ∃ u', e = .returned u' ∧ w'.ownsRow b 30 1 u' (bs ++ un1 r).length ((bs ++ un1 r).map fun z => Value.int .u16 z) ∧ Below b w w' := by
  obtain ⟨i0, hi, hz0, hz1, hz2⟩ := info_parts info69
  have key := unitCount_any r w
  have hr2 : (0 ≤ r ∧ r < 55296) ∨ (57343 < r ∧ r ≤ 1114111) := by simpa [Lib.validRune] using hv
  have HO : Hid (w.ownsRow b 30 1 u bs.length (bs.map fun z => Value.int .u16 z)) := hown
  clear hown hv
  by_cases h : r < 65536
  · have e : un1 r = [r] := by unfold un1; rw [if_pos h]
    rw [if_pos h] at key
    rw [e]
    have hcn := cell_one_new w (.int .u16 r) 30
    clear e
    go_enter Tryd.func21, Tryd.ntmps21
    go_wp2_with (first | (go_at_call 38; refine key.mono ?_; rintro e w' ⟨rfl, rfl⟩) | (at_builtin; go_must (refine wpList_append_own _ rfl _ _ 35 rfl b 30 i0 (.int .u16 0) 1 2 Tryd.underlying35 hi hz0 hz1 hz2 rfl (by decide) _ _ _ rfl (HO.out.alloc _) ⟨_, 0, none⟩ 1 1 [.int .u16 r] rfl rfl hcn (by simp [Value.oneCell']) (by unfold maxLen; omega) (by omega) (by simp; omega) ?_)))
    intro v' w1 hown' hgrow _
    have hbel := ((Below.refl b w').alloc hb (.cells #[.int .u16 r] 30)).grown hgrow (by simp; omega) (fun j hj => (HO.out.lt j hj).1)
    have HW : Hid (w1.ownsRow b 30 1 v' (bs ++ [r]).length ((bs ++ [r]).map fun z => Value.int .u16 z)) := by
      unfold Hid
      rw [List.map_append, List.length_append]
      exact hown'
    clear hown' hgrow
    go_wp2
    go_ret
    exact ⟨_, rfl, HW.out, hbel⟩
  · have e : un1 r = [55296 + (r - 65536) / 1024, 56320 + (r - 65536) % 1024] := by unfold un1; rw [if_neg h]
    rw [if_neg h] at key
    rw [e]
    obtain ⟨a, ha⟩ : ∃ a, (r - 65536) / 1024 = a := ⟨_, rfl⟩
    obtain ⟨d, hd⟩ : ∃ d, (r - 65536) % 1024 = d := ⟨_, rfl⟩
    have hbit : bits .and .i32 (r - 65536) 1023 = d := by
      have := and1023 (r - 65536).toNat (by omega)
      rw [show (((r - 65536).toNat : Nat) : Int) = r - 65536 by omega] at this
      rw [this]
      omega
    rw [ha, hd]
    have ba : 0 ≤ a ∧ a < 1024 := by omega
    have bd : 0 ≤ d ∧ d < 1024 := by omega
    have hcn := cells_new w #[.int .u16 (55296 + a), .int .u16 (56320 + d)] 30
    clear e hd
    go_enter Tryd.func21, Tryd.ntmps21
    go_wp2_with (first | (go_at_call 38; refine key.mono ?_; rintro e w' ⟨rfl, rfl⟩) | (at_builtin; go_must (refine wpList_append_own _ rfl _ _ 35 rfl b 30 i0 (.int .u16 0) 1 2 Tryd.underlying35 hi hz0 hz1 hz2 rfl (by decide) _ _ _ rfl (HO.out.alloc _) ⟨_, 0, none⟩ 2 2 [.int .u16 (55296 + a), .int .u16 (56320 + d)] rfl rfl hcn (by simp [Value.oneCell']) (by unfold maxLen; omega) (by omega) (by simp; omega) ?_)))
    intro v' w1 hown' hgrow _
    have hbel := ((Below.refl b w').alloc hb (.cells #[.int .u16 (55296 + a), .int .u16 (56320 + d)] 30)).grown hgrow (by simp; omega) (fun j hj => (HO.out.lt j hj).1)
    have HW : Hid (w1.ownsRow b 30 1 v' (bs ++ [55296 + a, 56320 + d]).length ((bs ++ [55296 + a, 56320 + d]).map fun z => Value.int .u16 z)) := by
      unfold Hid
      rw [List.map_append, List.length_append]
      exact hown'
    clear hown' hgrow
    go_wp2
    go_ret
    exact ⟨_, rfl, HW.out, hbel⟩
/-- What Units answers: the place, the error, the list. -/
def unP (zs : List Int) : Int := if badFrom zs 0 = -1 then 0 else badFrom zs 0
def unE (zs : List Int) : Int := if badFrom zs 0 = -1 then 0 else 20
def unL (zs : List Int) : List Int := if badFrom zs 0 = -1 then uns zs else []
theorem unL_len (zs : List Int) : (unL zs).length ≤ 2 * zs.length := by
  unfold unL
  split
  · exact uns_len zs
  · simp
theorem rds_nil (kd : IntKind) (w : World) (a : Option Addr) (c : Nat) : Rds kd w (.slice a 0 c) [] := ⟨a, c, rfl, fun h => by simp at h⟩
set_option maxRecDepth 100000 in
set_option maxHeartbeats 2000000 in
theorem runits_any (zs : List Int) (v : Value) (w : World) (hz : 4 * zs.length ≤ 140737488355328) (h : Rds .i32 w v zs) :
    Calls Tryd.prog 26 #[v] w fun e w' => ∃ u, e = .returned (.tuple #[u, .int .i64 (unP zs), .int .i64 (unE zs)]) ∧ Rds .u16 w' u (unL zs) ∧ Below w.heap.size w w' := by
  obtain ⟨i0, hi, hz0, hz1, hz2⟩ := info_parts info69
  have HN : Hid (Rds .i32 w v zs) := h
  obtain ⟨a0, c0, rfl, hn⟩ := h
  go_enter Tryd.func26, Tryd.ntmps26
  go_wp2_with fail
  go_loopw [5, 11] (fun u i wr => ∃ (k : Nat), i = .int .i64 k ∧ k ≤ zs.length ∧ Hid (badFrom zs 0 = badFrom (zs.drop k) k ∧ wr.ownsRow w.heap.size 30 1 u (uns (zs.take k)).length ((uns (zs.take k)).map fun z => Value.int .u16 z) ∧ Below w.heap.size w wr)) (fun _ i _ => zs.length - (RowKit.intOf i).toNat)
  case atStart =>
    exact ⟨0, rfl, Nat.zero_le _, by simp, ⟨by simp [uns], .inr ⟨w.heap.size, 0, #[], by simp [uns], Nat.le_refl _, World.alloc_heap_new _ _, by simp [uns], by decide, rfl, by simp [uns]⟩⟩, (Below.refl _ _).alloc (Nat.le_refl _) _⟩
  case round =>
    obtain ⟨k, rfl, hk, HI⟩ := hrel
    obtain ⟨hbad, hown, hB⟩ := HI.out
    by_cases hlt : k < zs.length
    · have hlti : (k : Int) < (zs.length : Int) := by omega
      obtain ⟨g, off, rfl, _⟩ := hn (by omega)
      have hcl : wr.cell? ⟨g, off + k, none⟩ = some (.int .i32 (zs.getD k 0)) := by
        obtain ⟨a1, c1, e1, h1⟩ := HN.out.below hB
        cases e1
        obtain ⟨g1, o1, e1, h1⟩ := h1 (by omega)
        cases e1
        exact h1 k hlt
      have hT := uns_take zs k hlt
      have hL := uns_len (zs.take k)
      rw [List.length_take] at hL
      rw [badFrom_drop zs k hlt] at hbad
      obtain ⟨r, hr⟩ : ∃ r, zs.getD k 0 = r := ⟨_, rfl⟩
      rw [hr] at hcl hT hbad
      obtain ⟨bs, hbs⟩ : ∃ bs, uns (zs.take k) = bs := ⟨_, rfl⟩
      rw [hbs] at hT hown hL
      have hsz := hB.size
      have key := rscalar_any r
      have HB : Hid (Below w.heap.size w wr) := hB
      have HO : Hid (wr.ownsRow w.heap.size 30 1 u5 bs.length (bs.map fun z => Value.int .u16 z)) := hown
      clear hB hown hr hbs HI hn
      cases hv : Lib.validRune r
      · rw [hv, if_neg (by simp)] at hbad
        have HE : Hid (unP zs = k ∧ unE zs = 20 ∧ unL zs = []) := by
          unfold Hid unP unE unL
          rw [hbad, if_neg (by omega), if_neg (by omega), if_neg (by omega)]
          exact ⟨rfl, rfl, rfl⟩
        simp only [hv] at key
        clear hbad hv hT HN hz HO
        go_wp2_with (go_at_call 40; refine (key _).mono ?_; rintro e w' ⟨rfl, rfl⟩)
        go_ret3
        rw [HE.out.1, HE.out.2.1, HE.out.2.2]
        exact ⟨_, rfl, rds_nil _ _ _ _, HB.out.alloc hsz _⟩
      · rw [hv, if_pos rfl] at hbad
        have HD : Hid (badFrom zs 0 = badFrom (zs.drop (k + 1)) (k + 1)) := hbad
        have hr2 : (0 ≤ r ∧ r < 55296) ∨ (57343 < r ∧ r ≤ 1114111) := by simpa [Lib.validRune] using hv
        simp only [hv] at key
        clear hbad hv
        by_cases h1 : r < 65536
        · have he : un1 r = [r] := by unfold un1; rw [if_pos h1]
          rw [he] at hT
          have HT : Hid (uns (zs.take (k + 1)) = bs ++ [r]) := hT
          have hcn := cell_one_new wr (.int .u16 r) 30
          clear hT he
          go_wp2_with (first | (go_at_call 40; refine (key _).mono ?_; rintro e w' ⟨rfl, rfl⟩) | (at_builtin; go_must (refine wpList_append_own _ rfl _ _ 35 rfl w.heap.size 30 i0 (.int .u16 0) 1 2 Tryd.underlying35 hi hz0 hz1 hz2 rfl (by decide) _ _ _ rfl (HO.out.alloc _) ⟨_, 0, none⟩ 1 1 [.int .u16 r] rfl rfl hcn (by simp [Value.oneCell']) (by unfold maxLen; omega) (by omega) (by simp; omega) ?_)))
          intro v' w1 hown' hgrow _
          have hbel := (HB.out.alloc hsz (.cells #[.int .u16 r] 30)).grown hgrow (by simp; omega) (fun j hj => (HO.out.lt j hj).1)
          have HW : Hid (badFrom zs 0 = badFrom (zs.drop (k + 1)) (k + 1) ∧ w1.ownsRow w.heap.size 30 1 v' (uns (zs.take (k + 1))).length ((uns (zs.take (k + 1))).map fun z => Value.int .u16 z) ∧ Below w.heap.size w w1) := ⟨HD.out, by rw [HT.out, List.map_append, List.length_append]; exact hown', hbel⟩
          clear hown' hgrow hbel
          go_wp2
          exact ⟨⟨k + 1, by go_num, by omega, HW⟩, by simp [RowKit.intOf]; omega⟩
        · have he : un1 r = [55296 + (r - 65536) / 1024, 56320 + (r - 65536) % 1024] := by unfold un1; rw [if_neg h1]
          rw [he] at hT
          obtain ⟨a, ha⟩ : ∃ a, (r - 65536) / 1024 = a := ⟨_, rfl⟩
          obtain ⟨d, hd⟩ : ∃ d, (r - 65536) % 1024 = d := ⟨_, rfl⟩
          have t1 : (r - 65536).tdiv 1024 = a := by rw [Int.tdiv_eq_ediv_of_nonneg (by omega)]; exact ha
          have t2 : (r - 65536).tmod 1024 = d := by rw [Int.tmod_eq_emod_of_nonneg (by omega)]; exact hd
          rw [ha, hd] at hT
          have ba : 0 ≤ a ∧ a < 1024 := by omega
          have bd : 0 ≤ d ∧ d < 1024 := by omega
          have HT : Hid (uns (zs.take (k + 1)) = bs ++ [55296 + a, 56320 + d]) := hT
          have hcn := cells_new wr #[.int .u16 (55296 + a), .int .u16 (56320 + d)] 30
          clear hT he ha hd
          go_wp2_with (first | (go_at_call 40; refine (key _).mono ?_; rintro e w' ⟨rfl, rfl⟩) | (at_builtin; go_must (refine wpList_append_own _ rfl _ _ 35 rfl w.heap.size 30 i0 (.int .u16 0) 1 2 Tryd.underlying35 hi hz0 hz1 hz2 rfl (by decide) _ _ _ rfl (HO.out.alloc _) ⟨_, 0, none⟩ 2 2 [.int .u16 (55296 + a), .int .u16 (56320 + d)] rfl rfl hcn (by simp [Value.oneCell']) (by unfold maxLen; omega) (by omega) (by simp; omega) ?_)))
          intro v' w1 hown' hgrow _
          have hbel := (HB.out.alloc hsz (.cells #[.int .u16 (55296 + a), .int .u16 (56320 + d)] 30)).grown hgrow (by simp; omega) (fun j hj => (HO.out.lt j hj).1)
          have HW : Hid (badFrom zs 0 = badFrom (zs.drop (k + 1)) (k + 1) ∧ w1.ownsRow w.heap.size 30 1 v' (uns (zs.take (k + 1))).length ((uns (zs.take (k + 1))).map fun z => Value.int .u16 z) ∧ Below w.heap.size w w1) := ⟨HD.out, by rw [HT.out, List.map_append, List.length_append]; exact hown', hbel⟩
          clear hown' hgrow hbel
          go_wp2
          exact ⟨⟨k + 1, by go_num, by omega, HW⟩, by simp [RowKit.intOf]; omega⟩
    · have hlti : ¬ (k : Int) < (zs.length : Int) := by omega
      have e : k = zs.length := by omega
      subst e
      rw [List.drop_length] at hbad
      rw [List.take_length] at hown
      have hres := Rds.of_owns hown
      have HE : Hid (unP zs = 0 ∧ unE zs = 0 ∧ unL zs = uns zs) := by
        have hb2 : badFrom zs 0 = -1 := hbad
        unfold Hid unP unE unL
        rw [if_pos hb2, if_pos hb2, if_pos hb2]
        exact ⟨rfl, rfl, rfl⟩
      clear hbad hown
      go_wp2
      go_ret3
      rw [HE.out.1, HE.out.2.1, HE.out.2.2]
      exact ⟨_, rfl, hres, hB⟩
end Go.Proofs.YtabofadjnbpjkacDoor
