/-
  The contract of the document's Units once more: the list that it answers is memory of its own. Conditions: the list takes no more bytes than there are.
-/
import Derived.Test.YtabofadjnbpjkacDoorUn
namespace Go.Proofs.YtabofadjnbpjkacDoor
open Go.RowKit Go.Lib
set_option maxRecDepth 100000 in
set_option maxHeartbeats 2000000 in
theorem runits_own (zs : List Int) (v : Value) (w : World) (hz : 4 * zs.length ≤ 140737488355328) (h : Rds .i32 w v zs) :
    Calls Tryd.prog 26 #[v] w fun e w' => ∃ u, e = .returned (.tuple #[u, .int .i64 (unP zs), .int .i64 (unE zs)]) ∧ (badFrom zs 0 = -1 → w'.ownsRow w.heap.size 30 1 u (uns zs).length ((uns zs).map fun z => Value.int .u16 z)) ∧ Below w.heap.size w w' := by
  obtain ⟨i0, hi, hz0, hz1, hz2⟩ := info_parts info69
  have HN : Hid (Rds .i32 w v zs) := h
  obtain ⟨a0, c0, rfl, hn⟩ := h
  go_enter Tryd.func26, Tryd.ntmps26
  go_wp2_with fail
  go_loopw [5, 11] (fun u i wr => ∃ (k : Nat), i = .int .i64 k ∧ k ≤ zs.length ∧ Hid (badFrom zs 0 = badFrom (zs.drop k) k ∧ wr.ownsRow w.heap.size 30 1 u (uns (zs.take k)).length ((uns (zs.take k)).map fun z => Value.int .u16 z) ∧ Below w.heap.size w wr)) (fun _ i _ => zs.length - (RowKit.intOf i).toNat)
  case atStart =>
    exact ⟨0, rfl, Nat.zero_le _, by simp, ⟨by simp [uns], .inr ⟨w.heap.size, 0, #[], by simp [uns], Nat.le_refl _, World.alloc_heap_new _ _, by simp [uns], by decide, rfl, by simp [uns]⟩⟩, (Below.refl _ _).alloc (Nat.le_refl _) _⟩
  case round =>
    obtain ⟨k, rfl, hk, HI⟩ := hrel
    obtain ⟨hbad, hown, hB⟩ := HI.out
    by_cases hlt : k < zs.length
    · have hlti : (k : Int) < (zs.length : Int) := by omega
      obtain ⟨g, off, rfl, _⟩ := hn (by omega)
      have hcl : wr.cell? ⟨g, off + k, none⟩ = some (.int .i32 (zs.getD k 0)) := by
        obtain ⟨a1, c1, e1, h1⟩ := HN.out.below hB
        cases e1
        obtain ⟨g1, o1, e1, h1⟩ := h1 (by omega)
        cases e1
        exact h1 k hlt
      have hT := uns_take zs k hlt
      have hL := uns_len (zs.take k)
      rw [List.length_take] at hL
      rw [badFrom_drop zs k hlt] at hbad
      obtain ⟨r, hr⟩ : ∃ r, zs.getD k 0 = r := ⟨_, rfl⟩
      rw [hr] at hcl hT hbad
      obtain ⟨bs, hbs⟩ : ∃ bs, uns (zs.take k) = bs := ⟨_, rfl⟩
      rw [hbs] at hT hown hL
      have hsz := hB.size
      have key := rscalar_any r
      have HB : Hid (Below w.heap.size w wr) := hB
      have HO : Hid (wr.ownsRow w.heap.size 30 1 u5 bs.length (bs.map fun z => Value.int .u16 z)) := hown
      clear hB hown hr hbs HI hn
      cases hv : Lib.validRune r
      · rw [hv, if_neg (by simp)] at hbad
        have HE : Hid (unP zs = k ∧ unE zs = 20 ∧ badFrom zs 0 = (k : Int)) := by
          unfold Hid unP unE
          rw [hbad, if_neg (by omega), if_neg (by omega)]
          exact ⟨rfl, rfl, rfl⟩
        simp only [hv] at key
        clear hbad hv hT HN hz HO
        go_wp2_with (go_at_call 40; refine (key _).mono ?_; rintro e w' ⟨rfl, rfl⟩)
        go_ret3
        rw [HE.out.1, HE.out.2.1]
        exact ⟨_, rfl, fun hq => by rw [HE.out.2.2] at hq; omega, HB.out.alloc hsz _⟩
      · rw [hv, if_pos rfl] at hbad
        have HD : Hid (badFrom zs 0 = badFrom (zs.drop (k + 1)) (k + 1)) := hbad
        have hr2 : (0 ≤ r ∧ r < 55296) ∨ (57343 < r ∧ r ≤ 1114111) := by simpa [Lib.validRune] using hv
        simp only [hv] at key
        clear hbad hv
        by_cases h1 : r < 65536
        · have he : un1 r = [r] := by unfold un1; rw [if_pos h1]
          rw [he] at hT
          have HT : Hid (uns (zs.take (k + 1)) = bs ++ [r]) := hT
          have hcn := cell_one_new wr (.int .u16 r) 30
          clear hT he
          go_wp2_with (first | (go_at_call 40; refine (key _).mono ?_; rintro e w' ⟨rfl, rfl⟩) | (at_builtin; go_must (refine wpList_append_own _ rfl _ _ 35 rfl w.heap.size 30 i0 (.int .u16 0) 1 2 Tryd.underlying35 hi hz0 hz1 hz2 rfl (by decide) _ _ _ rfl (HO.out.alloc _) ⟨_, 0, none⟩ 1 1 [.int .u16 r] rfl rfl hcn (by simp [Value.oneCell']) (by unfold maxLen; omega) (by omega) (by simp; omega) ?_)))
          intro v' w1 hown' hgrow _
          have hbel := (HB.out.alloc hsz (.cells #[.int .u16 r] 30)).grown hgrow (by simp; omega) (fun j hj => (HO.out.lt j hj).1)
          have HW : Hid (badFrom zs 0 = badFrom (zs.drop (k + 1)) (k + 1) ∧ w1.ownsRow w.heap.size 30 1 v' (uns (zs.take (k + 1))).length ((uns (zs.take (k + 1))).map fun z => Value.int .u16 z) ∧ Below w.heap.size w w1) := ⟨HD.out, by rw [HT.out, List.map_append, List.length_append]; exact hown', hbel⟩
          clear hown' hgrow hbel
          go_wp2
          exact ⟨⟨k + 1, by go_num, by omega, HW⟩, by simp [RowKit.intOf]; omega⟩
        · have he : un1 r = [55296 + (r - 65536) / 1024, 56320 + (r - 65536) % 1024] := by unfold un1; rw [if_neg h1]
          rw [he] at hT
          obtain ⟨a, ha⟩ : ∃ a, (r - 65536) / 1024 = a := ⟨_, rfl⟩
          obtain ⟨d, hd⟩ : ∃ d, (r - 65536) % 1024 = d := ⟨_, rfl⟩
          have t1 : (r - 65536).tdiv 1024 = a := by rw [Int.tdiv_eq_ediv_of_nonneg (by omega)]; exact ha
          have t2 : (r - 65536).tmod 1024 = d := by rw [Int.tmod_eq_emod_of_nonneg (by omega)]; exact hd
          rw [ha, hd] at hT
          have ba : 0 ≤ a ∧ a < 1024 := by omega
          have bd : 0 ≤ d ∧ d < 1024 := by omega
          have HT : Hid (uns (zs.take (k + 1)) = bs ++ [55296 + a, 56320 + d]) := hT
          have hcn := cells_new wr #[.int .u16 (55296 + a), .int .u16 (56320 + d)] 30
          clear hT he ha hd
          go_wp2_with (first | (go_at_call 40; refine (key _).mono ?_; rintro e w' ⟨rfl, rfl⟩) | (at_builtin; go_must (refine wpList_append_own _ rfl _ _ 35 rfl w.heap.size 30 i0 (.int .u16 0) 1 2 Tryd.underlying35 hi hz0 hz1 hz2 rfl (by decide) _ _ _ rfl (HO.out.alloc _) ⟨_, 0, none⟩ 2 2 [.int .u16 (55296 + a), .int .u16 (56320 + d)] rfl rfl hcn (by simp [Value.oneCell']) (by unfold maxLen; omega) (by omega) (by simp; omega) ?_)))
          intro v' w1 hown' hgrow _
          have hbel := (HB.out.alloc hsz (.cells #[.int .u16 (55296 + a), .int .u16 (56320 + d)] 30)).grown hgrow (by simp; omega) (fun j hj => (HO.out.lt j hj).1)
          have HW : Hid (badFrom zs 0 = badFrom (zs.drop (k + 1)) (k + 1) ∧ w1.ownsRow w.heap.size 30 1 v' (uns (zs.take (k + 1))).length ((uns (zs.take (k + 1))).map fun z => Value.int .u16 z) ∧ Below w.heap.size w w1) := ⟨HD.out, by rw [HT.out, List.map_append, List.length_append]; exact hown', hbel⟩
          clear hown' hgrow hbel
          go_wp2
          exact ⟨⟨k + 1, by go_num, by omega, HW⟩, by simp [RowKit.intOf]; omega⟩
    · have hlti : ¬ (k : Int) < (zs.length : Int) := by omega
      have e : k = zs.length := by omega
      subst e
      rw [List.drop_length] at hbad
      rw [List.take_length] at hown
      have HW : Hid (wr.ownsRow w.heap.size 30 1 u5 (uns zs).length ((uns zs).map fun z => Value.int .u16 z)) := hown
      have HE : Hid (unP zs = 0 ∧ unE zs = 0) := by
        have hb2 : badFrom zs 0 = -1 := hbad
        unfold Hid unP unE
        rw [if_pos hb2, if_pos hb2]
        exact ⟨rfl, rfl⟩
      clear hbad hown
      go_wp2
      go_ret3
      rw [HE.out.1, HE.out.2]
      exact ⟨_, rfl, fun _ => HW.out, hB⟩
end Go.Proofs.YtabofadjnbpjkacDoor
