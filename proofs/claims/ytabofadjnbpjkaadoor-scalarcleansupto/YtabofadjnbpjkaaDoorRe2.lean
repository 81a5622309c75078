/-
  The contract of the document's Encode, at every list. No condition but that a list takes no more bytes than there are.
-/
import Derived.Test.YtabofadjnbpjkaaDoorRe
namespace Go.Proofs.YtabofadjnbpjkaaDoor
open Go.RowKit Go.Lib
theorem info5 : (Tryd.prog.info? 5).map (fun i => (i.zero, i.size, i.bytes)) = some (some (.int .u8 0), 1, 1) := by kernel_rfl
/-- What a round keeps. -/
def EncIn (zs : List Int) (w : World) (k : Nat) (u : Value) (wr : World) : Prop :=
  k ≤ zs.length ∧ badFrom zs 0 = badFrom (zs.drop k) k ∧ wr.ownsRow w.heap.size 5 1 u (encs (zs.take k)).length ((encs (zs.take k)).map fun z => Value.int .u8 z) ∧ Below w.heap.size w wr
theorem encs_take (zs : List Int) (k : Nat) (h : k < zs.length) : encs (zs.take (k + 1)) = encs (zs.take k) ++ enc1 (zs.getD k 0) := by
  rw [← encs_snoc, List.take_add_one, List.getElem?_eq_getElem h]
  simp [List.getD, List.getElem?_eq_getElem h]
set_option maxRecDepth 100000 in
set_option maxHeartbeats 4000000 in
theorem renc_any (zs : List Int) (v : Value) (w : World) (hz : 4 * zs.length ≤ 140737488355328) (h : Rds .i32 w v zs) :
    Calls Tryd.prog 24 #[v] w fun e w' => e = .returned (encA zs) ∧ Below w.heap.size w w' := by
  obtain ⟨a0, c0, rfl, hn⟩ := h
  obtain ⟨i0, hi, hz0, hz1, hz2⟩ := info_parts info5
  have HN : Hid (Rds .i32 w (.slice a0 zs.length c0) zs) := ⟨a0, c0, rfl, hn⟩
  go_enter Tryd.func24, Tryd.ntmps24
  go_wp2_with fail
  go_loopw [5, 11] (fun u i wr => ∃ (k : Nat), i = .int .i64 k ∧ Hid (EncIn zs w k u wr)) (fun _ i _ => zs.length - (RowKit.intOf i).toNat)
  case atStart =>
    exact ⟨0, rfl, Nat.zero_le _, by simp, ⟨by simp [encs], .inr ⟨w.heap.size, 0, #[], by simp [encs], Nat.le_refl _, World.alloc_heap_new _ _, by simp [encs], by decide, rfl, by simp [encs]⟩⟩, (Below.refl _ _).alloc (Nat.le_refl _) _⟩
  case round =>
    obtain ⟨k, rfl, HI⟩ := hrel
    obtain ⟨hk, hbad, hown, hB⟩ := HI.out
    by_cases hlt : k < zs.length
    · have hlti : (k : Int) < (zs.length : Int) := by omega
      obtain ⟨g, off, rfl, _⟩ := hn (by omega)
      have hcl : wr.cell? ⟨g, off + k, none⟩ = some (.int .i32 (zs.getD k 0)) := by
        obtain ⟨a1, c1, e1, h1⟩ := HN.out.below hB
        cases e1
        obtain ⟨g1, o1, e1, h1⟩ := h1 (by omega)
        cases e1
        exact h1 k hlt
      have hT := encs_take zs k hlt
      have hL := encs_len (zs.take k)
      rw [List.length_take] at hL
      rw [badFrom_drop zs k hlt] at hbad
      obtain ⟨r, hr⟩ : ∃ r, zs.getD k 0 = r := ⟨_, rfl⟩
      rw [hr] at hcl hT hbad
      obtain ⟨bs, hbs⟩ : ∃ bs, encs (zs.take k) = bs := ⟨_, rfl⟩
      rw [hbs] at hT hown hL
      have hsz := hB.size
      have key := rwidth_any r
      have HB : Hid (Below w.heap.size w wr) := hB
      have HO : Hid (wr.ownsRow w.heap.size 5 1 u5 bs.length (bs.map fun z => Value.int .u8 z)) := hown
      clear hB hown hr hbs HI hn
      cases hv : Lib.validRune r
      · have hw : widthZ r = 0 := by unfold widthZ; rw [if_neg (by simp [hv])]
        rw [hv, if_neg (by simp)] at hbad
        have HE : Hid (encA zs = .tuple #[.string ⟨#[]⟩, .int .i64 k, .int .i64 20]) := by
          unfold Hid encA
          rw [hbad, if_neg (by omega)]
        simp only [hw] at key
        clear hbad hw hv hT HN hz
        go_wp2_with (go_at_call 13; refine (key _).mono ?_; rintro e w' ⟨rfl, rfl⟩)
        go_ret3
        rw [HE.out]
        exact ⟨rfl, HB.out⟩
      · rw [hv, if_pos rfl] at hbad
        have HD : Hid (badFrom zs 0 = badFrom (zs.drop (k + 1)) (k + 1)) := hbad
        have hr2 : (0 ≤ r ∧ r < 55296) ∨ (57343 < r ∧ r ≤ 1114111) := by simpa [Lib.validRune] using hv
        clear hbad
        by_cases h1 : r < 128
        · have hw : widthZ r = 1 := by unfold widthZ; rw [if_pos hv, if_pos h1]
          have he : enc1 r = [r] := by unfold enc1; rw [if_pos h1]
          simp only [hw] at key
          rw [he] at hT
          have HT : Hid (encs (zs.take (k + 1)) = bs ++ [r]) := hT
          have hcn := cells_new wr #[.int .u8 (r)] 5
          clear hT he hw hv 
          go_wp2_with (first | (go_at_call 13; refine (key _).mono ?_; rintro e w' ⟨rfl, rfl⟩) | (at_builtin; go_must (refine wpList_append_own _ rfl _ _ 67 rfl w.heap.size 5 i0 (.int .u8 0) 1 1 Tryd.underlying67 hi hz0 hz1 hz2 rfl (by decide) _ _ _ rfl (HO.out.alloc _) ⟨_, 0, none⟩ 1 1 [.int .u8 (r)] rfl rfl hcn (by simp [Value.oneCell']) (by unfold maxLen; omega) (by omega) (by simp; omega) ?_)))
          intro v' w1 hown' hgrow _
          have hbel := (HB.out.alloc hsz (.cells #[.int .u8 (r)] 5)).grown hgrow (by simp; omega) (fun j hj => (HO.out.lt j hj).1)
          have HW : Hid (EncIn zs w (k + 1) v' w1) := ⟨by omega, HD.out, by rw [HT.out, List.map_append, List.length_append]; exact hown', hbel⟩
          clear hown' hgrow hbel
          go_wp2
          exact ⟨⟨k + 1, by go_num, HW⟩, by simp [RowKit.intOf]; omega⟩
        · by_cases h2 : r < 2048
          · have hw : widthZ r = 2 := by unfold widthZ; rw [if_pos hv, if_neg h1, if_pos h2]
            have he : enc1 r = [192 + r / 64, 128 + r % 64] := by unfold enc1; rw [if_neg h1, if_pos h2]
            simp only [hw] at key
            rw [he] at hT
            obtain ⟨a, ha⟩ : ∃ a, r / 64 = a := ⟨_, rfl⟩
            obtain ⟨b, hb⟩ : ∃ b, r % 64 = b := ⟨_, rfl⟩
            have t1 : (r).tdiv 64 = a := by rw [Int.tdiv_eq_ediv_of_nonneg (by omega)]; exact ha
            have t2 : (r).tmod 64 = b := by rw [Int.tmod_eq_emod_of_nonneg (by omega)]; exact hb
            rw [ha, hb] at hT
            have ba : 2 ≤ a ∧ a < 32 := by omega
            have bb : 0 ≤ b ∧ b < 64 := by omega
            have HT : Hid (encs (zs.take (k + 1)) = bs ++ [192 + a, 128 + b]) := hT
            have hcn := cells_new wr #[.int .u8 (192 + a), .int .u8 (128 + b)] 5
            clear hT he hw hv ha hb
            go_wp2_with (first | (go_at_call 13; refine (key _).mono ?_; rintro e w' ⟨rfl, rfl⟩) | (at_builtin; go_must (refine wpList_append_own _ rfl _ _ 67 rfl w.heap.size 5 i0 (.int .u8 0) 1 1 Tryd.underlying67 hi hz0 hz1 hz2 rfl (by decide) _ _ _ rfl (HO.out.alloc _) ⟨_, 0, none⟩ 2 2 [.int .u8 (192 + a), .int .u8 (128 + b)] rfl rfl hcn (by simp [Value.oneCell']) (by unfold maxLen; omega) (by omega) (by simp; omega) ?_)))
            intro v' w1 hown' hgrow _
            have hbel := (HB.out.alloc hsz (.cells #[.int .u8 (192 + a), .int .u8 (128 + b)] 5)).grown hgrow (by simp; omega) (fun j hj => (HO.out.lt j hj).1)
            have HW : Hid (EncIn zs w (k + 1) v' w1) := ⟨by omega, HD.out, by rw [HT.out, List.map_append, List.length_append]; exact hown', hbel⟩
            clear hown' hgrow hbel
            go_wp2
            exact ⟨⟨k + 1, by go_num, HW⟩, by simp [RowKit.intOf]; omega⟩
          · by_cases h3 : r < 65536
            · have hw : widthZ r = 3 := by unfold widthZ; rw [if_pos hv, if_neg h1, if_neg h2, if_pos h3]
              have he : enc1 r = [224 + r / 4096, 128 + r / 64 % 64, 128 + r % 64] := by unfold enc1; rw [if_neg h1, if_neg h2, if_pos h3]
              simp only [hw] at key
              rw [he] at hT
              obtain ⟨a, ha⟩ : ∃ a, r / 4096 = a := ⟨_, rfl⟩
              obtain ⟨c, hc⟩ : ∃ c, r / 64 = c := ⟨_, rfl⟩
              obtain ⟨b, hb⟩ : ∃ b, c % 64 = b := ⟨_, rfl⟩
              obtain ⟨d, hd⟩ : ∃ d, r % 64 = d := ⟨_, rfl⟩
              have t0 : (r).tdiv 4096 = a := by rw [Int.tdiv_eq_ediv_of_nonneg (by omega)]; exact ha
              have t1 : (r).tdiv 64 = c := by rw [Int.tdiv_eq_ediv_of_nonneg (by omega)]; exact hc
              have t2 : (c).tmod 64 = b := by rw [Int.tmod_eq_emod_of_nonneg (by omega)]; exact hb
              have t3 : (r).tmod 64 = d := by rw [Int.tmod_eq_emod_of_nonneg (by omega)]; exact hd
              rw [ha, hc, hb, hd] at hT
              have ba : 0 ≤ a ∧ a < 16 := by omega
              have bc : 0 ≤ c ∧ c < 1024 := by omega
              have bb : 0 ≤ b ∧ b < 64 := by omega
              have bd : 0 ≤ d ∧ d < 64 := by omega
              have HT : Hid (encs (zs.take (k + 1)) = bs ++ [224 + a, 128 + b, 128 + d]) := hT
              have hcn := cells_new wr #[.int .u8 (224 + a), .int .u8 (128 + b), .int .u8 (128 + d)] 5
              clear hT he hw hv ha hb hc hd
              go_wp2_with (first | (go_at_call 13; refine (key _).mono ?_; rintro e w' ⟨rfl, rfl⟩) | (at_builtin; go_must (refine wpList_append_own _ rfl _ _ 67 rfl w.heap.size 5 i0 (.int .u8 0) 1 1 Tryd.underlying67 hi hz0 hz1 hz2 rfl (by decide) _ _ _ rfl (HO.out.alloc _) ⟨_, 0, none⟩ 3 3 [.int .u8 (224 + a), .int .u8 (128 + b), .int .u8 (128 + d)] rfl rfl hcn (by simp [Value.oneCell']) (by unfold maxLen; omega) (by omega) (by simp; omega) ?_)))
              intro v' w1 hown' hgrow _
              have hbel := (HB.out.alloc hsz (.cells #[.int .u8 (224 + a), .int .u8 (128 + b), .int .u8 (128 + d)] 5)).grown hgrow (by simp; omega) (fun j hj => (HO.out.lt j hj).1)
              have HW : Hid (EncIn zs w (k + 1) v' w1) := ⟨by omega, HD.out, by rw [HT.out, List.map_append, List.length_append]; exact hown', hbel⟩
              clear hown' hgrow hbel
              go_wp2
              exact ⟨⟨k + 1, by go_num, HW⟩, by simp [RowKit.intOf]; omega⟩
            · have hw : widthZ r = 4 := by unfold widthZ; rw [if_pos hv, if_neg h1, if_neg h2, if_neg h3]
              have he : enc1 r = [240 + r / 262144, 128 + r / 4096 % 64, 128 + r / 64 % 64, 128 + r % 64] := by unfold enc1; rw [if_neg h1, if_neg h2, if_neg h3]
              simp only [hw] at key
              rw [he] at hT
              obtain ⟨a, ha⟩ : ∃ a, r / 262144 = a := ⟨_, rfl⟩
              obtain ⟨f, hf⟩ : ∃ f, r / 4096 = f := ⟨_, rfl⟩
              obtain ⟨b, hb⟩ : ∃ b, f % 64 = b := ⟨_, rfl⟩
              obtain ⟨c, hc⟩ : ∃ c, r / 64 = c := ⟨_, rfl⟩
              obtain ⟨d, hd⟩ : ∃ d, c % 64 = d := ⟨_, rfl⟩
              obtain ⟨g1, hg1⟩ : ∃ g1, r % 64 = g1 := ⟨_, rfl⟩
              have t0 : (r).tdiv 262144 = a := by rw [Int.tdiv_eq_ediv_of_nonneg (by omega)]; exact ha
              have t1 : (r).tdiv 4096 = f := by rw [Int.tdiv_eq_ediv_of_nonneg (by omega)]; exact hf
              have t2 : (f).tmod 64 = b := by rw [Int.tmod_eq_emod_of_nonneg (by omega)]; exact hb
              have t3 : (r).tdiv 64 = c := by rw [Int.tdiv_eq_ediv_of_nonneg (by omega)]; exact hc
              have t4 : (c).tmod 64 = d := by rw [Int.tmod_eq_emod_of_nonneg (by omega)]; exact hd
              have t5 : (r).tmod 64 = g1 := by rw [Int.tmod_eq_emod_of_nonneg (by omega)]; exact hg1
              rw [ha, hf, hb, hc, hd, hg1] at hT
              have ba : 0 ≤ a ∧ a < 5 := by omega
              have bf : 0 ≤ f ∧ f < 1024 := by omega
              have bc : 0 ≤ c ∧ c < 65536 := by omega
              have bb : 0 ≤ b ∧ b < 64 := by omega
              have bd : 0 ≤ d ∧ d < 64 := by omega
              have bg : 0 ≤ g1 ∧ g1 < 64 := by omega
              have HT : Hid (encs (zs.take (k + 1)) = bs ++ [240 + a, 128 + b, 128 + d, 128 + g1]) := hT
              have hcn := cells_new wr #[.int .u8 (240 + a), .int .u8 (128 + b), .int .u8 (128 + d), .int .u8 (128 + g1)] 5
              clear hT he hw hv ha hb hc hd hf hg1
              go_wp2_with (first | (go_at_call 13; refine (key _).mono ?_; rintro e w' ⟨rfl, rfl⟩) | (at_builtin; go_must (refine wpList_append_own _ rfl _ _ 67 rfl w.heap.size 5 i0 (.int .u8 0) 1 1 Tryd.underlying67 hi hz0 hz1 hz2 rfl (by decide) _ _ _ rfl (HO.out.alloc _) ⟨_, 0, none⟩ 4 4 [.int .u8 (240 + a), .int .u8 (128 + b), .int .u8 (128 + d), .int .u8 (128 + g1)] rfl rfl hcn (by simp [Value.oneCell']) (by unfold maxLen; omega) (by omega) (by simp; omega) ?_)))
              intro v' w1 hown' hgrow _
              have hbel := (HB.out.alloc hsz (.cells #[.int .u8 (240 + a), .int .u8 (128 + b), .int .u8 (128 + d), .int .u8 (128 + g1)] 5)).grown hgrow (by simp; omega) (fun j hj => (HO.out.lt j hj).1)
              have HW : Hid (EncIn zs w (k + 1) v' w1) := ⟨by omega, HD.out, by rw [HT.out, List.map_append, List.length_append]; exact hown', hbel⟩
              clear hown' hgrow hbel
              go_wp2
              exact ⟨⟨k + 1, by go_num, HW⟩, by simp [RowKit.intOf]; omega⟩
    · have hlti : ¬ (k : Int) < (zs.length : Int) := by omega
      have e : k = zs.length := by omega
      subst e
      rw [List.drop_length] at hbad
      rw [List.take_length] at hown
      have hcv := string_own (P := Tryd.prog) 67 5 9 hown Tryd.underlying67 Tryd.underlying5 Tryd.underlying9
      have HE : Hid (encA zs = .tuple #[.string (strOfNums (encs zs)), .int .i64 0, .int .i64 0]) := by
        have hb2 : badFrom zs 0 = -1 := hbad
        unfold Hid encA
        rw [if_pos hb2, runes_is zs ((all_valid zs 0).1 hb2)]
      clear hbad hown
      go_wp2
      go_ret3
      rw [HE.out]
      exact ⟨rfl, hB⟩
end Go.Proofs.YtabofadjnbpjkaaDoor
