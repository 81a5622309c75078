/-
  The basic code points of a list apart from the others.
-/
import Derived.Test.YtahmeejcgddlhabQl
namespace Go.Proofs.Ytahmeejcgddlhab
open Go.RowKit
def isB (p : Bt) (x : Int) : Bool := decide (x < p.first) && decide (x < 128)
def bsL (p : Bt) (zs : List Int) (k : Nat) : List Int := (zs.take k).filter (isB p)
def osL (p : Bt) (zs : List Int) (k : Nat) : List Int := ((List.range k).filter fun j => !isB p (zs.getD j 0)).map fun (j : Nat) => (j : Int)
def mkB (p : Bt) (zs : List Int) (k : Nat) : Nat → Bool := fun j => decide (j < k) && isB p (zs.getD j 0)
def outL (p : Bt) (zs : List Int) : List Int := if bsL p zs zs.length = [] then [] else bsL p zs zs.length ++ [p.btw]
theorem take_snoc (zs : List Int) (k : Nat) (h : k < zs.length) : zs.take (k + 1) = zs.take k ++ [zs.getD k 0] := by
  rw [List.take_add_one, List.getElem?_eq_getElem h]
  simp [List.getD, List.getElem?_eq_getElem h]
theorem bsL_yes (p : Bt) (zs : List Int) (k : Nat) (h : k < zs.length) (hb : isB p (zs.getD k 0) = true) : bsL p zs (k + 1) = bsL p zs k ++ [zs.getD k 0] := by
  unfold bsL
  rw [take_snoc zs k h, List.filter_append, List.filter_cons_of_pos hb, List.filter_nil]
theorem bsL_no (p : Bt) (zs : List Int) (k : Nat) (h : k < zs.length) (hb : isB p (zs.getD k 0) = false) : bsL p zs (k + 1) = bsL p zs k := by
  unfold bsL
  rw [take_snoc zs k h, List.filter_append, List.filter_cons_of_neg (by rw [hb]; simp), List.filter_nil, List.append_nil]
theorem osL_yes (p : Bt) (zs : List Int) (k : Nat) (hb : isB p (zs.getD k 0) = true) : osL p zs (k + 1) = osL p zs k := by
  unfold osL
  rw [List.range_succ, List.filter_append, List.filter_cons_of_neg (by rw [hb]; simp), List.filter_nil, List.append_nil]
theorem osL_no (p : Bt) (zs : List Int) (k : Nat) (hb : isB p (zs.getD k 0) = false) : osL p zs (k + 1) = osL p zs k ++ [(k : Int)] := by
  unfold osL
  rw [List.range_succ, List.filter_append, List.filter_cons_of_pos (by rw [hb]; rfl), List.filter_nil, List.map_append]
  rfl
theorem mkB_yes (p : Bt) (zs : List Int) (k : Nat) (hb : isB p (zs.getD k 0) = true) : mkB p zs (k + 1) = setB (mkB p zs k) k true := by
  funext j
  unfold mkB setB
  by_cases c : j = k
  · subst c; rw [if_pos rfl]; simp only [hb]; simp
  · rw [if_neg c]
    congr 1
    by_cases d : j < k
    · simp [d]; omega
    · simp [d]; omega
theorem mkB_no (p : Bt) (zs : List Int) (k : Nat) (hb : isB p (zs.getD k 0) = false) : mkB p zs (k + 1) = mkB p zs k := by
  funext j
  unfold mkB
  by_cases c : j = k
  · subst c; simp only [hb]; simp
  · congr 1
    by_cases d : j < k
    · simp [d]; omega
    · simp [d]; omega
theorem bsL_len (p : Bt) (zs : List Int) (k : Nat) : (bsL p zs k).length ≤ k := by
  unfold bsL
  exact Nat.le_trans (List.length_filter_le _ _) (by rw [List.length_take]; omega)
theorem osL_len (p : Bt) (zs : List Int) (k : Nat) : (osL p zs k).length ≤ k := by
  unfold osL
  rw [List.length_map]
  exact Nat.le_trans (List.length_filter_le _ _) (by simp)
theorem osL_mem (p : Bt) (zs : List Int) (k : Nat) (x : Int) : x ∈ osL p zs k ↔ ∃ j : Nat, x = (j : Int) ∧ j < k ∧ isB p (zs.getD j 0) = false := by
  unfold osL
  simp only [List.mem_map, List.mem_filter, List.mem_range]
  constructor
  · rintro ⟨j, ⟨h1, h2⟩, rfl⟩; exact ⟨j, rfl, h1, by simpa using h2⟩
  · rintro ⟨j, rfl, h1, h2⟩; exact ⟨j, ⟨h1, by simpa using h2⟩, rfl⟩
theorem osL_asc (p : Bt) (zs : List Int) : ∀ k, (osL p zs k).Pairwise (· < ·)
  | 0 => .nil
  | k + 1 => by
    cases hb : isB p (zs.getD k 0) with
    | true => rw [osL_yes p zs k hb]; exact osL_asc p zs k
    | false =>
      rw [osL_no p zs k hb, List.pairwise_append]
      refine ⟨osL_asc p zs k, .cons (by simp) .nil, fun a ha b hb2 => ?_⟩
      obtain ⟨j, rfl, h1, _⟩ := (osL_mem p zs k a).1 ha
      simp at hb2
      omega
/-- What is apart. -/
structure ApI (p : Bt) (zs : List Int) (mb : Nat) (wr : World) (vo vs : Value) (k : Nat) : Prop where
  out : Rw .u8 5 (mb + 1) wr vo (bsL p zs k)
  oth : Rw .i64 3 (mb + 1) wr vs (osL p zs k)
  mrk : ∃ fr, Cel .i64 wr mb (zs.length + 1) fr ∧ FT (zs.length + 1) fr (mkB p zs k) ∧ fr 0 = 0
  sz : mb + 1 ≤ wr.heap.size
theorem ApI.below {p : Bt} {zs : List Int} {mb : Nat} {wr w2 : World} {vo vs : Value} {k : Nat} (h : ApI p zs mb wr vo vs k) (hb : Below wr.heap.size wr w2) : ApI p zs mb w2 vo vs k := by
  obtain ⟨h1, h2, ⟨fr, h3, h4⟩, h5⟩ := h
  exact ⟨h1.below hb, h2.below hb, ⟨fr, h3.below hb, h4⟩, by have := hb.size; omega⟩
/-- What is apart, but for what is written already. -/
structure ApX (p : Bt) (zs : List Int) (mb : Nat) (wr : World) (vs : Value) : Prop where
  oth : Rw .i64 3 (mb + 1) wr vs (osL p zs zs.length)
  mrk : ∃ fr, Cel .i64 wr mb (zs.length + 1) fr ∧ FT (zs.length + 1) fr (mkB p zs zs.length) ∧ fr 0 = 0
  sz : mb + 1 ≤ wr.heap.size
/-- What apart answers. -/
def apA (p : Bt) (zs : List Int) (b0 : Nat) (e : Ending) (w : World) : Prop :=
  ∃ vo vs mb os, e = .returned (.tuple #[vo, vs, .slice (some ⟨mb, 0, none⟩) (zs.length + 1) (zs.length + 1)]) ∧ b0 ≤ mb ∧ mb + 1 ≤ w.heap.size ∧ Rw .u8 5 (mb + 1) w vo (outL p zs) ∧ Rw .i64 3 (mb + 1) w vs os ∧ SrtL (KZ zs) (osL p zs zs.length) os ∧ ∃ fr, Cel .i64 w mb (zs.length + 1) fr ∧ FT (zs.length + 1) fr (mkB p zs zs.length) ∧ fr 0 = 0
set_option maxRecDepth 100000 in
set_option maxHeartbeats 8000000 in
theorem apart_any (p : Bt) (zs : List Int) (v : Value) (w : World) (hz : zs.length < 1048577) (h : Rds .i32 w v zs) (hsc : ∀ j, j < zs.length → 0 ≤ zs.getD j 0 ∧ zs.getD j 0 ≤ 1114111) :
    Calls Try.prog 38 #[.agg (bv p), v] w fun e w' => apA p zs w.heap.size e w' ∧ Below w.heap.size w w' := by
  have HZ : Hid (zs.length < 1048577) := hz
  have HS : Hid (∀ j, j < zs.length → 0 ≤ zs.getD j 0 ∧ zs.getD j 0 ≤ 1114111) := hsc
  have HD : Hid (Rds .i32 w v zs) := h
  obtain ⟨a, c, rfl, -⟩ := h
  have k47 := fun w => newm_any zs.length w (by omega)
  have z9 : (zs.length : Int) ≤ 9007199254740992 := by omega
  have HB : Hid (Below w.heap.size w ((w.alloc (.cells (bv p) 23)).alloc (.cells #[.slice a zs.length c] 24))) := ((Below.refl _ _).alloc (Nat.le_refl _) _).alloc (by simp) _
  have hlo : Hid (((w.alloc (.cells (bv p) 23)).alloc (.cells #[.slice a zs.length c] 24)).heap[w.heap.size]? = some (.cells (bv p) 23)) := by
    have h1 := heap_new w (.cells (bv p) 23)
    exact (((Below.refl (w.alloc (.cells (bv p) 23)).heap.size (w.alloc (.cells (bv p) 23))).alloc (Nat.le_refl _) (.cells #[.slice a zs.length c] 24)).block w.heap.size (by simp)).trans h1
  have hll : Hid (((w.alloc (.cells (bv p) 23)).alloc (.cells #[.slice a zs.length c] 24)).heap[w.heap.size + 1]? = some (.cells #[.slice a zs.length c] 24)) := by
    have h1 := heap_new (w.alloc (.cells (bv p) 23)) (.cells #[.slice a zs.length c] 24)
    have e : (w.alloc (.cells (bv p) 23)).heap.size = w.heap.size + 1 := by simp
    rw [e] at h1
    exact h1
  have hsz : ((w.alloc (.cells (bv p) 23)).alloc (.cells #[.slice a zs.length c] 24)).heap.size = w.heap.size + 2 := by simp
  have hcl : ((w.alloc (.cells (bv p) 23)).alloc (.cells #[.slice a zs.length c] 24)).cell? ⟨w.heap.size + 1, 0, none⟩ = some (.slice a zs.length c) := by unfold World.cell?; simp only [hll.out]; rfl
  clear hz hsc
  go_enter Try.func38, Try.ntmps38
  go_wp2_with (go_at_call 48; refine (calls_hid (k47 _)).mono ?_)
  intro _ w3 hq
  obtain ⟨rfl, cM, bM⟩ := hq.out
  clear hq k47
  generalize hW0 : (w.alloc (.cells (bv p) 23)).alloc (.cells #[.slice a zs.length c] 24) = W0 at *
  clear hW0
  obtain ⟨mb, hmb⟩ : ∃ mb, W0.heap.size = mb := ⟨_, rfl⟩
  rw [hmb] at cM bM hsz ⊢
  have hsM := bM.size
  have HB3 : Hid (Below w.heap.size w w3) := HB.out.trans (bM.mono (by omega))
  have hcM := Cel.lt cM (by omega)
  obtain ⟨O, hO⟩ : ∃ O, w.heap.size = O := ⟨_, rfl⟩
  rw [hO] at hlo hll hsz hcl HB3 ⊢
  have hlo3 : Hid (w3.heap[O]? = some (.cells (bv p) 23)) := (bM.block O (by omega)).trans hlo.out
  have hll3 : Hid (w3.heap[O + 1]? = some (.cells #[.slice a zs.length c] 24)) := (bM.block (O + 1) (by omega)).trans hll.out
  have hcl3 : w3.cell? ⟨O + 1, 0, none⟩ = some (.slice a zs.length c) := by unfold World.cell?; simp only [hll3.out]; rfl
  have HA : Hid (ApI p zs mb w3 (.slice none 0 0) (.slice none 0 0) 0) := ⟨World.ownsRow_nil _ _ _ _, World.ownsRow_nil _ _ _ _, ⟨_, cM, by
    have := ft_none (zs.length + 1)
    have e : mkB p zs 0 = fun _ => false := by funext j; simp [mkB]
    rw [e]; exact this, rfl⟩, hcM⟩
  have hm2 : Hid (mb = O + 2) := by show mb = O + 2; omega
  clear cM bM HB hlo hll hcl hsM hcM hsz hmb
  go_wp2
  go_loopw [7, 8, 17] (fun vo vs x wr => ∃ k : Nat, x = .int .i64 (k : Int) ∧ k ≤ zs.length ∧ Hid (ApI p zs mb wr vo vs k) ∧ Hid (Below O w wr) ∧ Hid (wr.heap[O]? = some (.cells (bv p) 23) ∧ wr.heap[O + 1]? = some (.cells #[.slice a zs.length c] 24))) (fun _ _ x _ => zs.length - (RowKit.intOf x).toNat)
  case atStart => exact ⟨0, rfl, Nat.zero_le _, HA, HB3, hlo3.out, hll3.out⟩
  case round =>
    clear HA HB3 hlo3 hll3 hcl3
    obtain ⟨k, rfl, hk, hA, hB, hL⟩ := hrel
    obtain ⟨VO, hVO⟩ : ∃ V, u7 = V := ⟨_, rfl⟩
    obtain ⟨VS, hVS⟩ : ∃ V, u8 = V := ⟨_, rfl⟩
    rw [hVO, hVS] at hA ⊢
    clear hVO hVS
    by_cases d : k < zs.length
    · have d1 : (k : Int) < (zs.length : Int) := by omega
      have d2 : decide ((k : Int) < (zs.length : Int)) = true := decide_eq_true d1
      have k9 : (k : Int) ≤ 9007199254740992 := by have := HZ.out; omega
      have hRd := HD.out.below (hO ▸ hB.out)
      obtain ⟨a1, cc1, e1, hcell⟩ := hRd
      cases e1
      obtain ⟨gz, off, rfl, hcell2⟩ := hcell (by omega)
      have x1 := hcell2 k d
      have hv := HS.out k d
      have cb := fun (j : Nat) (u : Value) (h : (bv p)[j]? = some u) => (show wr.cell? ⟨O, j, none⟩ = some u by simp [World.cell?, hL.out.1, h])
      have a0 := cb 0 (.int .i64 p.base) rfl
      have a1 := cb 1 (.int .i64 p.least) rfl
      have a2 := cb 2 (.int .i64 p.most) rfl
      have a3 := cb 3 (.int .i64 p.skew) rfl
      have a4 := cb 4 (.int .i64 p.damp) rfl
      have a5 := cb 5 (.int .i64 p.bias) rfl
      have a6 := cb 6 (.int .i64 p.first) rfl
      have a7 := cb 7 (.int .u8 p.btw) rfl
      have kb := fun w => basic_any p (zs.getD k 0) w
      obtain ⟨X, hX⟩ : ∃ X, zs.getD k 0 = X := ⟨_, rfl⟩
      simp only [hX] at x1 kb hv
      obtain ⟨v0, v1⟩ := hv
      have w64 : IntKind.i64.wrap X = X := IntWalk.i64_in _ ⟨by omega, by omega⟩
      clear hcell hcell2 cb
      have hIB : (decide (X < p.first) && decide (X < 128)) = isB p (zs.getD k 0) := by rw [hX]; rfl
      cases hb : isB p (zs.getD k 0) with
      | true =>
        have hlt : X < 128 := by
          rw [hb] at hIB
          have : X < p.first ∧ X < 128 := by simpa using hIB
          exact this.2
        rw [hIB, hb] at kb
        have w8 : IntKind.u8.wrap X = X := IntWalk.u8_in _ ⟨by omega, by omega⟩
        have hbs := bsL_yes p zs k d hb
        have hos := osL_yes p zs k hb
        have hmk := mkB_yes p zs k hb
        rw [hX] at hbs
        have hlen := bsL_len p zs k
        have Hs : Hid (bsL p zs (k + 1) = bsL p zs k ++ [X] ∧ osL p zs (k + 1) = osL p zs k ∧ mkB p zs (k + 1) = setB (mkB p zs k) k true ∧ mkB p zs k k = false) := ⟨hbs, hos, hmk, by simp [mkB]⟩
        have hl9 : (bsL p zs k).length < 1000000000 := by have := HZ.out; omega
        have hk1 : Hid (k < zs.length ∧ mb = O + 2 ∧ zs.length < 1048577) := ⟨d, hm2.out, HZ.out⟩
        clear hIB hb hbs hos hmk hlen hX hlt
        go_wp2_with (go_at_call 33; refine (calls_hid (kb _)).mono ?_)
        intro _ w4 hq
        obtain ⟨rfl, b4⟩ := hq.out
        have hm3 := hm2.out
        have hA4 : Hid (ApI p zs mb w4 VO VS k) := hA.out.below b4
        have hB4 : Hid (Below O w w4) := hB.out.trans (b4.mono (by have := hA.out.sz; omega))
        have hL4 : Hid (w4.heap[O]? = some (.cells (bv p) 23) ∧ w4.heap[O + 1]? = some (.cells #[.slice (some ⟨gz, off, none⟩) zs.length c] 24)) := ⟨(b4.block O (by have := hA.out.sz; omega)).trans hL.out.1, (b4.block (O + 1) (by have := hA.out.sz; omega)).trans hL.out.2⟩
        have hsz4 : mb + 1 ≤ w4.heap.size := hA4.out.sz
        clear hm3 hq b4 hA hB hL a0 a1 a2 a3 a4 a5 a6 a7 kb x1
        go_wp2_with (at_builtin; go_must (refine wpList_app1 rfl _ _ 48 rfl (mb + 1) 5 .u8 1 Try.underlying48 info5 (by decide) VO (bsL p zs k) X rfl hA4.out.out rfl hl9 hsz4 ?_))
        intro v5 w5 hR5 hg5 hB5
        have hm3 := hm2.out
        have hK5 := KeepT.of_grown hA4.out.out hg5.out
        have hO5 := hA4.out.oth.keep hK5 (by decide)
        obtain ⟨fr, hf1, hf2, hf3⟩ := hA4.out.mrk
        have hf5 := hf1.lower hB5.out (by omega)
        have hB6 : Hid (Below O w w5) := hB4.out.trans (hB5.out.mono (by omega))
        have hL5 : Hid (w5.heap[O]? = some (.cells (bv p) 23) ∧ w5.heap[O + 1]? = some (.cells #[.slice (some ⟨gz, off, none⟩) zs.length c] 24)) := ⟨(hB5.out.block O (by omega)).trans hL4.out.1, (hB5.out.block (O + 1) (by omega)).trans hL4.out.2⟩
        have hsz5 : mb + 1 ≤ w5.heap.size := Nat.le_trans hsz4 hB5.out.size
        have k41 := change_on mb (zs.length + 1) k fr (mkB p zs k) w5 (by have := HZ.out; omega) (by omega) hf2 hf3 Hs.out.2.2.2 hf5
        have HF : Hid (∀ w6 fr', Cel .i64 w6 mb (zs.length + 1) fr' → FT (zs.length + 1) fr' (setB (mkB p zs k) k true) → fr' 0 = 0 → Only mb w5 w6 → Hid (ApI p zs mb w6 v5 VS (k + 1)) ∧ Hid (Below O w w6) ∧ Hid (w6.heap[O]? = some (.cells (bv p) 23) ∧ w6.heap[O + 1]? = some (.cells #[.slice (some ⟨gz, off, none⟩) zs.length c] 24))) := fun w6 fr' q1 q2 q3 q4 =>
          ⟨⟨by rw [Hs.out.1]; exact Rw.only hR5.out q4 (by omega), by rw [Hs.out.2.1]; exact Rw.only hO5 q4 (by omega), ⟨fr', q1, by rw [Hs.out.2.2.1]; exact q2, q3⟩, Nat.le_trans hsz5 q4.size⟩, Only.below hB6.out (by omega) (by omega) q4, (q4.block O (by omega) (by intro q; cases q; omega)).trans hL5.out.1, (q4.block (O + 1) (by omega) (by intro q; cases q; omega)).trans hL5.out.2⟩
        clear hA4 hB4 hL4 hR5 hg5 hB5 hK5 hO5 hf1 hf2 hf3 hf5 hB6 hL5 hsz4 hsz5 hm3
        go_wp2_with (go_at_call 42; refine (calls_hid k41).mono ?_)
        intro _ w6 hq
        obtain ⟨rfl, ⟨fr', q1, q2, q3⟩, q4⟩ := hq.out
        have HE : Hid _ := HF.out w6 fr' q1 q2 q3 q4
        clear hq q1 q2 q3 q4 k41 HF fr
        go_wp2
        refine ⟨⟨k + 1, by simp, by omega, HE.out⟩, ?_⟩
        have := hk1.out
        simp [RowKit.intOf]; omega
      | false =>
        rw [hIB, hb] at kb
        have hbs := bsL_no p zs k d hb
        have hos := osL_no p zs k hb
        have hmk := mkB_no p zs k hb
        have hlen := osL_len p zs k
        have Hs : Hid (bsL p zs (k + 1) = bsL p zs k ∧ osL p zs (k + 1) = osL p zs k ++ [(k : Int)] ∧ mkB p zs (k + 1) = mkB p zs k) := ⟨hbs, hos, hmk⟩
        have hl9 : (osL p zs k).length < 1000000000 := by have := HZ.out; omega
        have hk1 : Hid (k < zs.length ∧ mb = O + 2 ∧ zs.length < 1048577) := ⟨d, hm2.out, HZ.out⟩
        clear hIB hb hbs hos hmk hlen hX
        go_wp2_with (go_at_call 33; refine (calls_hid (kb _)).mono ?_)
        intro _ w4 hq
        obtain ⟨rfl, b4⟩ := hq.out
        have hm3 := hm2.out
        have hA4 : Hid (ApI p zs mb w4 VO VS k) := hA.out.below b4
        have hB4 : Hid (Below O w w4) := hB.out.trans (b4.mono (by have := hA.out.sz; omega))
        have hL4 : Hid (w4.heap[O]? = some (.cells (bv p) 23) ∧ w4.heap[O + 1]? = some (.cells #[.slice (some ⟨gz, off, none⟩) zs.length c] 24)) := ⟨(b4.block O (by have := hA.out.sz; omega)).trans hL.out.1, (b4.block (O + 1) (by have := hA.out.sz; omega)).trans hL.out.2⟩
        have hsz4 : mb + 1 ≤ w4.heap.size := hA4.out.sz
        clear hm3 hq b4 hA hB hL a0 a1 a2 a3 a4 a5 a6 a7 kb x1
        go_wp2_with (at_builtin; go_must (refine wpList_app1 rfl _ _ 63 rfl (mb + 1) 3 .i64 8 Try.underlying63 info3 (by decide) VS (osL p zs k) (k : Int) rfl hA4.out.oth rfl hl9 hsz4 ?_))
        intro v5 w5 hR5 hg5 hB5
        have hm3 := hm2.out
        have hK5 := KeepT.of_grown hA4.out.oth hg5.out
        have hO5 := hA4.out.out.keep hK5 (by decide)
        obtain ⟨fr, hf1, hf2, hf3⟩ := hA4.out.mrk
        have hf5 := hf1.lower hB5.out (by omega)
        have HE : Hid (Hid (ApI p zs mb w5 VO v5 (k + 1)) ∧ Hid (Below O w w5) ∧ Hid (w5.heap[O]? = some (.cells (bv p) 23) ∧ w5.heap[O + 1]? = some (.cells #[.slice (some ⟨gz, off, none⟩) zs.length c] 24))) :=
          ⟨⟨by rw [Hs.out.1]; exact hO5, by rw [Hs.out.2.1]; exact hR5.out, ⟨fr, hf5, by rw [Hs.out.2.2]; exact hf2, hf3⟩, Nat.le_trans hsz4 hB5.out.size⟩, hB4.out.trans (hB5.out.mono (by omega)), (hB5.out.block O (by omega)).trans hL4.out.1, (hB5.out.block (O + 1) (by omega)).trans hL4.out.2⟩
        clear hA4 hB4 hL4 hR5 hg5 hB5 hK5 hO5 hf1 hf2 hf3 hf5 hsz4 hm3 fr
        go_wp2
        refine ⟨⟨k + 1, by simp, by omega, HE.out⟩, ?_⟩
        have := hk1.out
        simp [RowKit.intOf]; omega
    · obtain rfl : k = zs.length := by omega
      have d2 : decide ((zs.length : Int) < (zs.length : Int)) = false := by simp
      obtain ⟨av, cv, hVO, -⟩ := owns_slice hA.out.out
      have c7 : wr.cell? ⟨O, 7, none⟩ = some (.int .u8 p.btw) := by simp [World.cell?, hL.out.1, bv]
      have hlen := bsL_len p zs zs.length
      have hl9 : (bsL p zs zs.length).length < 1000000000 := by have := HZ.out; omega
      have bl9 : ((bsL p zs zs.length).length : Int) ≤ 9007199254740992 := by omega
      have hsz4 : mb + 1 ≤ wr.heap.size := hA.out.sz
      subst hVO
      by_cases e : bsL p zs zs.length = []
      · have hz : (bsL p zs zs.length).length = 0 := by rw [e]; rfl
        have ho : Rw .u8 5 (mb + 1) wr (.slice av (bsL p zs zs.length).length cv) (outL p zs) := by unfold outL; rw [if_pos e]; have := hA.out.out; rw [e] at this ⊢; exact this
        have hm3 := hm2.out
        have hAA := hA.out
        have hI : osL p zs zs.length ≠ [] → InL mb (O + 1) zs wr := fun hne => by
          have hz : 0 < zs.length := by
            rcases Nat.eq_zero_or_pos zs.length with q | q
            · rw [q] at hne; exact absurd rfl hne
            · exact q
          obtain ⟨a1, cc1, e1, hcell⟩ := HD.out
          cases e1
          obtain ⟨gz, off, e2, hcell2⟩ := hcell hz
          cases e2
          have hlt := World.block_lt_of_cell? w _ (hcell2 0 hz)
          have hlt2 : gz < O := by rw [← hO]; simpa using hlt
          exact ⟨by omega, gz, off, c, by omega, hL.out.2, fun j hj => (hB.out.cell (p := ⟨gz, off + j, none⟩) hlt2).trans (hcell2 j hj)⟩
        have k48 := sort_any mb (O + 1) (mb + 1) zs (osL p zs zs.length) VS wr hI (by omega) hAA.sz (Nat.lt_of_le_of_lt (osL_len p zs zs.length) HZ.out) (fun x hx => by
          obtain ⟨j, rfl, h1, _⟩ := (osL_mem p zs zs.length x).1 hx
          omega) (osL_asc p zs zs.length) hAA.oth
        obtain ⟨fr, hf1, hf2, hf3⟩ := hAA.mrk
        have HF : Hid (∀ w6 os, Rw .i64 3 (mb + 1) w6 VS os → SrtL (KZ zs) (osL p zs zs.length) os → Below (mb + 1) wr w6 → KeepT 3 wr w6 → Hid (apA p zs O (.returned (.tuple #[(.slice av (bsL p zs zs.length).length cv), VS, .slice (some ⟨mb, 0, none⟩) (zs.length + 1) (zs.length + 1)])) w6 ∧ Below O w w6)) := fun w6 os q1 q2 q3 q4 =>
          ⟨⟨(.slice av (bsL p zs zs.length).length cv), VS, mb, os, rfl, by omega, Nat.le_trans hAA.sz q3.size, ho.keep q4 (by decide), q1, q2, fr, hf1.lower q3 (by omega), hf2, hf3⟩, hB.out.trans (q3.mono (by omega))⟩
        clear hm3 hAA ho hlen hl9 hsz4 hm2 hA hB hL e
        rw [hz] at bl9 HF ⊢
        go_wp2_with (go_at_call 49; refine (calls_hid k48).mono ?_)
        intro _ w6 hq
        obtain ⟨rfl, ⟨os, q1, q2⟩, q3, q4⟩ := hq.out
        have HE := HF.out w6 os q1 q2 q3 q4
        clear hq q1 q2 q3 q4 HF k48 fr hI hf1 hf2 hf3
        go_wp2
        go_ret3
        rw [hO]
        exact HE.out
      · have hz : 0 < (bsL p zs zs.length).length := List.length_pos_iff.2 e
        have hz2 : (0 : Int) < ((bsL p zs zs.length).length : Int) := by omega
        have hz3 : decide ((0 : Int) < ((bsL p zs zs.length).length : Int)) = true := decide_eq_true hz2
        have hz4 : decide (0 < (bsL p zs zs.length).length) = true := decide_eq_true hz
        have HoL : Hid (outL p zs = bsL p zs zs.length ++ [p.btw]) := by show _ = _; unfold outL; rw [if_neg e]
        obtain ⟨BS, hBS⟩ : ∃ BS, bsL p zs zs.length = BS := ⟨_, rfl⟩
        have hRO : Hid (Rw .u8 5 (mb + 1) wr (.slice av BS.length cv) BS) := by have := hA.out.out; rw [hBS] at this; exact this
        rw [hBS] at hl9 hz2 hz3 hz4 HoL hA ⊢
        clear hlen e hz bl9
        replace hBS : Hid (bsL p zs zs.length = BS) := hBS
        go_wp2_with (at_builtin; go_must (refine wpList_app1 rfl _ _ 48 rfl (mb + 1) 5 .u8 1 Try.underlying48 info5 (by decide) (.slice av BS.length cv) BS p.btw rfl hRO.out rfl hl9 hsz4 ?_))
        intro v5 w5 hR5 hg5 hB5
        have hm3 := hm2.out
        have hK5 := KeepT.of_grown hRO.out hg5.out
        have hB6 : Hid (Below O w w5) := hB.out.trans (hB5.out.mono (by omega))
        have hL5 : Hid (w5.heap[O]? = some (.cells (bv p) 23) ∧ w5.heap[O + 1]? = some (.cells #[.slice a zs.length c] 24)) := ⟨(hB5.out.block O (by omega)).trans hL.out.1, (hB5.out.block (O + 1) (by omega)).trans hL.out.2⟩
        obtain ⟨fr0, hx1, hx2, hx3⟩ := hA.out.mrk
        have ho : Rw .u8 5 (mb + 1) w5 v5 (outL p zs) := by rw [HoL.out]; exact hR5.out
        have hAA : ApX p zs mb w5 VS := ⟨hA.out.oth.keep hK5 (by decide), ⟨fr0, hx1.lower hB5.out (by omega), hx2, hx3⟩, Nat.le_trans hsz4 hB5.out.size⟩
        have hI : osL p zs zs.length ≠ [] → InL mb (O + 1) zs w5 := fun hne => by
          have hz : 0 < zs.length := by
            rcases Nat.eq_zero_or_pos zs.length with q | q
            · rw [q] at hne; exact absurd rfl hne
            · exact q
          obtain ⟨a1, cc1, e1, hcell⟩ := HD.out
          cases e1
          obtain ⟨gz, off, e2, hcell2⟩ := hcell hz
          cases e2
          have hlt := World.block_lt_of_cell? w _ (hcell2 0 hz)
          have hlt2 : gz < O := by rw [← hO]; simpa using hlt
          exact ⟨by omega, gz, off, c, by omega, hL5.out.2, fun j hj => (hB6.out.cell (p := ⟨gz, off + j, none⟩) hlt2).trans (hcell2 j hj)⟩
        have k48 := sort_any mb (O + 1) (mb + 1) zs (osL p zs zs.length) VS w5 hI (by omega) hAA.sz (Nat.lt_of_le_of_lt (osL_len p zs zs.length) HZ.out) (fun x hx => by
          obtain ⟨j, rfl, h1, _⟩ := (osL_mem p zs zs.length x).1 hx
          omega) (osL_asc p zs zs.length) hAA.oth
        obtain ⟨fr, hf1, hf2, hf3⟩ := hAA.mrk
        have HF : Hid (∀ w6 os, Rw .i64 3 (mb + 1) w6 VS os → SrtL (KZ zs) (osL p zs zs.length) os → Below (mb + 1) w5 w6 → KeepT 3 w5 w6 → Hid (apA p zs O (.returned (.tuple #[v5, VS, .slice (some ⟨mb, 0, none⟩) (zs.length + 1) (zs.length + 1)])) w6 ∧ Below O w w6)) := fun w6 os q1 q2 q3 q4 =>
          ⟨⟨v5, VS, mb, os, rfl, by omega, Nat.le_trans hAA.sz q3.size, ho.keep q4 (by decide), q1, q2, fr, hf1.lower q3 (by omega), hf2, hf3⟩, hB6.out.trans (q3.mono (by omega))⟩
        clear hm3 hAA ho hl9 hsz4 hm2 hA hB hL hR5 hg5 hB5 hK5 hB6 hL5 fr0 hx1 hx2 hx3 hRO HoL hBS c7
        go_wp2_with (go_at_call 49; refine (calls_hid k48).mono ?_)
        intro _ w6 hq
        obtain ⟨rfl, ⟨os, q1, q2⟩, q3, q4⟩ := hq.out
        have HE := HF.out w6 os q1 q2 q3 q4
        clear hq q1 q2 q3 q4 HF k48 fr hI hf1 hf2 hf3
        go_wp2
        go_ret3
        rw [hO]
        exact HE.out
end Go.Proofs.Ytahmeejcgddlhab
