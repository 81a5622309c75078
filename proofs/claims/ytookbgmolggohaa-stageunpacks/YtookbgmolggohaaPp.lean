/-
  A packed text tells what its table says; how many rows there are at most. No conditions but the numbers' bounds.
-/
import Derived.Test.YtookbgmolggohaaPk
namespace Go.Proofs.Ytookbgmolggohaa
open Go.RowKit
theorem num2_len (z : Int) : (num2 z).length = 2 := rfl
theorem num2_inj {x y : Int} (h : num2 x = num2 y) : x = y := by
  unfold num2 at h
  simp only [List.cons.injEq, and_true] at h
  omega
theorem num2_rng {z : Int} (h0 : 0 ≤ z) (h1 : z ≤ 65535) : ∀ b ∈ num2 z, 0 ≤ b ∧ b ≤ 255 := fun b hb => by
  unfold num2 at hb
  simp only [List.mem_cons, List.not_mem_nil, or_false] at hb
  rcases hb with rfl | rfl <;> omega
theorem flat2_inj (f g : Nat → Int) : ∀ k, ((List.range k).flatMap fun i => num2 (f i)) = ((List.range k).flatMap fun i => num2 (g i)) → ∀ i, i < k → f i = g i
  | 0, _, i, hi => absurd hi (Nat.not_lt_zero _)
  | k + 1, h, i, hi => by
    rw [List.range_succ, List.flatMap_append, List.flatMap_append] at h
    obtain ⟨h1, h2⟩ := List.append_inj h (by rw [flat2_len, flat2_len])
    rcases Nat.lt_succ_iff_lt_or_eq.1 hi with hi | rfl
    · exact flat2_inj f g k h1 i hi
    · refine num2_inj ?_
      simpa using h2
theorem usB_inj : ∀ {U V : List (Nat → Int)}, (∀ f ∈ U, isBlk f) → (∀ f ∈ V, isBlk f) → U.length = V.length → usB U = usB V → U = V
  | [], [], _, _, _, _ => rfl
  | [], _ :: _, _, _, h, _ => by simp at h
  | _ :: _, [], _, _, h, _ => by simp at h
  | f :: U, g :: V, hU, hV, h, e => by
    have e' : blB f 128 ++ usB U = blB g 128 ++ usB V := e
    obtain ⟨h1, h2⟩ := List.append_inj e' (by rw [blB_len, blB_len])
    have hfg : f = g := by
      have hf := hU f (List.mem_cons_self ..)
      have hg := hV g (List.mem_cons_self ..)
      funext j
      by_cases hj : j < 128
      · exact flat2_inj f g 128 h1 j hj
      · rw [hf.2 j (by omega), hg.2 j (by omega)]
    rw [hfg, usB_inj (fun x hx => hU x (List.mem_cons_of_mem _ hx)) (fun x hx => hV x (List.mem_cons_of_mem _ hx)) (by simpa using h) h2]
theorem pkL_inj {F G : Int → Int} (hF : ∀ p, 0 ≤ F p ∧ F p ≤ 65535) (hG : ∀ p, 0 ≤ G p ∧ G p ≤ 65535) (h : pkL F = pkL G) : ∀ i, i < 8704 → blk F i = blk G i := by
  unfold pkL at h
  obtain ⟨h1, h2⟩ := List.append_inj h (by rw [List.length_append, List.length_append, psB_len, psB_len, num2_len, num2_len])
  obtain ⟨h3, h4⟩ := List.append_inj h1 (by rw [num2_len, num2_len])
  have h5 := num2_inj h3
  have h6 : ∀ i, i < 8704 → plc F i = plc G i := fun i hi => by
    have := flat2_inj (fun i => ((plc F i : Nat) : Int)) (fun i => ((plc G i : Nat) : Int)) 8704 h4 i hi
    exact Int.ofNat.inj this
  exact (unl_iff h6).1 (usB_inj (isBlk_unl hF 8704) (isBlk_unl hG 8704) (by omega) h2)
theorem pkL_same {F G : Int → Int} (h : ∀ i, i < 8704 → blk F i = blk G i) : pkL F = pkL G := by
  have hp := plc_same h
  have e : psB F 8704 = psB G 8704 := by
    unfold psB
    have : ∀ k, k ≤ 8704 → ((List.range k).flatMap fun i => num2 (plc F i : Nat)) = ((List.range k).flatMap fun i => num2 (plc G i : Nat)) := fun k => by
      induction k with
      | zero => intro _; rfl
      | succ k ih =>
        intro hk
        rw [List.range_succ, List.flatMap_append, List.flatMap_append, ih (by omega)]
        simp [hp k (by omega)]
    exact this 8704 (Nat.le_refl _)
  unfold pkL
  rw [unl_congr h, e]
theorem pkL_rng {F : Int → Int} (hF : ∀ p, 0 ≤ F p ∧ F p ≤ 65535) : ∀ b ∈ pkL F, 0 ≤ b ∧ b ≤ 255 := fun b hb => by
  have hul := unl_len F 8704
  unfold pkL at hb
  rcases List.mem_append.1 hb with hb | hb
  · rcases List.mem_append.1 hb with hb | hb
    · exact num2_rng (by omega) (by omega) b hb
    · unfold psB at hb
      obtain ⟨i, hi, hb⟩ := List.mem_flatMap.1 hb
      have := plc_lt F (List.mem_range.1 hi)
      exact num2_rng (by omega) (by omega) b hb
  · unfold usB at hb
    obtain ⟨f, hf, hb⟩ := List.mem_flatMap.1 hb
    unfold blB at hb
    obtain ⟨j, _, hb⟩ := List.mem_flatMap.1 hb
    obtain ⟨i, _, rfl⟩ := unl_all F 8704 f hf
    have := blk_range hF i j
    exact num2_rng this.1 this.2 b hb
theorem strOf_inj : ∀ {a b : List Int}, (∀ z ∈ a, 0 ≤ z ∧ z ≤ 255) → (∀ z ∈ b, 0 ≤ z ∧ z ≤ 255) → (a.map fun n => UInt8.ofNat n.toNat) = (b.map fun n => UInt8.ofNat n.toNat) → a = b
  | [], [], _, _, _ => rfl
  | [], _ :: _, _, _, h => by simp at h
  | _ :: _, [], _, _, h => by simp at h
  | x :: a, y :: b, ha, hb, h => by
    simp only [List.map_cons, List.cons.injEq] at h
    have hx := ha x (List.mem_cons_self ..)
    have hy := hb y (List.mem_cons_self ..)
    have e : x = y := by
      have := congrArg UInt8.toNat h.1
      simp only [UInt8.toNat_ofNat'] at this
      omega
    rw [e, strOf_inj (fun z hz => ha z (List.mem_cons_of_mem _ hz)) (fun z hz => hb z (List.mem_cons_of_mem _ hz)) h.2]
theorem pkT_iff {F G : Int → Int} (hF : ∀ p, 0 ≤ F p ∧ F p ≤ 65535) (hG : ∀ p, 0 ≤ G p ∧ G p ≤ 65535) : pkT F = pkT G ↔ ∀ i, i < 8704 → blk F i = blk G i := by
  constructor
  · intro h
    refine pkL_inj hF hG (strOf_inj (pkL_rng hF) (pkL_rng hG) ?_)
    have := congrArg (fun b : ByteArray => b.data.toList) h
    exact this
  · intro h
    unfold pkT
    rw [pkL_same h]
/-- How many stretches say something. -/
theorem lst_addR : ∀ (X : List Rw) (x : Rw), (lst (addR X x)).length ≤ (lst X).length + (if x.2.2 = 0 then 0 else 1)
  | X, x => by
    rcases snoc_or X with rfl | ⟨Y, s, rfl⟩
    · show (lst [x]).length ≤ _
      unfold lst
      by_cases h : x.2.2 = 0 <;> simp [h]
    · rw [addR_snoc]
      by_cases c : s.2.2 = x.2.2
      · rw [if_pos c, lst_snoc, lst_snoc]
        simp only [List.length_append]
        split <;> simp
      · rw [if_neg c, show Y ++ [s, x] = (Y ++ [s]) ++ [x] by simp, lst_snoc]
        rw [List.length_append]
        by_cases h : x.2.2 = 0 <;> simp [h]
theorem lst_runA : ∀ (L out : List Rw) (nx : Int), (lst (runA out nx L).1).length ≤ (lst out).length + L.length
  | [], out, nx => by simp [runA]
  | r :: L, out, nx => by
    have h1 := lst_runA L (addR (if nx < r.1 then addR out (nx, r.1 - 1, 0) else out) r) (r.2.1 + 1)
    have h2 := lst_addR (if nx < r.1 then addR out (nx, r.1 - 1, 0) else out) r
    have h3 : (lst (if nx < r.1 then addR out (nx, r.1 - 1, 0) else out)).length ≤ (lst out).length := by
      split
      · have := lst_addR out (nx, r.1 - 1, 0)
        simpa using this
      · exact Nat.le_refl _
    rw [List.length_cons]
    have h4 : (if r.2.2 = 0 then 0 else 1) ≤ 1 := by split <;> omega
    show (lst (runA (addR (if nx < r.1 then addR out (nx, r.1 - 1, 0) else out) r) (r.2.1 + 1) L).1).length ≤ _
    omega
theorem lst_runs (L : List Rw) : (lst (runsL L)).length ≤ L.length := by
  have h1 := lst_runA L [] 0
  have h0 : (lst ([] : List Rw)).length = 0 := rfl
  unfold runsL
  split
  · have h2 := lst_addR (runA [] 0 L).1 ((runA [] 0 L).2, 1114111, 0)
    simp only [if_true] at h2
    omega
  · omega
theorem nought_runs : Rn nought 0 [(0, 1114111, 0)] 1114112 := ⟨rfl, by decide, fun _ _ _ => rfl, rfl⟩
theorem nought_rng : ∀ p : Int, 0 ≤ nought p ∧ nought p ≤ 65535 := fun _ => by unfold nought; omega
theorem least_chk {L : List Rw} (hok : okF 0 L) (hl : L.length ≤ 65536) : (chk (lst (runsL L))).2 = 0 ∧ lk (lst (runsL L)) = lk L := by
  have h1 : okF 0 (lst (runsL L)) := okF_filter _ ((runs_rn hok).tl.ok (lkr hok) (by decide))
  have h2 := lst_runs L
  refine ⟨?_, ?_⟩
  · unfold chk
    rw [if_neg (by omega)]
    exact (chkF_ok _ 0 0).2 h1
  · funext p
    show over nought (lst (runsL L)) p = lk L p
    rw [(runs_rn hok).tl.lst_says p]
    by_cases c : (0 : Int) ≤ p ∧ p < 1114112
    · rw [if_pos c]
    · rw [if_neg c, lk_out hok (by omega)]
end Go.Proofs.Ytookbgmolggohaa
