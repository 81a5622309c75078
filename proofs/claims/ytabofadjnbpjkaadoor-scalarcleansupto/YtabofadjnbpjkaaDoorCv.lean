/-
  The contract of Cut. Conditions: the text takes no more bytes than one that comes in can; the library's two tables hold what their text lays.
-/
import Derived.Test.YtabofadjnbpjkaaDoorCu
namespace Go.Proofs.YtabofadjnbpjkaaDoor
open Go.RowKit Go.Lib Go.Shelf
attribute [local go_sem] Oper.semAt_some
theorem clone_any (s : ByteArray) (w : World) (hlim : s.size ≤ 281474976710656) : Calls Tryd.prog 42 #[.string s] w fun e w' => e = .returned (.string s) ∧ Below w.heap.size w w' := by
  have key := Tryd.stringslite_Clone s w hlim
  go_enter Tryd.func42, Tryd.ntmps42
  go_wp2_with (go_at_call 51; refine key.mono ?_; rintro e w' ⟨rfl, hb⟩)
  go_ret
  exact ⟨rfl, hb⟩
theorem end_snoc (s : ByteArray) (k0 k : Nat) (p : List Nat) : endFrom s k0 (p ++ [k]) = k + pSt s k := by simp [endFrom]
/-- Where a piece ends, as the program reckons it. -/
def endZ (s : ByteArray) (k : Nat) : Int := wrap64 ((k : Int) + (pSt s k : Int))
def endW (s : ByteArray) (p : List Nat) : Int := match p.getLast? with | some k => endZ s k | none => 0
theorem endZ_in (s : ByteArray) (k : Nat) (hs : s.size ≤ 140737488351232) (hk : k < s.size) : endZ s k = ((k + pSt s k : Nat) : Int) := by
  have hp := pSt_le s k hk
  unfold endZ
  rw [show ((k + pSt s k : Nat) : Int) = (k : Int) + (pSt s k : Int) by omega]
  unfold wrap64
  omega
theorem endW_in (s : ByteArray) (p : List Nat) (hs : s.size ≤ 140737488351232) (hp : ∀ k ∈ p, k < s.size) : endW s p = (endFrom s 0 p : Nat) := by
  unfold endW endFrom
  cases h : p.getLast? with
  | none => rfl
  | some k => exact endZ_in s k hs (hp k (List.mem_of_getLast? h))
theorem KpB.set {n₀ Bn B L : Nat} {W : World} {t : TypeId} {v : Value} (hv : Boxed W B t v) (h0 : v.ownBlock = none) (u : Value) (hu : u.ownBlock = none) (hn : n₀ ≤ B) (hb : Bn ≠ B) (hL : B < L) : KpB n₀ Bn B L W (W.setCell ⟨B, 0, none⟩ u) := fun _ => by
  have r0 : rowAt W B = none := by rw [rowAt_boxed hv, h0]
  have r1 : rowAt (W.setCell ⟨B, 0, none⟩ u) B = none := by rw [rowAt_boxed (hv.set u), hu]
  have rin : RowIn B (W.setCell ⟨B, 0, none⟩ u) := fun g hg => by rw [r1] at hg; cases hg
  exact ⟨(Below.refl _ _).setCell hn _, Below.heap_setCell _ _ _ Bn hb, rin, .inl (by rw [r0, r1]), fun b _ _ _ hb' _ _ => Below.heap_setCell _ _ _ b (by simp; omega)⟩
set_option maxRecDepth 100000 in
set_option maxHeartbeats 2000000 in
theorem cut_any (s : ByteArray) (most : Int) (w : World) (hs : s.size ≤ 140737488351232) (hT : Utf8Tabs 0 1 w) (hg : 2 ≤ w.heap.size) :
    Calls Tryd.prog 31 #[.string s, .int .i64 most] w fun e W' => e = .returned (.string (s.extract 0 (cutE s most))) ∧ Below w.heap.size w W' := by
  refine (callsIn_wide (n := 9)).1 ?_
  refine callsIn_of_wp_marks Tryd.func31 rfl trivial ?_ rfl
  simp only [Tryd.ntmps31, List.size_toArray, List.length_cons, List.length_nil, Nat.reduceAdd, Nat.reduceSub, Array.replicate_succ, Array.replicate_zero, List.push_toArray, List.append_toArray, List.nil_append, List.cons_append]
  gi_wp2_with fail
  refine ⟨trivial, ?_⟩
  refine (each_in _ s _).mono ?_
  rintro e w' ⟨rfl, rfl⟩
  gi_wp2_with fail
  have bM := Boxed.new w 3 (.int .i64 most)
  have bE := Boxed.new (w.alloc (.cells #[.int .i64 most] 3)) 3 (.int .i64 0)
  have bN := Boxed.new ((w.alloc (.cells #[.int .i64 most] 3)).alloc (.cells #[.int .i64 0] 3)) 9 (.string s)
  simp only [World.size_alloc] at bE bN
  have hB0 : Below w.heap.size w (((w.alloc (.cells #[.int .i64 most] 3)).alloc (.cells #[.int .i64 0] 3)).alloc (.cells #[.string s] 9)) := (((Below.refl _ w).alloc (Nat.le_refl _) _).alloc (by simp) _).alloc (by simp; omega) _
  have hT0 := tabs_below hT (by omega) hB0
  have bM2 := (bM.alloc (.cells #[.int .i64 0] 3)).alloc (.cells #[.string s] 9)
  have bE2 := bE.alloc (.cells #[.string s] 9)
  obtain ⟨W0, hW0⟩ : ∃ W0, ((w.alloc (.cells #[.int .i64 most] 3)).alloc (.cells #[.int .i64 0] 3)).alloc (.cells #[.string s] 9) = W0 := ⟨_, rfl⟩
  have hsz : W0.heap.size = w.heap.size + 3 := by rw [← hW0]; simp
  rw [hW0] at bN hB0 hT0 bM2 bE2 ⊢
  clear hW0 bM bE
  have hpl : ∀ k ∈ poss s, k < s.size := fun k hk => (posAt_ge s _ 0 (Nat.le_refl _) k hk).2
  refine wpIn_rangeFunc_ownH rfl (by omega) (gf := 43) (lb := #[.pointer (some ⟨w.heap.size + 1 + 1, 0, none⟩)]) rfl trivial (enters_of Tryd.func43 (by kernel_rfl) rfl)
    (each_stops _ (w.heap.size + 1 + 1) w.heap.size (w.heap.size + 1) (w.heap.size + 3) s (by omega) W0 bN hg (by omega) (by omega) (by omega) (fun g h => by rw [rowAt_boxed bE2] at h; cases h) hT0) (fun h k => h.trans k) (fun W l o o' hl hW hc _ => KpB.put (by omega) (by omega) (by omega) W l o o' hl hW hc) (Below.refl _ _) (fun _ => rfl)
    (fun pre W => (∀ k ∈ pre, endZ s k ≤ most) ∧ Boxed W (w.heap.size + 1) 3 (.int .i64 (endW s pre)) ∧ Boxed W w.heap.size 3 (.int .i64 most) ∧ Boxed W (w.heap.size + 1 + 1) 9 (.string s) ∧ Below w.heap.size w W)
    (fun c pre W => (c = .exit 0 ∧ ∃ p k, pre = p ++ [k] ∧ (∀ j ∈ p, endZ s j ≤ most) ∧ ¬ endZ s k ≤ most) ∧ Boxed W (w.heap.size + 1) 3 (.int .i64 (endW s pre.dropLast)) ∧ Below w.heap.size w W)
    (OwnFrom.and (ownFrom_pure _ _) (OwnFrom.and (Own.from (boxed_own _ _ _) _) (OwnFrom.and (Own.from (boxed_own _ _ _) _) (OwnFrom.and (Own.from (boxed_own _ _ _) _) (ownFrom_below (Nat.le_refl _) (by omega))))))
    (fun _ => OwnFrom.and (ownFrom_pure _ _) (OwnFrom.and (Own.from (boxed_own _ _ _) _) (ownFrom_below (Nat.le_refl _) (by omega))))
    ⟨fun k hk => by simp at hk, bE2, bM2, bN, hB0⟩
    (fun k a' W => ∃ Bx, w.heap.size + 3 ≤ Bx ∧ W.heap[Bx]? = some (.cells (pcs s k) 34 (0, 0)) ∧ a' = { tmps := #[.string s, .int .i64 most, undef, .pointer (some ⟨w.heap.size, 0, none⟩), .string ⟨#[]⟩, .pointer (some ⟨w.heap.size + 1, 0, none⟩), .pointer (some ⟨Bx, 0, none⟩), .string s, .func (.func 43) #[] #[.pointer (some ⟨w.heap.size + 1 + 1, 0, none⟩)], .agg (pcs s k), undef, undef, undef, undef, undef, undef, undef, undef, undef, undef, undef, undef, undef, undef, undef, undef], defers := [] })
    (fun k a' => ?ax) ?assign ?body ?done ?stop
  case ax =>
    rintro u X Y row ⟨Bx, h1, h2, h3⟩ hg' hr
    exact ⟨Bx, h1, boxC_own (β := Unit) Bx (pcs s k) 34 () X Y row h2 hg' (fun r e => (hr r e).2), h3⟩
  case assign =>
    rintro l pre k W K ⟨hp, hv, hm, hbn, hB⟩ hK
    have hsW : w.heap.size + 3 ≤ W.heap.size := hbn.lt
    have HK : Hid _ := hK _ _ ((KeepsOthers.alloc W (.cells (pcs s k) 34)).from _) (kp_alloc (by omega) (by omega) (by omega) _) ⟨hp, hv.alloc _, hm.alloc _, hbn.alloc _, hB.alloc hB.size _⟩ ⟨W.heap.size, hsW, World.alloc_heap_new _ _, rfl⟩
    clear hK
    unfold pcs at HK ⊢
    gi_wp2
    exact HK
  case body =>
    rintro l pre k a' W hl ⟨r, hr⟩ ⟨hp, hv, hm, hbn, hB⟩ ⟨Bx, hBx, bX, rfl⟩ hlt
    have hc := hv.cell
    have hf := hv.frozen
    have hcm := hm.cell
    have cx0 : W.cell? ⟨Bx, 0, none⟩ = some (.int .i64 k) := by simp [World.cell?, bX, pcs]
    have cx1 : W.cell? ⟨Bx, 1, none⟩ = some (.int .i64 (pSt s k)) := by simp [World.cell?, bX, pcs]
    by_cases hq : endZ s k ≤ most
    · have hq1 : ¬ most < wrap64 ((k : Int) + (pSt s k : Int)) := by unfold endZ at hq; omega
      gi_wp2
      refine ⟨(KeepsOthers.setCell W _ _).from _, KpB.set hv rfl _ rfl (by omega) (by omega) (by omega), fun j hj => ?_, ?_, hm.other (by omega) _, hbn.other (by omega) _, hB.setCell (by simp) _⟩
      · rcases List.mem_append.1 hj with h | h
        · exact hp j h
        · rw [List.mem_singleton.1 h]; exact hq
      · have : endW s (pre ++ [k]) = endZ s k := by simp [endW]
        rw [this]
        exact hv.set _
    · have hq1 : most < wrap64 ((k : Int) + (pSt s k : Int)) := by unfold endZ at hq; omega
      gi_wp2
      exact ⟨KeepsFrom.refl _ _, ⟨rfl, pre, k, rfl, hp, hq⟩, by simpa using hv, hB⟩
  case done =>
    rintro D ys W hD rfl ⟨hp, hv, hm, hbn, hB⟩ hK
    clear hm hbn
    have hok : ∀ k ∈ poss s, okP s most k = true := fun k hk => by
      have := hp k hk
      rw [endZ_in s k hs (hpl k hk)] at this
      unfold okP
      rw [decide_eq_true_iff]
      omega
    have htw : (poss s).takeWhile (okP s most) = poss s := by
      have := take_all (okP s most) (poss s) [] hok (fun x l h => by cases h)
      rwa [List.append_nil] at this
    clear hok hp
    obtain ⟨e, he⟩ : ∃ e, endFrom s 0 (poss s) = e := ⟨_, rfl⟩
    have hes : e ≤ s.size := by rw [← he]; exact (end_next s (poss s) 0 ([]) (Nat.zero_le _) ((List.append_nil _).symm)).2
    have hcut : cutE s most = e := by rw [← he]; unfold cutE; rw [htw]
    have hE := endW_in s (poss s) hs (hpl)
    rw [he] at hE
    have hei : (e : Int) ≤ (s.size : Int) := by omega
    have hv2 : Boxed W (w.heap.size + 1) 3 (.int .i64 (e : Int)) := by rw [← hE]; exact hv
    have hc := hv2.cell
    have HC : Hid (cutE s most = e) := hcut
    have HB : Hid (Below w.heap.size w W) := hB
    clear hv hB hE he hcut
    gi_wp2_with fail
    refine ⟨trivial, ?_⟩
    refine (callsIn_wide.2 (clone_any _ _ (by simp; omega))).mono ?_
    rintro e2 w2 ⟨rfl, hb2⟩
    have hK2 : w2.heap[D]? = some (.deferred (some [])) := (hb2.block D (Array.getElem?_eq_some_iff.1 hK).1).trans hK
    have hB2 := HB.out.trans (hb2.mono HB.out.size)
    gi_wp2
    refine ⟨by simp, .inl ⟨_, _, rfl, run_takeDeferred hK2, ?_⟩⟩
    exact ⟨_, results_tmp rfl _ _ _, by rw [HC.out]; rfl, hB2.trans (belowK_b (w := w) (Nat.le_refl _) w2 D _ _ (by omega) hK2 rfl rfl)⟩
  case stop =>
    rintro D c pre W hD ⟨q, hq⟩ ⟨⟨rfl, p, k, rfl, hp, hk⟩, hv, hB⟩ hK
    rw [List.dropLast_concat] at hv
    rw [List.append_assoc, List.singleton_append] at hq
    have hin : ∀ j ∈ p, j < s.size := fun j hj => hpl j (by rw [← hq]; simp [hj])
    have hkk : k < s.size := hpl k (by rw [← hq]; simp)
    have htw : (poss s).takeWhile (okP s most) = p := by
      rw [← hq]
      refine take_all (okP s most) p (k :: q) (fun j hj => ?_) (fun x l h => ?_)
      · have := hp j hj
        rw [endZ_in s j hs (hin j hj)] at this
        unfold okP
        rw [decide_eq_true_iff]
        omega
      · obtain ⟨rfl, _⟩ := List.cons.inj h
        rw [endZ_in s k hs hkk] at hk
        unfold okP
        rw [decide_eq_false_iff_not]
        omega
    have HQ : Hid (posAt s 0 = p ++ k :: q) := hq.symm
    clear hp hk hkk hq
    obtain ⟨e, he⟩ : ∃ e, endFrom s 0 (p) = e := ⟨_, rfl⟩
    have hes : e ≤ s.size := by rw [← he]; exact (end_next s (p) 0 (k :: q) (Nat.zero_le _) (HQ.out)).2
    have hcut : cutE s most = e := by rw [← he]; unfold cutE; rw [htw]
    have hE := endW_in s (p) hs (hin)
    rw [he] at hE
    have hei : (e : Int) ≤ (s.size : Int) := by omega
    have hv2 : Boxed W (w.heap.size + 1) 3 (.int .i64 (e : Int)) := by rw [← hE]; exact hv
    have hc := hv2.cell
    have HC : Hid (cutE s most = e) := hcut
    have HB : Hid (Below w.heap.size w W) := hB
    clear hv hB hE he hcut
    gi_wp2_with fail
    refine ⟨trivial, ?_⟩
    refine (callsIn_wide.2 (clone_any _ _ (by simp; omega))).mono ?_
    rintro e2 w2 ⟨rfl, hb2⟩
    have hK2 : w2.heap[D]? = some (.deferred (some [])) := (hb2.block D (Array.getElem?_eq_some_iff.1 hK).1).trans hK
    have hB2 := HB.out.trans (hb2.mono HB.out.size)
    gi_wp2
    refine ⟨by simp, .inl ⟨_, _, rfl, run_takeDeferred hK2, ?_⟩⟩
    exact ⟨_, results_tmp rfl _ _ _, by rw [HC.out]; rfl, hB2.trans (belowK_b (w := w) (Nat.le_refl _) w2 D _ _ (by omega) hK2 rfl rfl)⟩
end Go.Proofs.YtabofadjnbpjkaaDoor
