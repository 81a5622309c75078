/-
  The contract of the words' iterator: it hands the words of a text to a loop's body, one behind the other. Conditions: the library's two tables hold what their text lays.
-/
import Derived.Test.YtcjlplaepnpopaaDoorDs
import Derived.Test.YtcjlplaepnpopaaDoorShelf
import Derived.RangeFuncNested
import Derived.RangeFuncBound
import Derived.RangeFuncCalls
import Derived.RangeFuncBox
import Derived.RangeFuncLeaves
import Derived.Shelf.Abstract
import Derived.OwnWalkIn
import Derived.TacticsInMore
import Derived.LoopNIn
import Derived.LoopIn
import Derived.Maps.AppendAt
namespace Go.Proofs.YtcjlplaepnpopaaDoor
open Go.RowKit
open Go.Lib Go.Shelf
attribute [local go_sem] Oper.semAt_some
/-- What a round keeps: what lay below n₀, and the two boxes of the words' iterator. -/
def Kq (n₀ Bs Bf : Nat) (W W' : World) : Prop := Below n₀ W W' ∧ W'.heap[Bs]? = W.heap[Bs]? ∧ W'.heap[Bf]? = W.heap[Bf]?
theorem Kq.trans {n₀ Bs Bf : Nat} {X Y Z : World} (h : Kq n₀ Bs Bf X Y) (k : Kq n₀ Bs Bf Y Z) : Kq n₀ Bs Bf X Z := ⟨h.1.trans k.1, k.2.1.trans h.2.1, k.2.2.trans h.2.2⟩
theorem Kq.put {n₀ Bs Bf : Nat} {w : World} (hn : n₀ ≤ w.heap.size) (h1 : Bs < w.heap.size) (h2 : Bf < w.heap.size) (W : World) (l : Nat) (o o' : Obj) (hl : w.heap.size ≤ l) (_ : W.heap[l]? = some o) : Kq n₀ Bs Bf W (W.putObj l o') := by
  have other : ∀ k, k ≠ l → (W.putObj l o').heap[k]? = W.heap[k]? := fun k hk => World.putObj_heap_other hk
  have hsz : (W.putObj l o').heap.size = W.heap.size := by simp
  exact ⟨⟨rfl, rfl, rfl, by omega, fun k hk => other k (by omega)⟩, other Bs (by omega), other Bf (by omega)⟩
theorem tabs_below {w w' : World} (hT : Utf8Tabs 1 2 w) (hg : 2 < w.heap.size) (hb : Below w.heap.size w w') : Utf8Tabs 1 2 w' :=
  ⟨fun c hc => (hb.cell (p := ⟨1, c, none⟩) (by simp; omega)).trans (hT.1 c hc), fun i hi => ⟨(hb.cell (p := ⟨2, 2 * i, none⟩) hg).trans (hT.2 i hi).1, (hb.cell (p := ⟨2, 2 * i + 1, none⟩) hg).trans (hT.2 i hi).2⟩⟩
theorem tabs_below2 {n : Nat} {w w' : World} (hT : Utf8Tabs 1 2 w) (hn : 3 ≤ n) (hb : Below n w w') : Utf8Tabs 1 2 w' :=
  ⟨fun c hc => (hb.cell (p := ⟨1, c, none⟩) (by simp; omega)).trans (hT.1 c hc), fun i hi => ⟨(hb.cell (p := ⟨2, 2 * i, none⟩) (by simp; omega)).trans (hT.2 i hi).1, (hb.cell (p := ⟨2, 2 * i + 1, none⟩) (by simp; omega)).trans (hT.2 i hi).2⟩⟩
theorem grown_of_below {W W' : World} (h : Below W.heap.size W W') : W.grownBy W' none := ⟨h.os, h.tape, h.output, h.size, fun k hk _ => h.block k hk⟩
theorem em_step (s : ByteArray) (k : Nat) (hk : k < s.size) : emL s k <+: emL s (k + 1) := by
  by_cases h : byt s k = 32
  · rw [(em_hit hk h).1]; exact List.prefix_append _ _
  · have e := (em_miss (s := s) (k := k) (z := 1) (by decide) fun j h1 h2 => (show j = k by omega) ▸ h).1
    rw [e]
    exact List.prefix_refl _
theorem em_mono (s : ByteArray) (k : Nat) : ∀ d, k + d ≤ s.size → emL s k <+: emL s (k + d)
  | 0, _ => List.prefix_refl _
  | d + 1, h => (em_mono s k d (by omega)).trans (em_step s (k + d) (by omega))
theorem em_pre (s : ByteArray) (k : Nat) (hk : k ≤ s.size) : emL s k <+: wrdL s := by
  have h := em_mono s k (s.size - k) (by omega)
  rw [show k + (s.size - k) = s.size by omega] at h
  rw [em_end]
  exact h.trans (List.prefix_append _ _)
theorem em_start (s : ByteArray) (k : Nat) : emS s k = -1 ∨ (emS s k = ((cutA s 32 k).2 : Int) ∧ (cutA s 32 k).2 < k) := by
  unfold emS
  by_cases c : (cutA s 32 k).2 < k
  · rw [if_pos c]; exact .inr ⟨rfl, c⟩
  · rw [if_neg c]; exact .inl rfl
theorem em_more {s : ByteArray} {k : Nat} {x : ByteArray} (h : emL s k ++ [x] <+: wrdL s) : (emL s k).length < (wrdL s).length := by
  have := h.length_le
  simp at this
  omega
set_option maxRecDepth 100000 in
set_option maxHeartbeats 2000000 in
theorem ff_in (n l Bs Bf n₀ : Nat) (s : ByteArray) (hs : s.size < 4294967281) (J Jx : List ByteArray → World → Prop)
    (W : World) (hJ : ∀ s W1 W2, J s W1 → W1.grownBy W2 none → J s W2)
    (hY : ∀ pre x W, J pre W → pre.length < (wrdL s).length → 0 < x.size → x.size ≤ s.size → YieldAt Fence.wide (n - 1) Tryd.prog l #[.string x] W fun e W' =>
      (e = .returned (.bool true) ∧ J (pre ++ [x]) W' ∧ Kq n₀ Bs Bf W W') ∨ (e = .returned (.bool false) ∧ Jx (pre ++ [x]) W'))
    (hBs : W.heap[Bs]? = some (.cells #[.string s] 9 (0, 0))) (hBf : W.heap[Bf]? = some (.cells #[.func (.func 23) #[] #[]] 67 (0, 0))) (hn0 : 3 ≤ n₀) (hn1 : n₀ ≤ W.heap.size) (hT : Utf8Tabs 1 2 W) (h0 : J [] W) :
    CallsIn Fence.wide n Tryd.prog 39 #[.func (.yield l) #[] #[], .pointer (some ⟨Bs, 0, none⟩), .pointer (some ⟨Bf, 0, none⟩)] W fun e W' => (∃ v, e = .returned v) ∧
      ((∃ ys, ys = wrdL s ∧ J ys W') ∨ (∃ pre, pre <+: wrdL s ∧ Jx pre W')) := by
  have HJ : Hid (∀ s W1 W2, J s W1 → W1.grownBy W2 none → J s W2) := hJ
  have HY : Hid (∀ pre x W, J pre W → pre.length < (wrdL s).length → 0 < x.size → x.size ≤ s.size → YieldAt Fence.wide (n - 1) Tryd.prog l #[.string x] W fun e W' =>
      (e = .returned (.bool true) ∧ J (pre ++ [x]) W' ∧ Kq n₀ Bs Bf W W') ∨ (e = .returned (.bool false) ∧ Jx (pre ++ [x]) W')) := hY
  clear hJ hY
  refine callsIn_of_wp Tryd.func39 rfl trivial ?_ rfl
  simp only [Tryd.ntmps39, List.size_toArray, List.length_cons, List.length_nil, Nat.reduceAdd, Nat.reduceSub, Array.replicate_succ, Array.replicate_zero, List.push_toArray, List.append_toArray, List.nil_append, List.cons_append]
  gi_wp2
  gi_loopw [4, 5] (fun st i wr => ∃ k : Nat, st = .int .i64 (emS s k) ∧ i = .int .i64 k ∧ k ≤ s.size ∧ Hid (J (emL s k) wr) ∧ wr.heap[Bs]? = some (.cells #[.string s] 9 (0, 0)) ∧ wr.heap[Bf]? = some (.cells #[.func (.func 23) #[] #[]] 67 (0, 0)) ∧ n₀ ≤ wr.heap.size ∧ Hid (Utf8Tabs 1 2 wr))
    (fun _ i _ => s.size - (RowKit.intOf i).toNat)
  case atStart => exact ⟨0, rfl, rfl, Nat.zero_le _, h0, hBs, hBf, hn1, hT⟩
  case round =>
    obtain ⟨k, rfl, rfl, hk, hJs, hbs, hbf, hnr, hTr⟩ := hrel
    clear hBs hBf hn1 hT h0
    have hc : wr.cell? ⟨Bs, 0, none⟩ = some (.string s) := by simp [World.cell?, hbs]
    have hcf : wr.cell? ⟨Bf, 0, none⟩ = some (.func (.func 23) #[] #[]) := by simp [World.cell?, hbf]
    have hss : s.size ≤ 140737488351232 := by omega
    by_cases hlt : k < s.size
    · have hlti : (k : Int) < (s.size : Int) := by omega
      obtain ⟨r, z, hd, hz, hkz, hr32, hz1, hmiss⟩ := dec_at s k hlt
      have key := Tryd.utf8_DecodeRuneInString (s.extract k s.size) wr hTr.out
      rw [hd] at key
      have HM : Hid (1 ≤ z ∧ k + z ≤ s.size ∧ (r = 32 ↔ byt s k = 32) ∧ (r = 32 → z = 1) ∧ (r ≠ 32 → ∀ j, k ≤ j → j < k + z → byt s j ≠ 32)) := ⟨hz, hkz, hr32, hz1, hmiss⟩
      clear hd hz hkz hr32 hz1 hmiss
      gi_wp2_with fail
      refine ⟨trivial, fun h => (by cases h), ?_⟩
      refine (callsIn_wide.2 key).mono ?_
      rintro e w1 ⟨rfl, hb⟩
      have hJ1 : Hid (J (emL s k) w1) := HJ.out _ _ _ hJs.out (grown_of_below hb)
      have hs1 : wr.heap.size ≤ w1.heap.size := hb.size
      have hbs1 : w1.heap[Bs]? = some (.cells #[.string s] 9 (0, 0)) := (hb.block Bs (Array.getElem?_eq_some_iff.1 hbs).1).trans hbs
      have hbf1 : w1.heap[Bf]? = some (.cells #[.func (.func 23) #[] #[]] 67 (0, 0)) := (hb.block Bf (Array.getElem?_eq_some_iff.1 hbf).1).trans hbf
      have hT1 : Hid (Utf8Tabs 1 2 w1) := tabs_below2 hTr.out hn0 (hb.mono hnr)
      have hn1 : n₀ ≤ w1.heap.size := by omega
      have hc1 : w1.cell? ⟨Bs, 0, none⟩ = some (.string s) := by simp [World.cell?, hbs1]
      have hcf1 : w1.cell? ⟨Bf, 0, none⟩ = some (.func (.func 23) #[] #[]) := by simp [World.cell?, hbf1]
      clear hJs hTr hb key hc hcf hbs hbf hnr hs1
      gi_wp2_with fail
      refine ⟨trivial, fun h => (by cases h), ?_⟩
      refine (callsIn_wide.2 (isSpace_any (r : Int) w1)).mono ?_
      rintro e w1' ⟨rfl, hw⟩
      rw [hw]
      clear hw w1'
      by_cases hr : r = 32
      · obtain ⟨m1, m2, m3, m4, m5⟩ := HM.out
        have e1 : ((r : Int) == 32) = true := by rw [hr]; rfl
        have hz : z = 1 := m4 hr
        have hi := em_hit hlt (m3.1 hr)
        subst hz
        have HI : Hid (emL s (k + 1) = emL s k ++ (if 0 ≤ emS s k then [s.extract (cutA s 32 k).2 k] else []) ∧ emS s (k + 1) = -1) := hi
        clear hi m1 m2 m3 m4 m5
        rw [e1]
        rcases em_start s k with hst | ⟨hst, hA⟩
        · have HI2 : Hid (emL s (k + 1) = emL s k ∧ emS s (k + 1) = -1) := by
            have := HI.out
            rw [hst] at this
            exact ⟨by simpa using this.1, this.2⟩
          rw [hst]
          clear HI hst
          gi_wp2
          go_roundw
          case rel => exact ⟨k + 1, by rw [HI2.out.2], by go_num, by omega, by rw [HI2.out.1]; exact hJ1, hbs1, hbf1, hn1, hT1⟩
          case measure => simp [RowKit.intOf]; omega
        · have HI2 : Hid (emL s (k + 1) = emL s k ++ [s.extract (cutA s 32 k).2 k] ∧ emS s (k + 1) = -1) := by
            have := HI.out
            rw [hst] at this
            exact ⟨by simpa using this.1, this.2⟩
          rw [hst]
          clear HI hst
          have hpre : emL s k ++ [s.extract (cutA s 32 k).2 k] <+: wrdL s := by rw [← HI2.out.1]; exact em_pre s (k + 1) (by omega)
          have HP : Hid (emL s k ++ [s.extract (cutA s 32 k).2 k] <+: wrdL s) := hpre
          obtain ⟨fn, tmps, assign, body, hy, hR⟩ := HY.out (emL s k) (s.extract (cutA s 32 k).2 k) w1 hJ1.out (em_more hpre) (by rw [ByteArray.size_extract]; omega) (by rw [ByteArray.size_extract]; omega)
          clear hpre
          generalize hAe : (cutA s 32 k).2 = A at *
          have hA2 : (A : Int) ≤ (k : Int) := by omega
          have hk2 : (k : Int) ≤ (s.size : Int) := by omega
          have h02 : (0 : Int) ≤ (A : Int) := by omega
          clear hAe
          gi_wp2
          refine ⟨fun h => (by cases h), hR.mono ?_⟩
          rintro e W3 (⟨rfl, hJ3, hk3⟩ | ⟨rfl, hJx3⟩)
          · have hbs3 := hk3.2.1.trans hbs1
            have hbf3 := hk3.2.2.trans hbf1
            have hT3 : Hid (Utf8Tabs 1 2 W3) := tabs_below2 hT1.out hn0 hk3.1
            have hn3 : n₀ ≤ W3.heap.size := Nat.le_trans hn1 hk3.1.size
            have HJ3 : Hid (J (emL s (k + 1)) W3) := by rw [HI2.out.1]; exact hJ3
            clear hJ3 hk3 hR hT1 hJ1 hbs1 hbf1 hn1 hc1 hcf1
            gi_wp2
            go_roundw
            case rel => exact ⟨k + 1, by rw [HI2.out.2], by go_num, by omega, HJ3, hbs3, hbf3, hn3, hT3⟩
            case measure => simp [RowKit.intOf]; omega
          · gi_wp2
            refine bodyPost_ret (results_none rfl _ _ _) rfl ?_
            exact ⟨⟨_, rfl⟩, .inr ⟨_, HP.out, hJx3⟩⟩
      · obtain ⟨m1, m2, m3, m4, m5⟩ := HM.out
        have e1 : ((r : Int) == 32) = false := by
          rw [beq_eq_false_iff_ne]
          omega
        have hi := em_miss (s := s) (k := k) (z := z) m1 (m5 hr)
        have HI : Hid (emL s (k + z) = emL s k ∧ emS s (k + z) = if emS s k < 0 then (k : Int) else emS s k) := hi
        have hkz : (k : Int) + (z : Int) ≤ (s.size : Int) := by omega
        have hzz : 1 ≤ (z : Int) := by omega
        clear hi m3 m4 m5
        rw [e1]
        rcases em_start s k with hst | ⟨hst, hA⟩
        · have HI2 : Hid (emL s (k + z) = emL s k ∧ emS s (k + z) = (k : Int)) := by
            have := HI.out
            rw [hst] at this
            exact ⟨this.1, by simpa using this.2⟩
          rw [hst]
          clear HI hst
          gi_wp2
          go_roundw
          case rel => exact ⟨k + z, by rw [HI2.out.2], by go_num, by omega, by rw [HI2.out.1]; exact hJ1, hbs1, hbf1, hn1, hT1⟩
          case measure => simp [RowKit.intOf]; omega
        · have HI2 : Hid (emL s (k + z) = emL s k ∧ emS s (k + z) = ((cutA s 32 k).2 : Int)) := by
            have := HI.out
            rw [hst] at this
            exact ⟨this.1, by rw [this.2, if_neg (by omega)]⟩
          rw [hst]
          clear HI hst
          generalize hAe : (cutA s 32 k).2 = A at *
          have h02 : ¬ (A : Int) < 0 := by omega
          clear hAe
          gi_wp2
          go_roundw
          case rel => exact ⟨k + z, by rw [HI2.out.2], by go_num, by omega, by rw [HI2.out.1]; exact hJ1, hbs1, hbf1, hn1, hT1⟩
          case measure => simp [RowKit.intOf]; omega
    · have hlti : ¬ (k : Int) < (s.size : Int) := by omega
      obtain rfl : k = s.size := by omega
      have he := em_end s
      rcases em_start s s.size with hst | ⟨hst, hA⟩
      · have HE : Hid (wrdL s = emL s s.size) := by rw [hst, if_neg (by decide), List.append_nil] at he; exact he
        have HJ3 : Hid (J (wrdL s) wr) := by rw [HE.out]; exact hJs.out
        rw [hst]
        clear he hst
        gi_wp2
        go_end0
        exact ⟨⟨_, rfl⟩, .inl (by first | exact HJ3.out | exact ⟨_, rfl, HJ3.out⟩)⟩
      · have HE : Hid (wrdL s = emL s s.size ++ [s.extract (cutA s 32 s.size).2 s.size]) := by rw [hst, if_pos (Int.natCast_nonneg _)] at he; exact he
        rw [hst]
        clear he hst
        obtain ⟨fn, tmps, assign, body, hy, hR⟩ := HY.out (emL s s.size) (s.extract (cutA s 32 s.size).2 s.size) wr hJs.out (by rw [HE.out]; simp) (by rw [ByteArray.size_extract]; omega) (by rw [ByteArray.size_extract]; omega)
        generalize hAe : (cutA s 32 s.size).2 = A at *
        have hA2 : (A : Int) ≤ (s.size : Int) := by omega
        have h02 : (0 : Int) ≤ (A : Int) := by omega
        clear hAe
        gi_wp2
        refine ⟨fun h => (by cases h), hR.mono ?_⟩
        rintro e W3 (⟨rfl, hJ3, hk3⟩ | ⟨rfl, hJx3⟩)
        · clear hk3 hR
          have HJ3 : Hid (J (wrdL s) W3) := by rw [HE.out]; exact hJ3
          clear hJ3
          gi_wp2
          go_end0
          exact ⟨⟨_, rfl⟩, .inl (by first | exact HJ3.out | exact ⟨_, rfl, HJ3.out⟩)⟩
        · have HJ3 : Hid (Jx (wrdL s) W3) := by rw [HE.out]; exact hJx3
          clear hJx3 hR
          gi_wp2
          go_end0
          exact ⟨⟨_, rfl⟩, .inr ⟨_, List.prefix_refl _, HJ3.out⟩⟩
end Go.Proofs.YtcjlplaepnpopaaDoor
