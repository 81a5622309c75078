/-
  The contracts of merged, Make and awake: the set of spans. Conditions: the numbers fit; the list takes no more bytes than there are.
-/
import Derived.Test.YtddoanmhikldiabSo
import Derived.Test.YtddoanmhikldiabRi
namespace Go.Proofs.Ytddoanmhikldiab
open Go.RowKit
theorem fold_snoc (l : List Sn) (x : List Sn) (s : Sn) : (l ++ [s]).foldl joinL x = joinL (l.foldl joinL x) s := by simp
set_option maxRecDepth 100000 in
set_option maxHeartbeats 1000000 in
theorem merged_any (L : List Sn) (v : Value) (w : World) (hr : RdS w v L) (hl : L.length ≤ 65536) (hm : ∀ s ∈ L, mayB s = true) : Calls Try.prog 27 #[v] w fun e w' => ∃ v' X, e = .returned v' ∧ w'.ownsRow w.heap.size 41 2 v' X.length (celS X) ∧ isS 0 X = true ∧ (∀ p, hasB X p = hasB L p) ∧ X.length ≤ L.length ∧ Below w.heap.size w w' := by
  have HR : Hid (RdS w v L) := hr
  obtain ⟨a, c, rfl, hlc, hc⟩ := hr
  clear hc
  go_enter Try.func27, Try.ntmps27
  go_wp2_with fail
  refine (clone_any L _ w HR.out (by omega)).mono ?_
  rintro e w1 ⟨v1, rfl, O1, B1⟩
  have hO1 : Hid (w1.ownsRow w.heap.size 41 2 v1 L.length (celS L)) := O1
  have hB1 : Hid (Below w.heap.size w w1) := B1
  clear O1 B1 HR
  go_wp2_with fail
  refine (sorted_any w.heap.size L v1 w1 hO1.out (by omega)).mono ?_
  rintro e w2 ⟨rfl, L', hp, hpw, hr2, hz2, hb2⟩
  have hB2 : Hid (Below w.heap.size w w2) := hB1.out.trans (hb2 hB1.out.size)
  have hlen : L'.length = L.length := hp.length_eq
  obtain ⟨a', c', rfl, hlc', hc'⟩ := hr2
  rw [hlen]
  have HC : Hid _ := hc'
  have HP : Hid _ := hp
  have HW : Hid _ := hpw
  have HL : Hid (L'.length = L.length) := hlen
  have hm' : Hid (∀ s ∈ L', mayB s = true) := fun s hs => hm s (hp.subset hs)
  clear hc' hp hpw hb2 hB1 hO1 hlen hz2
  have hw2 := hB2.out.size
  go_wp2_with fail
  go_loopw [4, 13] (fun x y wr => ∃ k : Nat, k ≤ L.length ∧ y = .int .i64 (k : Nat) ∧ Hid (wr.ownsRow w2.heap.size 41 2 x ((L'.take k).foldl joinL []).length (celS ((L'.take k).foldl joinL []))) ∧ Hid (Below w2.heap.size w2 wr)) (fun _ y _ => (L.length - (intOf y).toNat : Nat))
  case atStart => exact ⟨0, Nat.zero_le _, rfl, World.ownsRow_nil _ _ _ _, Below.refl _ _⟩
  case round =>
    obtain ⟨k, hk, rfl, hO, hB⟩ := hrel
    by_cases hkl : k < L.length
    · obtain ⟨g, off, rfl, hd⟩ := HC.out (by have := HL.out; omega)
      obtain ⟨d1, d2⟩ := hd k (by have := HL.out; omega)
      have kl : (k : Int) < (L.length : Int) := by omega
      have g1 := World.block_lt_of_cell? w2 _ d1
      have e1 := (hB.out.cell (p := ⟨g, off + k * 2, none⟩) (by simpa using g1)).trans d1
      have e2 := (hB.out.cell (p := ⟨g, off + k * 2 + 1, none⟩) (by simpa using g1)).trans d2
      clear d1 d2 hd g1 HC
      have hsn : Hid (L'.take (k + 1) = L'.take k ++ [L'.getD k (0, 0)]) := take_snoc L' k (by have := HL.out; omega)
      have hset : Hid (isS 0 ((L'.take k).foldl joinL []) = true) := (fold_set (L'.take k) [] rfl (fun s hs => hm'.out s (List.mem_of_mem_take hs)) (fun t ht => by cases ht) (HW.out.sublist (List.take_sublist _ _))).1
      have hfl : Hid (((L'.take k).foldl joinL []).length ≤ 65536) := by
        have := fold_len (L'.take k) []
        rw [Hid]
        simp at this
        omega
      generalize L'.getD k (0, 0) = s at *
      obtain ⟨x, y⟩ := s
      have hbsz := hB.out.size
      have hmm : Hid (∀ t ∈ (L'.take k).foldl joinL [], 0 ≤ t.2 ∧ t.2 ≤ 1114111) := fun t ht => by have := may_iff.1 (isS_mem hset.out t ht).1; omega
      go_wp2_with fail
      refine (joined_any w2.heap.size ((L'.take k).foldl joinL []) (x, y) u4 (wr.alloc (.cells #[.int .i32 x, .int .i32 y] 41)) (by simp; omega) (hO.out.alloc _) hmm.out (by have := hfl.out; omega)).mono ?_
      rintro e w3 ⟨v3, rfl, O3, B3⟩
      have O4 : Hid (w3.ownsRow w2.heap.size 41 2 v3 ((L'.take (k + 1)).foldl joinL []).length (celS ((L'.take (k + 1)).foldl joinL []))) := by rw [Hid, hsn.out, fold_snoc]; exact O3
      have B4 : Hid (Below w2.heap.size w2 w3) := (hB.out.alloc hbsz _).trans B3
      clear O3 B3 hO hB
      go_wp2
      refine ⟨⟨k + 1, by omega, by go_num, O4.out, B4.out⟩, by simp [intOf]; omega⟩
    · have hkk : k = L.length := by omega
      subst hkk
      have hT : Hid (L'.take L.length = L') := by rw [Hid, ← HL.out, List.take_length]
      have hset := fold_set L' [] rfl hm'.out (fun t ht => by cases ht) HW.out
      have hfl := fold_len L' []
      have HS : Hid _ := hset
      have HF : Hid _ := hfl
      clear hset hfl
      go_wp2
      go_ret
      have O5 := hO.out
      rw [hT.out] at O5
      refine ⟨_, _, rfl, ?_, HS.out.1, fun p => ?_, ?_, hB2.out.trans (hB.out.mono hw2)⟩
      · obtain ⟨h1, h2 | ⟨g, cap, cur, h3, h4, h5⟩⟩ := O5
        · exact ⟨h1, .inl h2⟩
        · exact ⟨h1, .inr ⟨g, cap, cur, h3, Nat.le_trans hw2 h4, h5⟩⟩
      · rw [HS.out.2 p, has_nil, Bool.false_or]; exact has_perm HP.out p
      · have := HF.out; have := HL.out; simp at *; omega
end Go.Proofs.Ytddoanmhikldiab
