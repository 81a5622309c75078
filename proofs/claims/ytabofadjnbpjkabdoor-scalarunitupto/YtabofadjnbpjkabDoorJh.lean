/-
  The contract of the document's Unit. Conditions: the text has at most 2^35 bytes.
-/
import Derived.Test.YtabofadjnbpjkabDoorJg
namespace Go.Proofs.YtabofadjnbpjkabDoor
open Go.RowKit Go.Lib
theorem tk_step (s : ByteArray) (k q : Nat) (h : (poss s)[k]? = some q) : (poss s).take (k + 1) = (poss s).take k ++ [q] := by rw [List.take_add_one, h]; rfl
set_option maxRecDepth 100000 in
set_option maxHeartbeats 2000000 in
theorem runit_good (s : ByteArray) (u : Int) (w : World) (hs : s.size ≤ 5864062010000) (hu0 : 0 ≤ u) (hu1 : u ≤ 9223372036854775807) : Calls Tryd.prog 27 #[.string s, .int .i64 u] w fun e W' => e = .returned (.tuple #[.int .i64 (unA s u).1, .int .i64 (unA s u).2]) ∧ Below w.heap.size w W' := by
  have hlen : (poss s).length ≤ s.size := posAt_len s s.size 0 (by omega)
  have HU : Hid (0 ≤ u) := hu0
  have hneg : ¬ u < 0 := by omega
  have hsi : (s.size : Int) ≤ 5864062010000 := by omega
  have KP : Hid (Calls Tryd.prog 38 #[.string s] w fun e W' => ∃ v, e = .returned v ∧ W'.ownsRow w.heap.size 71 4 v (poss s).length (pcsC s (poss s)) ∧ Below w.heap.size w W') := rpieces_any s w hs
  have HL : Hid ((poss s).length ≤ s.size ∧ s.size ≤ 5864062010000) := ⟨hlen, hs⟩
  have hpi : ((poss s).length : Int) ≤ 5864062010000 := by omega
  clear hs hlen hu0
  go_enter Tryd.func27, Tryd.ntmps27
  go_wp2_with (go_at_call 38; refine KP.out.mono ?_)
  first | rintro e w1 v1 rfl hp hb | rintro e w1 ⟨v1, rfl, hp, hb⟩
  obtain ⟨a1, c1, rfl, hn1⟩ := owns_slice hp
  have HP : Hid (w1.ownsRow w.heap.size 71 4 (.slice a1 (poss s).length c1) (poss s).length (pcsC s (poss s))) := hp
  have HB0 : Hid (Below w.heap.size w w1) := hb
  clear hp hb KP
  go_wp2_with fail
  go_loopw [6, 14] (fun x i wr => ∃ (k : Nat) (c : Int), i = .int .i64 (k : Nat) ∧ x = .int .i64 c ∧ k ≤ (poss s).length ∧ Hid (c = unS s ((poss s).take k) ∧ c ≤ u ∧ ∀ rest, fuU s ((poss s).take k ++ rest) u = fuU s rest (u - unS s ((poss s).take k))) ∧ Hid (Below w1.heap.size w1 wr)) (fun _ i _ => (poss s).length - (RowKit.intOf i).toNat)
  case atStart => exact ⟨0, 0, rfl, rfl, Nat.zero_le _, ⟨by simp [unS], HU.out, fun rest => by simp [unS]⟩, Below.refl _ _⟩
  case round =>
    obtain ⟨k, c, rfl, rfl, hk, hI, hB⟩ := hrel
    have hwz := hB.out.size
    have hc0 : 0 ≤ c := by rw [hI.out.1]; omega
    have hc1 : c ≤ 11728124020000 := by
      have h1 := hI.out.1
      have h2 := unS_le s ((poss s).take k)
      have h3 := HL.out
      have h4 : ((poss s).take k).length ≤ (poss s).length := by rw [List.length_take]; omega
      omega
    by_cases hlt : k < (poss s).length
    · have hlti : (k : Int) < ((poss s).length : Int) := by omega
      obtain ⟨g, rfl⟩ := hn1 (by omega)
      have hq : (poss s)[k]? = some (poss s)[k] := List.getElem?_eq_getElem hlt
      obtain ⟨q, hq0⟩ : ∃ q, (poss s)[k] = q := ⟨_, rfl⟩
      rw [hq0] at hq
      have hpp := owns_below HP.out hB.out
      have c0 : wr.cell? ⟨g, k * 4, none⟩ = some (.int .i64 q) := owns_cell hpp rfl _ _ ((pcsC_at s 0 (by omega) _ _ _ hq).trans rfl)
      have c1' : wr.cell? ⟨g, k * 4 + 1, none⟩ = some (.int .i64 (pSt s q)) := owns_cell hpp rfl _ _ ((pcsC_at s 1 (by omega) _ _ _ hq).trans rfl)
      have c2 : wr.cell? ⟨g, k * 4 + 2, none⟩ = some (.int .i32 (pRu s q)) := owns_cell hpp rfl _ _ ((pcsC_at s 2 (by omega) _ _ _ hq).trans rfl)
      have c3 : wr.cell? ⟨g, k * 4 + 3, none⟩ = some (.bool (pWr s q)) := owns_cell hpp rfl _ _ ((pcsC_at s 3 (by omega) _ _ _ hq).trans rfl)
      have hN := unR_le (pRu s q)
      obtain ⟨N, hNN⟩ : ∃ N : Int, ((unR (pRu s q) : Nat) : Int) = N := ⟨_, rfl⟩
      have n0 : 0 ≤ N := by omega
      have n1 : N ≤ 2 := by omega
      have KU : Hid (∀ W, Calls Tryd.prog 45 #[.int .i32 (pRu s q : Nat)] W fun e w' => e = .returned (.int .i64 N) ∧ w' = W) := fun W => by
        have := runits_any1 (pRu s q) W
        rw [hNN] at this
        exact this
      have HX : Hid (u < c + N → fuU s (poss s) u = some q) := fun h => by
        have h1 := fu_stop s u ((poss s).take k) q hI.out.2.2 (by have := hI.out.1; omega) ((poss s).drop (k + 1))
        have e : (poss s).take k ++ [q] ++ (poss s).drop (k + 1) = poss s := by rw [← tk_step s k q hq, List.take_append_drop]
        rw [e] at h1
        exact h1
      have HS : Hid (c + N ≤ u → (c + N = unS s ((poss s).take (k + 1)) ∧ c + N ≤ u ∧ ∀ rest, fuU s ((poss s).take (k + 1) ++ rest) u = fuU s rest (u - unS s ((poss s).take (k + 1))))) := fun h => by
        rw [tk_step s k q hq]
        refine ⟨by rw [unS_app]; have := hI.out.1; omega, h, fu_step s u _ q hI.out.2.2 (by have := hI.out.1; omega)⟩
      have HBA : Hid (Below w.heap.size w (wr.alloc (.cells #[.int .i64 q, .int .i64 (pSt s q), .int .i32 (pRu s q), .bool (pWr s q)] 71)) ∧ Below w1.heap.size w1 (wr.alloc (.cells #[.int .i64 q, .int .i64 (pSt s q), .int .i32 (pRu s q), .bool (pWr s q)] 71))) := by
        have h1 := hB.out.alloc hwz (.cells #[.int .i64 q, .int .i64 (pSt s q), .int .i32 (pRu s q), .bool (pWr s q)] 71)
        exact ⟨HB0.out.trans (h1.mono HB0.out.size), h1⟩
      have HK : Hid (k < (poss s).length) := hlt
      clear hpp hq hq0 hN hNN hI hB hn1
      by_cases hq2 : u < c + N
      · have HF : Hid (unA s u = (((q : Nat) : Int), 0)) := by unfold Hid unA; rw [if_neg (by have := HU.out; omega), HX.out hq2]
        clear HX HS
        go_wp2_with (go_at_call 45; refine (KU.out _).mono ?_; rintro e w' ⟨rfl, rfl⟩)
        refine bodyPost_ret (v := .tuple #[.int .i64 q, .int .i64 0]) ?_ rfl ⟨by rw [HF.out], HBA.out.1⟩
        simp [results, Tryd.results27, go_sem]
      · have HS2 : Hid _ := HS.out (by omega)
        clear HX HS
        go_wp2_with (go_at_call 45; refine (KU.out _).mono ?_; rintro e w' ⟨rfl, rfl⟩)
        refine ⟨⟨k + 1, c + N, ?_, rfl, ?_, HS2.out, HBA.out.2⟩, ?_⟩
        · go_num
        · have := HK.out; omega
        · have := HK.out; simp [RowKit.intOf]; omega
    · have hlti : ¬ (k : Int) < ((poss s).length : Int) := by omega
      have hkk : k = (poss s).length := by omega
      have HF : Hid (fuU s (poss s) u = if 0 < u - c then none else some s.size) := by
        have h1 := hI.out.2.2 []
        rw [hkk, List.take_length, List.append_nil, fuU] at h1
        have h2 := hI.out.1
        rw [hkk, List.take_length] at h2
        unfold Hid
        rw [h1, ← h2]
      have HB1 : Hid (Below w.heap.size w wr) := HB0.out.trans (hB.out.mono HB0.out.size)
      clear hI hB hn1 hkk
      by_cases hq2 : c < u
      · have HA : Hid (unA s u = (0, 21)) := by unfold Hid unA; rw [if_neg (by have := HU.out; omega), HF.out, if_pos (by omega)]
        clear HF
        go_wp2
        refine bodyPost_ret (v := .tuple #[.int .i64 0, .int .i64 21]) ?_ rfl ⟨by rw [HA.out], HB1.out⟩
        simp [results, Tryd.results27, go_sem]
      · have HA : Hid (unA s u = (((s.size : Nat) : Int), 0)) := by unfold Hid unA; rw [if_neg (by have := HU.out; omega), HF.out, if_neg (by omega)]
        clear HF
        go_wp2
        refine bodyPost_ret (v := .tuple #[.int .i64 s.size, .int .i64 0]) ?_ rfl ⟨by rw [HA.out], HB1.out⟩
        simp [results, Tryd.results27, go_sem]
theorem runit_any (s : ByteArray) (u : Int) (w : World) (hs : s.size ≤ 5864062010000) (hu1 : u ≤ 9223372036854775807) : Calls Tryd.prog 27 #[.string s, .int .i64 u] w fun e W' => e = .returned (.tuple #[.int .i64 (unA s u).1, .int .i64 (unA s u).2]) ∧ Below w.heap.size w W' := by
  by_cases hu : u < 0
  · have e : unA s u = (0, 21) := by unfold unA; rw [if_pos hu]
    rw [e]
    clear e hs
    go_enter Tryd.func27, Tryd.ntmps27
    go_wp2
    refine bodyPost_ret (v := .tuple #[.int .i64 0, .int .i64 21]) ?_ rfl ⟨rfl, Below.refl _ _⟩
    simp [results, Tryd.results27, go_sem]
  · exact runit_good s u w hs (by omega) hu1
end Go.Proofs.YtabofadjnbpjkabDoor
