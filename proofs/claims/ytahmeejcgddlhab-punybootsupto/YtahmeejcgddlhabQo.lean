/-
  Encoding.
-/
import Derived.Test.YtahmeejcgddlhabQn
namespace Go.Proofs.Ytahmeejcgddlhab
open Go.RowKit
theorem ixF_none (pr : Int → Bool) (zs : List Int) : ∀ (f k : Nat), ixF pr zs f k < 0 → ∀ j, k ≤ j → j < k + f → pr (zs.getD j 0) = false
  | 0, _, _, j, _, _ => by omega
  | f + 1, k, h, j, h1, h2 => by
    rw [ixF] at h
    by_cases c : pr (zs.getD k 0) = true
    · rw [if_pos c] at h; omega
    · rw [if_neg c] at h
      by_cases d : j = k
      · subst d; simpa using c
      · exact ixF_none pr zs f (k + 1) h j (by omega) (by omega)
/-- What encoding answers. -/
def enA (p : Bt) (zs : List Int) (e : Ending) : Prop :=
  if 0 ≤ ixF (fun n => !isSc n) zs zs.length 0 then e = .returned (.tuple #[.string ⟨#[]⟩, .int .i64 (ixF (fun n => !isSc n) zs zs.length 0), .int .i64 20])
  else if 0 ≤ ixF (isLo p) zs zs.length 0 then e = .returned (.tuple #[.string ⟨#[]⟩, .int .i64 (ixF (isLo p) zs zs.length 0), .int .i64 141])
  else ∃ os, SrtL (KZ zs) (osL p zs zs.length) os ∧
    match wrF p zs os with
    | none => e = .returned (.tuple #[.string ⟨#[]⟩, .int .i64 0, .int .i64 142])
    | some L => e = .returned (.tuple #[.string (strOfNums L), .int .i64 0, .int .i64 0])
theorem enA_tuple {p : Bt} {zs : List Int} {e : Ending} (h : enA p zs e) : ∃ s a b, e = .returned (.tuple #[.string s, .int .i64 a, .int .i64 b]) := by
  unfold enA at h
  split at h
  · exact ⟨_, _, _, h⟩
  · split at h
    · exact ⟨_, _, _, h⟩
    · obtain ⟨os, _, h⟩ := h
      split at h
      · exact ⟨_, _, _, h⟩
      · exact ⟨_, _, _, h⟩
theorem sc_range {n : Int} (h : isSc n = true) : 0 ≤ n ∧ n ≤ 1114111 := by
  unfold isSc at h
  simp at h
  omega
set_option maxRecDepth 100000 in
set_option maxHeartbeats 4000000 in
theorem encode_any (p : Bt) (zs : List Int) (v : Value) (w : World) (hp : Okb p) (hz : zs.length < 1048577) (h : Rds .i32 w v zs) :
    Calls Try.prog 20 #[.agg (bv p), v] w fun e w' => enA p zs e ∧ Below w.heap.size w w' := by
  have HB : Hid (Below w.heap.size w (w.alloc (.cells (bv p) 23))) := (Below.refl w.heap.size w).alloc (Nat.le_refl _) _
  have hl : Hid ((w.alloc (.cells (bv p) 23)).heap[w.heap.size]? = some (.cells (bv p) 23)) := heap_new _ _
  have hs1 : (w.alloc (.cells (bv p) 23)).heap.size = w.heap.size + 1 := by simp
  have HD : Hid (Rds .i32 w v zs) := h
  have k29 := idx30_any zs v (w.alloc (.cells (bv p) 23)) hz (h.below HB.out)
  obtain ⟨r1, hr1⟩ : ∃ r1, ixF (fun n => !isSc n) zs zs.length 0 = r1 := ⟨_, rfl⟩
  obtain ⟨r2, hr2⟩ : ∃ r2, ixF (isLo p) zs zs.length 0 = r2 := ⟨_, rfl⟩
  have HE : Hid (∀ e, (if 0 ≤ r1 then e = .returned (.tuple #[.string ⟨#[]⟩, .int .i64 r1, .int .i64 20])
  else if 0 ≤ r2 then e = .returned (.tuple #[.string ⟨#[]⟩, .int .i64 r2, .int .i64 141])
  else ∃ os, SrtL (KZ zs) (osL p zs zs.length) os ∧
    match wrF p zs os with
    | none => e = .returned (.tuple #[.string ⟨#[]⟩, .int .i64 0, .int .i64 142])
    | some L => e = .returned (.tuple #[.string (strOfNums L), .int .i64 0, .int .i64 0])) → enA p zs e) := fun e he => by unfold enA; rw [hr1, hr2]; exact he
  rw [hr1] at k29
  by_cases c1 : 0 ≤ r1
  · have c1' : decide (0 ≤ r1) = true := decide_eq_true c1
    clear hr1 hr2
    go_enter Try.func20, Try.ntmps20
    go_wp2_with (go_at_call 29; refine (calls_hid k29).mono ?_)
    intro _ w2 hq
    obtain ⟨rfl, b2⟩ := hq.out
    have hB2 : Hid (Below w.heap.size w w2) := HB.out.trans (b2.mono (by omega))
    clear hq b2 k29
    go_wp2
    go_ret3
    exact ⟨HE.out (.returned (.tuple #[.string ⟨#[]⟩, .int .i64 r1, .int .i64 20])) (by rw [if_pos c1]), hB2.out⟩
  have c1' : decide (0 ≤ r1) = false := decide_eq_false c1
  have hsc := ixF_none (fun n => !isSc n) zs zs.length 0 (by omega)
  have hrg : ∀ j, j < zs.length → 0 ≤ zs.getD j 0 ∧ zs.getD j 0 ≤ 1114111 := fun j hj => sc_range (by have := hsc j (Nat.zero_le _) (by omega); simpa using this)
  have h32 : ∀ j, -2147483648 ≤ zs.getD j 0 ∧ zs.getD j 0 ≤ 2147483647 := fun j => by
    by_cases d : j < zs.length
    · have := hrg j d; omega
    · rw [List.getD_eq_getElem?_getD, List.getElem?_eq_none (by omega)]; simp
  have k32 := fun w1 (h1 : Rds .i32 w1 v zs) (h2 : w1.heap[w.heap.size]? = some (.cells (bv p) 23)) => idx32_any p w.heap.size zs v w1 hz h1 h2 h32
  rw [hr2] at k32
  have hlo : ¬ 0 ≤ r2 → ∀ j, j < zs.length → isB p (zs.getD j 0) = false → p.first ≤ zs.getD j 0 := fun q j hj hb => by
    have := ixF_none (isLo p) zs zs.length 0 (by omega) j (Nat.zero_le _) (by omega)
    unfold isLo at this
    unfold isB at hb
    rw [hb] at this
    simpa using this
  have k34 := fun (q : ¬ 0 ≤ r2) w1 (h1 : Rds .i32 w1 v zs) => written_any p zs v w1 hp hz h1 hrg (hlo q)
  have CB : Hid (∀ (j : Nat) (u : Value), (bv p)[j]? = some u → ∀ (W1 : World), W1.heap[w.heap.size]? = some (.cells (bv p) 23) → W1.cell? ⟨w.heap.size, j, none⟩ = some u) := fun j u h W1 hh => by simp [World.cell?, hh, h]
  clear hr1 hr2 hsc hrg h32 hlo h
  go_enter Try.func20, Try.ntmps20
  go_wp2_with (go_at_call 29; refine (calls_hid k29).mono ?_)
  intro _ w2 hq
  obtain ⟨rfl, b2⟩ := hq.out
  have hB2 : Hid (Below w.heap.size w w2) := HB.out.trans (b2.mono (by omega))
  have hl2 : Hid (w2.heap[w.heap.size]? = some (.cells (bv p) 23)) := (b2.block _ (by omega)).trans hl.out
  have hs2 : Hid (w.heap.size + 1 ≤ w2.heap.size) := by have := b2.size; show _ ≤ _; omega
  have k32b := k32 w2 (HD.out.below hB2.out) hl2.out
  clear hq b2 k29 k32 hs1 HB hl
  generalize w.alloc (.cells (bv p) 23) = W1 at *
  generalize hO : w.heap.size = O at *
  by_cases c2 : 0 ≤ r2
  · have c2' : decide (0 ≤ r2) = true := decide_eq_true c2
    clear k34
    go_wp2_with (go_at_call 29; refine (calls_hid k32b).mono ?_)
    intro _ w3 hq
    obtain ⟨rfl, b3⟩ := hq.out
    have hB3 : Hid (Below O w w3) := hB2.out.trans (b3.mono (by have := hs2.out; omega))
    clear hq b3 k32b
    go_wp2
    go_ret3
    exact ⟨HE.out (.returned (.tuple #[.string ⟨#[]⟩, .int .i64 r2, .int .i64 141])) (by rw [if_neg (show ¬ 0 ≤ r1 by omega), if_pos c2]), by rw [hO]; exact hB3.out⟩
  have c2' : decide (0 ≤ r2) = false := decide_eq_false c2
  go_wp2_with (go_at_call 29; refine (calls_hid k32b).mono ?_)
  intro _ w3 hq
  obtain ⟨rfl, b3⟩ := hq.out
  have hB3 : Hid (Below O w w3) := hB2.out.trans (b3.mono (by have := hs2.out; omega))
  have hl3 : Hid (w3.heap[O]? = some (.cells (bv p) 23)) := (b3.block _ (by have := hs2.out; omega)).trans hl2.out
  have hs3 : Hid (O + 1 ≤ w3.heap.size) := by have := b3.size; have := hs2.out; show _ ≤ _; omega
  have k34b := k34 c2 w3 (HD.out.below (hO ▸ hB3.out))
  have a0 := CB.out 0 (.int .i64 p.base) rfl w3 hl3.out
  have a1 := CB.out 1 (.int .i64 p.least) rfl w3 hl3.out
  have a2 := CB.out 2 (.int .i64 p.most) rfl w3 hl3.out
  have a3 := CB.out 3 (.int .i64 p.skew) rfl w3 hl3.out
  have a4 := CB.out 4 (.int .i64 p.damp) rfl w3 hl3.out
  have a5 := CB.out 5 (.int .i64 p.bias) rfl w3 hl3.out
  have a6 := CB.out 6 (.int .i64 p.first) rfl w3 hl3.out
  have a7 := CB.out 7 (.int .u8 p.btw) rfl w3 hl3.out
  clear hq b3 k32b k34
  go_wp2_with (go_at_call 34; refine (calls_hid k34b).mono ?_)
  intro _ w4 hq
  obtain ⟨⟨os, hS, hm⟩, b4⟩ := hq.out
  have hB4 : Hid (Below O w w4) := hB3.out.trans (b4.mono (by have := hs3.out; omega))
  cases hw : wrF p zs os with
  | none =>
    rw [hw] at hm
    simp only at hm
    subst hm
    have HP : Hid (enA p zs (.returned (.tuple #[.string ⟨#[]⟩, .int .i64 0, .int .i64 142]))) := HE.out _ (by rw [if_neg (show ¬ 0 ≤ r1 by omega), if_neg (show ¬ 0 ≤ r2 by omega)]; exact ⟨os, hS, by rw [hw]⟩)
    clear hq b4 k34b a0 a1 a2 a3 a4 a5 a6 a7
    go_wp2
    go_ret3
    exact ⟨HP.out, by rw [hO]; exact hB4.out⟩
  | some L =>
    rw [hw] at hm
    simp only at hm
    subst hm
    have HP : Hid (enA p zs (.returned (.tuple #[.string (strOfNums L), .int .i64 0, .int .i64 0]))) := HE.out _ (by rw [if_neg (show ¬ 0 ≤ r1 by omega), if_neg (show ¬ 0 ≤ r2 by omega)]; exact ⟨os, hS, by rw [hw]⟩)
    clear hq b4 k34b a0 a1 a2 a3 a4 a5 a6 a7
    go_wp2
    go_ret3
    exact ⟨HP.out, by rw [hO]; exact hB4.out⟩
set_option maxRecDepth 100000 in
set_option maxHeartbeats 1000000 in
theorem Encode_any (zs : List Int) (v : Value) (w : World) (hz : zs.length < 1048577) (h : Rds .i32 w v zs) : Calls Try.prog 15 #[v] w fun e w' => enA usual zs e ∧ Below w.heap.size w w' := by
  have HD : Hid (Rds .i32 w v zs) := h
  have HZ : Hid (zs.length < 1048577) := hz
  obtain ⟨a, c, rfl, -⟩ := h
  clear hz
  go_enter Try.func15, Try.ntmps15
  go_wp2_with (go_at_call 14; refine (calls_hid (usual_any _)).mono ?_)
  intro _ w1 hq
  obtain ⟨rfl, b1⟩ := hq.out
  have k22 := encode_any usual zs (.slice a zs.length c) w1 usual_ok HZ.out (HD.out.below b1)
  have hB1 : Hid (Below w.heap.size w w1) := b1
  clear hq b1
  go_wp2_with (go_at_call 20; refine (calls_hid k22).mono ?_)
  intro _ w2 hq
  obtain ⟨hE, b2⟩ := hq.out
  have hB2 : Hid (Below w.heap.size w w2) := hB1.out.trans (b2.mono hB1.out.size)
  have HE : Hid (enA usual zs _) := hE
  obtain ⟨s, a1, a2, he⟩ := enA_tuple hE
  subst he
  clear hq hE b2 k22
  go_wp2
  go_ret3
  exact ⟨HE.out, hB2.out⟩
end Go.Proofs.Ytahmeejcgddlhab
