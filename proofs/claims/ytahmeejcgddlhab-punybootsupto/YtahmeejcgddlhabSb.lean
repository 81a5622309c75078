/-
  Encoding and decoding by parameters.
-/
import Derived.Test.YtahmeejcgddlhabSa
import Derived.Test.YtahmeejcgddlhabQo
import Derived.Deep.DeepMust
namespace Go.Proofs.Ytahmeejcgddlhab
open Go.RowKit
/-- Encode by parameters, and Decode by parameters. -/
def ebA (p : Bt) (zs : List Int) (e : Ending) : Prop := if chk p = true then enA p zs e else e = .returned (.tuple #[.string ⟨#[]⟩, .int .i64 0, .int .i64 144])
def dbA (p : Bt) (r : (Nat × Int) ⊕ List Int) (b : Nat) (e : Ending) (w : World) : Prop := if chk p = true then dcA r b e w else e = .returned (.tuple #[.slice none 0 0, .int .i64 0, .int .i64 144])
set_option maxRecDepth 100000 in
set_option maxHeartbeats 2000000 in
theorem encodeBy_any (p : Bt) (zs : List Int) (v : Value) (w : World) (hb : 0 ≤ p.btw) (hb2 : p.btw < 256) (hz : zs.length < 1048577) (h : Rds .i32 w v zs) : Calls Try.prog 9 #[.agg (bv p), v] w fun e w' => Hid (ebA p zs e ∧ Below w.heap.size w w') := by
  have HD : Hid (Rds .i32 w v zs) := h
  have HZ : Hid (zs.length < 1048577) := hz
  have HB0 : Hid (Below w.heap.size w (w.alloc (.cells (bv p) 23))) := (Below.refl w.heap.size w).alloc (Nat.le_refl _) _
  have k6 := check_any p (w.alloc (.cells (bv p) 23)) hb hb2
  obtain ⟨a, c, rfl, -⟩ := h
  have HL : Hid ((w.alloc (.cells (bv p) 23)).heap[w.heap.size]? = some (.cells (bv p) 23)) := heap_new _ _
  have hs1 : w.heap.size < (w.alloc (.cells (bv p) 23)).heap.size := by simp
  have CB : Hid (∀ (j : Nat) (u : Value), (bv p)[j]? = some u → ∀ (W1 : World), W1.heap[w.heap.size]? = some (.cells (bv p) 23) → W1.cell? ⟨w.heap.size, j, none⟩ = some u) := fun j u h W1 hh => by simp [World.cell?, hh, h]
  have a0 := CB.out 0 (.int .i64 p.base) rfl _ HL.out
  have a1 := CB.out 1 (.int .i64 p.least) rfl _ HL.out
  have a2 := CB.out 2 (.int .i64 p.most) rfl _ HL.out
  have a3 := CB.out 3 (.int .i64 p.skew) rfl _ HL.out
  have a4 := CB.out 4 (.int .i64 p.damp) rfl _ HL.out
  have a5 := CB.out 5 (.int .i64 p.bias) rfl _ HL.out
  have a6 := CB.out 6 (.int .i64 p.first) rfl _ HL.out
  have a7 := CB.out 7 (.int .u8 p.btw) rfl _ HL.out
  clear hz
  cases hc : chk p with
  | false =>
    rw [hc, if_neg (by simp)] at k6
    go_enter Try.func9, Try.ntmps9
    go_wp2_with (go_at_call 6; refine (calls_hid k6).mono ?_)
    intro _ w2 hq
    obtain ⟨rfl, b2⟩ := hq.out
    generalize hO : w.heap.size = O at *
    have HB2 : Hid (Below O w w2) := HB0.out.trans (b2.mono (by omega))
    have HL2 : Hid (w2.heap[O]? = some (.cells (bv p) 23)) := (b2.block O (by first | exact hs1 | omega)).trans HL.out
    clear hq b2 k6 HL HB0 hs1 a0 a1 a2 a3 a4 a5 a6 a7
    generalize w.alloc (.cells (bv p) 23) = W1 at *
    have HX : Hid (ebA p zs (.returned (.tuple #[.string ⟨#[]⟩, .int .i64 0, .int .i64 144]))) := by show ebA _ _ _; unfold ebA; rw [if_neg (by rw [hc]; simp)]
    go_wp2
    go_ret3
    exact ⟨HX.out, by rw [hO]; exact HB2.out⟩
  | true =>
    rw [hc, if_pos rfl] at k6
    go_enter Try.func9, Try.ntmps9
    go_wp2_with (go_at_call 6; refine (calls_hid k6).mono ?_)
    intro _ w2 hq
    obtain ⟨rfl, b2⟩ := hq.out
    generalize hO : w.heap.size = O at *
    have HB2 : Hid (Below O w w2) := HB0.out.trans (b2.mono (by omega))
    have HL2 : Hid (w2.heap[O]? = some (.cells (bv p) 23)) := (b2.block O (by first | exact hs1 | omega)).trans HL.out
    clear hq b2 k6 HL HB0 hs1 a0 a1 a2 a3 a4 a5 a6 a7
    generalize w.alloc (.cells (bv p) 23) = W1 at *
    have k20 := encode_any p zs (.slice a zs.length c) w2 (chk_ok hc).1 HZ.out (HD.out.below (hO ▸ HB2.out))
    have a0 := CB.out 0 (.int .i64 p.base) rfl w2 HL2.out
    have a1 := CB.out 1 (.int .i64 p.least) rfl w2 HL2.out
    have a2 := CB.out 2 (.int .i64 p.most) rfl w2 HL2.out
    have a3 := CB.out 3 (.int .i64 p.skew) rfl w2 HL2.out
    have a4 := CB.out 4 (.int .i64 p.damp) rfl w2 HL2.out
    have a5 := CB.out 5 (.int .i64 p.bias) rfl w2 HL2.out
    have a6 := CB.out 6 (.int .i64 p.first) rfl w2 HL2.out
    have a7 := CB.out 7 (.int .u8 p.btw) rfl w2 HL2.out
    go_wp2_with (go_at_call 20; refine (calls_hid k20).mono ?_)
    intro _ w3 hq
    obtain ⟨hE, b3⟩ := hq.out
    have HB3 : Hid (Below O w w3) := HB2.out.trans (b3.mono (by have := (Array.getElem?_eq_some_iff.1 HL2.out).1; omega))
    have HE : Hid (ebA p zs _) := (by unfold ebA; rw [if_pos hc]; exact hE)
    obtain ⟨s, x1, x2, he⟩ := enA_tuple hE
    subst he
    clear hq hE b3 k20 a0 a1 a2 a3 a4 a5 a6 a7
    go_wp2
    go_ret3
    exact ⟨HE.out, by rw [hO]; exact HB3.out⟩
set_option maxRecDepth 100000 in
set_option maxHeartbeats 2000000 in
theorem decodeBy_any (p : Bt) (s : ByteArray) (w : World) (hb : 0 ≤ p.btw) (hb2 : p.btw < 256) (hs : s.size < 67108865) (hlim : chk p = true → ∀ L, decS p s = .inr L → L.length < 2097152) : Calls Try.prog 12 #[.agg (bv p), .string s] w fun e w' => Hid (dbA p (decS p s) w.heap.size e w' ∧ Below w.heap.size w w') := by
  have HB0 : Hid (Below w.heap.size w (w.alloc (.cells (bv p) 23))) := (Below.refl w.heap.size w).alloc (Nat.le_refl _) _
  have k6 := check_any p (w.alloc (.cells (bv p) 23)) hb hb2
  have HL : Hid ((w.alloc (.cells (bv p) 23)).heap[w.heap.size]? = some (.cells (bv p) 23)) := heap_new _ _
  have hs1 : w.heap.size < (w.alloc (.cells (bv p) 23)).heap.size := by simp
  have CB : Hid (∀ (j : Nat) (u : Value), (bv p)[j]? = some u → ∀ (W1 : World), W1.heap[w.heap.size]? = some (.cells (bv p) 23) → W1.cell? ⟨w.heap.size, j, none⟩ = some u) := fun j u h W1 hh => by simp [World.cell?, hh, h]
  have a0 := CB.out 0 (.int .i64 p.base) rfl _ HL.out
  have a1 := CB.out 1 (.int .i64 p.least) rfl _ HL.out
  have a2 := CB.out 2 (.int .i64 p.most) rfl _ HL.out
  have a3 := CB.out 3 (.int .i64 p.skew) rfl _ HL.out
  have a4 := CB.out 4 (.int .i64 p.damp) rfl _ HL.out
  have a5 := CB.out 5 (.int .i64 p.bias) rfl _ HL.out
  have a6 := CB.out 6 (.int .i64 p.first) rfl _ HL.out
  have a7 := CB.out 7 (.int .u8 p.btw) rfl _ HL.out
  have k26 := fun (h : chk p = true) w => decode_any p s w (chk_ok h).1 hs (hlim h)
  have HX : Hid (∀ e w', (if chk p = true then dcA (decS p s) w.heap.size e w' else e = .returned (.tuple #[.slice none 0 0, .int .i64 0, .int .i64 144])) → dbA p (decS p s) w.heap.size e w') := fun e w' h => h
  obtain ⟨G, hG⟩ : ∃ G, decS p s = G := ⟨_, rfl⟩
  simp only [hG] at k26 HX ⊢
  clear hs hlim hG
  cases hc : chk p with
  | false =>
    rw [hc, if_neg (by simp)] at k6
    go_enter Try.func12, Try.ntmps12
    go_wp2_with (go_at_call 6; refine (calls_hid k6).mono ?_)
    intro _ w2 hq
    obtain ⟨rfl, b2⟩ := hq.out
    generalize hO : w.heap.size = O at *
    have HB2 : Hid (Below O w w2) := HB0.out.trans (b2.mono (by omega))
    have HL2 : Hid (w2.heap[O]? = some (.cells (bv p) 23)) := (b2.block O (by first | exact hs1 | omega)).trans HL.out
    clear hq b2 k6 HL HB0 hs1 a0 a1 a2 a3 a4 a5 a6 a7
    generalize w.alloc (.cells (bv p) 23) = W1 at *
    rw [hc] at HX
    have HY : Hid (∀ w', dbA p G O (.returned (.tuple #[.slice none 0 0, .int .i64 0, .int .i64 144])) w') := fun w' => HX.out _ w' (by rw [if_neg (by simp)])
    clear HX k26
    go_wp2
    go_ret3
    exact ⟨by rw [hO]; exact HY.out _, by rw [hO]; exact HB2.out⟩
  | true =>
    rw [hc, if_pos rfl] at k6
    go_enter Try.func12, Try.ntmps12
    go_wp2_with (go_at_call 6; refine (calls_hid k6).mono ?_)
    intro _ w2 hq
    obtain ⟨rfl, b2⟩ := hq.out
    generalize hO : w.heap.size = O at *
    have HB2 : Hid (Below O w w2) := HB0.out.trans (b2.mono (by omega))
    have HL2 : Hid (w2.heap[O]? = some (.cells (bv p) 23)) := (b2.block O (by first | exact hs1 | omega)).trans HL.out
    clear hq b2 k6 HL HB0 hs1 a0 a1 a2 a3 a4 a5 a6 a7
    generalize w.alloc (.cells (bv p) 23) = W1 at *
    have k26b := k26 hc w2
    rw [hc] at HX
    have hw2 : O ≤ w2.heap.size := by have := (Array.getElem?_eq_some_iff.1 HL2.out).1; omega
    have a0 := CB.out 0 (.int .i64 p.base) rfl w2 HL2.out
    have a1 := CB.out 1 (.int .i64 p.least) rfl w2 HL2.out
    have a2 := CB.out 2 (.int .i64 p.most) rfl w2 HL2.out
    have a3 := CB.out 3 (.int .i64 p.skew) rfl w2 HL2.out
    have a4 := CB.out 4 (.int .i64 p.damp) rfl w2 HL2.out
    have a5 := CB.out 5 (.int .i64 p.bias) rfl w2 HL2.out
    have a6 := CB.out 6 (.int .i64 p.first) rfl w2 HL2.out
    have a7 := CB.out 7 (.int .u8 p.btw) rfl w2 HL2.out
    clear k26
    go_wp2_with (go_at_call 26; refine (calls_hid k26b).mono ?_)
    intro _ w3 hq
    obtain ⟨hE, b3⟩ := hq.out
    have HB3 : Hid (Below O w w3) := HB2.out.trans (b3.mono hw2)
    cases G with
    | inl g =>
      obtain ⟨ga, gc⟩ := g
      rw [dcA] at hE
      subst hE
      have HY : Hid (∀ w', dbA p (.inl (ga, gc)) O (.returned (.tuple #[.slice none 0 0, .int .i64 (ga : Int), .int .i64 gc])) w') := fun w' => HX.out _ w' (by first | (rw [if_pos rfl, dcA]) | (rw [if_pos trivial, dcA]))
      clear hq b3 k26b a0 a1 a2 a3 a4 a5 a6 a7 HX
      go_wp2
      go_ret3
      exact ⟨by rw [hO]; exact HY.out _, by rw [hO]; exact HB3.out⟩
    | inr L =>
      obtain ⟨vv, rfl, hR⟩ := hE
      have HY : Hid (dbA p (.inr L) O (.returned (.tuple #[vv, .int .i64 0, .int .i64 0])) w3) := HX.out _ w3 (by first | (rw [if_pos rfl]; exact ⟨vv, rfl, hR.base hw2⟩) | (rw [if_pos trivial]; exact ⟨vv, rfl, hR.base hw2⟩))
      obtain ⟨a9, c9, rfl, -⟩ := owns_slice hR
      clear hq b3 k26b a0 a1 a2 a3 a4 a5 a6 a7 HX hR
      go_wp2
      go_ret3
      exact ⟨by rw [hO]; exact HY.out, by rw [hO]; exact HB3.out⟩
end Go.Proofs.Ytahmeejcgddlhab
