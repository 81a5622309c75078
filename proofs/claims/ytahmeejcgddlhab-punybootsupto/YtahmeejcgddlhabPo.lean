/-
  Decode by the usual parameters; the document's threshold, and what is a scalar value.
-/
import Derived.Test.YtahmeejcgddlhabPn
namespace Go.Proofs.Ytahmeejcgddlhab
open Go.RowKit
/-- A scalar value. -/
def isSc (n : Int) : Bool := decide (0 ≤ n) && decide (n < 55296) || decide (57343 < n) && decide (n ≤ 1114111)
set_option maxRecDepth 100000 in
theorem rscalar_any (n : Int) (w : World) : Calls Try.prog 21 #[.int .i32 n] w fun e w' => e = .returned (.bool (isSc n)) ∧ w' = w := by
  unfold isSc
  by_cases c1 : 0 ≤ n
  · have c1' : decide (0 ≤ n) = true := decide_eq_true c1
    by_cases c2 : n < 55296
    · have c2' : decide (n < 55296) = true := decide_eq_true c2
      rw [c1', c2']
      go_enter Try.func21, Try.ntmps21
      go_wp2
      go_ret
      exact ⟨rfl, rfl⟩
    · have c2' : decide (n < 55296) = false := decide_eq_false c2
      rw [c1', c2']
      by_cases c3 : 57343 < n
      · have c3' : decide (57343 < n) = true := decide_eq_true c3
        rw [c3']
        go_enter Try.func21, Try.ntmps21
        go_wp2
        go_ret
        simp
      · have c3' : decide (57343 < n) = false := decide_eq_false c3
        rw [c3']
        go_enter Try.func21, Try.ntmps21
        go_wp2
        go_ret
        simp
  · have c1' : decide (0 ≤ n) = false := decide_eq_false c1
    have c3 : ¬ 57343 < n := by omega
    have c3' : decide (57343 < n) = false := decide_eq_false c3
    rw [c1', c3']
    go_enter Try.func21, Try.ntmps21
    go_wp2
    go_ret
    simp
set_option maxRecDepth 100000 in
set_option maxHeartbeats 1000000 in
theorem Decode_any (s : ByteArray) (w : World) (hs : s.size < 67108865) (hlim : ∀ L, decS usual s = .inr L → L.length < 2097152) : Calls Try.prog 16 #[.string s] w fun e w' => dcA (decS usual s) w.heap.size e w' ∧ Below w.heap.size w w' := by
  obtain ⟨F, hF⟩ : ∃ F, decS usual s = F := ⟨_, rfl⟩
  have k26 := fun w => decode_any usual s w usual_ok hs hlim
  rw [hF] at k26 ⊢
  clear hF hs hlim
  go_enter Try.func16, Try.ntmps16
  go_wp2_with (first | (go_at_call 14; refine (usual_any _).mono ?_; rintro e w1 ⟨rfl, b1⟩) | (go_at_call 26; refine (k26 _).mono ?_))
  rintro e w2 ⟨hd, b2⟩
  have hB : Hid (Below w.heap.size w w2) := b1.trans (b2.mono b1.size)
  have hz := b1.size
  cases F with
  | inl e =>
    obtain ⟨ea, ec⟩ := e
    rw [dcA] at hd
    subst hd
    clear b1 b2 k26
    go_wp2
    go_ret3
    exact ⟨rfl, hB.out⟩
  | inr L =>
    obtain ⟨v, rfl, hR⟩ := hd
    have hR2 : Hid (Rw .i32 21 w.heap.size w2 v L) := hR.base hz
    clear b1 b2 k26 hR
    go_wp2
    go_ret3
    exact ⟨⟨_, rfl, hR2.out⟩, hB.out⟩
theorem decS_len (p : Bt) (hp : Okb p) (s : ByteArray) (L : List Int) (h : decS p s = .inr L) : L.length ≤ s.size := by
  unfold decS at h
  have hf := frN_le p s
  cases hb : fbF p s (hdN p s) 0 with
  | some k => rw [hb] at h; simp at h
  | none =>
    rw [hb] at h
    simp only at h
    cases hr : rdL p s (s.size - frN p s) (frN p s) p.first 0 p.bias (hdN p s) with
    | inl e => rw [hr] at h; simp at h
    | inr ps =>
      rw [hr] at h
      simp only [Sum.inr.injEq] at h
      obtain ⟨o1, o2, o3⟩ := rdL_ok p s _ _ _ _ _ _ _ hr (Int.le_refl _) hp.f1 hf.1
      have ha : (ahd s (hdN p s)).length = hdN p s := by simp [ahd]
      rw [← h, len_insAll ps _ (by rw [ha]; exact o1), ha]
      omega
theorem Decode_small (s : ByteArray) (w : World) (hs : s.size < 1048577) : Calls Try.prog 16 #[.string s] w fun e w' => dcA (decS usual s) w.heap.size e w' ∧ Below w.heap.size w w' :=
  Decode_any s w (by omega) fun L h => by have := decS_len usual usual_ok s L h; omega
end Go.Proofs.Ytahmeejcgddlhab
