/-
  The contracts of Clean and Cut. Conditions: those of Decode.
-/
import Derived.Test.YtabofadjnbpjkacDoorCt
import Derived.Test.YtabofadjnbpjkacDoorEnc
namespace Go.Proofs.YtabofadjnbpjkacDoor
open Go.RowKit Go.Lib Go.Shelf
attribute [local go_sem] Oper.semAt_some
/-- Where a row of pieces ends. -/
def endFrom (s : ByteArray) (k0 : Nat) (p : List Nat) : Nat := match p.getLast? with | some k => k + pSt s k | none => k0
theorem end_next (s : ByteArray) : ∀ (p : List Nat) (k0 : Nat) (rest : List Nat), k0 ≤ s.size → posAt s k0 = p ++ rest → rest = posAt s (endFrom s k0 p) ∧ endFrom s k0 p ≤ s.size
  | [], k0, rest, hk, h => by
    rw [List.nil_append] at h
    exact ⟨h.symm, hk⟩
  | a :: p, k0, rest, hk, h => by
    have hlt : k0 < s.size := by
      by_cases hlt : k0 < s.size
      · exact hlt
      · rw [posAt_nil s k0 hlt] at h; simp at h
    rw [posAt_cons s k0 hlt, List.cons_append] at h
    obtain ⟨rfl, h'⟩ := List.cons.inj h
    have hp := pSt_le s k0 hlt
    have ih := end_next s p (k0 + pSt s k0) rest (by omega) h'
    have e : endFrom s k0 (k0 :: p) = endFrom s (k0 + pSt s k0) p := by
      unfold endFrom
      cases p with
      | nil => rfl
      | cons b p => rw [List.getLast?_cons_cons]; cases hq : (b :: p).getLast? with
        | none => simp at hq
        | some x => rfl
    rw [e]
    exact ih
/-- Whether a piece ends within so many bytes. -/
def okP (s : ByteArray) (most : Int) (k : Nat) : Bool := decide ((k : Int) + (pSt s k : Int) ≤ most)
/-- Where Cut cuts. -/
def cutE (s : ByteArray) (most : Int) : Nat := endFrom s 0 ((poss s).takeWhile (okP s most))
theorem take_all {α : Type} (q : α → Bool) : ∀ (p rest : List α), (∀ x ∈ p, q x = true) → (∀ x l, rest = x :: l → q x = false) → (p ++ rest).takeWhile q = p
  | [], [], _, _ => rfl
  | [], x :: l, _, h => by simp [h x l rfl]
  | a :: p, rest, h1, h2 => by
    rw [List.cons_append, List.takeWhile_cons, h1 a (by simp), if_pos rfl, take_all q p rest (fun x hx => h1 x (by simp [hx])) h2]
/-- The numbers that a text says. -/
def nums (s : ByteArray) : List Int := (poss s).map fun k => (pRu s k : Int)
theorem runes_nums (s : ByteArray) : runesC s (poss s) = (nums s).map fun z => Value.int .i32 z := by
  unfold runesC nums
  rw [List.map_map]
  rfl
theorem nums_valid (s : ByteArray) : ∀ r ∈ nums s, Lib.validRune r = true := by
  intro r hr
  obtain ⟨k, _, rfl⟩ := List.mem_map.1 hr
  exact valid_ru s k
set_option maxRecDepth 100000 in
set_option maxHeartbeats 1000000 in
theorem clean_any (s : ByteArray) (w : World) (hs : s.size ≤ 35184372088000) (hT : Utf8Tabs 0 1 w) (hg : 2 ≤ w.heap.size) :
    Calls Tryd.prog 10 #[.string s] w fun e w' => e = .returned (.string (runesBytes (nums s))) ∧ Below w.heap.size w w' := by
  have hlen : (poss s).length ≤ s.size := posAt_len s s.size 0 (by omega)
  have k1 := decode_any s w hs hT hg
  have hnl : (nums s).length = (poss s).length := by simp [nums]
  have hb : badFrom (nums s) 0 = -1 := (all_valid _ 0).2 (nums_valid s)
  have HE : Hid (encA (nums s) = .tuple #[.string (runesBytes (nums s)), .int .i64 0, .int .i64 0]) := by unfold Hid encA; rw [if_pos hb]
  clear hb hT
  go_enter Tryd.func10, Tryd.ntmps10
  go_wp2_with (go_at_call 16; refine k1.mono ?_)
  rintro e w1 ⟨v, rfl, ho, b1⟩
  rw [runes_nums, ← hnl] at ho
  have k2 := enc_any (nums s) v w1 (by omega) (Rds.of_owns ho)
  rw [HE.out] at k2
  clear ho k1
  go_wp2_with (go_at_call 17; refine k2.mono ?_; rintro e w' ⟨rfl, rfl⟩)
  go_ret
  exact ⟨rfl, b1⟩
end Go.Proofs.YtabofadjnbpjkacDoor
