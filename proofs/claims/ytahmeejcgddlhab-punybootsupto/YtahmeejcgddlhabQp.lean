/-
  The closed call: the word for books.
-/
import Derived.Test.YtahmeejcgddlhabQo
namespace Go.Proofs.Ytahmeejcgddlhab
open Go.RowKit
def aw : List Int := [98, 252, 99, 104, 101, 114]
def awN : List Int := [98, 99, 104, 101, 114, 45, 107, 118, 97]
def awS : ByteArray := ⟨#[98, 99, 104, 101, 114, 45, 107, 118, 97]⟩
theorem aw_ix1 : ixF (fun n => !isSc n) aw aw.length 0 = -1 := by decide +kernel
theorem aw_ix2 : ixF (isLo usual) aw aw.length 0 = -1 := by decide +kernel
theorem aw_os : osL usual aw aw.length = [1] := by decide +kernel
theorem aw_wr : wrF usual aw [1] = some awN := by decide +kernel
theorem aw_str : strOfNums awN = awS := rfl
theorem aw_dec : decS usual awS = .inr aw := by decide +kernel
theorem aw_enc {e : Ending} (h : enA usual aw e) : e = .returned (.tuple #[.string awS, .int .i64 0, .int .i64 0]) := by
  unfold enA at h
  rw [aw_ix1, aw_ix2, if_neg (by decide), if_neg (by decide)] at h
  obtain ⟨os, hS, hm⟩ := h
  rw [aw_os] at hS
  have h1 : os = [1] := by
    have hl := hS.len
    match os, hl with
    | [x], _ =>
      have := (hS.mem x).1 (by simp)
      simp at this
      rw [this]
  rw [h1, aw_wr] at hm
  simp only at hm
  rw [hm, aw_str]
set_option maxRecDepth 100000 in
set_option maxHeartbeats 2000000 in
theorem awake_any (w : World) : Calls Try.prog 5 #[] w fun e w' => e = .returned (.bool true) ∧ Below w.heap.size w w' := by
  have hR : Rds .i32 (w.alloc (.cells #[.int .i32 98, .int .i32 252, .int .i32 99, .int .i32 104, .int .i32 101, .int .i32 114] 21)) (.slice (some ⟨w.heap.size, 0, none⟩) 6 6) aw := by
    refine ⟨_, 6, rfl, fun _ => ⟨w.heap.size, 0, rfl, fun j hj => ?_⟩⟩
    rw [Nat.zero_add]
    have hj' : j < 6 := hj
    have e := cells_new w #[.int .i32 98, .int .i32 252, .int .i32 99, .int .i32 104, .int .i32 101, .int .i32 114] 21
    match j, hj' with
    | 0, _ => exact e 0 _ rfl
    | 1, _ => exact e 1 _ rfl
    | 2, _ => exact e 2 _ rfl
    | 3, _ => exact e 3 _ rfl
    | 4, _ => exact e 4 _ rfl
    | 5, _ => exact e 5 _ rfl
  have k10 := Encode_any aw (.slice (some ⟨w.heap.size, 0, none⟩) 6 6) _ (by decide) hR
  have hB : Hid (Below w.heap.size w (w.alloc (.cells #[.int .i32 98, .int .i32 252, .int .i32 99, .int .i32 104, .int .i32 101, .int .i32 114] 21))) := (Below.refl _ w).alloc (Nat.le_refl _) _
  clear hR
  go_enter Try.func5, Try.ntmps5
  go_wp2_with (go_at_call 15; refine (calls_hid k10).mono ?_)
  intro _ w2 hq
  obtain ⟨hE, b2⟩ := hq.out
  have he := aw_enc hE
  subst he
  have hB2 : Hid (Below w.heap.size w w2) := hB.out.trans (b2.mono hB.out.size)
  have k13 := Decode_small awS w2 (by decide)
  rw [aw_dec] at k13
  clear hq hE b2 k10 hB
  unfold awS at *
  go_wp2_with (go_at_call 16; refine (calls_hid k13).mono ?_)
  intro _ w3 hq
  obtain ⟨⟨v, rfl, hRw⟩, b3⟩ := hq.out
  have hB3 : Hid (Below w.heap.size w w3) := hB2.out.trans (b3.mono hB2.out.size)
  obtain ⟨g, cap, rfl, hg, hC⟩ := hRw.celc (by decide)
  have x1 : w3.cell? ⟨g, 1, none⟩ = some (.int .i32 252) := (hC.at 1 (by decide)).1
  clear hq hRw b3 k13 hC hB2
  rw [show aw.length = 6 from rfl]
  go_wp2
  go_ret
  exact ⟨rfl, hB3.out⟩
end Go.Proofs.Ytahmeejcgddlhab
