/-
  The contracts of Lower and Upper, the program's and the document's: both make of a text the one whose letters are small, or great. Condition: the text takes no more bytes than a text that comes in can.
-/
import Derived.Test.YtcjlplaepnpopaaDoorProg
import Derived.Test.YtcjlplaepnpopaaDoorBys
import Derived.KernelRfl
import Derived.Maps.AppendAt
namespace Go.Proofs.YtcjlplaepnpopaaDoor
open Go.RowKit

theorem owns_none (w : World) (e : TypeId) : (w.alloc (.cells #[] e)).ownsRow w.heap.size e 1 (.slice (some ⟨w.heap.size, 0, none⟩) 0 0) 0 [] :=
  ⟨rfl, .inr ⟨w.heap.size, 0, #[], rfl, Nat.le_refl _, by show (w.heap.push _)[w.heap.size]? = _; simp, Nat.le_refl _, by decide, rfl, rfl⟩⟩
theorem info5 : (Tryd.prog.info? 5).map (fun i => (i.zero, i.size, i.bytes)) = some (some (.int .u8 0), 1, 1) := by kernel_rfl

/-- A byte as a letter of the other size is wanted: small. -/
def low (b : Int) : Int := if 65 ≤ b ∧ b ≤ 90 then b + 32 else b
/-- A byte as a letter of the other size is wanted: great. -/
def upp (b : Int) : Int := if 97 ≤ b ∧ b ≤ 122 then b - 32 else b
set_option maxHeartbeats 800000 in
theorem upp_any (s : ByteArray) (w : World) (hs : s.size ≤ 140737488351232) : Calls Tryd.prog 47 #[.string s] w fun e w' => e = .returned (.string (strOfNums ((List.range s.size).map fun j => upp (byteAt s j)))) ∧ Below w.heap.size w w' := by
  obtain ⟨c, W, hcv, hB, hbel, hsz⟩ := bytes_of (P := Tryd.prog) w 9 76 5 s Tryd.underlying9 Tryd.underlying76 Tryd.underlying5
  go_enter Tryd.func47, Tryd.ntmps47
  go_wp2_with fail
  clear hcv
  go_loopw [10] (fun i wr => ∃ k : Nat, k ≤ s.size ∧ i = .int .i64 k ∧ Bys wr w.heap.size s.size (fun j => if j < k then upp (byteAt s j) else byteAt s j) ∧ Below w.heap.size w wr) (fun i _ => s.size - (intOf i).toNat)
  case atStart => exact ⟨0, by omega, rfl, hB.congr (fun j _ => by simp), hbel⟩
  case round =>
    obtain ⟨k, hk, rfl, hBr, hbr⟩ := hrel
    by_cases hlt : k < s.size
    · obtain ⟨hc, hf⟩ := hBr k hlt
      dsimp only at hc
      rw [if_neg (by omega)] at hc
      have hl := byteAt_lt s k
      obtain ⟨b, HBk⟩ : ∃ b : Int, Hid ((byteAt s k : Int) = b) := ⟨_, rfl⟩
      have hb0 : 0 ≤ b := by have := HBk.out; omega
      have hb1 : b ≤ 255 := by have := HBk.out; omega
      rw [HBk.out] at hc
      have HR : Hid (Bys wr w.heap.size s.size (fun j => if j < k then upp (byteAt s j) else byteAt s j)) := hBr
      clear hBr hl
      by_cases hq : 97 ≤ b ∧ b ≤ 122
      · obtain ⟨hq1, hq2⟩ := hq
        go_wp2
        refine ⟨⟨k + 1, by omega, by go_num, ?_, hbr.setCell (by simp) _⟩, by simp [intOf]; omega⟩
        refine (HR.out.set k _).congr fun j _ => ?_
        by_cases e : j = k
        · subst e
          simp only [if_true, if_pos (Nat.lt_succ_self j)]
          rw [HBk.out]
          unfold upp
          rw [if_pos ⟨hq1, hq2⟩]
          omega
        · have h1 : (j < k + 1) = (j < k) := by apply propext; omega
          simp only [if_neg e, h1]
      · have hq' : b < 97 ∨ 122 < b := by omega
        have hstay : Bys wr w.heap.size s.size (fun j => if j < k + 1 then upp (byteAt s j) else byteAt s j) := by
          refine HR.out.congr fun j _ => ?_
          by_cases e : j = k
          · subst e
            rw [if_neg (Nat.lt_irrefl _), if_pos (Nat.lt_succ_self j), HBk.out]
            unfold upp
            rw [if_neg hq]
          · have h1 : (j < k + 1) = (j < k) := by apply propext; omega
            simp only [h1]
        have HS : Hid (Bys wr w.heap.size s.size (fun j => if j < k + 1 then upp (byteAt s j) else byteAt s j)) := hstay
        clear hstay hq
        rcases hq' with hq' | hq'
        all_goals
          go_wp2
          exact ⟨⟨k + 1, by omega, by go_num, HS.out, hbr⟩, by simp [intOf]; omega⟩
    · have e : k = s.size := by omega
      subst e
      have hcv := string_of (P := Tryd.prog) hBr 76 5 9 c Tryd.underlying76 Tryd.underlying5 Tryd.underlying9
      go_wp2
      go_ret
      refine ⟨congrArg (fun l => Ending.returned (.string (strOfNums l))) ?_, hbr⟩
      exact List.map_congr_left fun j hj => by rw [if_pos (List.mem_range.1 hj)]

end Go.Proofs.YtcjlplaepnpopaaDoor
