/-
  The words of a text.
-/
import Derived.Test.YtcjlplaepnpopaaDoorSq
import Derived.OwnWalk
namespace Go.Proofs.YtcjlplaepnpopaaDoor
open Go.RowKit
/-- The words of a text: what stands between spaces and is not empty. -/
def wrdL (s : ByteArray) : List ByteArray := (cutL s 32).filter fun x => x.size != 0
theorem sqF_words : ∀ (L : List ByteArray) (o : List Int), sqF (L.filter fun x => x.size != 0) o = sqF L o
  | [], _ => rfl
  | x :: L, o => by
    by_cases c : x.size = 0
    · have e : (x.size != 0) = false := by rw [c]; rfl
      rw [List.filter_cons_of_neg (by rw [e]; simp), sqF, if_pos c, sqF_words L o]
    · have e : (x.size != 0) = true := by simpa using c
      rw [show List.filter (fun x => x.size != 0) (x :: L) = x :: List.filter (fun x => x.size != 0) L from List.filter_cons_of_pos (p := fun x : ByteArray => x.size != 0) e, sqF, sqF, if_neg c, if_neg c]
      cases ptN x with
      | none => rfl
      | some p => exact sqF_words L _
theorem sq_words (s : ByteArray) : sqF (wrdL s) [] = sq s := sqF_words _ _
theorem isSpace_any (c : Int) (w : World) : Calls Tryd.prog 23 #[.int .i32 c] w fun e w' => e = .returned (.bool (c == 32)) ∧ w' = w := by
  go_enter Tryd.func23, Tryd.ntmps23
  go_wp2
  exact bodyPost_ret (v := .bool (c == 32)) (by simp [results, Tryd.results23, go_sem]) rfl ⟨rfl, rfl⟩
end Go.Proofs.YtcjlplaepnpopaaDoor
