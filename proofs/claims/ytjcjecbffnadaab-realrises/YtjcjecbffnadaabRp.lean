/-
  The contract of the document's parts, for all bits: they are the parts that the words say. Condition: the size is one that is reckoned with.
-/
import Derived.Test.YtjcjecbffnadaabPe
import Derived.Test.YtjcjecbffnadaabRa
namespace Go.Proofs.Ytjcjecbffnadaab
open Go.RowKit
theorem rparts_any {p k : Nat} {bi : Int} (L : Lay p k bi) (b : Nat) (w : World) (hb : b < 18446744073709551616) : Calls Try.prog 11 #[.int .u64 (b : Int), siz p k bi] w fun e w' => e = .returned (pt p k bi b).val ∧ Below w.heap.size w w' := by
  have hk := L.kk
  have hp := L.pp
  have hbi := L.bi0
  have hp1 := L.p1
  have hp52 := L.p52
  have hh := pow_half L.p1
  have hF : b % 2 ^ p < 2 ^ p := Nat.mod_lt _ (by omega)
  have hE : b / 2 ^ p % 2 ^ k < 2 ^ k := Nat.mod_lt _ (by omega)
  have k44 := fun w => rsign_any L w
  have a1 := fE L b hb
  have a2 := fF L b hb
  have a3 := fN L b hb
  have a4 := fng (p + k) b
  have a5 := u64_pow p (by omega)
  unfold pt
  split
  · rename_i hEK
    split
    · rename_i hF0
      exact rparts_inf b w hb L.p1 L.p52 hbi.1 hbi.2 _ _ _ _ _ _ _ (by omega) (by omega) (by omega) hp.1 hp.2 a5 a1 a2 a3 a4 k44 hEK hF0
    · rename_i hF0
      exact rparts_none b w hb L.p1 L.p52 hbi.1 hbi.2 _ _ _ _ _ _ _ (by omega) (by omega) (by omega) hp.1 hp.2 a5 a1 a2 a3 a4 k44 _ _ _ (fqu' L _ hF) (u64_pow (p - 1) (by omega)) (by omega) (by omega) (fLD' L _ hF) hEK hF0
  · rename_i hEK
    split
    · rename_i hE0
      split
      · rename_i hF0
        exact rparts_nought b w hb L.p1 L.p52 hbi.1 hbi.2 _ _ _ _ _ _ _ (by omega) (by omega) (by omega) hp.1 hp.2 a5 a1 a2 a3 a4 k44 hEK hE0 hF0
      · rename_i hF0
        exact rparts_sub b w hb L.p1 L.p52 hbi.1 hbi.2 _ _ _ _ _ _ _ (by omega) (by omega) (by omega) hp.1 hp.2 a5 a1 a2 a3 a4 k44 (1 - bi - p) (i64_in _ (by omega) (by omega)) (i64_in _ (by omega) (by omega)) hEK hE0 hF0
    · rename_i hE0
      exact rparts_normal b w hb L.p1 L.p52 hbi.1 hbi.2 _ _ _ _ _ _ _ (by omega) (by omega) (by omega) hp.1 hp.2 a5 a1 a2 a3 a4 k44 (2 ^ p + b % 2 ^ p) (((b / 2 ^ p % 2 ^ k : Nat) : Int) - bi - p) ((congrArg _ (by omega)).trans (u64_small p (by omega))) (by rw [← Int.natCast_add, u64_small _ (by omega)]) (i64_in _ (by omega) (by omega)) (i64_in _ (by omega) (by omega)) hEK hE0
end Go.Proofs.Ytjcjecbffnadaab
