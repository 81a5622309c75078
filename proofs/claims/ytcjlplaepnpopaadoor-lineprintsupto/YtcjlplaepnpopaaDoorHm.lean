/-
  Tell: code points as a text.
-/
import Derived.Test.YtcjlplaepnpopaaDoorWb
import Derived.Test.YtcjlplaepnpopaaDoorHl
import Derived.Test.YtcjlplaepnpopaaDoorHi
import Derived.LoopN
import Derived.IntWalk
import Derived.OwnWalk
import Derived.WalkSmall
import Derived.BigQuiet
import Derived.Deep.QuietTactic
import Derived.KernelRfl
namespace Go.Proofs.YtcjlplaepnpopaaDoor
open Go.RowKit
open Go.Lib
theorem builder_below {B b : Nat} {bs : List Value} {w w' : World} (h : IsBuilder 78 5 B b bs w) (hb : Below w.heap.size w w') : IsBuilder 78 5 B b bs w' := by
  have go : ∀ p, BuilderAt 78 5 B b p bs w → BuilderAt 78 5 B b p bs w' := fun p k => by
    obtain ⟨hB, v, hh, ho, hn⟩ := k
    exact ⟨hB, v, (hb.block b (Array.getElem?_eq_some_iff.1 hh).1).trans hh, owns_below ho hb, hn⟩
  rcases h with h | h
  · exact .inl (go _ h)
  · exact .inr (go _ h)
theorem builder_lt {B b : Nat} {bs : List Value} {w : World} (h : IsBuilder 78 5 B b bs w) : b < w.heap.size := by
  rcases h with ⟨_, v, hh, _⟩ | ⟨_, v, hh, _⟩
  · exact (Array.getElem?_eq_some_iff.1 hh).1
  · exact (Array.getElem?_eq_some_iff.1 hh).1
theorem builder_fresh (w : World) : IsBuilder 78 5 w.heap.size w.heap.size [] (w.alloc (.cells #[.pointer none, .slice none 0 0] 78)) :=
  .inl ⟨Nat.le_refl _, _, heap_new _ _, World.ownsRow_nil _ _ _ _, by simp [Value.ownBlock]⟩
/-- Code points as a text, the first k of them; whether they are code points. -/
def tl (zs : List Int) : Nat → ByteArray
  | 0 => ⟨#[]⟩
  | k + 1 => (if 0 < k then tl zs k ++ ⟨#[32]⟩ else tl zs k) ++ hxT (zs.getD k 0).toNat
def okP (z : Int) : Bool := decide (0 ≤ z) && decide (z ≤ 1114111)
def okK (zs : List Int) : Nat → Bool
  | 0 => true
  | k + 1 => okK zs k && okP (zs.getD k 0)
def tlA (zs : List Int) : Ending := if okK zs zs.length = true then .returned (.tuple #[.string (tl zs zs.length), .int .i64 0]) else .returned (.tuple #[.string ⟨#[]⟩, .int .i64 90])
theorem okK_no {zs : List Int} {k : Nat} (h : okP (zs.getD k 0) = false) : ∀ n, k < n → okK zs n = false
  | 0, q => by omega
  | n + 1, q => by
    rw [okK]
    by_cases e : k = n
    · subst e; rw [h, Bool.and_false]
    · rw [okK_no h n (by omega), Bool.false_and]
theorem hxL_len (p : Nat) (hp : p ≤ 1114111) : (hxL p).length ≤ 6 := by
  have hl : (dgs 16 p).length ≤ 6 := dgs_len 5 p (by omega)
  unfold hxL
  rw [List.length_append, List.length_replicate]
  omega
theorem hxT_size (p : Nat) (hp : p ≤ 1114111) : (hxT p).size ≤ 6 := by
  unfold hxT
  rw [upc_size]
  exact hxL_len p hp
theorem tl_size (zs : List Int) : ∀ k, okK zs k = true → (tl zs k).size ≤ k * 8
  | 0, _ => Nat.zero_le _
  | k + 1, h => by
    rw [okK, Bool.and_eq_true] at h
    have ih := tl_size zs k h.1
    have h2 := h.2
    unfold okP at h2
    rw [Bool.and_eq_true, decide_eq_true_iff, decide_eq_true_iff] at h2
    have h3 := hxT_size (zs.getD k 0).toNat (by omega)
    rw [tl, ByteArray.size_append]
    split
    · rw [ByteArray.size_append]
      have : (⟨#[32]⟩ : ByteArray).size = 1 := rfl
      omega
    · omega
theorem strCells_app (a b : ByteArray) : strCells (a ++ b) = strCells a ++ strCells b := by
  unfold strCells
  rw [list_app, List.map_append]
theorem tlA_no {zs : List Int} (h : okK zs zs.length = false) : tlA zs = .returned (.tuple #[.string ⟨#[]⟩, .int .i64 90]) := by
  unfold tlA; rw [h]; rfl
theorem tlA_yes {zs : List Int} (h : okK zs zs.length = true) : tlA zs = .returned (.tuple #[.string (tl zs zs.length), .int .i64 0]) := by
  unfold tlA; rw [h]; rfl
theorem wbyte_hid (B b : Nat) (bs : List Value) (c : Int) (w : World) (h : IsBuilder 78 5 B b bs w) (hlen : bs.length + 1 ≤ 140737488355328) (hBw : B ≤ w.heap.size) :
    Calls Tryd.prog 30 #[.pointer (some ⟨b, 0, none⟩), .int .u8 c] w fun e w' => e = .returned .nilIface ∧ Hid (IsBuilder 78 5 B b (bs ++ [.int .u8 c]) w') ∧ Hid (Below B w w') :=
  (wbyte_any B b bs c w h hlen hBw).mono fun _ _ h => ⟨h.1, h.2.1, h.2.2.1⟩
theorem wstr_hid (B b : Nat) (bs : List Value) (s : ByteArray) (w : World) (h : IsBuilder 78 5 B b bs w) (hlen : bs.length + s.size ≤ 140737488355328) (hBw : B ≤ w.heap.size) :
    Calls Tryd.prog 31 #[.pointer (some ⟨b, 0, none⟩), .string s] w fun e w' => e = .returned (.tuple #[.int .i64 s.size, .nilIface]) ∧ Hid (IsBuilder 78 5 B b (bs ++ strCells s) w') ∧ Hid (Below B w w') :=
  (wstr_any B b bs s w h hlen hBw).mono fun _ _ h => ⟨h.1, h.2.1, h.2.2.1⟩
set_option maxRecDepth 100000 in
set_option maxHeartbeats 1000000 in
theorem tell_any (v : Value) (zs : List Int) (w : World) (hv : Rds .i32 w v zs) (hL : zs.length ≤ 2000000) (hT : Tz w) (hg : 5 < w.heap.size) :
    Calls Tryd.prog 17 #[v] w fun e w' => e = tlA zs ∧ Hid (Below w.heap.size w w') := by
  obtain ⟨a, c, rfl, hc⟩ := hv
  have HT : Hid (Tz w) := hT
  have HD : Hid (∀ j, j < zs.length → ∃ g off, a = some ⟨g, off, none⟩ ∧ g < w.heap.size ∧ w.cell? ⟨g, off + j, none⟩ = some (.int .i32 (zs.getD j 0))) := fun j hj => by
    obtain ⟨g, off, rfl, hd⟩ := hc (by omega)
    exact ⟨g, off, rfl, by simpa using World.block_lt_of_cell? w _ (hd j hj), hd j hj⟩
  obtain ⟨N, eN⟩ : ∃ N, zs.length = N := ⟨_, rfl⟩
  have HN : Hid (zs.length = N) := eN
  rw [eN] at hL HD ⊢
  clear hc hT eN
  have e3 : (0 : Int) ≤ (N : Int) := by omega
  go_enter Tryd.func17, Tryd.ntmps17
  go_wp2
  go_loopw [5, 6, 9] (fun _ _ x wr => ∃ k : Nat, x = .int .i64 (k : Int) ∧ k ≤ N ∧ Hid (okK zs k = true) ∧ Hid (IsBuilder 78 5 w.heap.size w.heap.size (strCells (tl zs k)) wr) ∧ Hid (Below w.heap.size w wr)) (fun _ _ x _ => N - (RowKit.intOf x).toNat)
  case atStart => exact ⟨0, rfl, Nat.zero_le _, rfl, builder_fresh w, (Below.refl _ _).alloc (Nat.le_refl _) _⟩
  case round =>
    obtain ⟨wo, hwo⟩ : ∃ wo, wr = wo := ⟨_, rfl⟩
    rw [hwo] at hrel ⊢
    clear hwo
    obtain ⟨k, rfl, hk, hA, hI, hB⟩ := hrel
    have HS : Hid ((tl zs k).size ≤ 16000000) := by have := tl_size zs k hA.out; show _ ≤ _; omega
    by_cases d : k < N
    · have d0 : (k : Int) < (N : Int) := by omega
      have d1 : decide ((k : Int) < (N : Int)) = true := decide_eq_true d0
      have d2 : (0 : Int) ≤ (k : Int) := by omega
      obtain ⟨g, off, rfl, hgw, hcell⟩ := HD.out k d
      have y2 : wo.cell? ⟨g, off + k, none⟩ = some (.int .i32 (zs.getD k 0)) := (hB.out.cell (p := ⟨g, off + k, none⟩) hgw).trans hcell
      have HNo : Hid (okP (zs.getD k 0) = false → tlA zs = .returned (.tuple #[.string ⟨#[]⟩, .int .i64 90])) := fun h => tlA_no (okK_no h _ (by have := HN.out; omega))
      have HYes : Hid (okP (zs.getD k 0) = true → okK zs (k + 1) = true) := fun h => by rw [okK, hA.out, h]; rfl
      have HJ : Hid (tl zs (k + 1) = (if 0 < k then tl zs k ++ ⟨#[32]⟩ else tl zs k) ++ hxT (zs.getD k 0).toNat) := rfl
      obtain ⟨z, eZ⟩ : ∃ z, zs.getD k 0 = z := ⟨_, rfl⟩
      rw [eZ] at y2 HNo HYes HJ
      obtain ⟨J, eJ⟩ : ∃ J, tl zs k = J := ⟨_, rfl⟩
      rw [eJ] at HJ HS hI
      clear hcell eZ eJ
      by_cases q1 : z < 0
      · have HR : Hid (tlA zs = .returned (.tuple #[.string ⟨#[]⟩, .int .i64 90])) := HNo.out (by unfold okP; rw [decide_eq_false (by omega)]; rfl)
        have q2 : decide (z < 0) = true := decide_eq_true q1
        clear HNo HYes HJ
        go_wp2
        exact bodyPost_ret (v := .tuple #[.string ⟨#[]⟩, .int .i64 90]) (by simp [results, Tryd.results17, go_sem]) rfl ⟨by rw [HR.out], hB⟩
      · by_cases q3 : 1114111 < z
        · have HR : Hid (tlA zs = .returned (.tuple #[.string ⟨#[]⟩, .int .i64 90])) := HNo.out (by unfold okP; rw [decide_eq_false (show ¬ z ≤ 1114111 by omega), Bool.and_false])
          have q2 : decide (z < 0) = false := decide_eq_false q1
          have q4 : decide (1114111 < z) = true := decide_eq_true q3
          clear HNo HYes HJ
          go_wp2
          exact bodyPost_ret (v := .tuple #[.string ⟨#[]⟩, .int .i64 90]) (by simp [results, Tryd.results17, go_sem]) rfl ⟨by rw [HR.out], hB⟩
        · obtain ⟨p, rfl⟩ : ∃ p : Nat, z = (p : Int) := ⟨z.toNat, by omega⟩
          have HR : Hid (okK zs (k + 1) = true) := HYes.out (by unfold okP; rw [decide_eq_true (show (0 : Int) ≤ p by omega), decide_eq_true (show (p : Int) ≤ 1114111 by omega)]; rfl)
          have HP : Hid (p ≤ 1114111) := by show _ ≤ _; omega
          have hpt : ((p : Int)).toNat = p := by omega
          rw [hpt] at HJ
          have q2 : decide ((p : Int) < 0) = false := decide_eq_false (by omega)
          have q4 : decide (1114111 < (p : Int)) = false := decide_eq_false (by omega)
          have hwz : Hid (w.heap.size ≤ wo.heap.size) := hB.out.size
          clear HNo HYes hpt
          by_cases z0 : 0 < k
          · have z1 : (0 : Int) < (k : Int) := by omega
            have HJ2 : Hid (tl zs (k + 1) = (J ++ ⟨#[32]⟩) ++ hxT p) := by unfold Hid; rw [HJ.out, if_pos z0]
            have k30 := wbyte_hid w.heap.size w.heap.size (strCells J) 32 wo hI.out (by rw [strCells_length]; have := HS.out; omega) hwz.out
            clear HJ hI
            go_wp2_with (go_at_call 30; refine k30.mono ?_)
            rintro e w2 rfl hI2 hb2
            have HI2 : Hid (IsBuilder 78 5 w.heap.size w.heap.size (strCells (J ++ ⟨#[32]⟩)) w2) := by unfold Hid; rw [strCells_app]; exact hI2.out
            have HB2 : Hid (Below w.heap.size w w2) := hB.out.trans hb2.out
            clear k30 hI2 hb2
            have k32 := written_any p w2 HP.out (HT.out.below hg HB2.out) (Nat.lt_of_lt_of_le hg HB2.out.size)
            go_wp2_with (go_at_call 32; refine k32.mono ?_)
            rintro e w3 ⟨rfl, hb3⟩
            have HB3 : Hid (Below w.heap.size w w3) := HB2.out.trans (hb3.out.mono HB2.out.size)
            have HI3 : Hid (IsBuilder 78 5 w.heap.size w.heap.size (strCells (J ++ ⟨#[32]⟩)) w3) := builder_below HI2.out hb3.out
            clear k32 hb3
            have k31 := wstr_hid w.heap.size w.heap.size (strCells (J ++ ⟨#[32]⟩)) (hxT p) w3 HI3.out (by rw [strCells_length, ByteArray.size_append]; have := HS.out; have := hxT_size p HP.out; have : (⟨#[32]⟩ : ByteArray).size = 1 := rfl; omega) HB3.out.size
            go_wp2_with (go_at_call 31; refine k31.mono ?_)
            rintro e w4 ⟨rfl, hI4, hb4⟩
            have HB4 : Hid (Below w.heap.size w w4) := HB3.out.trans hb4.out
            have HI4 : Hid (IsBuilder 78 5 w.heap.size w.heap.size (strCells (tl zs (k + 1))) w4) := by unfold Hid; rw [HJ2.out, strCells_app]; exact hI4.out
            clear k31 hI4 hb4
            go_wp2
            refine ⟨⟨k + 1, by simp, by omega, HR, HI4, HB4⟩, ?_⟩
            simp [RowKit.intOf] <;> omega
          · obtain rfl : k = 0 := by omega
            rw [Nat.add_zero] at y2
            have HJ2 : Hid (tl zs (0 + 1) = J ++ hxT p) := by unfold Hid; rw [HJ.out, if_neg z0]
            have k32 := written_any p wo HP.out (HT.out.below hg hB.out) (Nat.lt_of_lt_of_le hg hB.out.size)
            clear HJ
            go_wp2_with (go_at_call 32; refine k32.mono ?_)
            rintro e w3 rfl hb3
            have HB3 : Hid (Below w.heap.size w w3) := hB.out.trans (hb3.out.mono hB.out.size)
            have HI3 : Hid (IsBuilder 78 5 w.heap.size w.heap.size (strCells J) w3) := builder_below hI.out hb3.out
            clear k32 hb3
            have k31 := wstr_hid w.heap.size w.heap.size (strCells J) (hxT p) w3 HI3.out (by rw [strCells_length]; have := HS.out; have := hxT_size p HP.out; omega) HB3.out.size
            go_wp2_with (go_at_call 31; refine k31.mono ?_)
            rintro e w4 ⟨rfl, hI4, hb4⟩
            have HB4 : Hid (Below w.heap.size w w4) := HB3.out.trans hb4.out
            have HI4 : Hid (IsBuilder 78 5 w.heap.size w.heap.size (strCells (tl zs (0 + 1))) w4) := by unfold Hid; rw [HJ2.out, strCells_app]; exact hI4.out
            clear k31 hI4 hb4
            go_wp2
            refine ⟨⟨0 + 1, by simp, by omega, HR, HI4, HB4⟩, ?_⟩
            simp [RowKit.intOf] <;> omega
    · obtain rfl : N = k := by omega
      have d1 : decide ((N : Int) < (N : Int)) = false := by simp
      have HZ : Hid (tlA zs = .returned (.tuple #[.string (tl zs N), .int .i64 0])) := by
        have h := hA.out
        unfold Hid
        rw [tlA_yes (by rw [HN.out]; exact h), HN.out]
      have k33 := Tryd.Builder_String_any w.heap.size w.heap.size (tl zs N).data.toList wo hI.out hB.out.size
      clear d hA
      go_wp2_with (go_at_call 33; refine k33.mono ?_)
      rintro e w2 ⟨rfl, hb2⟩
      have HB2 : Hid (Below w.heap.size w w2) := hB.out.trans hb2
      clear k33 hb2
      go_wp2
      exact bodyPost_ret (v := .tuple #[.string ⟨(tl zs N).data.toList.toArray⟩, .int .i64 0]) (by simp [results, Tryd.results17, go_sem]) rfl ⟨by rw [HZ.out], HB2⟩
end Go.Proofs.YtcjlplaepnpopaaDoor
