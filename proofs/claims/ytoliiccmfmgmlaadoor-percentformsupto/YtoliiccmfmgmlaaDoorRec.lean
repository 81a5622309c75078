/-
  The contract of the document's Encode: each byte of a set as a coded byte. Condition: the text is no longer than a third of what one that comes in can be.
-/
import Derived.Test.YtoliiccmfmgmlaaDoorEc
namespace Go.Proofs.YtoliiccmfmgmlaaDoor
open Go.RowKit Go.Lib
attribute [local go_sem] rowOf_size
theorem one_byte (s : ByteArray) (k : Nat) (h : k < s.size) : s.extract k (k + 1) = ⟨#[UInt8.ofNat (byt s k)]⟩ := by
  refine ext_byt _ _ (by simp; show _ = 1; omega) fun j hj => ?_
  have hz : (s.extract k (k + 1)).size = 1 := by simp; omega
  have e : j = 0 := by omega
  subst e
  rw [byt_extract s k (k + 1) 0 (by omega) (by omega), Nat.add_zero]
  have := byt_lt s k
  show _ = (UInt8.ofNat (byt s k)).toNat
  simp; omega
set_option maxRecDepth 100000 in
set_option maxHeartbeats 2000000 in
theorem renc_any (p : Nat → Bool) (f : Nat → Int) (hp : ∀ b, b < 256 → (f b == 1) = p b) (s : ByteArray) (w : World) (hs : s.size ≤ 46912496100000) :
    Calls Tryd.prog 16 #[.string s, .agg (rowOf .u8 256 f)] w fun e w' => e = .returned (.string (encB p s)) ∧ Below w.heap.size w w' := by
  have HP : Hid (∀ b, b < 256 → (f b == 1) = p b) := hp
  clear hp
  have H0 : Hid ((w.alloc (.cells (rowOf .u8 256 f) 32)).heap[w.heap.size]? = some (.cells (rowOf .u8 256 f) 32 (0, 0)) ∧ Below w.heap.size w (w.alloc (.cells (rowOf .u8 256 f) 32))) := ⟨World.alloc_heap_new _ _, (Below.refl _ w).alloc (Nat.le_refl _) _⟩
  go_enter Tryd.func16, Tryd.ntmps16
  go_wp2
  go_loopw [5, 6] (fun o i wr => ∃ k : Nat, i = .int .i64 k ∧ k ≤ s.size ∧ o = .string (encT p s k) ∧ Hid (wr.heap[w.heap.size]? = some (.cells (rowOf .u8 256 f) 32 (0, 0)) ∧ Below w.heap.size w wr)) (fun _ i _ => s.size - (RowKit.intOf i).toNat)
  case atStart => exact ⟨0, rfl, Nat.zero_le _, rfl, H0⟩
  case round =>
    clear H0
    obtain ⟨k, rfl, hk, rfl, HI⟩ := hrel
    by_cases hlt : k < s.size
    · have hltj : (k : Int) < (s.size : Int) := by omega
      have q0 : (s[k]'hlt).toNat = byt s k := byt_eq s k hlt
      have lb := byt_lt s k
      have hz := encT_size p s k
      have hbox := HI.out.1
      have hc : wr.cell? ⟨w.heap.size, byt s k, none⟩ = some (.int .u8 (f (byt s k))) := by
        simp only [World.cell?, hbox]; exact rowOf_get .u8 256 f _ lb
      have hpb := HP.out _ lb
      have hone := one_byte s k hlt
      have hwz : w.heap.size < wr.heap.size := (Array.getElem?_eq_some_iff.1 hbox).1
      have hnext : encT p s (k + 1) = encT p s k ++ e1 p (byt s k) := rfl
      have HN : Hid (∀ x, e1 p (byt s k) = x → encT p s k ++ x = encT p s (k + 1)) := fun x hx => by rw [hnext, hx]
      clear hbox hnext
      obtain ⟨b, hb⟩ : ∃ b, byt s k = b := ⟨_, rfl⟩
      rw [hb] at q0 lb hc hpb hone HN
      have lbi : (b : Int) < 256 := by omega
      obtain ⟨v, hv⟩ : ∃ v, f b = v := ⟨_, rfl⟩
      rw [hv] at hc hpb
      obtain ⟨T, hT⟩ : ∃ T, encT p s k = T := ⟨_, rfl⟩
      rw [hT] at hz HN ⊢
      clear hb hv hT
      cases hq : p b
      · rw [hq] at hpb
        have E1 : e1 p b = ⟨#[UInt8.ofNat b]⟩ := by unfold e1; rw [if_neg (by rw [hq]; decide)]
        have hcat := HN.out _ E1
        rw [← hone] at hcat
        have hvs : (s.extract k (k + 1)).size = 1 := by simp; omega
        obtain ⟨V, eV⟩ : ∃ V, s.extract k (k + 1) = V := ⟨_, rfl⟩
        obtain ⟨T2, eT2⟩ : ∃ T, encT p s (k + 1) = T := ⟨_, rfl⟩
        rw [eV, eT2] at hcat
        rw [eV] at hvs
        have hlim : ¬ 9223372036854775807 < T.size + V.size := by omega
        have t1 : ((k : Int) + 1).toNat = k + 1 := by omega
        have ET : Hid (encT p s (k + 1) = T2) := eT2
        clear hone E1 HN eT2
        go_wp2
        exact ⟨⟨k + 1, by go_num, by omega, by rw [ET.out], HI⟩, by simp [RowKit.intOf]; omega⟩
      · rw [hq] at hpb
        have E1 : e1 p b = (⟨#[37]⟩ : ByteArray) ++ hexB b := by unfold e1; rw [if_pos hq]
        have hcat := HN.out _ E1
        have kx := fun w => rhex_any b w lb
        have hxs : (hexB b).size = 2 := rfl
        obtain ⟨H, eH⟩ : ∃ H, hexB b = H := ⟨_, rfl⟩
        rw [eH] at hcat kx hxs
        have hvs : ((⟨#[37]⟩ : ByteArray) ++ H).size = 3 := by
          have : ((⟨#[37]⟩ : ByteArray) ++ H).size = (⟨#[37]⟩ : ByteArray).size + H.size := by simp
          rw [this, hxs]; rfl
        obtain ⟨V, eV⟩ : ∃ V, (⟨#[37]⟩ : ByteArray) ++ H = V := ⟨_, rfl⟩
        obtain ⟨T2, eT2⟩ : ∃ T, encT p s (k + 1) = T := ⟨_, rfl⟩
        rw [eV, eT2] at hcat
        rw [eV] at hvs
        have hlim : ¬ 9223372036854775807 < T.size + V.size := by omega
        have hlim2 : ¬ 9223372036854775807 < 1 + H.size := by omega
        have ET : Hid (encT p s (k + 1) = T2) := eT2
        clear hone E1 HN eT2 eH
        go_wp2_with (go_at_call 31; refine (kx _).mono ?_)
        first | rintro e w2 rfl b2 | rintro e w2 ⟨rfl, b2⟩
        have HI2 : Hid (w2.heap[w.heap.size]? = some (.cells (rowOf .u8 256 f) 32 (0, 0)) ∧ Below w.heap.size w w2) := ⟨(b2.block _ hwz).trans HI.out.1, HI.out.2.trans (b2.mono HI.out.2.size)⟩
        clear b2 HI kx hwz hc
        go_wp2
        exact ⟨⟨k + 1, by go_num, by omega, by rw [ET.out], HI2⟩, by simp [RowKit.intOf]; omega⟩
    · have hltj : ¬ (k : Int) < (s.size : Int) := by omega
      have e : k = s.size := by omega
      subst e
      go_wp2
      go_ret
      exact ⟨rfl, HI.out.2⟩
end Go.Proofs.YtoliiccmfmgmlaaDoor
