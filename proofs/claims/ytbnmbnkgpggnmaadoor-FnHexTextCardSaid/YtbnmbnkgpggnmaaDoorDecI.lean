import Derived.Test.YtbnmbnkgpggnmaaDoorDecDef
import Derived.Deep.RegionHeld3
import Derived.WalkSpells
namespace Go.Proofs.YtbnmbnkgpggnmaaDoor
open Go.ChangeShapes Go.WideShapes Go.ChangeAt Go.RowKit
set_option linter.unusedVariables false

theorem or_all : ∀ a b : Fin 16, bits .or .i64 ((a.val : Int) * 16) (b.val : Int) = 16 * (a.val : Int) + (b.val : Int) := by decide +kernel
theorem or_nib (a b : Int) (h0 : 0 ≤ a) (h1 : a < 16) (h2 : 0 ≤ b) (h3 : b < 16) : bits .or .i64 (a * 16) b = 16 * a + b := by
  obtain ⟨m, rfl⟩ : ∃ m : Nat, (m : Int) = a := ⟨a.toNat, by omega⟩
  obtain ⟨n, rfl⟩ : ∃ n : Nat, (n : Int) = b := ⟨b.toNat, by omega⟩
  exact or_all ⟨m, by omega⟩ ⟨n, by omega⟩

theorem implDec_no (s : ByteArray) (w : World) (hs : s.size ≤ maxLen) (h : 40000 < s.size ∨ s.size % 2 = 1) :
    Calls Tryd.prog 12 #[.string s] w fun e w' => e = .returned (.tuple #[.string ⟨#[]⟩, .bool false]) ∧ w = w' := by
  unfold maxLen at hs
  by_cases h1 : 40000 < s.size <;> by_cases h2 : s.size % 2 = 1
  · have hm := odd_t s.size h2
    go_enter Tryd.func12, Tryd.ntmps12
    go_wp2
    go_ret2
    exact ⟨rfl, rfl⟩
  · have hm := odd_f s.size (by omega)
    go_enter Tryd.func12, Tryd.ntmps12
    go_wp2
    go_ret2
    exact ⟨rfl, rfl⟩
  · have hm := odd_t s.size h2
    go_enter Tryd.func12, Tryd.ntmps12
    go_wp2
    go_ret2
    exact ⟨rfl, rfl⟩
  · omega

set_option maxHeartbeats 1000000 in
theorem implDec_ok (s : ByteArray) (w : World) (hs : s.size ≤ 40000) (h2 : s.size % 2 = 0) :
    Calls Tryd.prog 12 #[.string s] w fun e w' => e = .returned (decRes s) ∧ Below w.heap.size w w' := by
  obtain ⟨i0, hi0, hz0, hz1, hz2⟩ := info_parts info5
  have hm := odd_f s.size h2
  go_enter Tryd.func12, Tryd.ntmps12
  go_wp2_with (at_make; refine wpList_make_own _ rfl (.const (.int .i64 0)) (.tmp 19) 22 rfl w.heap.size 5 i0 (.int .u8 0) 1 Tryd.underlying22 hi0 hz0 hz1 .i64 .i64 ((s.size : Int) / 2) (s.size / 2) rfl rfl ?h1 ?h2 ?h3 ?h4 ?_)
  case h1 => omega
  case h2 => rw [hz2]; omega
  case h3 => unfold maxLen; omega
  case h4 => exact Nat.le_refl _
  intro w1 hown0 hgrow0
  have hb0 : Below w.heap.size w w1 := (Below.refl _ _).grown hgrow0 (Nat.le_refl _) (fun j hj => by cases hj)
  clear hgrow0
  go_wp2
  go_loopw [4, 5] (fun v i wr => ∃ k : Nat, k ≤ s.size ∧ i = .int .i64 k ∧ k % 2 = 0 ∧ (∀ t, t < k → 0 ≤ valAt s t) ∧ wr.ownsRow w.heap.size 5 1 v (k / 2) (bv (decP s k)) ∧ Below w.heap.size w wr) (fun _ i _ => s.size - (intOf i).toNat)
  case atStart => exact ⟨0, Nat.zero_le _, rfl, rfl, fun t ht => absurd ht (Nat.not_lt_zero _), hown0, hb0⟩
  case round =>
    clear hown0 hb0
    obtain ⟨k, hk, rfl, hk2, hall, hown, hb⟩ := hrel
    have HALL := Lib.hid hall
    have HK2 := Lib.hid hk2
    have H2 := Lib.hid h2
    by_cases hlt : k < s.size
    · have hlt' : k + 1 < s.size := by omega
      clear hall hk2 h2
      have hB := hb.size
      have hc := UInt8.toNat_lt s[k]
      have hd := UInt8.toNat_lt s[k + 1]
      have hva := valAt_get s k hlt
      have hvb := valAt_get s (k + 1) hlt'
      have ha1 := valI_lt (s[k].toNat : Int)
      have ha2 := valI_ge (s[k].toNat : Int)
      have hb1 := valI_lt (s[k + 1].toNat : Int)
      have hb2 := valI_ge (s[k + 1].toNat : Int)
      have HVA := Lib.hid hva
      have HVB := Lib.hid hvb
      clear hva hvb
      by_cases hA : valI (s[k].toNat : Int) < 0
      · have hres : decRes s = .tuple #[.string ⟨#[]⟩, .bool false] := decRes_bad s k hlt (by rw [HVA.out]; exact hA)
        have HR := Lib.hid hres
        clear hres
        go_wp2_with (first | (go_at_call 27; refine (index_hex _ _).mono ?_; rintro e w' ⟨rfl, rfl⟩))
        go_ret2
        exact ⟨by rw [HR.out]; rfl, hb⟩
      · by_cases hBb : valI (s[k + 1].toNat : Int) < 0
        · have hres : decRes s = .tuple #[.string ⟨#[]⟩, .bool false] := decRes_bad s (k + 1) hlt' (by rw [HVB.out]; exact hBb)
          have HR := Lib.hid hres
          clear hres
          go_wp2_with (first | (go_at_call 27; refine (index_hex _ _).mono ?_; rintro e w' ⟨rfl, rfl⟩))
          go_ret2
          exact ⟨by rw [HR.out]; rfl, hb⟩
        · have f2 : k / 2 + 1 ≤ maxLen := by unfold maxLen; omega
          have f3 : (k / 2 + 1) * 1 ≤ 140737488355328 := by omega
          obtain ⟨bb, hbb0⟩ : ∃ bb : UInt8, bb = UInt8.ofNat (16 * valI (s[k].toNat : Int) + valI (s[k + 1].toNat : Int)).toNat := ⟨_, rfl⟩
          have F1 := Lib.hid (oneB bb)
          have hcv : IntKind.u8.wrap (16 * valI (s[k].toNat : Int) + valI (s[k + 1].toNat : Int)) = (bb.toNat : Int) := by rw [hbb0]; exact wrap_byte _ (by omega) (by omega)
          have HBB := Lib.hid hbb0
          clear hbb0
          have hor : bits .or .i64 (valI (s[k].toNat : Int) * 16) (valI (s[k + 1].toNat : Int)) = 16 * valI (s[k].toNat : Int) + valI (s[k + 1].toNat : Int) := or_nib _ _ (by omega) (by omega) (by omega) (by omega)
          go_wp2_with (first | (go_at_call 27; refine (index_hex _ _).mono ?_; rintro e w' ⟨rfl, rfl⟩) | (at_builtin; refine wpList_app wr rfl (.tmp 42) (.tmp 48) 22 rfl w.heap.size 5 i0 (.int .u8 0) 1 1 Tryd.underlying22 hi0 hz0 hz1 hz2 rfl Nat.one_pos u4 (k / 2) (bv (decP s k)) rfl hown 1 #[.int .u8 bb.toNat] rfl rfl F1.out f2 f3 hB ?_; intro v1 w1 hown1 hbw1))
          have hown1' : w1.ownsRow w.heap.size 5 1 v1 ((k + 2) / 2) (bv (decP s (k + 2))) := by
            rw [decP_succ s k HK2.out, bv_app, show (k + 2) / 2 = k / 2 + 1 from by omega, HVA.out, HVB.out, ← HBB.out]; exact hown1
          have hbb := hb.trans hbw1
          have hall' : ∀ t, t < k + 2 → 0 ≤ valAt s t := fun t ht => by
            rcases (show t < k ∨ t = k ∨ t = k + 1 from by omega) with h | rfl | rfl
            · exact HALL.out t h
            · rw [HVA.out]; omega
            · rw [HVB.out]; omega
          have HA' := Lib.hid hall'
          clear hall' hown1 hbw1 hown hb hcv
          go_wp2
          go_roundw
          case rel => exact ⟨k + 2, by omega, by go_num, by have := HK2.out; omega, HA'.out, hown1', hbb⟩
          case measure => simp [intOf]; omega
    · obtain rfl : k = s.size := by omega
      have hres := decRes_good s h2 hall
      have HR := Lib.hid hres
      clear hres hall hk2 h2
      have hcv := conv_own (P := Tryd.prog) _ 22 9 5 _ _ _ _ Tryd.underlying22 Tryd.underlying5 Tryd.underlying9 hown
      go_wp2
      go_ret2
      exact ⟨by rw [HR.out]; rfl, hb⟩
end Go.Proofs.YtbnmbnkgpggnmaaDoor
