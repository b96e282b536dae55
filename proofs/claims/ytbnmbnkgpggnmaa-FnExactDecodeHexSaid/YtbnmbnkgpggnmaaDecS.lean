import Derived.Test.YtbnmbnkgpggnmaaDec
import Derived.Deep.RegionHeld3
import Derived.WalkSpells
namespace Go.Proofs.Ytbnmbnkgpggnmaa
open Go.ChangeShapes Go.WideShapes Go.ChangeAt Go.RowKit
set_option linter.unusedVariables false

theorem odd_t (n : Nat) (h : n % 2 = 1) : ((n : Int) % 2 != 0) = true := by simp; omega
theorem odd_f (n : Nat) (h : n % 2 = 0) : ((n : Int) % 2 != 0) = false := by simp; omega
def valAt (s : ByteArray) (t : Nat) : Int := valI ((s.data.toList.getD t 0).toNat : Int)
theorem valAt_get (s : ByteArray) (t : Nat) (h : t < s.size) : valAt s t = valI (s[t].toNat : Int) := by
  unfold valAt
  rw [List.getD_eq_getElem?_getD, List.getElem?_eq_getElem (by simpa using h)]; rfl
def byteAt (s : ByteArray) (j : Nat) : UInt8 := UInt8.ofNat (16 * valAt s (2 * j) + valAt s (2 * j + 1)).toNat
def decP (s : ByteArray) (k : Nat) : List UInt8 := (List.range (k / 2)).map (byteAt s)
theorem decP_succ (s : ByteArray) (k : Nat) (h : k % 2 = 0) : decP s (k + 2) = decP s k ++ [UInt8.ofNat (16 * valAt s k + valAt s (k + 1)).toNat] := by
  unfold decP
  rw [show (k + 2) / 2 = k / 2 + 1 from by omega, List.range_succ, List.map_append]
  simp [byteAt, show 2 * (k / 2) = k from by omega]
noncomputable def decRes (s : ByteArray) : Value :=
  haveI := Classical.propDecidable (∀ t, t < s.size → 0 ≤ valAt s t)
  if (∀ t, t < s.size → 0 ≤ valAt s t) then .tuple #[.string ⟨(decP s s.size).toArray⟩, .bool true] else .tuple #[.string ⟨#[]⟩, .bool false]
theorem decRes_bad (s : ByteArray) (k : Nat) (h : k < s.size) (hv : valAt s k < 0) : decRes s = .tuple #[.string ⟨#[]⟩, .bool false] := by
  unfold decRes; rw [if_neg (fun hh => by have := hh k h; omega)]
theorem decRes_good (s : ByteArray) (h2 : s.size % 2 = 0) (h : ∀ t, t < s.size → 0 ≤ valAt s t) : decRes s = .tuple #[.string ⟨(decP s s.size).toArray⟩, .bool true] := by
  unfold decRes; rw [if_pos h]
theorem oneB (b : UInt8) : ∀ u ∈ bv [b], u.oneCell' = true := by simp [bv, Value.oneCell']
theorem wrap_byte (x : Int) (h0 : 0 ≤ x) (h1 : x < 256) : IntKind.u8.wrap x = ((UInt8.ofNat x.toNat).toNat : Int) := by
  rw [IntWalk.u8_in _ (by omega)]
  simp [UInt8.toNat_ofNat']; omega

theorem specDec_no (s : ByteArray) (w : World) (hs : s.size ≤ maxLen) (h : 40000 < s.size ∨ s.size % 2 = 1) :
    Calls Try.prog 13 #[.string s] w fun e w' => e = .returned (.tuple #[.string ⟨#[]⟩, .bool false]) ∧ w = w' := by
  unfold maxLen at hs
  by_cases h1 : 40000 < s.size <;> by_cases h2 : s.size % 2 = 1
  · have hm := odd_t s.size h2
    go_enter Try.func13, Try.ntmps13
    go_wp2
    go_ret2
    exact ⟨rfl, rfl⟩
  · have hm := odd_f s.size (by omega)
    go_enter Try.func13, Try.ntmps13
    go_wp2
    go_ret2
    exact ⟨rfl, rfl⟩
  · have hm := odd_t s.size h2
    go_enter Try.func13, Try.ntmps13
    go_wp2
    go_ret2
    exact ⟨rfl, rfl⟩
  · omega

set_option maxHeartbeats 1000000 in
theorem specDec_ok (s : ByteArray) (w : World) (hs : s.size ≤ 40000) (h2 : s.size % 2 = 0) :
    Calls Try.prog 13 #[.string s] w fun e w' => e = .returned (decRes s) ∧ Below w.heap.size w w' := by
  obtain ⟨i0, hi0, hz0, hz1, hz2⟩ := info_parts info5
  have hm := odd_f s.size h2
  have hown0 := own_new w 5 w.heap.size (Nat.le_refl _)
  have hb0 : Below w.heap.size w (w.alloc (.cells #[] 5)) := (Below.refl _ _).alloc (Nat.le_refl _) _
  go_enter Try.func13, Try.ntmps13
  go_wp2
  go_loopw [4, 5] (fun v i wr => ∃ k : Nat, k ≤ s.size ∧ i = .int .i64 k ∧ k % 2 = 0 ∧ (∀ t, t < k → 0 ≤ valAt s t) ∧ wr.ownsRow w.heap.size 5 1 v (k / 2) (bv (decP s k)) ∧ Below w.heap.size w wr) (fun _ i _ => s.size - (intOf i).toNat)
  case atStart => exact ⟨0, Nat.zero_le _, rfl, rfl, fun t ht => absurd ht (Nat.not_lt_zero _), hown0, hb0⟩
  case round =>
    clear hown0 hb0
    obtain ⟨k, hk, rfl, hk2, hall, hown, hb⟩ := hrel
    have HALL := Lib.hid hall
    have HK2 := Lib.hid hk2
    have H2 := Lib.hid h2
    by_cases hlt : k < s.size
    · have hlt' : k + 1 < s.size := by omega
      clear hall hk2 h2
      have hB := hb.size
      have hc := UInt8.toNat_lt s[k]
      have hd := UInt8.toNat_lt s[k + 1]
      have hva := valAt_get s k hlt
      have hvb := valAt_get s (k + 1) hlt'
      have ha1 := valI_lt (s[k].toNat : Int)
      have ha2 := valI_ge (s[k].toNat : Int)
      have hb1 := valI_lt (s[k + 1].toNat : Int)
      have hb2 := valI_ge (s[k + 1].toNat : Int)
      have HVA := Lib.hid hva
      have HVB := Lib.hid hvb
      clear hva hvb
      by_cases hA : valI (s[k].toNat : Int) < 0
      · have hres : decRes s = .tuple #[.string ⟨#[]⟩, .bool false] := decRes_bad s k hlt (by rw [HVA.out]; exact hA)
        have HR := Lib.hid hres
        clear hres
        go_wp2_with (first | (go_at_call 26; refine (value _ _ ?_ ?_).mono ?_; (omega); (omega); rintro e w' ⟨rfl, rfl⟩))
        go_ret2
        exact ⟨by rw [HR.out]; rfl, hb⟩
      · by_cases hBb : valI (s[k + 1].toNat : Int) < 0
        · have hres : decRes s = .tuple #[.string ⟨#[]⟩, .bool false] := decRes_bad s (k + 1) hlt' (by rw [HVB.out]; exact hBb)
          have HR := Lib.hid hres
          clear hres
          go_wp2_with (first | (go_at_call 26; refine (value _ _ ?_ ?_).mono ?_; (omega); (omega); rintro e w' ⟨rfl, rfl⟩))
          go_ret2
          exact ⟨by rw [HR.out]; rfl, hb⟩
        · have f2 : k / 2 + 1 ≤ maxLen := by unfold maxLen; omega
          have f3 : (k / 2 + 1) * 1 ≤ 140737488355328 := by omega
          obtain ⟨bb, hbb0⟩ : ∃ bb : UInt8, bb = UInt8.ofNat (16 * valI (s[k].toNat : Int) + valI (s[k + 1].toNat : Int)).toNat := ⟨_, rfl⟩
          have F1 := Lib.hid (oneB bb)
          have hcv : IntKind.u8.wrap (16 * valI (s[k].toNat : Int) + valI (s[k + 1].toNat : Int)) = (bb.toNat : Int) := by rw [hbb0]; exact wrap_byte _ (by omega) (by omega)
          have HBB := Lib.hid hbb0
          clear hbb0
          go_wp2_with (first | (go_at_call 26; refine (value _ _ ?_ ?_).mono ?_; (omega); (omega); rintro e w' ⟨rfl, rfl⟩) | (at_builtin; refine wpList_app wr rfl (.tmp 39) (.tmp 45) 22 rfl w.heap.size 5 i0 (.int .u8 0) 1 1 Try.underlying22 hi0 hz0 hz1 hz2 rfl Nat.one_pos u4 (k / 2) (bv (decP s k)) rfl hown 1 #[.int .u8 bb.toNat] rfl rfl F1.out f2 f3 hB ?_; intro v1 w1 hown1 hbw1))
          have hown1' : w1.ownsRow w.heap.size 5 1 v1 ((k + 2) / 2) (bv (decP s (k + 2))) := by
            rw [decP_succ s k HK2.out, bv_app, show (k + 2) / 2 = k / 2 + 1 from by omega, HVA.out, HVB.out, ← HBB.out]; exact hown1
          have hbb := hb.trans hbw1
          have hall' : ∀ t, t < k + 2 → 0 ≤ valAt s t := fun t ht => by
            rcases (show t < k ∨ t = k ∨ t = k + 1 from by omega) with h | rfl | rfl
            · exact HALL.out t h
            · rw [HVA.out]; omega
            · rw [HVB.out]; omega
          have HA' := Lib.hid hall'
          clear hall' hown1 hbw1 hown hb hcv
          go_wp2
          go_roundw
          case rel => exact ⟨k + 2, by omega, by go_num, by have := HK2.out; omega, HA'.out, hown1', hbb⟩
          case measure => simp [intOf]; omega
    · obtain rfl : k = s.size := by omega
      have hres := decRes_good s h2 hall
      have HR := Lib.hid hres
      clear hres hall hk2 h2
      have hcv := conv_own (P := Try.prog) _ 22 9 5 _ _ _ _ Try.underlying22 Try.underlying5 Try.underlying9 hown
      go_wp2
      go_ret2
      exact ⟨by rw [HR.out]; rfl, hb⟩
end Go.Proofs.Ytbnmbnkgpggnmaa
