import Derived.Test.YtbnmbnkgpggnmaaRows
import Derived.Test.YtbnmbnkgpggnmaaBase
import Derived.Deep.RegionHeld3
import Derived.Deep.AppendLies
import Derived.WalkSpells
import Derived.Outline
import Derived.Lib.Hide
namespace Go.Proofs.Ytbnmbnkgpggnmaa
open Go.ChangeShapes Go.WideShapes Go.ChangeAt Go.RowKit
set_option linter.unusedVariables false

def hexd (n : Nat) : UInt8 := if n < 10 then UInt8.ofNat (48 + n) else UInt8.ofNat (87 + n)
def hexL (l : List UInt8) : List UInt8 := l.flatMap fun c => [hexd (c.toNat / 16), hexd (c.toNat % 16)]
theorem hexL_len (l : List UInt8) : (hexL l).length = 2 * l.length := by
  induction l with
  | nil => rfl
  | cons c l ih => simp [hexL] at ih ⊢; omega
theorem hexd_nat (n : Nat) (h : n < 16) : ((hexd n).toNat : Int) = if n < 10 then 48 + (n : Int) else 87 + (n : Int) := by
  unfold hexd; split <;> simp [UInt8.toNat_ofNat] <;> omega

theorem ret_int {k : IntKind} {a b : Int} (h : a = b) : Ending.returned (.int k a) = .returned (.int k b) := by rw [h]
theorem figure (x : Int) (w : World) (h0 : 0 ≤ x) (h1 : x < 16) :
    Calls Try.prog 25 #[.int .i64 x] w fun e w' => e = .returned (.int .u8 ((hexd x.toNat).toNat : Int)) ∧ w = w' := by
  have hd := hexd_nat x.toNat (by omega)
  by_cases h : x < 10
  · rw [if_pos (by omega)] at hd
    have H := Lib.hid hd
    clear hd
    go_enter Try.func25, Try.ntmps25
    go_wp2
    go_ret
    exact ⟨ret_int (by rw [H.out]; omega), rfl⟩
  · rw [if_neg (by omega)] at hd
    have H := Lib.hid hd
    clear hd
    go_enter Try.func25, Try.ntmps25
    go_wp2
    go_ret
    exact ⟨ret_int (by rw [H.out]; omega), rfl⟩

theorem figQ (n : Nat) (w : World) (h1 : n < 256) :
    Calls Try.prog 25 #[.int .i64 ((n : Int) / 16)] w fun e w' => e = .returned (.int .u8 ((hexd (n / 16)).toNat : Int)) ∧ w = w' := by
  have h := figure ((n : Int) / 16) w (by omega) (by omega)
  rwa [show ((n : Int) / 16).toNat = n / 16 from by omega] at h
theorem figR (n : Nat) (w : World) :
    Calls Try.prog 25 #[.int .i64 ((n : Int) % 16)] w fun e w' => e = .returned (.int .u8 ((hexd (n % 16)).toNat : Int)) ∧ w = w' := by
  have h := figure ((n : Int) % 16) w (by omega) (by omega)
  rwa [show ((n : Int) % 16).toNat = n % 16 from by omega] at h
theorem info5 : (Try.prog.info? 5).map (fun i => (i.zero, i.size, i.bytes)) = some (some (.int .u8 0), 1, 1) := by kernel_rfl

theorem specEnc_long (s : ByteArray) (w : World) (hs : s.size ≤ maxLen) (h : 20000 < s.size) :
    Calls Try.prog 11 #[.string s] w fun e w' => e = .returned (.tuple #[.string ⟨#[]⟩, .bool false]) ∧ w = w' := by
  unfold maxLen at hs
  go_enter Try.func11, Try.ntmps11
  go_wp2
  go_ret2
  exact ⟨rfl, rfl⟩

theorem take_snoc (s : ByteArray) (k : Nat) (h : k < s.size) : s.data.toList.take (k + 1) = s.data.toList.take k ++ [s[k]] := by
  rw [List.take_succ_eq_append_getElem (by simpa using h)]; rfl
theorem hexL_snoc (l : List UInt8) (c : UInt8) : hexL (l ++ [c]) = hexL l ++ [hexd (c.toNat / 16), hexd (c.toNat % 16)] := by simp [hexL]

set_option maxHeartbeats 1000000 in
theorem specEnc (s : ByteArray) (w : World) (hs : s.size ≤ 20000) :
    Calls Try.prog 11 #[.string s] w fun e w' => e = .returned (.tuple #[.string ⟨(hexL s.data.toList).toArray⟩, .bool true]) ∧ Below w.heap.size w w' := by
  obtain ⟨i0, hi0, hz0, hz1, hz2⟩ := info_parts info5
  have hown0 := own_new w 5 w.heap.size (Nat.le_refl _)
  go_enter Try.func11, Try.ntmps11
  go_wp2
  go_loopw [4, 5] (fun v i wr => ∃ k : Nat, k ≤ s.size ∧ i = .int .i64 k ∧ wr.ownsRow w.heap.size 5 1 v (2 * k) (bv (hexL (s.data.toList.take k))) ∧ Below w.heap.size w wr) (fun _ i _ => s.size - (intOf i).toNat)
  case atStart => exact ⟨0, Nat.zero_le _, rfl, hown0, (Below.refl _ _).alloc (Nat.le_refl _) _⟩
  case round =>
    obtain ⟨k, hk, rfl, hown, hb⟩ := hrel
    by_cases hlt : k < s.size
    · have hc := UInt8.toNat_lt s[k]
      have e1 : IntKind.i64.wrap (s[k].toNat : Int) = (s[k].toNat : Int) := IntWalk.i64_in _ (by omega)
      have e2 : IntKind.i64.wrap ((s[k].toNat : Int) / 16) = (s[k].toNat : Int) / 16 := IntWalk.i64_in _ (by omega)
      have e3 : (s[k].toNat : Int).tmod 16 = (s[k].toNat : Int) % 16 := Int.tmod_eq_emod_of_nonneg (by omega)
      have hB := hb.size
      have f1 : ∀ u ∈ bv [hexd (s[k].toNat / 16), hexd (s[k].toNat % 16)], u.oneCell' = true := by simp [bv, Value.oneCell']
      have f2 : 2 * k + 2 ≤ maxLen := by unfold maxLen; omega
      have f3 : (2 * k + 2) * 1 ≤ 140737488355328 := by omega
      have F1 := Lib.hid f1
      clear f1
      go_wp2_with fail
      go_region_held3 (fun _ => True) (trivial)
        (first
         | ((with_reducible refine (figQ _ _ hc).mono ?_); rintro e w' ⟨rfl, rfl⟩)
         | ((with_reducible refine (figR _ _).mono ?_); rintro e w' ⟨rfl, rfl⟩)
         | (refine step_app wr rfl (.tmp 16) (.tmp 29) 22 rfl w.heap.size 5 i0 (.int .u8 0) 1 1 Try.underlying22 hi0 hz0 hz1 hz2 rfl Nat.one_pos u4 (2 * k) (bv (hexL (s.data.toList.take k))) rfl hown 2 #[.int .u8 (hexd (s[k].toNat / 16)).toNat, .int .u8 (hexd (s[k].toNat % 16)).toNat] rfl rfl F1.out Nat.two_pos f2 f3 hB ?_; intro gg cap w1 hown1 hbw1))
      all_goals
        have hown1' : w1.ownsRow w.heap.size 5 1 (.slice (some ⟨gg, 0, none⟩) (2 * k + 2) cap) (2 * (k + 1)) (bv (hexL (s.data.toList.take (k + 1)))) := by
          rw [take_snoc s k hlt, hexL_snoc, bv_app]; exact hown1
        have hb1 := hb.trans hbw1
        clear hown1 hbw1 hown hb e1 e2 e3
        go_wp2
        go_roundw
        case rel => exact ⟨k + 1, by omega, by go_num, hown1', hb1⟩
        case measure => simp [intOf]; omega
    · obtain rfl : k = s.size := by omega
      have hfull : s.data.toList.take s.size = s.data.toList := List.take_of_length_le (by simp)
      rw [hfull] at hown
      have hcv := conv_own (P := Try.prog) _ 22 9 5 _ _ _ _ Try.underlying22 Try.underlying5 Try.underlying9 hown
      go_wp2
      go_ret2
      exact ⟨rfl, hb⟩
end Go.Proofs.Ytbnmbnkgpggnmaa
