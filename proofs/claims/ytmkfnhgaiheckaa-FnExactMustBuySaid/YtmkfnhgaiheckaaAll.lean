/- The program's range test of a list of numbers. -/
import Derived.Test.YtmkfnhgaiheckaaIn
import Derived.Test.YtmkfnhgaiheckaaIntR
import Derived.Test.YtmkfnhgaiheckaaSum
namespace Go.Proofs.Ytmkfnhgaiheckaa
open Go.ChangeShapes Go.WideShapes Go.ChangeAt Go.RowKit
set_option linter.unusedVariables false
set_option linter.unusedSimpArgs false

def inAt (xs : List Int) (lo hi : Int) (i : Nat) : Bool := inB (xs.getD i 0) lo hi
def allIn (xs : List Int) (lo hi : Int) (n : Nat) : Bool := allOk (inAt xs lo hi) n
theorem allIn_f {xs : List Int} {lo hi : Int} {n : Nat} (k : Nat) (hk : k < n) (h : inAt xs lo hi k = false) : allIn xs lo hi n = false := allOk_f _ _ k hk h
theorem allIn_t {xs : List Int} {lo hi : Int} {n : Nat} (h : ∀ i, i < n → inAt xs lo hi i = true) : allIn xs lo hi n = true := allOk_t _ _ h
theorem allIn_at {xs : List Int} {lo hi : Int} {n : Nat} (h : allIn xs lo hi n = true) : ∀ i, i < n → lo ≤ xs.getD i 0 ∧ xs.getD i 0 ≤ hi := fun i hi => inB_tt (allOk_at _ _ h i hi)
theorem reads_lit (w : World) (t : TypeId) (cs : Array Value) (zs : List Int) (hz : cs.toList = iv zs) : ReadsI (w.alloc (.cells cs t)) (some ⟨w.heap.size, 0, none⟩) zs.length zs := by
  refine ⟨rfl, fun k hk => ⟨_, rfl, ?_⟩⟩
  rw [Addr.add_lit, Nat.zero_add, (Blk.new w t cs).cell k, ← Array.getElem?_toList, hz]
  exact iv_at zs k hk
theorem reads_at (w : World) (t : TypeId) (cs : Array Value) (zs : List Int) (g : Nat) (hg : w.heap.size = g) (hz : cs.toList = iv zs) : ReadsI (w.alloc (.cells cs t)) (some ⟨g, 0, none⟩) zs.length zs := by
  subst hg; exact reads_lit w t cs zs hz
set_option maxHeartbeats 1000000 in
theorem iAll (A : Option Addr) (n c : Nat) (xs : List Int) (lo hi : Int) (w : World) (hn : n ≤ maxLen) (hx : ReadsI w A n xs) : Calls Try.prog 120 #[.int .i64 lo, .int .i64 hi, .slice A n c] w (Same (.bool (allIn xs lo hi n)) w) := by
  unfold maxLen at hn
  go_enter Try.func120, Try.ntmps120
  go_wp2
  go_loop [11] (fun i => ∃ k : Nat, k ≤ n ∧ i = .int .i64 k ∧ (∀ i, i < k → inAt xs lo hi i = true)) (fun i => n - (intOf i).toNat)
  case atStart => exact ⟨0, Nat.zero_le _, rfl, fun i hi => absurd hi (Nat.not_lt_zero _)⟩
  case round =>
    obtain ⟨k, hk, rfl, ho⟩ := hrel
    have HO := Lib.hid ho
    clear ho
    by_cases hlt : k < n
    · obtain ⟨a, rfl, ha⟩ := hx.2 k hlt
      have HK : Hid (inAt xs lo hi k = inB (xs.getD k 0) lo hi) := Lib.hid rfl
      generalize xs.getD k 0 = x at ha HK
      cases h1 : inB x lo hi
      · have HF : Hid (allIn xs lo hi n = false) := Lib.hid (allIn_f k hlt (by rw [HK.out]; exact h1))
        go_wp2_with (first | (go_at_call 95; refine (sIn _ _ _ _).mono ?_; rintro e w' ⟨rfl, rfl⟩) | (go_at_call 105; refine (iIn _ _ _ _).mono ?_; rintro e w' ⟨rfl, rfl⟩) | go_in | (go_end0; simp only []; go_at_K))
        go_ret
        exact ⟨ret_bool HF.out.symm, rfl⟩
      · have HT : Hid (inAt xs lo hi k = true) := Lib.hid (by rw [HK.out]; exact h1)
        go_wp2_with (first | (go_at_call 95; refine (sIn _ _ _ _).mono ?_; rintro e w' ⟨rfl, rfl⟩) | (go_at_call 105; refine (iIn _ _ _ _).mono ?_; rintro e w' ⟨rfl, rfl⟩) | go_in | (go_end0; simp only []; go_at_K))
        go_round
        case rel => exact ⟨k + 1, by omega, by go_num, fun i hi => by
            by_cases e : i = k
            · subst e; exact HT.out
            · exact HO.out i (by omega)⟩
        case measure => simp [intOf]; omega
    · obtain rfl : k = n := by omega
      go_wp2
      go_ret
      exact ⟨ret_bool (allIn_t HO.out).symm, rfl⟩
end Go.Proofs.Ytmkfnhgaiheckaa
