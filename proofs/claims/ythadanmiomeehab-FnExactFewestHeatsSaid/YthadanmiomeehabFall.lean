/- Chapter 8: FallingOrder of the program. -/
import Derived.Test.YthadanmiomeehabSortI
import Derived.Test.YthadanmiomeehabAll
import Derived.Test.YthadanmiomeehabQuiet
import Derived.Test.YthadanmiomeehabIntT
import Derived.Test.YthadanmiomeehabO08
namespace Go.Proofs.Ythadanmiomeehab
open Go.ChangeShapes Go.WideShapes Go.ChangeAt Go.RowKit
set_option linter.unusedVariables false
set_option linter.unusedSimpArgs false
set_option maxHeartbeats 2000000

def fallV (xs : List Int) : Int → Int → Int := fun x y => cmpV (xs.getD y.toNat 0) (xs.getD x.toNat 0)
def ltI (p q : Int) : Bool := decide (p < q)
theorem fall_lt (xs : List Int) (x y : Int) : ltOf (fallV xs) x y = ltI (xs.getD y.toNat 0) (xs.getD x.toNat 0) := by
  unfold ltOf fallV cmpV ltI
  generalize xs.getD y.toNat 0 = p
  generalize xs.getD x.toNat 0 = q
  by_cases h : p < q
  · simp [h]
  · by_cases k : q < p
    · simp only [h, k, if_true, if_false]; rfl
    · simp only [h, k, if_false]; rfl
def fallL (xs : List Int) (n : Nat) : List Int := srtL (ltOf (fallV xs)) n
theorem ifall1 (A : Option Addr) (n c gb : Nat) (xs : List Int) (hn : n ≤ 1000) (x y : Int) (w : World) (h1 : 0 ≤ x) (h2 : x < n) (h3 : 0 ≤ y) (h4 : y < n) (hb : w.cell? ⟨gb, 0, none⟩ = some (.slice A n c)) (hx : ReadsI w A n xs) :
    Calls Try.prog 32 #[.int .i64 x, .int .i64 y, .pointer (some ⟨gb, 0, none⟩)] w (Val (.int .i64 (cmpV (xs.getD y.toNat 0) (xs.getD x.toNat 0))) w) := by
  obtain ⟨i, rfl⟩ : ∃ i : Nat, x = i := ⟨x.toNat, by omega⟩
  obtain ⟨k, rfl⟩ : ∃ k : Nat, y = k := ⟨y.toNat, by omega⟩
  have hi : i < n := by omega
  have hk : k < n := by omega
  simp only [Int.toNat_natCast]
  obtain ⟨a, rfl, ha⟩ := hx.2 i hi
  obtain ⟨b, hab, hc⟩ := hx.2 k hk
  injection hab with hab
  subst hab
  generalize xs.getD i 0 = p at *
  generalize xs.getD k 0 = q at *
  have HC := Lib.hid (fun W => iCmp q p W)
  clear h1 h2 h3 h4 hx
  go_enter Try.func32, Try.ntmps32
  go_wp2
  go_quiet ((go_at_call 33; exact (HC.out _).mono (by rintro e w2 ⟨rfl, rfl⟩; exact ⟨rfl, _, rfl⟩)))
  go_wp2
  go_ret
  exact Val.mk' rfl (by (repeat (first | exact In.refl _ | assumption | apply In.alloc | apply In.drewN | apply In.drew | (refine In.step ?_ (by assumption)))))
def FallingOrderL (n : Nat) (xs : List Int) : List Int := if heatsB n xs then fallL xs n else []
theorem FallingOrderL_len (n : Nat) (xs : List Int) : (FallingOrderL n xs).length ≤ 8 := by
  unfold FallingOrderL
  split
  · rename_i h
    simp only [heatsB, Bool.and_eq_true, decide_eq_true_eq] at h
    rw [fallL, srtL_len]; exact h.1
  · simp
theorem iFallingOrder (A : Option Addr) (n c : Nat) (xs : List Int) (w : World) (hn : n ≤ maxLen) (hx : ReadsI w A n xs) : Calls Try.prog 11 #[.slice A n c] w (RowB (FallingOrderL n xs) w) := by
  have hm : n ≤ maxLen := hn
  unfold maxLen at hn
  cases h0 : heatsB n xs
  · have HV : Hid (FallingOrderL n xs = []) := Lib.hid (by simp [FallingOrderL, h0])
    go_enter Try.func11, Try.ntmps11
    go_wp2_with fail
    refine (iheatsOk A n c xs _ hm (by (with_reducible (repeat (first | assumption | apply ReadsI.drewN | apply ReadsI.drew | apply ReadsI.alloc))))).mono ?_
    rintro _ w1 ⟨rfl, hb1⟩
    replace hb1 := same_below hb1
    rw [h0]
    go_wp2
    go_ret
    rw [HV.out]
    exact rowB_nil _ _ (by (repeat (first | exact In.refl _ | assumption | apply In.alloc | apply In.drewN | apply In.drew | (refine In.step ?_ (by assumption)))))
  · have h8 : n ≤ 8 := by simp only [heatsB, Bool.and_eq_true, decide_eq_true_eq] at h0; exact h0.1
    have HV : Hid (FallingOrderL n xs = fallL xs n) := Lib.hid (by simp [FallingOrderL, h0])
    have k0 : Blk (w.alloc (.cells #[.slice A n c] 22)) w.heap.size 22 #[.slice A n c] := Blk.new w _ _
    go_enter Try.func11, Try.ntmps11
    go_wp2_with fail
    refine (iheatsOk A n c xs _ hm (by (with_reducible (repeat (first | assumption | apply ReadsI.drewN | apply ReadsI.drew | apply ReadsI.alloc))))).mono ?_
    rintro _ w1 ⟨rfl, hb1⟩
    replace hb1 := same_below hb1
    rw [h0]
    have i1 : In w.heap.size w w1 := In.step (by (repeat (first | exact In.refl _ | assumption | apply In.alloc | apply In.drewN | apply In.drew | (refine In.step ?_ (by assumption))))) hb1
    have k1 := k0.step hb1
    have hc1 := k1.cell 0
    have HI := Lib.hid (iIndices 32 (.pointer (some ⟨w.heap.size, 0, none⟩)) (fallV xs) n w1 (by omega) (fun _ _ => by kernel_rfl) (fun x y w' p1 p2 p3 p4 p5 => ifall1 A n c w.heap.size xs (by omega) x y w' p1 p2 p3 p4 ((k1.step p5.below).cell 0) (hx.below (i1.trans p5).below (Nat.le_refl _))))
    clear hb1 k0 k1 hx
    go_wp2_with fail
    refine HI.out.mono ?_
    rintro _ w2 ⟨g, rfl, ho, hg, hb2⟩
    have HR : Hid (RowB (FallingOrderL n xs) w (.returned (.slice (some ⟨g, 0, none⟩) (srtL (ltOf (fallV xs)) n).length (srtL (ltOf (fallV xs)) n).length)) w2) := Lib.hid (by
      rw [HV.out]
      exact rowB_of rfl (own_row ho (Nat.le_trans i1.size hg)) (i1.step hb2).below)
    rw [srtL_len] at HR ⊢
    clear ho HI hc1
    go_wp2
    go_ret
    exact HR.out
end Go.Proofs.Ythadanmiomeehab
