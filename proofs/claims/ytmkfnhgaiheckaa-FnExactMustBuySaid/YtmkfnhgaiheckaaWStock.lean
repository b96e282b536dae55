/- Stock: the helpers of the laws by contract. -/
import Derived.Test.YtmkfnhgaiheckaaOwnC
import Derived.Test.YtmkfnhgaiheckaaIntE
import Derived.Test.YtmkfnhgaiheckaaSS0
import Derived.Test.YtmkfnhgaiheckaaIn
namespace Go.Proofs.Ytmkfnhgaiheckaa
open Go.ChangeShapes Go.WideShapes Go.ChangeAt Go.RowKit
set_option linter.unusedVariables false
set_option linter.unusedSimpArgs false
set_option maxHeartbeats 2000000

/-- a stock in memory of its own -/
def RowSt (xs : List Int) (w : World) (e : Ending) (w' : World) : Prop := ∃ g c, e = .returned (.agg #[.slice (some ⟨g, 0, none⟩) xs.length c]) ∧ OwnC w' g xs.length c xs ∧ w.heap.size ≤ g ∧ Below w.heap.size w w'
/-- a stock and one value more -/
def RowStV (xs : List Int) (v : Value) (w : World) (e : Ending) (w' : World) : Prop := ∃ g c, e = .returned (.tuple #[.agg #[.slice (some ⟨g, 0, none⟩) xs.length c], v]) ∧ OwnC w' g xs.length c xs ∧ w.heap.size ≤ g ∧ Below w.heap.size w w'
theorem toStock_c (A : Option Addr) (n c : Nat) (xs : List Int) (w : World) (hn : (n : Int) ≤ 10000000) (hx : ReadsI w A n xs) :
    Calls Try.prog 69 #[.agg #[.slice A n c]] w (fun e w' => ∃ g, e = .returned (.agg #[.slice (some ⟨g, 0, none⟩) n n]) ∧ OwnC w' g n n xs ∧ w.heap.size ≤ g ∧ Below w.heap.size w w') := by
  obtain ⟨r, hr⟩ : ∃ r, r = w.heap.size + 1 := ⟨_, rfl⟩
  obtain ⟨q, hq⟩ : ∃ q, q = w.heap.size + 1 + 1 := ⟨_, rfl⟩
  have hlen := hx.1
  have kA : Blk (((w.alloc (.cells #[.slice A n c] 85)).alloc (.cells #[.slice none 0 0] 90)).alloc (.cells #[.slice none 0 0] 90)) w.heap.size 85 #[.slice A n c] := ((Blk.new w _ _).alloc _).alloc _
  have kR : Blk (((w.alloc (.cells #[.slice A n c] 85)).alloc (.cells #[.slice none 0 0] 90)).alloc (.cells #[.slice none 0 0] 90)) r 90 #[.slice none 0 0] := (Blk.new' (by simp [hr])).alloc _
  have kO : Blk (((w.alloc (.cells #[.slice A n c] 85)).alloc (.cells #[.slice none 0 0] 90)).alloc (.cells #[.slice none 0 0] 90)) q 90 #[.slice none 0 0] := Blk.new' (by simp [hq])
  have hx0 := ((hx.alloc (.cells #[.slice A n c] 85)).alloc (.cells #[.slice none 0 0] 90)).alloc (.cells #[.slice none 0 0] 90)
  have i0 : In w.heap.size w (((w.alloc (.cells #[.slice A n c] 85)).alloc (.cells #[.slice none 0 0] 90)).alloc (.cells #[.slice none 0 0] 90)) := by (repeat (first | exact In.refl _ | assumption | apply In.alloc | apply In.drewN | apply In.drew | (refine In.step ?_ (by assumption))))
  go_enter Try.func69, Try.ntmps69
  go_wp2_with fail
  rw [← hq, ← hr]
  generalize (((w.alloc (.cells #[.slice A n c] 85)).alloc (.cells #[.slice none 0 0] 90)).alloc (.cells #[.slice none 0 0] 90)) = w0 at *
  refine (toI_at A n c xs w0 hn hx0).mono ?_
  rintro _ w1 ⟨g, rfl, ho, hg, hb⟩
  rw [hlen] at ho
  rw [hlen]
  have hqr : q ≠ r := by omega
  have hrw : w.heap.size ≤ r := by omega
  have hqw : w.heap.size ≤ q := by omega
  clear hr hq hx hx0
  have lr := kR.lt
  have lq := kO.lt
  have k1 := kO.step hb
  have k2 := kR.step hb
  have cq := k1.cell 0
  have zq := k1.frozen 0
  have cr := k2.cell 0
  have zr := k2.frozen 0
  have hgq : g ≠ q := by omega
  have hgr : g ≠ r := by omega
  have ho0 : OwnC w1 g n n xs := ho
  have i1 := i0.step hb
  have hgw : w.heap.size ≤ g := Nat.le_trans i0.size hg
  have HO : Hid (OwnC ((w1.setCell ⟨q, 0, none⟩ (.slice (some ⟨g, 0, none⟩) n n)).setCell ⟨r, 0, none⟩ (.slice (some ⟨g, 0, none⟩) n n)) g n n xs) := Lib.hid ((ho0.only (only_set _ _) hgq).only (only_set _ _) hgr)
  have i2 : In w.heap.size w ((w1.setCell ⟨q, 0, none⟩ (.slice (some ⟨g, 0, none⟩) n n)).setCell ⟨r, 0, none⟩ (.slice (some ⟨g, 0, none⟩) n n)) := (i1.set_ (p := ⟨q, 0, none⟩) hqw _).set_ (p := ⟨r, 0, none⟩) hrw _
  have HK : Hid (((w1.setCell ⟨q, 0, none⟩ (.slice (some ⟨g, 0, none⟩) n n)).setCell ⟨r, 0, none⟩ (.slice (some ⟨g, 0, none⟩) n n)).cell? ⟨r, 0, none⟩ = some (.slice (some ⟨g, 0, none⟩) n n)) := Lib.hid (by
    have h := ((k2.far (p := ⟨q, 0, none⟩) hqr.symm (.slice (some ⟨g, 0, none⟩) n n)).set_ 0 (.slice (some ⟨g, 0, none⟩) n n)).cell 0
    simpa using h)
  clear ho ho0 k1 k2 kA kR kO hb i0 i1 lr lq
  go_wp2
  have hk := HK.out
  exact bodyPost_ret (v := .agg #[.slice (some ⟨g, 0, none⟩) n n]) (by simp [results, Try.results69, go_sem, hk]) rfl ⟨g, rfl, HO.out, hgw, i2.below⟩
theorem szStock_c (A : Option Addr) (n c : Nat) (left : Int) (w : World) (hn : n ≤ maxLen) (h1 : 0 ≤ left) (h2 : left ≤ 2000000) : Calls Try.prog 66 #[.agg #[.slice A n c], .int .i64 left] w (Val (.int .i64 (if left < n then -1 else left - n)) w) := by
  have HS := Lib.hid (fun W => szI_c A n c left W hn h1 h2)
  by_cases h : left < n
  · rw [if_pos h] at HS ⊢
    go_enter Try.func66, Try.ntmps66
    go_wp2_with fail
    refine (HS.out _).mono ?_
    rintro _ _ ⟨rfl, rfl⟩
    go_wp2
    go_ret
    exact Val.mk' rfl (by (repeat (first | exact In.refl _ | assumption | apply In.alloc | apply In.drewN | apply In.drew | (refine In.step ?_ (by assumption)))))
  · rw [if_neg h] at HS ⊢
    have h' : 0 ≤ left - n := by omega
    have hd : decide (left - (n : Int) < 0) = false := by simp; omega
    go_enter Try.func66, Try.ntmps66
    go_wp2_with fail
    refine (HS.out _).mono ?_
    rintro _ _ ⟨rfl, rfl⟩
    go_wp2
    go_ret
    exact Val.mk' rfl (by (repeat (first | exact In.refl _ | assumption | apply In.alloc | apply In.drewN | apply In.drew | (refine In.step ?_ (by assumption)))))
theorem eqStock_c (A B : Option Addr) (n c d : Nat) (xs : List Int) (w : World) (hn : n ≤ maxLen) (hx : ReadsI w A n xs) (hy : ReadsI w B n xs) : Calls Try.prog 73 #[.agg #[.slice A n c], .agg #[.slice B n d]] w (Val (.bool true) w) := by
  have HX := Lib.hid (fun W (h : In w.heap.size w W) => eqI_c A B n c d xs W hn (hx.below h.below (Nat.le_refl _)) (hy.below h.below (Nat.le_refl _)))
  go_enter Try.func73, Try.ntmps73
  go_wp2_with fail
  refine (HX.out _ (by (repeat (first | exact In.refl _ | assumption | apply In.alloc | apply In.drewN | apply In.drew | (refine In.step ?_ (by assumption)))))).mono ?_
  rintro _ w1 ⟨rfl, hb1⟩
  go_wp2
  go_ret
  exact Val.mk' rfl (by (repeat (first | exact In.refl _ | assumption | apply In.alloc | apply In.drewN | apply In.drew | (refine In.step ?_ (by assumption)))))
theorem markStock_c (g n c k : Nat) (xs : List Int) (w : World) (hn : (n : Int) ≤ 10000000) (hk : (k : Int) ≤ 10000000) (hown : OwnC w g n c xs) :
    Calls Try.prog 75 #[.agg #[.slice (some ⟨g, 0, none⟩) n c], .int .i64 k] w (MarkedC g k n c w) := by
  have HX := Lib.hid (markC_c g n c k xs _ hn hk (hown.alloc (.cells #[.slice (some ⟨g, 0, none⟩) n c] 90)))
  have hg0 : w.grownBy (w.alloc (.cells #[.slice (some ⟨g, 0, none⟩) n c] 90)) (some g) := only_alloc (only_refl _ _) _
  clear hown
  go_enter Try.func75, Try.ntmps75
  go_wp2_with fail
  refine HX.out.mono ?_
  rintro _ w1 ⟨rfl, ho, hg⟩
  have HO := Lib.hid ho
  have HG := Lib.hid (only_trans hg0 hg)
  clear ho hg hg0
  go_wp2
  go_ret
  exact ⟨ret_int rfl, HO.out, HG.out⟩
end Go.Proofs.Ytmkfnhgaiheckaa
