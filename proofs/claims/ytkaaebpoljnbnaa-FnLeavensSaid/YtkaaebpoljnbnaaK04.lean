/- Chapter 4: KeepForDays. -/
import Derived.Test.YtkaaebpoljnbnaaQ04
import Derived.Outline
import Derived.IntWalk
namespace Go.Proofs.Ytkaaebpoljnbnaa
open Go.ChangeShapes Go.WideShapes Go.ChangeAt Go.RowKit
set_option linter.unusedVariables false
set_option linter.unusedSimpArgs false

theorem val_step {ds : List Int} {t : Int} {n k : Nat} (hk : k < n) (g : Int) : valF ds t n (n - k) g = if g = 0 then 0 else if 100000 < g * (t + 1) then 2 else if g * (t + 1) - ds.getD k 0 < 1 then 0 else valF ds t n (n - (k + 1)) (g * (t + 1) - ds.getD k 0) := by
  rw [show n - k = (n - (k + 1)) + 1 from by omega]
  simp only [valF]
  rw [show n - (n - (k + 1) + 1) = k from by omega]
theorem box2 {w W w3 : World} {B g : Nat} {t : TypeId} {x y : Value} (i : In B w W) (k : Blk W g t #[x, y]) (hb : Below W.drew.heap.size W.drew w3) :
    In B w w3 ∧ Blk w3 g t #[x, y] ∧ w3.cell? ⟨g, 0, none⟩ = some x ∧ w3.cell? ⟨g, 1, none⟩ = some y ∧ w3.frozen? ⟨g, 0, none⟩ = false ∧ w3.frozen? ⟨g, 1, none⟩ = false ∧ g < w3.heap.size :=
  have k3 := Blk.step k.drew hb
  ⟨In.step i.drew hb, k3, k3.cell 0, k3.cell 1, k3.frozen 0, k3.frozen 1, k3.lt⟩
set_option maxHeartbeats 4000000 in
theorem iLasts (A : Option Addr) (n c : Nat) (ds : List Int) (t g : Int) (w : World) (hn : n ≤ 10) (ht : 1 ≤ t ∧ t ≤ 10) (hg : 0 ≤ g ∧ g ≤ 100000) (hd : ∀ i, i < n → 0 ≤ ds.getD i 0 ∧ ds.getD i 0 ≤ 10000) (hx : ReadsI w A n ds) :
    Calls Try.prog 43 #[.int .i64 g, .slice A n c, .int .i64 t] w (Val (.bool (decide (valF ds t n n g = 1))) w) := by
  obtain ⟨t1, t2⟩ := ht
  have HD := Lib.hid hd
  clear hd
  have q0 : Blk (w.alloc (.cells #[.int .i64 g, .int .i64 0] 25)) w.heap.size 25 #[.int .i64 g, .int .i64 0] := Blk.new w _ _
  go_enter Try.func43, Try.ntmps43
  go_wp2
  go_loopw [16] (fun i wr => ∃ (k : Nat) (g' : Int), k ≤ n ∧ i = .int .i64 k ∧ 0 ≤ g' ∧ g' ≤ 100000 ∧ Blk wr w.heap.size 25 #[.int .i64 g', .int .i64 k] ∧ In w.heap.size w wr ∧ valF ds t n n g = valF ds t n (n - k) g') (fun i _ => n - (intOf i).toNat)
  case atStart => exact ⟨0, g, Nat.zero_le _, rfl, hg.1, hg.2, q0, by (repeat (first | exact In.refl _ | assumption | apply In.alloc | apply In.drewN | apply In.drew | (refine In.step ?_ (by assumption)))), rfl⟩
  case round =>
    clear q0
    obtain ⟨k, g', hk, rfl, g1, g2, k1, i1, hv⟩ := hrel
    have HV := Lib.hid hv
    clear hv
    have c0 : wr.cell? ⟨w.heap.size, 0, none⟩ = some (.int .i64 g') := k1.cell 0
    have c1 : wr.cell? ⟨w.heap.size, 1, none⟩ = some (.int .i64 (k : Int)) := k1.cell 1
    by_cases hlt : k < n
    · have HS := Lib.hid (val_step (ds := ds) (t := t) hlt g')
      obtain ⟨d1, d2⟩ := HD.out k hlt
      obtain ⟨a, rfl, ca⟩ := hx.2 k hlt
      have CA := Lib.hid ca
      clear ca
      generalize ds.getD k 0 = d at CA HS d1 d2
      have cA : wr.cell? (a.add k) = some (.int .i64 d) := cell_in CA.out i1
      have hfb := feed_day (g := g') (f := (k : Int)) (t := t) ⟨g1, g2⟩ ⟨by omega, by omega⟩ ⟨t1, t2⟩
      have hpos : 0 ≤ g' * (t + 1) := Int.mul_nonneg g1 (by omega)
      by_cases hb : g' = 0 ∨ 100000 < g' * (t + 1)
      · have HR : Hid (decide (valF ds t n n g = 1) = false) := Lib.hid (by
          rw [HV.out, HS.out]
          by_cases hz : g' = 0
          · rw [if_pos hz]; rfl
          · rw [if_neg hz, if_pos (by omega)]; rfl)
        have HF : Hid (feedV g' k t = .tuple #[.agg #[.int .i64 g', .int .i64 (k : Int)], .bool false]) := Lib.hid (by unfold feedV; rw [hfb]; simp; omega)
        clear hfb
        go_wp2_with fail
        refine (iFeed g' k t _).mono ?_
        rintro _ w2 ⟨rfl, hb2⟩
        rw [HF.out]
        go_wp2
        go_ret
        exact Val.mk' (v_bool HR.out.symm) (by (repeat (first | exact In.refl _ | assumption | apply In.alloc | apply In.drewN | apply In.drew | (refine In.step ?_ (by assumption)))))
      have HF : Hid (feedV g' k t = .tuple #[.agg #[.int .i64 (g' * (t + 1)), .int .i64 ((k : Int) + 1)], .bool true]) := Lib.hid (by unfold feedV; rw [hfb]; simp; omega)
      have HR : Hid (valF ds t n n g = if g' * (t + 1) - d < 1 then 0 else valF ds t n (n - (k + 1)) (g' * (t + 1) - d)) := Lib.hid (by rw [HV.out, HS.out, if_neg (by omega), if_neg (by omega)])
      clear hfb
      go_wp2_with fail
      refine (iFeed g' k t _).mono ?_
      rintro _ w2 ⟨rfl, hb2⟩
      rw [HF.out]
      generalize g' * (t + 1) = G at hpos hb HR
      have hG : G ≤ 100000 := by omega
      have i2 : In w.heap.size w w2 := In.step (by (repeat (first | exact In.refl _ | assumption | apply In.alloc | apply In.drewN | apply In.drew | (refine In.step ?_ (by assumption))))) hb2
      have k2 := Blk.step k1 hb2
      have hw2 := k2.lt
      clear hb2 k1 i1 c0 c1 HF HS HV cA
      by_cases hL : G - d < 1
      · have HB : takeB G ((k : Int) + 1) d 1 = false := by rw [take_day ⟨hpos, hG⟩ ⟨by omega, by omega⟩ ⟨d1, d2⟩]; simp; omega
        have HT : Hid (takeV G ((k : Int) + 1) d 1 = .tuple #[.agg #[.int .i64 G, .int .i64 ((k : Int) + 1)], .bool false]) := Lib.hid (by unfold takeV; rw [HB]; simp)
        have HR2 : Hid (decide (valF ds t n n g = 1) = false) := Lib.hid (by rw [HR.out, if_pos hL]; rfl)
        clear HB
        go_wp2_with fail
        refine (iTakeLeaven G ((k : Int) + 1) d 1 _).mono ?_
        rintro _ w3 ⟨rfl, hb3⟩
        rw [HT.out]
        have i3 : In w.heap.size w w3 := In.step (i2.alloc _) hb3
        have k3 := Blk.step (k2.alloc _) hb3
        have e0 : w3.cell? ⟨w.heap.size, 0, none⟩ = some (.int .i64 g') := k3.cell 0
        have e1 : w3.cell? ⟨w.heap.size, 1, none⟩ = some (.int .i64 (k : Int)) := k3.cell 1
        have z0 := k3.frozen 0
        have z1 := k3.frozen 1
        have hw3 := k3.lt
        go_wp2
        go_ret
        exact Val.mk' (v_bool HR2.out.symm) ((i3.set_ (Nat.le_refl _) _).set_ (Nat.le_refl _) _)
      · have HB : takeB G ((k : Int) + 1) d 1 = true := by rw [take_day ⟨hpos, hG⟩ ⟨by omega, by omega⟩ ⟨d1, d2⟩]; simp; omega
        have HT : Hid (takeV G ((k : Int) + 1) d 1 = .tuple #[.agg #[.int .i64 (G - d), .int .i64 ((k : Int) + 1)], .bool true]) := Lib.hid (by unfold takeV; rw [HB]; simp)
        have HR2 : Hid (valF ds t n n g = valF ds t n (n - (k + 1)) (G - d)) := Lib.hid (by rw [HR.out, if_neg hL])
        clear HB
        go_wp2_with fail
        refine (iTakeLeaven G ((k : Int) + 1) d 1 _).mono ?_
        rintro _ w3 ⟨rfl, hb3⟩
        rw [HT.out]
        have i3 : In w.heap.size w w3 := In.step (i2.alloc _) hb3
        have k3 := Blk.step (k2.alloc _) hb3
        have e0 : w3.cell? ⟨w.heap.size, 0, none⟩ = some (.int .i64 g') := k3.cell 0
        have e1 : w3.cell? ⟨w.heap.size, 1, none⟩ = some (.int .i64 (k : Int)) := k3.cell 1
        have z0 := k3.frozen 0
        have z1 := k3.frozen 1
        have hw3 := k3.lt
        go_wp2
        go_roundw
        case rel => exact ⟨k + 1, G - d, by omega, by go_num, by omega, by omega, (k3.set_ 0 _).set_ 1 _, (i3.set_ (Nat.le_refl _) _).set_ (Nat.le_refl _) _, HR2.out⟩
        case measure => simp [intOf]; omega
    · obtain rfl : k = n := by omega
      have HR : Hid (decide (valF ds t k k g = 1) = true) := Lib.hid (by rw [HV.out, Nat.sub_self]; rfl)
      go_wp2
      go_ret
      exact Val.mk' (v_bool HR.out.symm) (by (repeat (first | exact In.refl _ | assumption | apply In.alloc | apply In.drewN | apply In.drew | (refine In.step ?_ (by assumption)))))
end Go.Proofs.Ytkaaebpoljnbnaa
