/- Chapter 25: CardOk, BuyLoaves, UseFree, LoavesUntilFree, LoavesFor. -/
import Derived.Test.YtmafnlcphohioaaIn
namespace Go.Proofs.Ytmafnlcphohioaa
open Go.ChangeShapes Go.WideShapes Go.ChangeAt Go.RowKit
set_option linter.unusedVariables false
set_option linter.unusedSimpArgs false

def cardB (s f : Int) : Bool := inB s 0 9 && inB f 0 1000
theorem card_in {s f : Int} (h : cardB s f = true) : 0 ≤ s ∧ s ≤ 9 ∧ 0 ≤ f ∧ f ≤ 1000 := by
  simp only [cardB, Bool.and_eq_true] at h
  have h1 := inB_tt h.1
  have h2 := inB_tt h.2
  omega
def buyB (s f n : Int) : Bool := cardB s f && inB n 0 1000 && cardB ((s + n) % 10) (f + (s + n) / 10)
def buyV (s f n : Int) : Value := if buyB s f n then .tuple #[.agg #[.int .i64 ((s + n) % 10), .int .i64 (f + (s + n) / 10)], .bool true] else .tuple #[.agg #[.int .i64 s, .int .i64 f], .bool false]
def useV (s f : Int) : Value := if cardB s f && !(f == 0) then .tuple #[.agg #[.int .i64 s, .int .i64 (f - 1)], .bool true] else .tuple #[.agg #[.int .i64 s, .int .i64 f], .bool false]
def untilV (s f : Int) : Int := if cardB s f then 10 - s else -1
def lforV (m p : Int) : Int := if inB m 0 100000 && inB p 1 1000 then m / p + m / p / 10 else -1
def joinB (s f a b : Int) : Bool := cardB s f && cardB a b && cardB ((s + a) % 10) (f + b + (s + a) / 10)
def joinV (s f a b : Int) : Value := if joinB s f a b then .tuple #[.agg #[.int .i64 ((s + a) % 10), .int .i64 (f + b + (s + a) / 10)], .bool true] else .tuple #[.agg #[.int .i64 0, .int .i64 0], .bool false]
theorem iCardOk (s f : Int) (w : World) : Calls Try.prog 17 #[.agg #[.int .i64 s, .int .i64 f]] w (Val (.bool (cardB s f)) w) := by
  cases h1 : inB s 0 9 <;> cases h2 : inB f 0 1000
  all_goals
    go_enter Try.func17, Try.ntmps17
    go_wp2_with (first | (go_at_call 55; refine (iIn _ _ _ _).mono ?_; rintro e w' ⟨rfl, rfl⟩) | go_in | (go_end0; simp only []; go_at_K))
    go_ret
    exact Val.mk' (v_bool (by simp [cardB, h1, h2])) (by (repeat (first | exact In.refl _ | assumption | apply In.alloc | apply In.drewN | apply In.drew | (refine In.step ?_ (by assumption)))))
set_option maxHeartbeats 1000000 in
theorem iUseFree (s f : Int) (w : World) : Calls Try.prog 15 #[.agg #[.int .i64 s, .int .i64 f]] w (Val (useV s f) w) := by
  go_enter Try.func15, Try.ntmps15
  go_wp2_with (first | (go_at_call 55; refine (iIn _ _ _ _).mono ?_; rintro e w' ⟨rfl, rfl⟩))
  refine (iCardOk s f _).mono ?_
  rintro _ w_1 ⟨rfl, hb_1⟩
  have i_1 : In w.heap.size w w_1 := In.step (by (repeat (first | exact In.refl _ | assumption | apply In.alloc | apply In.drewN | apply In.drew | (refine In.step ?_ (by assumption))))) hb_1
  have k_1_A : Blk w_1 (w.heap.size) 25 #[.int .i64 s, .int .i64 f] := Blk.step (by (with_reducible (repeat (first | assumption | exact Blk.new' (by simp) | apply Blk.drewN | apply Blk.drew | apply Blk.alloc | (refine Blk.far ?_ (by (try simp) <;> omega) _))))) hb_1
  have c_1_A_0 : w_1.cell? ⟨w.heap.size, 0, none⟩ = some (.int .i64 s) := k_1_A.cell 0
  have c_1_A_1 : w_1.cell? ⟨w.heap.size, 1, none⟩ = some (.int .i64 f) := k_1_A.cell 1
  have l_1_A := k_1_A.lt
  have k_1_R : Blk w_1 (w.heap.size + 1) 25 #[.int .i64 0, .int .i64 0] := Blk.step (by (with_reducible (repeat (first | assumption | exact Blk.new' (by simp) | apply Blk.drewN | apply Blk.drew | apply Blk.alloc | (refine Blk.far ?_ (by (try simp) <;> omega) _))))) hb_1
  have c_1_R_0 : w_1.cell? ⟨w.heap.size + 1, 0, none⟩ = some (.int .i64 0) := k_1_R.cell 0
  have c_1_R_1 : w_1.cell? ⟨w.heap.size + 1, 1, none⟩ = some (.int .i64 0) := k_1_R.cell 1
  have z_1_R_0 := k_1_R.frozen 0
  have z_1_R_1 := k_1_R.frozen 1
  have l_1_R := k_1_R.lt
  cases h1 : cardB s f
  · have HV : Hid (useV s f = .tuple #[.agg #[.int .i64 s, .int .i64 f], .bool false]) := Lib.hid (by simp [useV, h1])
    go_wp2_with (first | (go_at_call 55; refine (iIn _ _ _ _).mono ?_; rintro e w' ⟨rfl, rfl⟩) | go_in | (go_end0; simp only []; go_at_K))
    exact bodyPost_ret (v := .tuple #[.agg #[.int .i64 s, .int .i64 f], .bool false]) (by simp [results, Try.results15, go_sem, c_1_A_0, c_1_A_1, c_1_R_0, c_1_R_1]) rfl (Val.mk' (by rw [HV.out]) (by (repeat (first | exact In.refl _ | assumption | apply In.alloc | apply In.drewN | apply In.drew | (refine In.step ?_ (by assumption)) | (refine In.set_ ?_ (by (try simp) <;> omega) _)))))
  obtain ⟨b1, b2, b3, b4⟩ := card_in h1
  cases h2 : (f == 0 : Bool)
  case true =>
    have HV : Hid (useV s f = .tuple #[.agg #[.int .i64 s, .int .i64 f], .bool false]) := Lib.hid (by simp [useV, h2])
    go_wp2_with (first | (go_at_call 55; refine (iIn _ _ _ _).mono ?_; rintro e w' ⟨rfl, rfl⟩) | go_in | (go_end0; simp only []; go_at_K))
    exact bodyPost_ret (v := .tuple #[.agg #[.int .i64 s, .int .i64 f], .bool false]) (by simp [results, Try.results15, go_sem, c_1_A_0, c_1_A_1, c_1_R_0, c_1_R_1]) rfl (Val.mk' (by rw [HV.out]) (by (repeat (first | exact In.refl _ | assumption | apply In.alloc | apply In.drewN | apply In.drew | (refine In.step ?_ (by assumption)) | (refine In.set_ ?_ (by (try simp) <;> omega) _)))))
  have HV : Hid (useV s f = .tuple #[.agg #[.int .i64 s, .int .i64 (f - 1)], .bool true]) := Lib.hid (by simp [useV, h1, h2])
  go_wp2_with (first | (go_at_call 55; refine (iIn _ _ _ _).mono ?_; rintro e w' ⟨rfl, rfl⟩) | go_in | (go_end0; simp only []; go_at_K))
  exact bodyPost_ret (v := .tuple #[.agg #[.int .i64 s, .int .i64 (f - 1)], .bool true]) (by simp [results, Try.results15, go_sem, c_1_A_0, c_1_A_1, c_1_R_0, c_1_R_1]) rfl (Val.mk' (by rw [HV.out]) (by (repeat (first | exact In.refl _ | assumption | apply In.alloc | apply In.drewN | apply In.drew | (refine In.step ?_ (by assumption)) | (refine In.set_ ?_ (by (try simp) <;> omega) _)))))
theorem iLoavesUntilFree (s f : Int) (w : World) : Calls Try.prog 13 #[.agg #[.int .i64 s, .int .i64 f]] w (Val (i64 (untilV s f)) w) := by
  have q0 : Blk (w.alloc (.cells #[.int .i64 s, .int .i64 f] 25)) w.heap.size 25 #[.int .i64 s, .int .i64 f] := Blk.new w _ _
  cases h1 : cardB s f
  all_goals
    go_enter Try.func13, Try.ntmps13
    go_wp2_with fail
    refine (iCardOk s f _).mono ?_
    rintro _ w1 ⟨rfl, hb1⟩
    have k1 : Blk w1 w.heap.size 25 #[.int .i64 s, .int .i64 f] := Blk.step q0 hb1
    have c0 : w1.cell? ⟨w.heap.size, 0, none⟩ = some (.int .i64 s) := k1.cell 0
    have l1 := k1.lt
    have i1 : In w.heap.size w w1 := In.step (by (repeat (first | exact In.refl _ | assumption | apply In.alloc | apply In.drewN | apply In.drew | (refine In.step ?_ (by assumption))))) hb1
    try rw [h1]
    try (have hb := card_in h1)
    clear hb1
    go_wp2_with (first | (go_at_call 55; refine (iIn _ _ _ _).mono ?_; rintro e w' ⟨rfl, rfl⟩) | go_in | (go_end0; simp only []; go_at_K))
    go_ret
    exact Val.mk' (v_int (by simp [untilV, h1])) (by (repeat (first | exact In.refl _ | assumption | apply In.alloc | apply In.drewN | apply In.drew | (refine In.step ?_ (by assumption)))))
end Go.Proofs.Ytmafnlcphohioaa
