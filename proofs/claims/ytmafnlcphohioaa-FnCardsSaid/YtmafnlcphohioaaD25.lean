/- Chapter 25: countOn, BuyLoaves, JoinCards, LoavesFor of the program. -/
import Derived.Test.YtmafnlcphohioaaC25
import Derived.Test.YtmafnlcphohioaaSCard
import Derived.Test.YtmafnlcphohioaaSum
namespace Go.Proofs.Ytmafnlcphohioaa
open Go.ChangeShapes Go.WideShapes Go.ChangeAt Go.RowKit
set_option linter.unusedVariables false
set_option linter.unusedSimpArgs false

abbrev z25 : CardR := ⟨0, 0⟩
def worthG (xs : List CardR) (i : Nat) : Int := (xs.getD i z25).f1 * 10 + (xs.getD i z25).f0
def cOk (xs : List CardR) (i : Nat) : Bool := cardB (xs.getD i z25).f0 (xs.getD i z25).f1
theorem reads1 (w : World) (g : Nat) (a b : Int) (k : Blk w g 25 #[.int .i64 a, .int .i64 b]) : ReadsCard w (some ⟨g, 0, none⟩) 1 [⟨a, b⟩] := by
  refine ⟨rfl, fun j hj => ⟨_, rfl, ?_⟩⟩
  obtain rfl : j = 0 := by omega
  simp only [Addr.add_lit]
  exact ⟨k.cell 0, k.cell 1⟩
theorem reads2 (w : World) (g : Nat) (a b c d : Int) (k : Blk w g 25 #[.int .i64 a, .int .i64 b, .int .i64 c, .int .i64 d]) : ReadsCard w (some ⟨g, 0, none⟩) 2 [⟨a, b⟩, ⟨c, d⟩] := by
  refine ⟨rfl, fun j hj => ⟨_, rfl, ?_⟩⟩
  simp only [Addr.add_lit]
  obtain rfl | rfl : j = 0 ∨ j = 1 := by omega
  · exact ⟨k.cell 0, k.cell 1⟩
  · exact ⟨k.cell 2, k.cell 3⟩
theorem iworth (s f : Int) (h : cardB s f = true) (w : World) : Calls Try.prog 58 #[.agg #[.int .i64 s, .int .i64 f]] w (Val (i64 (f * 10 + s)) w) := by
  have hb := card_in h
  go_enter Try.func58, Try.ntmps58
  go_wp2
  go_ret
  exact Val.mk' rfl (by (repeat (first | exact In.refl _ | assumption | apply In.alloc | apply In.drewN | apply In.drew | (refine In.step ?_ (by assumption)))))
theorem icardWorth (n : Int) (h1 : 0 ≤ n) (h2 : n ≤ 200000) (w : World) : Calls Try.prog 56 #[.int .i64 n] w (Val (.agg #[.int .i64 (n % 10), .int .i64 (n / 10)]) w) := by
  go_enter Try.func56, Try.ntmps56
  go_wp2
  exact bodyPost_ret (v := .agg #[.int .i64 (n % 10), .int .i64 (n / 10)]) (by simp [results, Try.results56, go_sem]) rfl (Val.mk' rfl (by (repeat (first | exact In.refl _ | assumption | apply In.alloc | apply In.drewN | apply In.drew | (refine In.step ?_ (by assumption)) | (refine In.set_ ?_ (by (try simp) <;> omega) _)))))
set_option maxHeartbeats 1000000 in
theorem icountOn (A : Option Addr) (n c : Nat) (xs : List CardR) (w : World) (hn : n ≤ 10) (hx : ReadsCard w A n xs) (hok : ∀ i, i < n → cOk xs i = true) :
    Calls Try.prog 57 #[.func (Fn.func 58) #[] #[], .slice A n c] w (Val (i64 (sumTo (worthG xs) n)) w) := by
  have HOK := Lib.hid hok
  clear hok
  go_enter Try.func57, Try.ntmps57
  go_wp2
  go_loopw [5, 10] (fun s i wr => ∃ k : Nat, k ≤ n ∧ i = .int .i64 k ∧ s = .int .i64 (sumTo (worthG xs) k) ∧ In w.heap.size w wr) (fun _ i _ => n - (intOf i).toNat)
  case atStart => exact ⟨0, Nat.zero_le _, rfl, rfl, by (repeat (first | exact In.refl _ | assumption | apply In.alloc | apply In.drewN | apply In.drew | (refine In.step ?_ (by assumption))))⟩
  case round =>
    obtain ⟨k, hk, rfl, rfl, hi⟩ := hrel
    by_cases hlt : k < n
    · obtain ⟨a, rfl, ha0, ha1⟩ := (hx.in_ hi).2 k hlt
      have HU := Lib.hid (sumTo_succ (worthG xs) k)
      obtain ⟨d1, d2⟩ := sumTo_bd (worthG xs) 11000 k fun i hi => by
        have := card_in (show cardB _ _ = true from HOK.out i (by omega))
        unfold worthG; omega
      have HB := show cardB _ _ = true from HOK.out k hlt
      have HG : Hid (worthG xs k = (xs.getD k z25).f1 * 10 + (xs.getD k z25).f0) := Lib.hid rfl
      generalize xs.getD k z25 = x at ha0 ha1 HG HB
      obtain ⟨x0, x1⟩ := x
      simp only at ha0 ha1 HG HB
      have HC := card_in HB
      go_wp2_with fail
      refine (iworth x0 x1 HB _).mono ?_
      rintro _ w1 ⟨rfl, hb1⟩
      go_wp2
      go_roundw
      case rel => exact ⟨k + 1, by omega, by go_num, v_int (by rw [HU.out, HG.out]), by (repeat (first | exact In.refl _ | assumption | apply In.alloc | apply In.drewN | apply In.drew | (refine In.step ?_ (by assumption))))⟩
      case measure => simp [intOf]; omega
    · obtain rfl : k = n := by omega
      go_wp2
      go_ret
      exact Val.mk' rfl (by (repeat (first | exact In.refl _ | assumption | apply In.alloc | apply In.drewN | apply In.drew | (refine In.step ?_ (by assumption)))))
theorem icount1 (s f : Int) (h : cardB s f = true) (w : World) (g c : Nat) (k : Blk w g 25 #[.int .i64 s, .int .i64 f]) :
    Calls Try.prog 57 #[.func (Fn.func 58) #[] #[], .slice (some ⟨g, 0, none⟩) 1 c] w (Val (i64 (f * 10 + s)) w) := by
  refine (icountOn (some ⟨g, 0, none⟩) 1 c [⟨s, f⟩] w (by omega) (reads1 w g s f k) (fun i hi => by (obtain rfl : i = 0 := by omega); exact h)).mono ?_
  rintro _ _ ⟨rfl, hb⟩
  exact ⟨by simp [sumTo, worthG], hb⟩
theorem icount2 (s f a b : Int) (h : cardB s f = true) (h2 : cardB a b = true) (w : World) (g c : Nat) (k : Blk w g 25 #[.int .i64 s, .int .i64 f, .int .i64 a, .int .i64 b]) :
    Calls Try.prog 57 #[.func (Fn.func 58) #[] #[], .slice (some ⟨g, 0, none⟩) 2 c] w (Val (i64 (f * 10 + s + (b * 10 + a))) w) := by
  refine (icountOn (some ⟨g, 0, none⟩) 2 c [⟨s, f⟩, ⟨a, b⟩] w (by omega) (reads2 w g s f a b k) (fun i hi => by
    obtain rfl | rfl : i = 0 ∨ i = 1 := by omega
    · exact h
    · exact h2)).mono ?_
  rintro _ _ ⟨rfl, hb⟩
  exact ⟨by simp [sumTo, worthG], hb⟩
set_option maxHeartbeats 1000000 in
theorem iBuyLoaves (s f n : Int) (w : World) : Calls Try.prog 12 #[.agg #[.int .i64 s, .int .i64 f], .int .i64 n] w (Val (buyV s f n) w) := by
  go_enter Try.func12, Try.ntmps12
  go_wp2_with (first | (go_at_call 55; refine (iIn _ _ _ _).mono ?_; rintro e w' ⟨rfl, rfl⟩))
  refine (iCardOk s f _).mono ?_
  rintro _ w_1 ⟨rfl, hb_1⟩
  have i_1 : In w.heap.size w w_1 := In.step (by (repeat (first | exact In.refl _ | assumption | apply In.alloc | apply In.drewN | apply In.drew | (refine In.step ?_ (by assumption))))) hb_1
  have k_1_A : Blk w_1 (w.heap.size) 25 #[.int .i64 s, .int .i64 f] := Blk.step (by (with_reducible (repeat (first | assumption | exact Blk.new' (by simp) | apply Blk.drewN | apply Blk.drew | apply Blk.alloc | (refine Blk.far ?_ (by (try simp) <;> omega) _))))) hb_1
  have c_1_A_0 : w_1.cell? ⟨w.heap.size, 0, none⟩ = some (.int .i64 s) := k_1_A.cell 0
  have c_1_A_1 : w_1.cell? ⟨w.heap.size, 1, none⟩ = some (.int .i64 f) := k_1_A.cell 1
  have l_1_A := k_1_A.lt
  have k_1_R : Blk w_1 (w.heap.size + 1) 25 #[.int .i64 0, .int .i64 0] := Blk.step (by (with_reducible (repeat (first | assumption | exact Blk.new' (by simp) | apply Blk.drewN | apply Blk.drew | apply Blk.alloc | (refine Blk.far ?_ (by (try simp) <;> omega) _))))) hb_1
  have c_1_R_0 : w_1.cell? ⟨w.heap.size + 1, 0, none⟩ = some (.int .i64 0) := k_1_R.cell 0
  have c_1_R_1 : w_1.cell? ⟨w.heap.size + 1, 1, none⟩ = some (.int .i64 0) := k_1_R.cell 1
  have z_1_R_0 := k_1_R.frozen 0
  have z_1_R_1 := k_1_R.frozen 1
  have l_1_R := k_1_R.lt
  cases h1 : cardB s f
  · have HV : Hid (buyV s f n = .tuple #[.agg #[.int .i64 s, .int .i64 f], .bool false]) := Lib.hid (by simp [buyV, buyB, h1])
    go_wp2_with (first | (go_at_call 55; refine (iIn _ _ _ _).mono ?_; rintro e w' ⟨rfl, rfl⟩) | go_in | (go_end0; simp only []; go_at_K))
    exact bodyPost_ret (v := .tuple #[.agg #[.int .i64 s, .int .i64 f], .bool false]) (by simp [results, Try.results12, go_sem, c_1_A_0, c_1_A_1, c_1_R_0, c_1_R_1]) rfl (Val.mk' (by rw [HV.out]) (by (repeat (first | exact In.refl _ | assumption | apply In.alloc | apply In.drewN | apply In.drew | (refine In.step ?_ (by assumption)) | (refine In.set_ ?_ (by (try simp) <;> omega) _)))))
  cases h2 : inB n 0 1000
  · have HV : Hid (buyV s f n = .tuple #[.agg #[.int .i64 s, .int .i64 f], .bool false]) := Lib.hid (by simp [buyV, buyB, h2])
    go_wp2_with (first | (go_at_call 55; refine (iIn _ _ _ _).mono ?_; rintro e w' ⟨rfl, rfl⟩) | go_in | (go_end0; simp only []; go_at_K))
    exact bodyPost_ret (v := .tuple #[.agg #[.int .i64 s, .int .i64 f], .bool false]) (by simp [results, Try.results12, go_sem, c_1_A_0, c_1_A_1, c_1_R_0, c_1_R_1]) rfl (Val.mk' (by rw [HV.out]) (by (repeat (first | exact In.refl _ | assumption | apply In.alloc | apply In.drewN | apply In.drew | (refine In.step ?_ (by assumption)) | (refine In.set_ ?_ (by (try simp) <;> omega) _)))))
  obtain ⟨b1, b2, b3, b4⟩ := card_in h1
  obtain ⟨n1, n2⟩ := inB_tt h2
  go_wp2_with (first | (go_at_call 55; refine (iIn _ _ _ _).mono ?_; rintro e w' ⟨rfl, rfl⟩))
  refine (icount1 s f h1 _ w_1.heap.size 1 (by (with_reducible (repeat (first | assumption | exact Blk.new' (by simp) | apply Blk.drewN | apply Blk.drew | apply Blk.alloc | (refine Blk.far ?_ (by (try simp) <;> omega) _)))))).mono ?_
  rintro _ w_2 ⟨rfl, hb_2⟩
  have i_2 : In w.heap.size w w_2 := In.step (by (repeat (first | exact In.refl _ | assumption | apply In.alloc | apply In.drewN | apply In.drew | (refine In.step ?_ (by assumption))))) hb_2
  have k_2_A : Blk w_2 (w.heap.size) 25 #[.int .i64 s, .int .i64 f] := Blk.step (by (with_reducible (repeat (first | assumption | exact Blk.new' (by simp) | apply Blk.drewN | apply Blk.drew | apply Blk.alloc | (refine Blk.far ?_ (by (try simp) <;> omega) _))))) hb_2
  have c_2_A_0 : w_2.cell? ⟨w.heap.size, 0, none⟩ = some (.int .i64 s) := k_2_A.cell 0
  have c_2_A_1 : w_2.cell? ⟨w.heap.size, 1, none⟩ = some (.int .i64 f) := k_2_A.cell 1
  have l_2_A := k_2_A.lt
  have k_2_R : Blk w_2 (w.heap.size + 1) 25 #[.int .i64 0, .int .i64 0] := Blk.step (by (with_reducible (repeat (first | assumption | exact Blk.new' (by simp) | apply Blk.drewN | apply Blk.drew | apply Blk.alloc | (refine Blk.far ?_ (by (try simp) <;> omega) _))))) hb_2
  have c_2_R_0 : w_2.cell? ⟨w.heap.size + 1, 0, none⟩ = some (.int .i64 0) := k_2_R.cell 0
  have c_2_R_1 : w_2.cell? ⟨w.heap.size + 1, 1, none⟩ = some (.int .i64 0) := k_2_R.cell 1
  have z_2_R_0 := k_2_R.frozen 0
  have z_2_R_1 := k_2_R.frozen 1
  have l_2_R := k_2_R.lt
  clear hb_1 i_1 k_1_A c_1_A_0 c_1_A_1 l_1_A k_1_R c_1_R_0 c_1_R_1 z_1_R_0 z_1_R_1 l_1_R
  have e1 : (f * 10 + s + n) % 10 = (s + n) % 10 := by omega
  have e2 : (f * 10 + s + n) / 10 = f + (s + n) / 10 := by omega
  go_wp2_with (first | (go_at_call 55; refine (iIn _ _ _ _).mono ?_; rintro e w' ⟨rfl, rfl⟩))
  refine (icardWorth (f * 10 + s + n) (by omega) (by omega) _).mono ?_
  rintro _ w_3 ⟨rfl, hb_3⟩
  rw [e1, e2]
  clear e1 e2
  have i_3 : In w.heap.size w w_3 := In.step (by (repeat (first | exact In.refl _ | assumption | apply In.alloc | apply In.drewN | apply In.drew | (refine In.step ?_ (by assumption))))) hb_3
  have k_3_A : Blk w_3 (w.heap.size) 25 #[.int .i64 s, .int .i64 f] := Blk.step (by (with_reducible (repeat (first | assumption | exact Blk.new' (by simp) | apply Blk.drewN | apply Blk.drew | apply Blk.alloc | (refine Blk.far ?_ (by (try simp) <;> omega) _))))) hb_3
  have c_3_A_0 : w_3.cell? ⟨w.heap.size, 0, none⟩ = some (.int .i64 s) := k_3_A.cell 0
  have c_3_A_1 : w_3.cell? ⟨w.heap.size, 1, none⟩ = some (.int .i64 f) := k_3_A.cell 1
  have l_3_A := k_3_A.lt
  have k_3_R : Blk w_3 (w.heap.size + 1) 25 #[.int .i64 0, .int .i64 0] := Blk.step (by (with_reducible (repeat (first | assumption | exact Blk.new' (by simp) | apply Blk.drewN | apply Blk.drew | apply Blk.alloc | (refine Blk.far ?_ (by (try simp) <;> omega) _))))) hb_3
  have c_3_R_0 : w_3.cell? ⟨w.heap.size + 1, 0, none⟩ = some (.int .i64 0) := k_3_R.cell 0
  have c_3_R_1 : w_3.cell? ⟨w.heap.size + 1, 1, none⟩ = some (.int .i64 0) := k_3_R.cell 1
  have z_3_R_0 := k_3_R.frozen 0
  have z_3_R_1 := k_3_R.frozen 1
  have l_3_R := k_3_R.lt
  clear hb_2 i_2 k_2_A c_2_A_0 c_2_A_1 l_2_A k_2_R c_2_R_0 c_2_R_1 z_2_R_0 z_2_R_1 l_2_R
  go_wp2_with (first | (go_at_call 55; refine (iIn _ _ _ _).mono ?_; rintro e w' ⟨rfl, rfl⟩))
  refine (iCardOk ((s + n) % 10) (f + (s + n) / 10) _).mono ?_
  rintro _ w_4 ⟨rfl, hb_4⟩
  have i_4 : In w.heap.size w w_4 := In.step (by (repeat (first | exact In.refl _ | assumption | apply In.alloc | apply In.drewN | apply In.drew | (refine In.step ?_ (by assumption))))) hb_4
  have k_4_A : Blk w_4 (w.heap.size) 25 #[.int .i64 s, .int .i64 f] := Blk.step (by (with_reducible (repeat (first | assumption | exact Blk.new' (by simp) | apply Blk.drewN | apply Blk.drew | apply Blk.alloc | (refine Blk.far ?_ (by (try simp) <;> omega) _))))) hb_4
  have c_4_A_0 : w_4.cell? ⟨w.heap.size, 0, none⟩ = some (.int .i64 s) := k_4_A.cell 0
  have c_4_A_1 : w_4.cell? ⟨w.heap.size, 1, none⟩ = some (.int .i64 f) := k_4_A.cell 1
  have l_4_A := k_4_A.lt
  have k_4_R : Blk w_4 (w.heap.size + 1) 25 #[.int .i64 0, .int .i64 0] := Blk.step (by (with_reducible (repeat (first | assumption | exact Blk.new' (by simp) | apply Blk.drewN | apply Blk.drew | apply Blk.alloc | (refine Blk.far ?_ (by (try simp) <;> omega) _))))) hb_4
  have c_4_R_0 : w_4.cell? ⟨w.heap.size + 1, 0, none⟩ = some (.int .i64 0) := k_4_R.cell 0
  have c_4_R_1 : w_4.cell? ⟨w.heap.size + 1, 1, none⟩ = some (.int .i64 0) := k_4_R.cell 1
  have z_4_R_0 := k_4_R.frozen 0
  have z_4_R_1 := k_4_R.frozen 1
  have l_4_R := k_4_R.lt
  have k_4_O : Blk w_4 (w_3.heap.size) 25 #[.int .i64 ((s + n) % 10), .int .i64 (f + (s + n) / 10)] := Blk.step (by (with_reducible (repeat (first | assumption | exact Blk.new' (by simp) | apply Blk.drewN | apply Blk.drew | apply Blk.alloc | (refine Blk.far ?_ (by (try simp) <;> omega) _))))) hb_4
  have c_4_O_0 : w_4.cell? ⟨w_3.heap.size, 0, none⟩ = some (.int .i64 ((s + n) % 10)) := k_4_O.cell 0
  have c_4_O_1 : w_4.cell? ⟨w_3.heap.size, 1, none⟩ = some (.int .i64 (f + (s + n) / 10)) := k_4_O.cell 1
  have l_4_O := k_4_O.lt
  clear hb_3 i_3 k_3_A c_3_A_0 c_3_A_1 l_3_A k_3_R c_3_R_0 c_3_R_1 z_3_R_0 z_3_R_1 l_3_R
  cases h3 : cardB ((s + n) % 10) (f + (s + n) / 10)
  · have HV : Hid (buyV s f n = .tuple #[.agg #[.int .i64 s, .int .i64 f], .bool false]) := Lib.hid (by simp [buyV, buyB, h3])
    go_wp2_with (first | (go_at_call 55; refine (iIn _ _ _ _).mono ?_; rintro e w' ⟨rfl, rfl⟩) | go_in | (go_end0; simp only []; go_at_K))
    exact bodyPost_ret (v := .tuple #[.agg #[.int .i64 s, .int .i64 f], .bool false]) (by simp [results, Try.results12, go_sem, c_4_A_0, c_4_A_1, c_4_R_0, c_4_R_1, c_4_O_0, c_4_O_1]) rfl (Val.mk' (by rw [HV.out]) (by (repeat (first | exact In.refl _ | assumption | apply In.alloc | apply In.drewN | apply In.drew | (refine In.step ?_ (by assumption)) | (refine In.set_ ?_ (by (try simp) <;> omega) _)))))
  have HV : Hid (buyV s f n = .tuple #[.agg #[.int .i64 ((s + n) % 10), .int .i64 (f + (s + n) / 10)], .bool true]) := Lib.hid (by simp [buyV, buyB, h1, h2, h3])
  go_wp2_with (first | (go_at_call 55; refine (iIn _ _ _ _).mono ?_; rintro e w' ⟨rfl, rfl⟩) | go_in | (go_end0; simp only []; go_at_K))
  exact bodyPost_ret (v := .tuple #[.agg #[.int .i64 ((s + n) % 10), .int .i64 (f + (s + n) / 10)], .bool true]) (by simp [results, Try.results12, go_sem, c_4_A_0, c_4_A_1, c_4_R_0, c_4_R_1, c_4_O_0, c_4_O_1]) rfl (Val.mk' (by rw [HV.out]) (by (repeat (first | exact In.refl _ | assumption | apply In.alloc | apply In.drewN | apply In.drew | (refine In.step ?_ (by assumption)) | (refine In.set_ ?_ (by (try simp) <;> omega) _)))))
set_option maxHeartbeats 1000000 in
theorem iJoinCards (s f a b : Int) (w : World) : Calls Try.prog 14 #[.agg #[.int .i64 s, .int .i64 f], .agg #[.int .i64 a, .int .i64 b]] w (Val (joinV s f a b) w) := by
  go_enter Try.func14, Try.ntmps14
  go_wp2_with (first | (go_at_call 55; refine (iIn _ _ _ _).mono ?_; rintro e w' ⟨rfl, rfl⟩))
  refine (iCardOk s f _).mono ?_
  rintro _ w_1 ⟨rfl, hb_1⟩
  have i_1 : In w.heap.size w w_1 := In.step (by (repeat (first | exact In.refl _ | assumption | apply In.alloc | apply In.drewN | apply In.drew | (refine In.step ?_ (by assumption))))) hb_1
  have k_1_A : Blk w_1 (w.heap.size) 25 #[.int .i64 s, .int .i64 f] := Blk.step (by (with_reducible (repeat (first | assumption | exact Blk.new' (by simp) | apply Blk.drewN | apply Blk.drew | apply Blk.alloc | (refine Blk.far ?_ (by (try simp) <;> omega) _))))) hb_1
  have c_1_A_0 : w_1.cell? ⟨w.heap.size, 0, none⟩ = some (.int .i64 s) := k_1_A.cell 0
  have c_1_A_1 : w_1.cell? ⟨w.heap.size, 1, none⟩ = some (.int .i64 f) := k_1_A.cell 1
  have l_1_A := k_1_A.lt
  have k_1_B : Blk w_1 (w.heap.size + 1) 25 #[.int .i64 a, .int .i64 b] := Blk.step (by (with_reducible (repeat (first | assumption | exact Blk.new' (by simp) | apply Blk.drewN | apply Blk.drew | apply Blk.alloc | (refine Blk.far ?_ (by (try simp) <;> omega) _))))) hb_1
  have c_1_B_0 : w_1.cell? ⟨w.heap.size + 1, 0, none⟩ = some (.int .i64 a) := k_1_B.cell 0
  have c_1_B_1 : w_1.cell? ⟨w.heap.size + 1, 1, none⟩ = some (.int .i64 b) := k_1_B.cell 1
  have l_1_B := k_1_B.lt
  have k_1_R : Blk w_1 (w.heap.size + 1 + 1) 25 #[.int .i64 0, .int .i64 0] := Blk.step (by (with_reducible (repeat (first | assumption | exact Blk.new' (by simp) | apply Blk.drewN | apply Blk.drew | apply Blk.alloc | (refine Blk.far ?_ (by (try simp) <;> omega) _))))) hb_1
  have c_1_R_0 : w_1.cell? ⟨w.heap.size + 1 + 1, 0, none⟩ = some (.int .i64 0) := k_1_R.cell 0
  have c_1_R_1 : w_1.cell? ⟨w.heap.size + 1 + 1, 1, none⟩ = some (.int .i64 0) := k_1_R.cell 1
  have z_1_R_0 := k_1_R.frozen 0
  have z_1_R_1 := k_1_R.frozen 1
  have l_1_R := k_1_R.lt
  cases h1 : cardB s f
  · have HV : Hid (joinV s f a b = .tuple #[.agg #[.int .i64 0, .int .i64 0], .bool false]) := Lib.hid (by simp [joinV, joinB, h1])
    go_wp2_with (first | (go_at_call 55; refine (iIn _ _ _ _).mono ?_; rintro e w' ⟨rfl, rfl⟩) | go_in | (go_end0; simp only []; go_at_K))
    exact bodyPost_ret (v := .tuple #[.agg #[.int .i64 0, .int .i64 0], .bool false]) (by simp [results, Try.results14, go_sem, c_1_A_0, c_1_A_1, c_1_B_0, c_1_B_1, c_1_R_0, c_1_R_1]) rfl (Val.mk' (by rw [HV.out]) (by (repeat (first | exact In.refl _ | assumption | apply In.alloc | apply In.drewN | apply In.drew | (refine In.step ?_ (by assumption)) | (refine In.set_ ?_ (by (try simp) <;> omega) _)))))
  go_wp2_with (first | (go_at_call 55; refine (iIn _ _ _ _).mono ?_; rintro e w' ⟨rfl, rfl⟩))
  refine (iCardOk a b _).mono ?_
  rintro _ w_2 ⟨rfl, hb_2⟩
  have i_2 : In w.heap.size w w_2 := In.step (by (repeat (first | exact In.refl _ | assumption | apply In.alloc | apply In.drewN | apply In.drew | (refine In.step ?_ (by assumption))))) hb_2
  have k_2_A : Blk w_2 (w.heap.size) 25 #[.int .i64 s, .int .i64 f] := Blk.step (by (with_reducible (repeat (first | assumption | exact Blk.new' (by simp) | apply Blk.drewN | apply Blk.drew | apply Blk.alloc | (refine Blk.far ?_ (by (try simp) <;> omega) _))))) hb_2
  have c_2_A_0 : w_2.cell? ⟨w.heap.size, 0, none⟩ = some (.int .i64 s) := k_2_A.cell 0
  have c_2_A_1 : w_2.cell? ⟨w.heap.size, 1, none⟩ = some (.int .i64 f) := k_2_A.cell 1
  have l_2_A := k_2_A.lt
  have k_2_B : Blk w_2 (w.heap.size + 1) 25 #[.int .i64 a, .int .i64 b] := Blk.step (by (with_reducible (repeat (first | assumption | exact Blk.new' (by simp) | apply Blk.drewN | apply Blk.drew | apply Blk.alloc | (refine Blk.far ?_ (by (try simp) <;> omega) _))))) hb_2
  have c_2_B_0 : w_2.cell? ⟨w.heap.size + 1, 0, none⟩ = some (.int .i64 a) := k_2_B.cell 0
  have c_2_B_1 : w_2.cell? ⟨w.heap.size + 1, 1, none⟩ = some (.int .i64 b) := k_2_B.cell 1
  have l_2_B := k_2_B.lt
  have k_2_R : Blk w_2 (w.heap.size + 1 + 1) 25 #[.int .i64 0, .int .i64 0] := Blk.step (by (with_reducible (repeat (first | assumption | exact Blk.new' (by simp) | apply Blk.drewN | apply Blk.drew | apply Blk.alloc | (refine Blk.far ?_ (by (try simp) <;> omega) _))))) hb_2
  have c_2_R_0 : w_2.cell? ⟨w.heap.size + 1 + 1, 0, none⟩ = some (.int .i64 0) := k_2_R.cell 0
  have c_2_R_1 : w_2.cell? ⟨w.heap.size + 1 + 1, 1, none⟩ = some (.int .i64 0) := k_2_R.cell 1
  have z_2_R_0 := k_2_R.frozen 0
  have z_2_R_1 := k_2_R.frozen 1
  have l_2_R := k_2_R.lt
  clear hb_1 i_1 k_1_A c_1_A_0 c_1_A_1 l_1_A k_1_B c_1_B_0 c_1_B_1 l_1_B k_1_R c_1_R_0 c_1_R_1 z_1_R_0 z_1_R_1 l_1_R
  cases h2 : cardB a b
  · have HV : Hid (joinV s f a b = .tuple #[.agg #[.int .i64 0, .int .i64 0], .bool false]) := Lib.hid (by simp [joinV, joinB, h2])
    go_wp2_with (first | (go_at_call 55; refine (iIn _ _ _ _).mono ?_; rintro e w' ⟨rfl, rfl⟩) | go_in | (go_end0; simp only []; go_at_K))
    exact bodyPost_ret (v := .tuple #[.agg #[.int .i64 0, .int .i64 0], .bool false]) (by simp [results, Try.results14, go_sem, c_2_A_0, c_2_A_1, c_2_B_0, c_2_B_1, c_2_R_0, c_2_R_1]) rfl (Val.mk' (by rw [HV.out]) (by (repeat (first | exact In.refl _ | assumption | apply In.alloc | apply In.drewN | apply In.drew | (refine In.step ?_ (by assumption)) | (refine In.set_ ?_ (by (try simp) <;> omega) _)))))
  obtain ⟨b1, b2, b3, b4⟩ := card_in h1
  obtain ⟨d1, d2, d3, d4⟩ := card_in h2
  go_wp2_with (first | (go_at_call 55; refine (iIn _ _ _ _).mono ?_; rintro e w' ⟨rfl, rfl⟩))
  refine (icount2 s f a b h1 h2 _ w_2.heap.size 2 (by (with_reducible (repeat (first | assumption | exact Blk.new' (by simp) | apply Blk.drewN | apply Blk.drew | apply Blk.alloc | (refine Blk.far ?_ (by (try simp) <;> omega) _)))))).mono ?_
  rintro _ w_3 ⟨rfl, hb_3⟩
  have i_3 : In w.heap.size w w_3 := In.step (by (repeat (first | exact In.refl _ | assumption | apply In.alloc | apply In.drewN | apply In.drew | (refine In.step ?_ (by assumption))))) hb_3
  have k_3_A : Blk w_3 (w.heap.size) 25 #[.int .i64 s, .int .i64 f] := Blk.step (by (with_reducible (repeat (first | assumption | exact Blk.new' (by simp) | apply Blk.drewN | apply Blk.drew | apply Blk.alloc | (refine Blk.far ?_ (by (try simp) <;> omega) _))))) hb_3
  have c_3_A_0 : w_3.cell? ⟨w.heap.size, 0, none⟩ = some (.int .i64 s) := k_3_A.cell 0
  have c_3_A_1 : w_3.cell? ⟨w.heap.size, 1, none⟩ = some (.int .i64 f) := k_3_A.cell 1
  have l_3_A := k_3_A.lt
  have k_3_B : Blk w_3 (w.heap.size + 1) 25 #[.int .i64 a, .int .i64 b] := Blk.step (by (with_reducible (repeat (first | assumption | exact Blk.new' (by simp) | apply Blk.drewN | apply Blk.drew | apply Blk.alloc | (refine Blk.far ?_ (by (try simp) <;> omega) _))))) hb_3
  have c_3_B_0 : w_3.cell? ⟨w.heap.size + 1, 0, none⟩ = some (.int .i64 a) := k_3_B.cell 0
  have c_3_B_1 : w_3.cell? ⟨w.heap.size + 1, 1, none⟩ = some (.int .i64 b) := k_3_B.cell 1
  have l_3_B := k_3_B.lt
  have k_3_R : Blk w_3 (w.heap.size + 1 + 1) 25 #[.int .i64 0, .int .i64 0] := Blk.step (by (with_reducible (repeat (first | assumption | exact Blk.new' (by simp) | apply Blk.drewN | apply Blk.drew | apply Blk.alloc | (refine Blk.far ?_ (by (try simp) <;> omega) _))))) hb_3
  have c_3_R_0 : w_3.cell? ⟨w.heap.size + 1 + 1, 0, none⟩ = some (.int .i64 0) := k_3_R.cell 0
  have c_3_R_1 : w_3.cell? ⟨w.heap.size + 1 + 1, 1, none⟩ = some (.int .i64 0) := k_3_R.cell 1
  have z_3_R_0 := k_3_R.frozen 0
  have z_3_R_1 := k_3_R.frozen 1
  have l_3_R := k_3_R.lt
  clear hb_2 i_2 k_2_A c_2_A_0 c_2_A_1 l_2_A k_2_B c_2_B_0 c_2_B_1 l_2_B k_2_R c_2_R_0 c_2_R_1 z_2_R_0 z_2_R_1 l_2_R
  have e1 : (f * 10 + s + (b * 10 + a)) % 10 = (s + a) % 10 := by omega
  have e2 : (f * 10 + s + (b * 10 + a)) / 10 = f + b + (s + a) / 10 := by omega
  go_wp2_with (first | (go_at_call 55; refine (iIn _ _ _ _).mono ?_; rintro e w' ⟨rfl, rfl⟩))
  refine (icardWorth (f * 10 + s + (b * 10 + a)) (by omega) (by omega) _).mono ?_
  rintro _ w_4 ⟨rfl, hb_4⟩
  rw [e1, e2]
  clear e1 e2
  have i_4 : In w.heap.size w w_4 := In.step (by (repeat (first | exact In.refl _ | assumption | apply In.alloc | apply In.drewN | apply In.drew | (refine In.step ?_ (by assumption))))) hb_4
  have k_4_A : Blk w_4 (w.heap.size) 25 #[.int .i64 s, .int .i64 f] := Blk.step (by (with_reducible (repeat (first | assumption | exact Blk.new' (by simp) | apply Blk.drewN | apply Blk.drew | apply Blk.alloc | (refine Blk.far ?_ (by (try simp) <;> omega) _))))) hb_4
  have c_4_A_0 : w_4.cell? ⟨w.heap.size, 0, none⟩ = some (.int .i64 s) := k_4_A.cell 0
  have c_4_A_1 : w_4.cell? ⟨w.heap.size, 1, none⟩ = some (.int .i64 f) := k_4_A.cell 1
  have l_4_A := k_4_A.lt
  have k_4_B : Blk w_4 (w.heap.size + 1) 25 #[.int .i64 a, .int .i64 b] := Blk.step (by (with_reducible (repeat (first | assumption | exact Blk.new' (by simp) | apply Blk.drewN | apply Blk.drew | apply Blk.alloc | (refine Blk.far ?_ (by (try simp) <;> omega) _))))) hb_4
  have c_4_B_0 : w_4.cell? ⟨w.heap.size + 1, 0, none⟩ = some (.int .i64 a) := k_4_B.cell 0
  have c_4_B_1 : w_4.cell? ⟨w.heap.size + 1, 1, none⟩ = some (.int .i64 b) := k_4_B.cell 1
  have l_4_B := k_4_B.lt
  have k_4_R : Blk w_4 (w.heap.size + 1 + 1) 25 #[.int .i64 0, .int .i64 0] := Blk.step (by (with_reducible (repeat (first | assumption | exact Blk.new' (by simp) | apply Blk.drewN | apply Blk.drew | apply Blk.alloc | (refine Blk.far ?_ (by (try simp) <;> omega) _))))) hb_4
  have c_4_R_0 : w_4.cell? ⟨w.heap.size + 1 + 1, 0, none⟩ = some (.int .i64 0) := k_4_R.cell 0
  have c_4_R_1 : w_4.cell? ⟨w.heap.size + 1 + 1, 1, none⟩ = some (.int .i64 0) := k_4_R.cell 1
  have z_4_R_0 := k_4_R.frozen 0
  have z_4_R_1 := k_4_R.frozen 1
  have l_4_R := k_4_R.lt
  clear hb_3 i_3 k_3_A c_3_A_0 c_3_A_1 l_3_A k_3_B c_3_B_0 c_3_B_1 l_3_B k_3_R c_3_R_0 c_3_R_1 z_3_R_0 z_3_R_1 l_3_R
  go_wp2_with (first | (go_at_call 55; refine (iIn _ _ _ _).mono ?_; rintro e w' ⟨rfl, rfl⟩))
  refine (iCardOk ((s + a) % 10) (f + b + (s + a) / 10) _).mono ?_
  rintro _ w_5 ⟨rfl, hb_5⟩
  have i_5 : In w.heap.size w w_5 := In.step (by (repeat (first | exact In.refl _ | assumption | apply In.alloc | apply In.drewN | apply In.drew | (refine In.step ?_ (by assumption))))) hb_5
  have k_5_A : Blk w_5 (w.heap.size) 25 #[.int .i64 s, .int .i64 f] := Blk.step (by (with_reducible (repeat (first | assumption | exact Blk.new' (by simp) | apply Blk.drewN | apply Blk.drew | apply Blk.alloc | (refine Blk.far ?_ (by (try simp) <;> omega) _))))) hb_5
  have c_5_A_0 : w_5.cell? ⟨w.heap.size, 0, none⟩ = some (.int .i64 s) := k_5_A.cell 0
  have c_5_A_1 : w_5.cell? ⟨w.heap.size, 1, none⟩ = some (.int .i64 f) := k_5_A.cell 1
  have l_5_A := k_5_A.lt
  have k_5_B : Blk w_5 (w.heap.size + 1) 25 #[.int .i64 a, .int .i64 b] := Blk.step (by (with_reducible (repeat (first | assumption | exact Blk.new' (by simp) | apply Blk.drewN | apply Blk.drew | apply Blk.alloc | (refine Blk.far ?_ (by (try simp) <;> omega) _))))) hb_5
  have c_5_B_0 : w_5.cell? ⟨w.heap.size + 1, 0, none⟩ = some (.int .i64 a) := k_5_B.cell 0
  have c_5_B_1 : w_5.cell? ⟨w.heap.size + 1, 1, none⟩ = some (.int .i64 b) := k_5_B.cell 1
  have l_5_B := k_5_B.lt
  have k_5_R : Blk w_5 (w.heap.size + 1 + 1) 25 #[.int .i64 0, .int .i64 0] := Blk.step (by (with_reducible (repeat (first | assumption | exact Blk.new' (by simp) | apply Blk.drewN | apply Blk.drew | apply Blk.alloc | (refine Blk.far ?_ (by (try simp) <;> omega) _))))) hb_5
  have c_5_R_0 : w_5.cell? ⟨w.heap.size + 1 + 1, 0, none⟩ = some (.int .i64 0) := k_5_R.cell 0
  have c_5_R_1 : w_5.cell? ⟨w.heap.size + 1 + 1, 1, none⟩ = some (.int .i64 0) := k_5_R.cell 1
  have z_5_R_0 := k_5_R.frozen 0
  have z_5_R_1 := k_5_R.frozen 1
  have l_5_R := k_5_R.lt
  have k_5_O : Blk w_5 (w_4.heap.size) 25 #[.int .i64 ((s + a) % 10), .int .i64 (f + b + (s + a) / 10)] := Blk.step (by (with_reducible (repeat (first | assumption | exact Blk.new' (by simp) | apply Blk.drewN | apply Blk.drew | apply Blk.alloc | (refine Blk.far ?_ (by (try simp) <;> omega) _))))) hb_5
  have c_5_O_0 : w_5.cell? ⟨w_4.heap.size, 0, none⟩ = some (.int .i64 ((s + a) % 10)) := k_5_O.cell 0
  have c_5_O_1 : w_5.cell? ⟨w_4.heap.size, 1, none⟩ = some (.int .i64 (f + b + (s + a) / 10)) := k_5_O.cell 1
  have l_5_O := k_5_O.lt
  clear hb_4 i_4 k_4_A c_4_A_0 c_4_A_1 l_4_A k_4_B c_4_B_0 c_4_B_1 l_4_B k_4_R c_4_R_0 c_4_R_1 z_4_R_0 z_4_R_1 l_4_R
  cases h3 : cardB ((s + a) % 10) (f + b + (s + a) / 10)
  · have HV : Hid (joinV s f a b = .tuple #[.agg #[.int .i64 0, .int .i64 0], .bool false]) := Lib.hid (by simp [joinV, joinB, h3])
    go_wp2_with (first | (go_at_call 55; refine (iIn _ _ _ _).mono ?_; rintro e w' ⟨rfl, rfl⟩) | go_in | (go_end0; simp only []; go_at_K))
    exact bodyPost_ret (v := .tuple #[.agg #[.int .i64 0, .int .i64 0], .bool false]) (by simp [results, Try.results14, go_sem, c_5_A_0, c_5_A_1, c_5_B_0, c_5_B_1, c_5_R_0, c_5_R_1, c_5_O_0, c_5_O_1]) rfl (Val.mk' (by rw [HV.out]) (by (repeat (first | exact In.refl _ | assumption | apply In.alloc | apply In.drewN | apply In.drew | (refine In.step ?_ (by assumption)) | (refine In.set_ ?_ (by (try simp) <;> omega) _)))))
  have HV : Hid (joinV s f a b = .tuple #[.agg #[.int .i64 ((s + a) % 10), .int .i64 (f + b + (s + a) / 10)], .bool true]) := Lib.hid (by simp [joinV, joinB, h1, h2, h3])
  go_wp2_with (first | (go_at_call 55; refine (iIn _ _ _ _).mono ?_; rintro e w' ⟨rfl, rfl⟩) | go_in | (go_end0; simp only []; go_at_K))
  exact bodyPost_ret (v := .tuple #[.agg #[.int .i64 ((s + a) % 10), .int .i64 (f + b + (s + a) / 10)], .bool true]) (by simp [results, Try.results14, go_sem, c_5_A_0, c_5_A_1, c_5_B_0, c_5_B_1, c_5_R_0, c_5_R_1, c_5_O_0, c_5_O_1]) rfl (Val.mk' (by rw [HV.out]) (by (repeat (first | exact In.refl _ | assumption | apply In.alloc | apply In.drewN | apply In.drew | (refine In.step ?_ (by assumption)) | (refine In.set_ ?_ (by (try simp) <;> omega) _)))))
theorem iLoavesFor (m p : Int) (w : World) : Calls Try.prog 16 #[.int .i64 m, .int .i64 p] w (Val (i64 (lforV m p)) w) := by
  cases h1 : inB m 0 100000 <;> cases h2 : inB p 1 1000
  case true.true =>
    obtain ⟨m1, m2⟩ := inB_tt h1
    obtain ⟨p1, p2⟩ := inB_tt h2
    have hp : p ≠ 0 := by omega
    have e1 : 0 ≤ m / p := Int.ediv_nonneg m1 (by omega)
    have e2 := Int.ediv_le_self (a := m) p (by omega)
    have hfd : ∀ (x y : Value) (w : World), (Instr.field 25 (.agg #[x, y]) 1).run Try.prog w = .ok y w := fun _ _ _ => by kernel_rfl
    go_enter Try.func16, Try.ntmps16
    go_wp2_with (first | (go_at_call 55; refine (iIn _ _ _ _).mono ?_; rintro e w' ⟨rfl, rfl⟩))
    refine (icardWorth (m / p) e1 (by omega) _).mono ?_
    rintro _ w1 ⟨rfl, hb1⟩
    go_wp2
    go_ret
    exact Val.mk' (v_int (by simp [lforV, h1, h2])) (by (repeat (first | exact In.refl _ | assumption | apply In.alloc | apply In.drewN | apply In.drew | (refine In.step ?_ (by assumption)))))
  all_goals
    go_enter Try.func16, Try.ntmps16
    go_wp2_with (first | (go_at_call 55; refine (iIn _ _ _ _).mono ?_; rintro e w' ⟨rfl, rfl⟩) | go_in | (go_end0; simp only []; go_at_K))
    go_ret
    exact Val.mk' (v_int (by simp [lforV, h1, h2])) (by (repeat (first | exact In.refl _ | assumption | apply In.alloc | apply In.drewN | apply In.drew | (refine In.step ?_ (by assumption)))))
end Go.Proofs.Ytmafnlcphohioaa
