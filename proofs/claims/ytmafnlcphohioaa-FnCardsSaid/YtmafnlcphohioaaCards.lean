/- The walk of the law FnCards. -/
import Derived.Test.YtmafnlcphohioaaD25
import Derived.Test.YtmafnlcphohioaaDrw
import Derived.Test.YtmafnlcphohioaaAt
import Derived.Test.YtmafnlcphohioaaQuietL
import Derived.BigQuiet
import Derived.Deep.QuietTactic
namespace Go.Proofs.Ytmafnlcphohioaa
open Go.ChangeShapes Go.WideShapes Go.ChangeAt Go.RowKit
set_option linter.unusedVariables false
set_option linter.unusedSimpArgs false
set_option maxHeartbeats 2000000

theorem card_t {s f : Int} (h1 : 0 ≤ s ∧ s ≤ 9) (h2 : 0 ≤ f ∧ f ≤ 1000) : cardB s f = true := by simp [cardB, inB_t h1, inB_t h2]
theorem buy_t {s f n : Int} (h1 : 0 ≤ s ∧ s < 10) (h2 : 0 ≤ f ∧ f < 5) (h3 : 0 ≤ n ∧ n ≤ 255) : buyV s f n = .tuple #[.agg #[.int .i64 ((s + n) % 10), .int .i64 (f + (s + n) / 10)], .bool true] := by
  rw [buyV, if_pos]
  simp only [buyB, Bool.and_eq_true]
  exact ⟨⟨card_t (by omega) (by omega), inB_t (by omega)⟩, card_t (by omega) (by omega)⟩
theorem join_t {s f a b : Int} (h1 : 0 ≤ s ∧ s < 10) (h2 : 0 ≤ f ∧ f < 5) (h3 : 0 ≤ a ∧ a < 10) (h4 : 0 ≤ b ∧ b < 9) : joinV s f a b = .tuple #[.agg #[.int .i64 ((s + a) % 10), .int .i64 (f + b + (s + a) / 10)], .bool true] := by
  rw [joinV, if_pos]
  simp only [joinB, Bool.and_eq_true]
  exact ⟨⟨card_t (by omega) (by omega), card_t (by omega) (by omega)⟩, card_t (by omega) (by omega)⟩
theorem use_t {s f : Int} (h1 : 0 ≤ s ∧ s < 10) (h2 : 0 < f ∧ f < 5) : useV s f = .tuple #[.agg #[.int .i64 s, .int .i64 (f - 1)], .bool true] := by
  rw [useV, if_pos]
  have : ¬ f = 0 := by omega
  simp [card_t (show 0 ≤ s ∧ s ≤ 9 by omega) (show 0 ≤ f ∧ f ≤ 1000 by omega), this]
theorem use_n {s : Int} : useV s 0 = .tuple #[.agg #[.int .i64 s, .int .i64 0], .bool false] := by
  rw [useV, if_neg]
  simp
theorem until_t {s f : Int} (h1 : 0 ≤ s ∧ s < 10) (h2 : 0 ≤ f ∧ f < 5) : untilV s f = 10 - s := by
  rw [untilV, card_t (by omega) (by omega)]; rfl
theorem lfor_t {m p : Int} (h1 : 0 ≤ m ∧ m ≤ 2550) (h2 : 1 ≤ p ∧ p ≤ 40) : lforV m p = m / p + m / p / 10 := by
  rw [lforV, inB_t (by omega), inB_t (by omega)]; rfl
set_option maxHeartbeats 8000000 in
set_option maxRecDepth 20000 in
theorem walk_FnCards (a0 : Option Addr) (len0 cap0 : Nat) (z0 : List Int) (w : World) (w0 : IsRow .u8 w a0 len0 cap0 z0) :
    Calls Try.prog 3 #[.slice a0 len0 cap0] w fun e w' => e = .returned (.bool true) ∧ Below w.heap.size w w' := by
  have hb := ReadsU.of_row w0
  have hm := hb.1
  clear w0
  by_cases hbig : (1048576 : Int) < (len0 : Int)
  · go_enter Try.func3, Try.ntmps3
    go_wp2_with fail
    refine (bigU _ _ _ _ hm true (by simpa using hbig)).mono ?_
    rintro e w' ⟨rfl, rfl⟩
    go_wp2_with fail
    go_ret
    exact ⟨rfl, Below.refl _ _⟩
  have HB := Lib.hid hb
  go_enter Try.func3, Try.ntmps3
  go_wp2_with fail
  refine (bigU _ _ _ _ hm false (by simpa using hbig)).mono ?_
  rintro e w' ⟨rfl, rfl⟩
  clear hbig hm hb
  go_wp2_with fail
  refine (drawCard _ _ _ _ (bytes_of HB.out)).mono ?_
  rintro _ w1 ⟨s, f, ⟨hs, hf⟩, rfl, hb1⟩
  have i1 : In w.heap.size w w1 := In.step (by (repeat (first | exact In.refl _ | assumption | apply In.alloc | apply In.drewN | apply In.drew | (refine In.step ?_ (by assumption))))) hb1
  have j := i1
  clear hb1 i1
  have kc : Blk (w1.alloc (.cells #[.int .i64 s, .int .i64 f] 25)) w1.heap.size 25 #[.int .i64 s, .int .i64 f] := Blk.new w1 _ _
  replace j := j.alloc (.cells #[.int .i64 s, .int .i64 f] 25)
  go_wp2_with fail
  refine (at_c _ _ _ 0 _ (by omega) (by omega) (HB.out.in_ j)).mono ?_
  rintro e w' ⟨n, hn, rfl, rfl⟩
  go_wp2_with fail
  refine (iBuyLoaves s f n _).mono ?_
  rintro _ w2 ⟨rfl, hb2⟩
  rw [buy_t hs hf hn]
  have hS : 0 ≤ (s + n) % 10 ∧ (s + n) % 10 ≤ 9 := by omega
  have hQ : 0 ≤ (s + n) / 10 ∧ (s + n) / 10 ≤ 26 := by omega
  have hSQ : 10 * ((s + n) / 10) + (s + n) % 10 = s + n := by omega
  generalize (s + n) % 10 = S at *
  generalize (s + n) / 10 = Q at *
  generalize hFQ : f + Q = FQ at *
  replace kc := kc.step hb2
  replace j := j.step hb2
  clear hb2
  have cc0 := kc.cell 0
  have cc1 := kc.cell 1
  have lc := kc.lt
  simp at cc0 cc1
  replace kc := kc.alloc (.cells #[.int .i64 S, .int .i64 FQ] 25)
  have kb : Blk (w2.alloc (.cells #[.int .i64 S, .int .i64 FQ] 25)) w2.heap.size 25 #[.int .i64 S, .int .i64 FQ] := Blk.new w2 _ _
  replace j := j.alloc (.cells #[.int .i64 S, .int .i64 FQ] 25)
  go_wp2_with fail
  refine (iLoavesUntilFree s f _).mono ?_
  rintro _ w3 ⟨rfl, hb3⟩
  rw [until_t hs hf]
  generalize hU : 10 - s = U at *
  replace kc := kc.step hb3
  replace kb := kb.step hb3
  replace j := j.step hb3
  clear hb3
  clear cc0 cc1 lc
  have cc0 := kc.cell 0
  have cc1 := kc.cell 1
  have lc := kc.lt
  simp at cc0 cc1
  go_wp2_with fail
  refine (iBuyLoaves s f U _).mono ?_
  rintro _ w4 ⟨rfl, hb4⟩
  rw [buy_t hs hf (by omega), show (s + U) % 10 = 0 by omega, show (s + U) / 10 = 1 by omega]
  replace kc := kc.step hb4
  replace kb := kb.step hb4
  replace j := j.step hb4
  clear hb4
  clear cc0 cc1 lc
  have cc0 := kc.cell 0
  have cc1 := kc.cell 1
  have lc := kc.lt
  simp at cc0 cc1
  replace kc := kc.alloc (.cells #[.int .i64 0, .int .i64 (f + 1)] 25)
  replace kb := kb.alloc (.cells #[.int .i64 0, .int .i64 (f + 1)] 25)
  have kf : Blk (w4.alloc (.cells #[.int .i64 0, .int .i64 (f + 1)] 25)) w4.heap.size 25 #[.int .i64 0, .int .i64 (f + 1)] := Blk.new w4 _ _
  replace j := j.alloc (.cells #[.int .i64 0, .int .i64 (f + 1)] 25)
  go_wp2_with fail
  have wU : wrap64 (U - 1) = U - 1 := w64 (by omega)
  refine (iBuyLoaves s f (U - 1) _).mono ?_
  rintro _ w5 ⟨rfl, hb5⟩
  rw [buy_t hs hf (by omega), show (s + (U - 1)) % 10 = 9 by omega, show (s + (U - 1)) / 10 = 0 by omega]
  rw [show f + 0 = f by omega]
  replace kc := kc.step hb5
  replace kb := kb.step hb5
  replace kf := kf.step hb5
  replace j := j.step hb5
  clear hb5
  clear cc0 cc1 lc
  have cc0 := kc.cell 0
  have cc1 := kc.cell 1
  have lc := kc.lt
  simp at cc0 cc1
  replace kc := kc.alloc (.cells #[.int .i64 9, .int .i64 f] 25)
  replace kb := kb.alloc (.cells #[.int .i64 9, .int .i64 f] 25)
  replace kf := kf.alloc (.cells #[.int .i64 9, .int .i64 f] 25)
  have kl : Blk (w5.alloc (.cells #[.int .i64 9, .int .i64 f] 25)) w5.heap.size 25 #[.int .i64 9, .int .i64 f] := Blk.new w5 _ _
  replace j := j.alloc (.cells #[.int .i64 9, .int .i64 f] 25)
  clear cc0 cc1 lc
  go_wp2_with fail
  generalize w5.alloc (.cells #[.int .i64 9, .int .i64 f] 25) = w6 at *
  refine (at_c _ _ _ 1 _ (by omega) (by omega) (HB.out.in_ j)).mono ?_
  rintro e w' ⟨a1, ha1, rfl, rfl⟩
  have ha : 0 ≤ a1 % 10 ∧ a1 % 10 < 10 := by omega
  go_wp2_with fail
  refine (at_c _ _ _ 2 _ (by omega) (by omega) (HB.out.in_ j)).mono ?_
  rintro e w' ⟨a2, ha2, rfl, rfl⟩
  have hb : 0 ≤ a2 % 9 ∧ a2 % 9 < 9 := by omega
  generalize a1 % 10 = a at *
  have cc0 := kc.cell 0
  have cc1 := kc.cell 1
  have lc := kc.lt
  simp at cc0 cc1
  replace kc := kc.alloc (.cells #[.int .i64 a, .int .i64 (a2 % 9)] 25)
  replace kb := kb.alloc (.cells #[.int .i64 a, .int .i64 (a2 % 9)] 25)
  replace kf := kf.alloc (.cells #[.int .i64 a, .int .i64 (a2 % 9)] 25)
  replace kl := kl.alloc (.cells #[.int .i64 a, .int .i64 (a2 % 9)] 25)
  have kd : Blk (w6.alloc (.cells #[.int .i64 a, .int .i64 (a2 % 9)] 25)) w6.heap.size 25 #[.int .i64 a, .int .i64 (a2 % 9)] := Blk.new w6 _ _
  replace j := j.alloc (.cells #[.int .i64 a, .int .i64 (a2 % 9)] 25)
  go_wp2_with fail
  generalize a2 % 9 = b at *
  generalize w6.alloc (.cells #[.int .i64 a, .int .i64 b] 25) = w7 at *
  clear cc0 cc1 lc
  refine (iJoinCards s f a b _).mono ?_
  rintro _ w8 ⟨rfl, hb8⟩
  rw [join_t hs hf ha hb]
  have hSJ : 0 ≤ (s + a) % 10 ∧ (s + a) % 10 ≤ 9 := by omega
  have hQJ : 0 ≤ (s + a) / 10 ∧ (s + a) / 10 ≤ 2 := by omega
  have hSQJ : 10 * ((s + a) / 10) + (s + a) % 10 = s + a := by omega
  generalize (s + a) % 10 = SJ at *
  generalize (s + a) / 10 = QJ at *
  generalize hFJ : f + b + QJ = FJ at *
  replace kc := kc.step hb8
  replace kb := kb.step hb8
  replace kf := kf.step hb8
  replace kl := kl.step hb8
  replace kd := kd.step hb8
  replace j := j.step hb8
  clear hb8
  have cc0 := kc.cell 0
  have cc1 := kc.cell 1
  have lc := kc.lt
  simp at cc0 cc1
  replace kc := kc.alloc (.cells #[.int .i64 SJ, .int .i64 FJ] 25)
  replace kb := kb.alloc (.cells #[.int .i64 SJ, .int .i64 FJ] 25)
  replace kf := kf.alloc (.cells #[.int .i64 SJ, .int .i64 FJ] 25)
  replace kl := kl.alloc (.cells #[.int .i64 SJ, .int .i64 FJ] 25)
  replace kd := kd.alloc (.cells #[.int .i64 SJ, .int .i64 FJ] 25)
  have kj : Blk (w8.alloc (.cells #[.int .i64 SJ, .int .i64 FJ] 25)) w8.heap.size 25 #[.int .i64 SJ, .int .i64 FJ] := Blk.new w8 _ _
  replace j := j.alloc (.cells #[.int .i64 SJ, .int .i64 FJ] 25)
  go_wp2_with fail
  generalize w8.alloc (.cells #[.int .i64 SJ, .int .i64 FJ] 25) = w9 at *
  clear cc0 cc1 lc
  have huse : ∃ E : Int, useV s f = .tuple #[.agg #[.int .i64 s, .int .i64 E], .bool (decide (0 < f))] ∧ (0 < f → E = f - 1) := by
    by_cases h : 0 < f
    · exact ⟨f - 1, by rw [use_t hs ⟨h, hf.2⟩]; simp [h], fun _ => rfl⟩
    · obtain rfl : f = 0 := by omega
      exact ⟨0, by rw [use_n]; simp, fun h2 => absurd h2 (by omega)⟩
  obtain ⟨E, huv, hE⟩ := huse
  refine (iUseFree s f _).mono ?_
  rintro _ w10 ⟨rfl, hb10⟩
  rw [huv]
  clear huv
  have HE := Lib.hid hE
  clear hE
  replace kc := kc.step hb10
  replace kb := kb.step hb10
  replace kf := kf.step hb10
  replace kl := kl.step hb10
  replace kd := kd.step hb10
  replace kj := kj.step hb10
  replace j := j.step hb10
  clear hb10
  replace kc := kc.alloc (.cells #[.int .i64 s, .int .i64 E] 25)
  replace kb := kb.alloc (.cells #[.int .i64 s, .int .i64 E] 25)
  replace kf := kf.alloc (.cells #[.int .i64 s, .int .i64 E] 25)
  replace kl := kl.alloc (.cells #[.int .i64 s, .int .i64 E] 25)
  replace kd := kd.alloc (.cells #[.int .i64 s, .int .i64 E] 25)
  replace kj := kj.alloc (.cells #[.int .i64 s, .int .i64 E] 25)
  have ke : Blk (w10.alloc (.cells #[.int .i64 s, .int .i64 E] 25)) w10.heap.size 25 #[.int .i64 s, .int .i64 E] := Blk.new w10 _ _
  replace j := j.alloc (.cells #[.int .i64 s, .int .i64 E] 25)
  go_wp2_with fail
  generalize w10.alloc (.cells #[.int .i64 s, .int .i64 E] 25) = w11 at *
  refine (at_c _ _ _ 3 _ (by omega) (by omega) (HB.out.in_ j)).mono ?_
  rintro e w' ⟨a3, ha3, rfl, rfl⟩
  go_wp2_with fail
  refine (at_c _ _ _ 4 _ (by omega) (by omega) (HB.out.in_ j)).mono ?_
  rintro e w' ⟨a4, ha4, rfl, rfl⟩
  have hm : 0 ≤ a3 * 10 ∧ a3 * 10 ≤ 2550 := by omega
  have hp : 1 ≤ 1 + a4 % 40 ∧ 1 + a4 % 40 ≤ 40 := by omega
  generalize a3 * 10 = m at *
  go_wp2_with fail
  generalize 1 + a4 % 40 = p at *
  refine (iLoavesFor m p _).mono ?_
  rintro _ w12 ⟨rfl, hb12⟩
  rw [lfor_t hm hp]
  have hq : 0 ≤ m / p ∧ m / p ≤ 2550 := ⟨Int.ediv_nonneg (by omega) (by omega), Int.le_trans (Int.ediv_le_self _ (by omega)) hm.2⟩
  have hqt : wrap64 (m.tdiv p) = m / p := by rw [Int.tdiv_eq_ediv_of_nonneg (by omega)]; exact w64 (by omega)
  have hx : 0 ≤ m / p + m / p / 10 ∧ m / p ≤ m / p + m / p / 10 ∧ 10 * (m / p + m / p / 10) ≤ 11 * (m / p) ∧ 11 * (m / p) - 10 < 10 * (m / p + m / p / 10) := by omega
  have hp0 : ¬ p = 0 := by omega
  generalize m / p + m / p / 10 = x at *
  generalize m / p = q at *
  replace kc := kc.step hb12
  replace kb := kb.step hb12
  replace kf := kf.step hb12
  replace kl := kl.step hb12
  replace kd := kd.step hb12
  replace kj := kj.step hb12
  replace ke := ke.step hb12
  replace j := j.step hb12
  clear hb12
  have cc0 := kc.cell 0
  have cc1 := kc.cell 1
  have cb0 := kb.cell 0
  have cb1 := kb.cell 1
  have cf0 := kf.cell 0
  have cf1 := kf.cell 1
  have cl0 := kl.cell 0
  have cl1 := kl.cell 1
  have cd0 := kd.cell 0
  have cd1 := kd.cell 1
  have cj0 := kj.cell 0
  have cj1 := kj.cell 1
  have ce0 := ke.cell 0
  have ce1 := ke.cell 1
  simp at cc0 cc1 cb0 cb1 cf0 cf1 cl0 cl1 cd0 cd1 cj0 cj1 ce0 ce1
  have HC1 := Lib.hid (fun W => iCardOk S FQ W)
  have HC2 : Hid (cardB S FQ = true) := Lib.hid (card_t (by omega) (by omega))
  have v1 : IntKind.i64.wrap (10 * FQ) = 10 * FQ := by rw [IntWalk.i64_in _ (by omega)]
  have v2 : IntKind.i64.wrap (10 * FQ + S) = 10 * f + s + n := by rw [IntWalk.i64_in _ (by omega)]; omega
  have v3 : IntKind.i64.wrap (10 * f) = 10 * f := by rw [IntWalk.i64_in _ (by omega)]
  have v4 : IntKind.i64.wrap (10 * f + s) = 10 * f + s := by rw [IntWalk.i64_in _ (by omega)]
  have v5 : IntKind.i64.wrap (10 * f + s + n) = 10 * f + s + n := by rw [IntWalk.i64_in _ (by omega)]
  have v6 : IntKind.i64.wrap (f + 1) = f + 1 := by rw [IntWalk.i64_in _ (by omega)]
  have d1 : decide (U < 1) = false := by simp; omega
  have d2 : decide (10 < U) = false := by simp; omega
  have v7 : IntKind.i64.wrap (10 * FJ) = 10 * FJ := by rw [IntWalk.i64_in _ (by omega)]
  have v8 : IntKind.i64.wrap (10 * FJ + SJ) = 10 * (f + b) + s + a := by rw [IntWalk.i64_in _ (by omega)]; omega
  have v9 : IntKind.i64.wrap (f + b) = f + b := by rw [IntWalk.i64_in _ (by omega)]
  have v10 : IntKind.i64.wrap (10 * (f + b)) = 10 * (f + b) := by rw [IntWalk.i64_in _ (by omega)]
  have v11 : IntKind.i64.wrap (10 * (f + b) + s) = 10 * (f + b) + s := by rw [IntWalk.i64_in _ (by omega)]
  have v12 : IntKind.i64.wrap (10 * (f + b) + s + a) = 10 * (f + b) + s + a := by rw [IntWalk.i64_in _ (by omega)]
  have d3 : decide (SJ < 10) = true := by simp; omega
  have v13 : IntKind.i64.wrap (f - 1) = f - 1 := by rw [IntWalk.i64_in _ (by omega)]
  have v14 : IntKind.i64.wrap (10 * x) = 10 * x := by rw [IntWalk.i64_in _ (by omega)]
  have v15 : IntKind.i64.wrap (11 * q) = 11 * q := by rw [IntWalk.i64_in _ (by omega)]
  have v16 : IntKind.i64.wrap (11 * q - 10) = 11 * q - 10 := by rw [IntWalk.i64_in _ (by omega)]
  have v17 : IntKind.i64.wrap (m.tdiv p) = q := by rw [IntWalk.i64_left]; exact hqt
  have d4 : decide (q ≤ x) = true := by simp; omega
  have d5 : decide (10 * x ≤ 11 * q) = true := by simp; omega
  have d6 : decide (11 * q - 10 < 10 * x) = true := by simp; omega
  have HCL := Lib.hid (show ∀ W', In w.heap.size w W' ∧ W'.cell? ⟨w1.heap.size, 0, none⟩ = some (.int .i64 s) ∧ W'.cell? ⟨w1.heap.size, 1, none⟩ = some (.int .i64 f) ∧ W'.cell? ⟨w2.heap.size, 0, none⟩ = some (.int .i64 S) ∧ W'.cell? ⟨w2.heap.size, 1, none⟩ = some (.int .i64 FQ) ∧ W'.cell? ⟨w8.heap.size, 0, none⟩ = some (.int .i64 SJ) ∧ W'.cell? ⟨w8.heap.size, 1, none⟩ = some (.int .i64 FJ) ∧ W'.cell? ⟨w10.heap.size, 0, none⟩ = some (.int .i64 s) ∧ W'.cell? ⟨w10.heap.size, 1, none⟩ = some (.int .i64 E) ∧ W'.cell? ⟨w6.heap.size, 0, none⟩ = some (.int .i64 a) ∧ W'.cell? ⟨w6.heap.size, 1, none⟩ = some (.int .i64 b) → ∀ W2, Below W'.heap.size W' W2 → In w.heap.size w W2 ∧ W2.cell? ⟨w1.heap.size, 0, none⟩ = some (.int .i64 s) ∧ W2.cell? ⟨w1.heap.size, 1, none⟩ = some (.int .i64 f) ∧ W2.cell? ⟨w2.heap.size, 0, none⟩ = some (.int .i64 S) ∧ W2.cell? ⟨w2.heap.size, 1, none⟩ = some (.int .i64 FQ) ∧ W2.cell? ⟨w8.heap.size, 0, none⟩ = some (.int .i64 SJ) ∧ W2.cell? ⟨w8.heap.size, 1, none⟩ = some (.int .i64 FJ) ∧ W2.cell? ⟨w10.heap.size, 0, none⟩ = some (.int .i64 s) ∧ W2.cell? ⟨w10.heap.size, 1, none⟩ = some (.int .i64 E) ∧ W2.cell? ⟨w6.heap.size, 0, none⟩ = some (.int .i64 a) ∧ W2.cell? ⟨w6.heap.size, 1, none⟩ = some (.int .i64 b) from fun W' h W2 hb => by
    obtain ⟨h0, g0, g1, g2, g3, g4, g5, g6, g7, g8, g9⟩ := h
    exact ⟨h0.step hb, cell_in g0 ⟨hb, hb.size⟩, cell_in g1 ⟨hb, hb.size⟩, cell_in g2 ⟨hb, hb.size⟩, cell_in g3 ⟨hb, hb.size⟩, cell_in g4 ⟨hb, hb.size⟩, cell_in g5 ⟨hb, hb.size⟩, cell_in g6 ⟨hb, hb.size⟩, cell_in g7 ⟨hb, hb.size⟩, cell_in g8 ⟨hb, hb.size⟩, cell_in g9 ⟨hb, hb.size⟩⟩)
  have HV := Lib.hid (And.intro v7 (And.intro v8 (And.intro v9 (And.intro v10 (And.intro v11 (And.intro v12 (And.intro d3 (And.intro v13 (And.intro v14 (And.intro v15 (And.intro v16 (And.intro v17 (And.intro d4 (And.intro d5 (And.intro d6 hp0)))))))))))))))
  clear v7 v8 v9 v10 v11 v12 d3 v13 v14 v15 v16 v17 d4 d5 d6 kc kb kf kl kd kj ke HB hSQ hFQ hU hSQJ hFJ hx hqt hq hm hSJ hQJ hS hQ wU hs hf hn ha hb hp hp0 ha1 ha2 ha3 ha4
  simp only []
  iterate 9 go_step
  refine wp_region_L (C := (fun w' => In w.heap.size w w' ∧ w'.cell? ⟨w1.heap.size, 0, none⟩ = some (.int .i64 s) ∧ w'.cell? ⟨w1.heap.size, 1, none⟩ = some (.int .i64 f) ∧ w'.cell? ⟨w2.heap.size, 0, none⟩ = some (.int .i64 S) ∧ w'.cell? ⟨w2.heap.size, 1, none⟩ = some (.int .i64 FQ) ∧ w'.cell? ⟨w4.heap.size, 0, none⟩ = some (.int .i64 0) ∧ w'.cell? ⟨w4.heap.size, 1, none⟩ = some (.int .i64 (f + 1)) ∧ w'.cell? ⟨w5.heap.size, 0, none⟩ = some (.int .i64 9) ∧ w'.cell? ⟨w5.heap.size, 1, none⟩ = some (.int .i64 f) ∧ Hid (w'.cell? ⟨w6.heap.size, 0, none⟩ = some (.int .i64 a) ∧ w'.cell? ⟨w6.heap.size, 1, none⟩ = some (.int .i64 b) ∧ w'.cell? ⟨w8.heap.size, 0, none⟩ = some (.int .i64 SJ) ∧ w'.cell? ⟨w8.heap.size, 1, none⟩ = some (.int .i64 FJ) ∧ w'.cell? ⟨w10.heap.size, 0, none⟩ = some (.int .i64 s) ∧ w'.cell? ⟨w10.heap.size, 1, none⟩ = some (.int .i64 E)))) ?_ ?_
  · exact ⟨j, cc0, cc1, cb0, cb1, cf0, cf1, cl0, cl1, Lib.hid ⟨cd0, cd1, cj0, cj1, ce0, ce1⟩⟩
  repeat (first | go_big_quiet_skip | (go_big_quiet_want; first | (refine quiet_ex ?_; apply Exists.intro; refine ⟨fun W hW => ?_, ?_⟩; (· (obtain ⟨iz, zc0, zc1, zb0, zb1, zf0, zf1, zl0, zl1, HZ⟩ := hW; go_simp; (first | done | with_reducible rfl | rfl))); simp only [Act.put, List.setIfInBounds_toArray, List.set_cons_zero, List.set_cons_succ]; go_big_quiet_on) | (refine quiet_ex ?_; apply Exists.intro; refine ⟨fun W hW => ?_, ?_⟩; (· (go_simp; first | fail)); simp only [Act.put, List.setIfInBounds_toArray, List.set_cons_zero, List.set_cons_succ]; go_big_quiet_on)))
  refine wpQuiet_nil ?_
  rintro w' ⟨iz, zc0, zc1, zb0, zb1, zf0, zf1, zl0, zl1, HZ⟩
  clear cc0 cc1 cb0 cb1 cf0 cf1 cl0 cl1 cd0 cd1 cj0 cj1 ce0 ce1 j v1 v2 v3 v4 v5 v6 d1 d2
  iterate 7 go_step
  rw [List.append_eq]
  (repeat rw [List.cons_append])
  rw [List.nil_append]
  obtain ⟨zd0, zd1, zj0, zj1, ze0, ze1⟩ := HZ.out
  obtain ⟨v7, v8, v9, v10, v11, v12, d3, v13, v14, v15, v16, v17, d4, d5, d6, hp0⟩ := HV.out
  clear HZ HV
  by_cases hf0 : 0 < f
  · have d7 : decide (0 < f) = true := by simp; omega
    have hE2 := HE.out hf0
    subst hE2
    clear HE hf0
    have HCL := HCL
    refine wp_region_L (C := (fun w' => In w.heap.size w w' ∧ w'.cell? ⟨w1.heap.size, 0, none⟩ = some (.int .i64 s) ∧ w'.cell? ⟨w1.heap.size, 1, none⟩ = some (.int .i64 f) ∧ w'.cell? ⟨w2.heap.size, 0, none⟩ = some (.int .i64 S) ∧ w'.cell? ⟨w2.heap.size, 1, none⟩ = some (.int .i64 FQ) ∧ w'.cell? ⟨w8.heap.size, 0, none⟩ = some (.int .i64 SJ) ∧ w'.cell? ⟨w8.heap.size, 1, none⟩ = some (.int .i64 FJ) ∧ w'.cell? ⟨w10.heap.size, 0, none⟩ = some (.int .i64 s) ∧ w'.cell? ⟨w10.heap.size, 1, none⟩ = some (.int .i64 (f - 1)) ∧ w'.cell? ⟨w6.heap.size, 0, none⟩ = some (.int .i64 a) ∧ w'.cell? ⟨w6.heap.size, 1, none⟩ = some (.int .i64 b))) ?_ ?_
    · exact ⟨iz, zc0, zc1, zb0, zb1, zj0, zj1, ze0, ze1, zd0, zd1⟩
    repeat (first | go_big_quiet_skip | (go_big_quiet_want; first | (refine quiet_ex ?_; apply Exists.intro; refine ⟨fun W hW => ?_, ?_⟩; (· (obtain ⟨iy, yc0, yc1, yb0, yb1, yj0, yj1, ye0, ye1, yd0, yd1⟩ := hW; go_simp; (first | done | with_reducible rfl | rfl))); simp only [Act.put, List.setIfInBounds_toArray, List.set_cons_zero, List.set_cons_succ]; go_big_quiet_on) | (refine quiet_ex ?_; apply Exists.intro; refine ⟨fun W hW => ?_, ?_⟩; (· (go_simp; first | (go_at_call 17; (with_reducible refine (HC1.out _).mono ?_); rintro e w2 ⟨rfl, hb2⟩; rw [HC2.out]; exact ⟨rfl, HCL.out _ hW _ hb2⟩) | (go_at_call 16; (with_reducible refine (iLoavesFor 100 10 _).mono ?_); rintro e w2 ⟨rfl, hb2⟩; rw [show lforV 100 10 = 11 by decide]; exact ⟨rfl, HCL.out _ hW _ hb2⟩))); simp only [Act.put, List.setIfInBounds_toArray, List.set_cons_zero, List.set_cons_succ]; go_big_quiet_on)))
    refine wpQuiet_nil ?_
    rintro w' ⟨iy, yc0, yc1, yb0, yb1, yj0, yj1, ye0, ye1, yd0, yd1⟩
    go_wp2
    go_ret
    exact ⟨ret_bool rfl, iy.below⟩
  · have d7 : decide (0 < f) = false := by simp; omega
    clear HE hf0
    refine wp_region_L (C := (fun w' => In w.heap.size w w' ∧ w'.cell? ⟨w1.heap.size, 0, none⟩ = some (.int .i64 s) ∧ w'.cell? ⟨w1.heap.size, 1, none⟩ = some (.int .i64 f) ∧ w'.cell? ⟨w2.heap.size, 0, none⟩ = some (.int .i64 S) ∧ w'.cell? ⟨w2.heap.size, 1, none⟩ = some (.int .i64 FQ) ∧ w'.cell? ⟨w8.heap.size, 0, none⟩ = some (.int .i64 SJ) ∧ w'.cell? ⟨w8.heap.size, 1, none⟩ = some (.int .i64 FJ) ∧ w'.cell? ⟨w10.heap.size, 0, none⟩ = some (.int .i64 s) ∧ w'.cell? ⟨w10.heap.size, 1, none⟩ = some (.int .i64 E) ∧ w'.cell? ⟨w6.heap.size, 0, none⟩ = some (.int .i64 a) ∧ w'.cell? ⟨w6.heap.size, 1, none⟩ = some (.int .i64 b))) ?_ ?_
    · exact ⟨iz, zc0, zc1, zb0, zb1, zj0, zj1, ze0, ze1, zd0, zd1⟩
    repeat (first | go_big_quiet_skip | (go_big_quiet_want; first | (refine quiet_ex ?_; apply Exists.intro; refine ⟨fun W hW => ?_, ?_⟩; (· (obtain ⟨iy, yc0, yc1, yb0, yb1, yj0, yj1, ye0, ye1, yd0, yd1⟩ := hW; go_simp; (first | done | with_reducible rfl | rfl))); simp only [Act.put, List.setIfInBounds_toArray, List.set_cons_zero, List.set_cons_succ]; go_big_quiet_on) | (refine quiet_ex ?_; apply Exists.intro; refine ⟨fun W hW => ?_, ?_⟩; (· (go_simp; first | (go_at_call 17; (with_reducible refine (HC1.out _).mono ?_); rintro e w2 ⟨rfl, hb2⟩; rw [HC2.out]; exact ⟨rfl, HCL.out _ hW _ hb2⟩) | (go_at_call 16; (with_reducible refine (iLoavesFor 100 10 _).mono ?_); rintro e w2 ⟨rfl, hb2⟩; rw [show lforV 100 10 = 11 by decide]; exact ⟨rfl, HCL.out _ hW _ hb2⟩))); simp only [Act.put, List.setIfInBounds_toArray, List.set_cons_zero, List.set_cons_succ]; go_big_quiet_on)))
    refine wpQuiet_nil ?_
    rintro w' ⟨iy, yc0, yc1, yb0, yb1, yj0, yj1, ye0, ye1, yd0, yd1⟩
    go_wp2
    go_ret
    exact ⟨ret_bool rfl, iy.below⟩
end Go.Proofs.Ytmafnlcphohioaa
