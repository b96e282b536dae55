/- Chapter 27: the cheapest blend of two flours, the program. -/
import Derived.Test.YtmkfnhgaiheckaaT27
import Derived.Test.YtmkfnhgaiheckaaQuietL
import Derived.BigQuiet
import Derived.Deep.QuietTactic
namespace Go.Proofs.Ytmkfnhgaiheckaa
open Go.ChangeShapes Go.WideShapes Go.ChangeAt Go.RowKit
set_option linter.unusedVariables false
set_option linter.unusedSimpArgs false
set_option maxHeartbeats 2000000

def cmpTo (L s : Int) : Value := if L ≤ s then .iface 223 (.agg #[.int .i64 (s - L)]) else .iface 225 (.agg #[.int .i64 (L - s)])
theorem cmpTo_t {L s : Int} (h : L ≤ s) : cmpTo L s = .iface 223 (.agg #[.int .i64 (s - L)]) := if_pos h
theorem cmpTo_f {L s : Int} (h : ¬ L ≤ s) : cmpTo L s = .iface 225 (.agg #[.int .i64 (L - s)]) := if_neg h
theorem asSS (v : Value) (w : World) : (Instr.typeAssert (.iface 223 v) 20 223 true).run Try.prog w = .ok (.tuple #[v, .bool true]) w := by kernel_rfl
theorem asWS (v : Value) (w : World) : (Instr.typeAssert (.iface 225 v) 20 223 true).run Try.prog w = .ok (.tuple #[.agg #[.int .i64 0], .bool false]) w := by kernel_rfl
theorem asWW (v : Value) (w : World) : (Instr.typeAssert (.iface 225 v) 20 225 true).run Try.prog w = .ok (.tuple #[v, .bool true]) w := by kernel_rfl
theorem icomparedTo (L s p k : Int) (w : World) (hL : 50 ≤ L ∧ L ≤ 500) (hs : 50 ≤ s ∧ s ≤ 500) : Calls Try.prog 179 #[.int .i64 L, .agg #[.int .i64 s, .int .i64 p, .int .i64 k]] w (Val (cmpTo L s) w) := by
  have q0 : Blk (w.alloc (.cells #[.int .i64 s, .int .i64 p, .int .i64 k] 56)) w.heap.size 56 #[.int .i64 s, .int .i64 p, .int .i64 k] := Blk.new w _ _
  have c0 := q0.cell 0
  clear q0
  by_cases h : L ≤ s
  · have HV := Lib.hid (cmpTo_t h)
    go_enter Try.func179, Try.ntmps179
    go_wp2
    go_ret
    exact Val.mk' (by rw [HV.out]; rfl) (by (repeat (first | exact In.refl _ | assumption | apply In.alloc | apply In.drewN | apply In.drew | (refine In.step ?_ (by assumption)))))
  · have HV := Lib.hid (cmpTo_f h)
    go_enter Try.func179, Try.ntmps179
    go_wp2
    go_ret
    exact Val.mk' (by rw [HV.out]; rfl) (by (repeat (first | exact In.refl _ | assumption | apply In.alloc | apply In.drewN | apply In.drew | (refine In.step ?_ (by assumption)))))
theorem isurplusOf (L s n : Int) (w : World) (hL : 50 ≤ L ∧ L ≤ 500) (hs : 50 ≤ s ∧ s ≤ 500) (hn : 0 ≤ n ∧ n ≤ 100) : Calls Try.prog 178 #[cmpTo L s, .int .i64 n] w (Val (i64 (n * (s - L))) w) := by
  by_cases h : L ≤ s
  · obtain ⟨d, hd⟩ : ∃ d, s - L = d := ⟨_, rfl⟩
    have hdd : 0 ≤ d ∧ d ≤ 450 := by omega
    obtain ⟨p, hp⟩ : ∃ p, n * d = p := ⟨_, rfl⟩
    have hpp := mul_in (a := n) (b := d) (A := 100) (B := 450) hn.1 hn.2 hdd.1 hdd.2
    rw [hp] at hpp
    have V1 : wrap64 (n * d) = p := by rw [hp, w64 ⟨by omega, by omega⟩]
    rw [cmpTo_t h, hd, hp]
    have h1 := asSS
    have q0 : Blk (w.alloc (.cells #[.int .i64 d] 223)) w.heap.size 223 #[.int .i64 d] := Blk.new w _ _
    have c0 := q0.cell 0
    clear q0 hd hp h hs hL
    go_enter Try.func178, Try.ntmps178
    go_wp2
    go_ret
    exact Val.mk' (show Value.int .i64 (wrap64 (n * d)) = _ from v_int V1) (by (repeat (first | exact In.refl _ | assumption | apply In.alloc | apply In.drewN | apply In.drew | (refine In.step ?_ (by assumption)))))
  · obtain ⟨d, hd⟩ : ∃ d, L - s = d := ⟨_, rfl⟩
    have hdd : 0 ≤ d ∧ d ≤ 450 := by omega
    obtain ⟨p, hp⟩ : ∃ p, n * d = p := ⟨_, rfl⟩
    have hpp := mul_in (a := n) (b := d) (A := 100) (B := 450) hn.1 hn.2 hdd.1 hdd.2
    rw [hp] at hpp
    have hnp : n * (s - L) = - p := by rw [← hp, show s - L = -d by omega, Int.mul_neg]
    have V1 : wrap64 (-n * d) = -p := by rw [Int.neg_mul, hp, w64 ⟨by omega, by omega⟩]
    have V2 : wrap64 (-(n * d)) = -p := by rw [hp, w64 ⟨by omega, by omega⟩]
    have V3 : wrap64 (-n) = -n := w64 ⟨by omega, by omega⟩
    rw [cmpTo_f h, hd, hnp]
    have h1 := asWS
    have h2 := asWW
    have q0 : Blk (w.alloc (.cells #[.int .i64 d] 225)) w.heap.size 225 #[.int .i64 d] := Blk.new w _ _
    have c0 := q0.cell 0
    clear q0 hd hp h hs hL hnp
    go_enter Try.func178, Try.ntmps178
    go_wp2
    go_ret
    exact Val.mk' (show Value.int .i64 (wrap64 (-n * d)) = _ from v_int V1) (by (repeat (first | exact In.refl _ | assumption | apply In.alloc | apply In.drewN | apply In.drew | (refine In.step ?_ (by assumption)))))
theorem okN_eq {a b : FlourR} {T L n : Int} (h1 : 0 ≤ n) (h2 : n ≤ a.f2) (h3 : n ≤ T) (h4 : T - n ≤ b.f2) : okN a b T L n = decide (0 ≤ n * (a.f0 - L) + (T - n) * (b.f0 - L)) := by
  unfold okN
  have e : n * (a.f0 - L) + (T - n) * (b.f0 - L) = a.f0 * n + b.f0 * (T - n) - L * T := by
    rw [Int.mul_sub, Int.mul_sub, Int.sub_mul T n L, Int.mul_comm n a.f0, Int.mul_comm (T - n) b.f0, Int.mul_comm n L, Int.mul_comm T L]; omega
  rw [e]
  rw [decide_eq_decide]
  omega
theorem okN_no {a b : FlourR} {T L n : Int} (h : n < T - b.f2 ∨ a.f2 < n ∨ T < n) : okN a b T L n = false := by
  unfold okN
  rw [decide_eq_false_iff_not]
  omega
set_option maxHeartbeats 8000000 in
set_option maxRecDepth 20000 in
theorem icheapestOf (a b : FlourR) (T L : Int) (w : World) (ha : flB a.f0 a.f1 a.f2 = true) (hb : flB b.f0 b.f1 b.f2 = true) (hT : 1 ≤ T ∧ T ≤ 100) (hL : 50 ≤ L ∧ L ≤ 500) :
    Calls Try.prog 107 #[.agg #[.int .i64 a.f0, .int .i64 a.f1, .int .i64 a.f2], .agg #[.int .i64 b.f0, .int .i64 b.f1, .int .i64 b.f2], .int .i64 T, .int .i64 L] w
      (Val (.tuple #[i64 (oN (pairO a b T L (T.toNat + 1))), i64 (oC (pairO a b T L (T.toNat + 1))), .bool (oB (pairO a b T L (T.toNat + 1)))]) w) := by
  have HOK := Lib.hid (fun n h1 h2 h3 h4 => okN_eq (a := a) (b := b) (T := T) (L := L) (n := n) h1 h2 h3 h4)
  have HNO := Lib.hid (fun n h => okN_no (a := a) (b := b) (T := T) (L := L) (n := n) h)
  have HT := Lib.hid (fun n h => pairO_t (a := a) (b := b) (T := T) (L := L) (n := n) h)
  have HF := Lib.hid (fun n h => pairO_f (a := a) (b := b) (T := T) (L := L) (n := n) h)
  have HLO := Lib.hid (fun m h => pairO_low (a := a) (b := b) (T := T) (L := L) m h)
  have HHI := Lib.hid (fun m d h => pairO_high (a := a) (b := b) (T := T) (L := L) m d h)
  have HIN := Lib.hid (fun m => pairO_in (L := L) ha hb hT.2 m)
  have HCE : Hid (∀ n, costN a b T n = a.f1 * n + b.f1 * (T - n)) := Lib.hid fun n => rfl
  obtain ⟨p1, p2, p3, p4, p5, p6⟩ := fl_in ha
  obtain ⟨r1, r2, r3, r4, r5, r6⟩ := fl_in hb
  clear ha hb
  have HOP : Hid (∀ n, pairO a b T L n = pairO a b T L n) := Lib.hid fun n => rfl
  generalize hO : pairO a b T L = O at *
  generalize hK : okN a b T L = K at *
  generalize hCc : costN a b T = Cc at *
  clear hO hK hCc HOP
  obtain ⟨a0, a1, a2⟩ := a
  obtain ⟨b0, b1, b2⟩ := b
  simp only at HOK HNO HCE p1 p2 p3 p4 p5 p6 r1 r2 r3 r4 r5 r6 ⊢
  have ka : Blk ((w.alloc (.cells #[.int .i64 a0, .int .i64 a1, .int .i64 a2] 56)).alloc (.cells #[.int .i64 b0, .int .i64 b1, .int .i64 b2] 56)) w.heap.size 56 #[.int .i64 a0, .int .i64 a1, .int .i64 a2] := (Blk.new w _ _).alloc _
  have kb : Blk ((w.alloc (.cells #[.int .i64 a0, .int .i64 a1, .int .i64 a2] 56)).alloc (.cells #[.int .i64 b0, .int .i64 b1, .int .i64 b2] 56)) (w.heap.size + 1) 56 #[.int .i64 b0, .int .i64 b1, .int .i64 b2] := by have h := Blk.new (w.alloc (.cells #[.int .i64 a0, .int .i64 a1, .int .i64 a2] 56)) 56 #[.int .i64 b0, .int .i64 b1, .int .i64 b2]; simpa using h
  have i1 : In w.heap.size w ((w.alloc (.cells #[.int .i64 a0, .int .i64 a1, .int .i64 a2] 56)).alloc (.cells #[.int .i64 b0, .int .i64 b1, .int .i64 b2] 56)) := by (repeat (first | exact In.refl _ | assumption | apply In.alloc | apply In.drewN | apply In.drew | (refine In.step ?_ (by assumption))))
  obtain ⟨lo, hlo, hlo0⟩ : ∃ lo : Nat, (lo : Int) = max 0 (T - b2) ∧ (lo : Int) ≤ T := ⟨(max 0 (T - b2)).toNat, by omega, by omega⟩
  have HLO0 : Hid (O lo = none) := Lib.hid (HLO.out lo fun n hn => HNO.out n (.inl (by omega)))
  clear HLO
  obtain ⟨M, hM⟩ : ∃ M : Nat, T = (M : Int) := ⟨T.toNat, by omega⟩
  have HM := Lib.hid hM
  have htn : T.toNat = M := by omega
  rw [htn]
  clear htn hM
  by_cases hbb : 0 < T - b2
  · skip
    have c0 := ka.cell 0
    have c1 := ka.cell 1
    have c2 := ka.cell 2
    have d0 := kb.cell 0
    have d1 := kb.cell 1
    have d2 := kb.cell 2
    go_enter Try.func107, Try.ntmps107
    go_wp2_with fail
    generalize ((w.alloc (.cells #[.int .i64 a0, .int .i64 a1, .int .i64 a2] 56)).alloc (.cells #[.int .i64 b0, .int .i64 b1, .int .i64 b2] 56)) = wA at *
    clear ka kb
    have HL0 : Hid ((lo : Int) = T - b2) := Lib.hid (by omega)
    rw [← HL0.out]
    have HBB := Lib.hid hbb
    clear hlo hbb
    go_loopw [11, 12, 13, 14] (fun x y z i wr => ∃ n : Nat, lo ≤ n ∧ n ≤ M + 1 ∧ i = .int .i64 n ∧ x = .int .i64 (oN (O n)) ∧ y = .int .i64 (oC (O n)) ∧ z = .bool (oB (O n)) ∧ (In w.heap.size w wr ∧ wr.cell? ⟨w.heap.size, 0, none⟩ = some (.int .i64 a0) ∧ wr.cell? ⟨w.heap.size, 1, none⟩ = some (.int .i64 a1) ∧ wr.cell? ⟨w.heap.size, 2, none⟩ = some (.int .i64 a2) ∧ wr.cell? ⟨w.heap.size + 1, 0, none⟩ = some (.int .i64 b0) ∧ wr.cell? ⟨w.heap.size + 1, 1, none⟩ = some (.int .i64 b1) ∧ wr.cell? ⟨w.heap.size + 1, 2, none⟩ = some (.int .i64 b2))) (fun _ _ _ i _ => M + 1 - (intOf i).toNat)
    case atStart => exact ⟨lo, Nat.le_refl _, by have := HM.out; omega, rfl, by rw [HLO0.out]; rfl, by rw [HLO0.out]; rfl, by rw [HLO0.out]; rfl, i1, c0, c1, c2, d0, d1, d2⟩
    case round =>
      obtain ⟨n, hn0, hn1, rfl, rfl, rfl, rfl, f1_0, f1_1, f1_2, f1_3, f1_4, f1_5, f1_6⟩ := hrel
      clear i1 c0 c1 c2 d0 d1 d2
      by_cases hin : (n : Int) ≤ T ∧ (n : Int) ≤ a2
      · skip
        obtain ⟨hnT, hna⟩ := hin
        have hnb : T - (n : Int) ≤ b2 := by have := HL0.out; have := HBB.out; omega
        have hok := HOK.out n (by omega) hna hnT hnb
        obtain ⟨s1, hs1⟩ : ∃ s, (n : Int) * (a0 - L) = s := ⟨_, rfl⟩
        obtain ⟨s2, hs2⟩ : ∃ s, (T - (n : Int)) * (b0 - L) = s := ⟨_, rfl⟩
        have hs1b : -45000 ≤ s1 ∧ s1 ≤ 45000 := by
          by_cases hg : 0 ≤ a0 - L
          · have := mul_in (a := (n : Int)) (b := a0 - L) (A := 100) (B := 450) (by omega) (by omega) hg (by omega); omega
          · have := mul_in (a := (n : Int)) (b := L - a0) (A := 100) (B := 450) (by omega) (by omega) (by omega) (by omega)
            have e : (n : Int) * (a0 - L) = - ((n : Int) * (L - a0)) := by rw [← Int.mul_neg]; congr 1; omega
            omega
        have hs2b : -45000 ≤ s2 ∧ s2 ≤ 45000 := by
          by_cases hg : 0 ≤ b0 - L
          · have := mul_in (a := T - (n : Int)) (b := b0 - L) (A := 100) (B := 450) (by omega) (by omega) hg (by omega); omega
          · have := mul_in (a := T - (n : Int)) (b := L - b0) (A := 100) (B := 450) (by omega) (by omega) (by omega) (by omega)
            have e : (T - (n : Int)) * (b0 - L) = - ((T - (n : Int)) * (L - b0)) := by rw [← Int.mul_neg]; congr 1; omega
            omega
        have HC1 := Lib.hid (fun W => icomparedTo L a0 a1 a2 W hL ⟨p1, p2⟩)
        have HC2 := Lib.hid (fun W => icomparedTo L b0 b1 b2 W hL ⟨r1, r2⟩)
        have HS1 := Lib.hid (fun W => isurplusOf L a0 n W hL ⟨p1, p2⟩ ⟨by omega, by omega⟩)
        have HS2 := Lib.hid (fun W => isurplusOf L b0 (T - n) W hL ⟨r1, r2⟩ ⟨by omega, by omega⟩)
        rw [hs1] at HS1 hok
        rw [hs2] at HS2 hok
        clear hs1 hs2
        obtain ⟨q1, hq1⟩ : ∃ q, (n : Int) * a1 = q := ⟨_, rfl⟩
        obtain ⟨q2, hq2⟩ : ∃ q, (T - (n : Int)) * b1 = q := ⟨_, rfl⟩
        have hq1b := mul_in (a := (n : Int)) (b := a1) (A := 100) (B := 100) (by omega) (by omega) (by omega) p4
        have hq2b := mul_in (a := T - (n : Int)) (b := b1) (A := 100) (B := 100) (by omega) (by omega) (by omega) r4
        have hce := HCE.out n
        rw [Int.mul_comm a1, Int.mul_comm b1, hq1, hq2] at hce
        rw [hq1] at hq1b
        rw [hq2] at hq2b
        have HCC := Lib.hid hce
        have HQ1 := Lib.hid hq1
        have HQ2 := Lib.hid hq2
        clear hce hq1 hq2
        have hin9 := HIN.out n
        have hn9 : (n : Int) ≤ 100 := by omega
        have G1 : IntKind.i64.wrap (T - (n : Int)) = T - n := by rw [IntWalk.i64_in _ (by omega)]
        have G2 : IntKind.i64.wrap (s1 + s2) = s1 + s2 := by rw [IntWalk.i64_in _ (by omega)]
        have hmin : (n : Int) ≤ min T a2 := by omega
        by_cases hTa : a2 < T
        · skip
          go_wp2
          have HCL := Lib.hid (show ∀ W', In w.heap.size w W' ∧ W'.cell? ⟨w.heap.size, 0, none⟩ = some (.int .i64 a0) ∧ W'.cell? ⟨w.heap.size, 1, none⟩ = some (.int .i64 a1) ∧ W'.cell? ⟨w.heap.size, 2, none⟩ = some (.int .i64 a2) ∧ W'.cell? ⟨w.heap.size + 1, 0, none⟩ = some (.int .i64 b0) ∧ W'.cell? ⟨w.heap.size + 1, 1, none⟩ = some (.int .i64 b1) ∧ W'.cell? ⟨w.heap.size + 1, 2, none⟩ = some (.int .i64 b2) → ∀ W2, Below W'.heap.size W' W2 → In w.heap.size w W2 ∧ W2.cell? ⟨w.heap.size, 0, none⟩ = some (.int .i64 a0) ∧ W2.cell? ⟨w.heap.size, 1, none⟩ = some (.int .i64 a1) ∧ W2.cell? ⟨w.heap.size, 2, none⟩ = some (.int .i64 a2) ∧ W2.cell? ⟨w.heap.size + 1, 0, none⟩ = some (.int .i64 b0) ∧ W2.cell? ⟨w.heap.size + 1, 1, none⟩ = some (.int .i64 b1) ∧ W2.cell? ⟨w.heap.size + 1, 2, none⟩ = some (.int .i64 b2) from fun W' h W2 hb => by
            obtain ⟨g0, g1, g2, g3, g4, g5, g6⟩ := h
            exact ⟨g0.step hb, cell_in g1 ⟨hb, hb.size⟩, cell_in g2 ⟨hb, hb.size⟩, cell_in g3 ⟨hb, hb.size⟩, cell_in g4 ⟨hb, hb.size⟩, cell_in g5 ⟨hb, hb.size⟩, cell_in g6 ⟨hb, hb.size⟩⟩)
          refine wp_region_S (C := (fun w' => In w.heap.size w w' ∧ w'.cell? ⟨w.heap.size, 0, none⟩ = some (.int .i64 a0) ∧ w'.cell? ⟨w.heap.size, 1, none⟩ = some (.int .i64 a1) ∧ w'.cell? ⟨w.heap.size, 2, none⟩ = some (.int .i64 a2) ∧ w'.cell? ⟨w.heap.size + 1, 0, none⟩ = some (.int .i64 b0) ∧ w'.cell? ⟨w.heap.size + 1, 1, none⟩ = some (.int .i64 b1) ∧ w'.cell? ⟨w.heap.size + 1, 2, none⟩ = some (.int .i64 b2))) (by kernel_rfl) (by kernel_rfl) ?_ ?_
          · exact ⟨f1_0.drew, f1_1, f1_2, f1_3, f1_4, f1_5, f1_6⟩
          repeat (first | go_big_quiet_skip | (go_big_quiet_want; first | (refine quiet_ex ?_; apply Exists.intro; refine ⟨fun W hW => ?_, ?_⟩; (· (obtain ⟨f2_0, f2_1, f2_2, f2_3, f2_4, f2_5, f2_6⟩ := hW; go_simp; (first | done | with_reducible rfl | rfl))); simp only [Act.put, List.setIfInBounds_toArray, List.set_cons_zero, List.set_cons_succ]; go_big_quiet_on) | (refine quiet_ex ?_; apply Exists.intro; refine ⟨fun W hW => ?_, ?_⟩; (· (go_simp; first | (go_at_call 179; (with_reducible refine (HC1.out _).mono ?_); rintro e w2 ⟨rfl, hb2⟩; exact ⟨rfl, HCL.out _ hW _ hb2⟩) | (go_at_call 179; (with_reducible refine (HC2.out _).mono ?_); rintro e w2 ⟨rfl, hb2⟩; exact ⟨rfl, HCL.out _ hW _ hb2⟩) | (go_at_call 178; (with_reducible refine (HS1.out _).mono ?_); rintro e w2 ⟨rfl, hb2⟩; exact ⟨rfl, HCL.out _ hW _ hb2⟩) | (go_at_call 178; (with_reducible refine (HS2.out _).mono ?_); rintro e w2 ⟨rfl, hb2⟩; exact ⟨rfl, HCL.out _ hW _ hb2⟩))); simp only [Act.put, List.setIfInBounds_toArray, List.set_cons_zero, List.set_cons_succ]; go_big_quiet_on)))
          refine wpQuiet_nil ?_
          rintro w' ⟨f2_0, f2_1, f2_2, f2_3, f2_4, f2_5, f2_6⟩
          clear f1_0 f1_1 f1_2 f1_3 f1_4 f1_5 f1_6
          obtain ⟨wb, hq9⟩ : ∃ q, q = w' := ⟨_, rfl⟩
          subst hq9
          clear G1 G2 HCL HC1 HC2 HS1 HS2
          have G3 : wrap64 ((n : Int) * a1) = q1 := by rw [HQ1.out, w64 ⟨by omega, by omega⟩]
          have G4 : wrap64 ((T - (n : Int)) * b1) = q2 := by rw [HQ2.out, w64 ⟨by omega, by omega⟩]
          by_cases hsp : 0 ≤ s1 + s2
          · skip
            have HO9 := Lib.hid (HT.out n (by rw [hok]; exact decide_eq_true hsp))
            rw [HCC.out] at HO9
            clear hok
            rcases hon : O n with _ | ⟨m9, d9⟩
            · skip
              rw [hon] at HO9
              have HO8 : Hid (O (n + 1) = some ((n : Int), q1 + q2)) := Lib.hid HO9.out
              clear HO9 hin9
              clear hon
              rw [show oN none = 0 from rfl, show oC none = 0 from rfl, show oB none = false from rfl]
              go_wp2
              go_roundw
              case rel => exact ⟨n + 1, by omega, by have := HM.out; omega, by go_num, by rw [HO8.out]; rfl, by rw [HO8.out]; rfl, by rw [HO8.out]; rfl, f2_0, f2_1, f2_2, f2_3, f2_4, f2_5, f2_6⟩
              case measure => have := HM.out; simp [intOf]; omega
            · skip
              rw [hon] at HO9
              obtain ⟨g1, g2, g3, g4⟩ := hin9 m9 d9 hon
              clear hin9 hon
              rw [show oN (some (m9, d9)) = m9 from rfl, show oC (some (m9, d9)) = d9 from rfl, show oB (some (m9, d9)) = true from rfl]
              by_cases hlt : q1 + q2 < d9
              · skip
                have HO8 : Hid (O (n + 1) = some ((n : Int), q1 + q2)) := Lib.hid (HO9.out.trans (if_pos hlt))
                clear HO9
                go_wp2
                go_roundw
                case rel => exact ⟨n + 1, by omega, by have := HM.out; omega, by go_num, by rw [HO8.out]; rfl, by rw [HO8.out]; rfl, by rw [HO8.out]; rfl, f2_0, f2_1, f2_2, f2_3, f2_4, f2_5, f2_6⟩
                case measure => have := HM.out; simp [intOf]; omega
              · skip
                have HO8 : Hid (O (n + 1) = some (m9, d9)) := Lib.hid (HO9.out.trans (if_neg hlt))
                clear HO9
                go_wp2
                go_roundw
                case rel => exact ⟨n + 1, by omega, by have := HM.out; omega, by go_num, by rw [HO8.out]; rfl, by rw [HO8.out]; rfl, by rw [HO8.out]; rfl, f2_0, f2_1, f2_2, f2_3, f2_4, f2_5, f2_6⟩
                case measure => have := HM.out; simp [intOf]; omega
          · skip
            have HO8 := Lib.hid (HF.out n (by rw [hok]; exact decide_eq_false hsp))
            clear hok
            obtain ⟨v1, hv1⟩ : ∃ v, oN (O n) = v := ⟨_, rfl⟩
            obtain ⟨v2, hv2⟩ : ∃ v, oC (O n) = v := ⟨_, rfl⟩
            obtain ⟨v3, hv3⟩ : ∃ v, oB (O n) = v := ⟨_, rfl⟩
            have HV := Lib.hid (And.intro hv1 (And.intro hv2 hv3))
            rw [hv1, hv2, hv3]
            clear hv1 hv2 hv3 hin9
            go_wp2
            go_roundw
            case rel => exact ⟨n + 1, by omega, by have := HM.out; omega, by go_num, by rw [HO8.out, HV.out.1], by rw [HO8.out, HV.out.2.1], by rw [HO8.out, HV.out.2.2], f2_0, f2_1, f2_2, f2_3, f2_4, f2_5, f2_6⟩
            case measure => have := HM.out; simp [intOf]; omega
        · skip
          go_wp2
          have HCL := Lib.hid (show ∀ W', In w.heap.size w W' ∧ W'.cell? ⟨w.heap.size, 0, none⟩ = some (.int .i64 a0) ∧ W'.cell? ⟨w.heap.size, 1, none⟩ = some (.int .i64 a1) ∧ W'.cell? ⟨w.heap.size, 2, none⟩ = some (.int .i64 a2) ∧ W'.cell? ⟨w.heap.size + 1, 0, none⟩ = some (.int .i64 b0) ∧ W'.cell? ⟨w.heap.size + 1, 1, none⟩ = some (.int .i64 b1) ∧ W'.cell? ⟨w.heap.size + 1, 2, none⟩ = some (.int .i64 b2) → ∀ W2, Below W'.heap.size W' W2 → In w.heap.size w W2 ∧ W2.cell? ⟨w.heap.size, 0, none⟩ = some (.int .i64 a0) ∧ W2.cell? ⟨w.heap.size, 1, none⟩ = some (.int .i64 a1) ∧ W2.cell? ⟨w.heap.size, 2, none⟩ = some (.int .i64 a2) ∧ W2.cell? ⟨w.heap.size + 1, 0, none⟩ = some (.int .i64 b0) ∧ W2.cell? ⟨w.heap.size + 1, 1, none⟩ = some (.int .i64 b1) ∧ W2.cell? ⟨w.heap.size + 1, 2, none⟩ = some (.int .i64 b2) from fun W' h W2 hb => by
            obtain ⟨g0, g1, g2, g3, g4, g5, g6⟩ := h
            exact ⟨g0.step hb, cell_in g1 ⟨hb, hb.size⟩, cell_in g2 ⟨hb, hb.size⟩, cell_in g3 ⟨hb, hb.size⟩, cell_in g4 ⟨hb, hb.size⟩, cell_in g5 ⟨hb, hb.size⟩, cell_in g6 ⟨hb, hb.size⟩⟩)
          refine wp_region_S (C := (fun w' => In w.heap.size w w' ∧ w'.cell? ⟨w.heap.size, 0, none⟩ = some (.int .i64 a0) ∧ w'.cell? ⟨w.heap.size, 1, none⟩ = some (.int .i64 a1) ∧ w'.cell? ⟨w.heap.size, 2, none⟩ = some (.int .i64 a2) ∧ w'.cell? ⟨w.heap.size + 1, 0, none⟩ = some (.int .i64 b0) ∧ w'.cell? ⟨w.heap.size + 1, 1, none⟩ = some (.int .i64 b1) ∧ w'.cell? ⟨w.heap.size + 1, 2, none⟩ = some (.int .i64 b2))) (by kernel_rfl) (by kernel_rfl) ?_ ?_
          · exact ⟨f1_0.drew, f1_1, f1_2, f1_3, f1_4, f1_5, f1_6⟩
          repeat (first | go_big_quiet_skip | (go_big_quiet_want; first | (refine quiet_ex ?_; apply Exists.intro; refine ⟨fun W hW => ?_, ?_⟩; (· (obtain ⟨f2_0, f2_1, f2_2, f2_3, f2_4, f2_5, f2_6⟩ := hW; go_simp; (first | done | with_reducible rfl | rfl))); simp only [Act.put, List.setIfInBounds_toArray, List.set_cons_zero, List.set_cons_succ]; go_big_quiet_on) | (refine quiet_ex ?_; apply Exists.intro; refine ⟨fun W hW => ?_, ?_⟩; (· (go_simp; first | (go_at_call 179; (with_reducible refine (HC1.out _).mono ?_); rintro e w2 ⟨rfl, hb2⟩; exact ⟨rfl, HCL.out _ hW _ hb2⟩) | (go_at_call 179; (with_reducible refine (HC2.out _).mono ?_); rintro e w2 ⟨rfl, hb2⟩; exact ⟨rfl, HCL.out _ hW _ hb2⟩) | (go_at_call 178; (with_reducible refine (HS1.out _).mono ?_); rintro e w2 ⟨rfl, hb2⟩; exact ⟨rfl, HCL.out _ hW _ hb2⟩) | (go_at_call 178; (with_reducible refine (HS2.out _).mono ?_); rintro e w2 ⟨rfl, hb2⟩; exact ⟨rfl, HCL.out _ hW _ hb2⟩))); simp only [Act.put, List.setIfInBounds_toArray, List.set_cons_zero, List.set_cons_succ]; go_big_quiet_on)))
          refine wpQuiet_nil ?_
          rintro w' ⟨f2_0, f2_1, f2_2, f2_3, f2_4, f2_5, f2_6⟩
          clear f1_0 f1_1 f1_2 f1_3 f1_4 f1_5 f1_6
          obtain ⟨wb, hq9⟩ : ∃ q, q = w' := ⟨_, rfl⟩
          subst hq9
          clear G1 G2 HCL HC1 HC2 HS1 HS2
          have G3 : wrap64 ((n : Int) * a1) = q1 := by rw [HQ1.out, w64 ⟨by omega, by omega⟩]
          have G4 : wrap64 ((T - (n : Int)) * b1) = q2 := by rw [HQ2.out, w64 ⟨by omega, by omega⟩]
          by_cases hsp : 0 ≤ s1 + s2
          · skip
            have HO9 := Lib.hid (HT.out n (by rw [hok]; exact decide_eq_true hsp))
            rw [HCC.out] at HO9
            clear hok
            rcases hon : O n with _ | ⟨m9, d9⟩
            · skip
              rw [hon] at HO9
              have HO8 : Hid (O (n + 1) = some ((n : Int), q1 + q2)) := Lib.hid HO9.out
              clear HO9 hin9
              clear hon
              rw [show oN none = 0 from rfl, show oC none = 0 from rfl, show oB none = false from rfl]
              go_wp2
              go_roundw
              case rel => exact ⟨n + 1, by omega, by have := HM.out; omega, by go_num, by rw [HO8.out]; rfl, by rw [HO8.out]; rfl, by rw [HO8.out]; rfl, f2_0, f2_1, f2_2, f2_3, f2_4, f2_5, f2_6⟩
              case measure => have := HM.out; simp [intOf]; omega
            · skip
              rw [hon] at HO9
              obtain ⟨g1, g2, g3, g4⟩ := hin9 m9 d9 hon
              clear hin9 hon
              rw [show oN (some (m9, d9)) = m9 from rfl, show oC (some (m9, d9)) = d9 from rfl, show oB (some (m9, d9)) = true from rfl]
              by_cases hlt : q1 + q2 < d9
              · skip
                have HO8 : Hid (O (n + 1) = some ((n : Int), q1 + q2)) := Lib.hid (HO9.out.trans (if_pos hlt))
                clear HO9
                go_wp2
                go_roundw
                case rel => exact ⟨n + 1, by omega, by have := HM.out; omega, by go_num, by rw [HO8.out]; rfl, by rw [HO8.out]; rfl, by rw [HO8.out]; rfl, f2_0, f2_1, f2_2, f2_3, f2_4, f2_5, f2_6⟩
                case measure => have := HM.out; simp [intOf]; omega
              · skip
                have HO8 : Hid (O (n + 1) = some (m9, d9)) := Lib.hid (HO9.out.trans (if_neg hlt))
                clear HO9
                go_wp2
                go_roundw
                case rel => exact ⟨n + 1, by omega, by have := HM.out; omega, by go_num, by rw [HO8.out]; rfl, by rw [HO8.out]; rfl, by rw [HO8.out]; rfl, f2_0, f2_1, f2_2, f2_3, f2_4, f2_5, f2_6⟩
                case measure => have := HM.out; simp [intOf]; omega
          · skip
            have HO8 := Lib.hid (HF.out n (by rw [hok]; exact decide_eq_false hsp))
            clear hok
            obtain ⟨v1, hv1⟩ : ∃ v, oN (O n) = v := ⟨_, rfl⟩
            obtain ⟨v2, hv2⟩ : ∃ v, oC (O n) = v := ⟨_, rfl⟩
            obtain ⟨v3, hv3⟩ : ∃ v, oB (O n) = v := ⟨_, rfl⟩
            have HV := Lib.hid (And.intro hv1 (And.intro hv2 hv3))
            rw [hv1, hv2, hv3]
            clear hv1 hv2 hv3 hin9
            go_wp2
            go_roundw
            case rel => exact ⟨n + 1, by omega, by have := HM.out; omega, by go_num, by rw [HO8.out, HV.out.1], by rw [HO8.out, HV.out.2.1], by rw [HO8.out, HV.out.2.2], f2_0, f2_1, f2_2, f2_3, f2_4, f2_5, f2_6⟩
            case measure => have := HM.out; simp [intOf]; omega
      · skip
        have HO8 : Hid (O (M + 1) = O n) := Lib.hid (by
          have h := HHI.out n (M + 1 - n) fun q hq => HNO.out q (by have := HM.out; omega)
          rw [show n + (M + 1 - n) = M + 1 by omega] at h
          exact h)
        have hmin : ¬ (n : Int) ≤ min T a2 := by omega
        have hgt : (min T a2) < (n : Int) := by omega
        have hn9 : (n : Int) ≤ 101 := by have := HM.out; omega
        generalize O n = on at *
        clear hin
        by_cases hTa : a2 < T
        · skip
          have hx : a2 < (n : Int) := by omega
          clear hmin hgt
          go_wp2
          exact bodyPost_ret (v := .tuple #[i64 (oN on), i64 (oC on), .bool (oB on)]) (by simp [results, Try.results107, go_sem]) rfl (Val.mk' (by rw [HO8.out]) f1_0)
        · skip
          have hx : T < (n : Int) := by omega
          clear hmin hgt
          go_wp2
          exact bodyPost_ret (v := .tuple #[i64 (oN on), i64 (oC on), .bool (oB on)]) (by simp [results, Try.results107, go_sem]) rfl (Val.mk' (by rw [HO8.out]) f1_0)
  · skip
    have c0 := ka.cell 0
    have c1 := ka.cell 1
    have c2 := ka.cell 2
    have d0 := kb.cell 0
    have d1 := kb.cell 1
    have d2 := kb.cell 2
    go_enter Try.func107, Try.ntmps107
    go_wp2_with fail
    generalize ((w.alloc (.cells #[.int .i64 a0, .int .i64 a1, .int .i64 a2] 56)).alloc (.cells #[.int .i64 b0, .int .i64 b1, .int .i64 b2] 56)) = wA at *
    clear ka kb
    have HL0 : Hid ((lo : Int) = 0) := Lib.hid (by omega)
    obtain rfl : lo = 0 := by have := HL0.out; omega
    have HBB := Lib.hid hbb
    clear hlo hbb
    go_loopw [11, 12, 13, 14] (fun x y z i wr => ∃ n : Nat, 0 ≤ n ∧ n ≤ M + 1 ∧ i = .int .i64 n ∧ x = .int .i64 (oN (O n)) ∧ y = .int .i64 (oC (O n)) ∧ z = .bool (oB (O n)) ∧ (In w.heap.size w wr ∧ wr.cell? ⟨w.heap.size, 0, none⟩ = some (.int .i64 a0) ∧ wr.cell? ⟨w.heap.size, 1, none⟩ = some (.int .i64 a1) ∧ wr.cell? ⟨w.heap.size, 2, none⟩ = some (.int .i64 a2) ∧ wr.cell? ⟨w.heap.size + 1, 0, none⟩ = some (.int .i64 b0) ∧ wr.cell? ⟨w.heap.size + 1, 1, none⟩ = some (.int .i64 b1) ∧ wr.cell? ⟨w.heap.size + 1, 2, none⟩ = some (.int .i64 b2))) (fun _ _ _ i _ => M + 1 - (intOf i).toNat)
    case atStart => exact ⟨0, Nat.le_refl _, by have := HM.out; omega, rfl, by rw [HLO0.out]; rfl, by rw [HLO0.out]; rfl, by rw [HLO0.out]; rfl, i1, c0, c1, c2, d0, d1, d2⟩
    case round =>
      obtain ⟨n, hn0, hn1, rfl, rfl, rfl, rfl, f1_0, f1_1, f1_2, f1_3, f1_4, f1_5, f1_6⟩ := hrel
      clear i1 c0 c1 c2 d0 d1 d2
      by_cases hin : (n : Int) ≤ T ∧ (n : Int) ≤ a2
      · skip
        obtain ⟨hnT, hna⟩ := hin
        have hnb : T - (n : Int) ≤ b2 := by have := HL0.out; have := HBB.out; omega
        have hok := HOK.out n (by omega) hna hnT hnb
        obtain ⟨s1, hs1⟩ : ∃ s, (n : Int) * (a0 - L) = s := ⟨_, rfl⟩
        obtain ⟨s2, hs2⟩ : ∃ s, (T - (n : Int)) * (b0 - L) = s := ⟨_, rfl⟩
        have hs1b : -45000 ≤ s1 ∧ s1 ≤ 45000 := by
          by_cases hg : 0 ≤ a0 - L
          · have := mul_in (a := (n : Int)) (b := a0 - L) (A := 100) (B := 450) (by omega) (by omega) hg (by omega); omega
          · have := mul_in (a := (n : Int)) (b := L - a0) (A := 100) (B := 450) (by omega) (by omega) (by omega) (by omega)
            have e : (n : Int) * (a0 - L) = - ((n : Int) * (L - a0)) := by rw [← Int.mul_neg]; congr 1; omega
            omega
        have hs2b : -45000 ≤ s2 ∧ s2 ≤ 45000 := by
          by_cases hg : 0 ≤ b0 - L
          · have := mul_in (a := T - (n : Int)) (b := b0 - L) (A := 100) (B := 450) (by omega) (by omega) hg (by omega); omega
          · have := mul_in (a := T - (n : Int)) (b := L - b0) (A := 100) (B := 450) (by omega) (by omega) (by omega) (by omega)
            have e : (T - (n : Int)) * (b0 - L) = - ((T - (n : Int)) * (L - b0)) := by rw [← Int.mul_neg]; congr 1; omega
            omega
        have HC1 := Lib.hid (fun W => icomparedTo L a0 a1 a2 W hL ⟨p1, p2⟩)
        have HC2 := Lib.hid (fun W => icomparedTo L b0 b1 b2 W hL ⟨r1, r2⟩)
        have HS1 := Lib.hid (fun W => isurplusOf L a0 n W hL ⟨p1, p2⟩ ⟨by omega, by omega⟩)
        have HS2 := Lib.hid (fun W => isurplusOf L b0 (T - n) W hL ⟨r1, r2⟩ ⟨by omega, by omega⟩)
        rw [hs1] at HS1 hok
        rw [hs2] at HS2 hok
        clear hs1 hs2
        obtain ⟨q1, hq1⟩ : ∃ q, (n : Int) * a1 = q := ⟨_, rfl⟩
        obtain ⟨q2, hq2⟩ : ∃ q, (T - (n : Int)) * b1 = q := ⟨_, rfl⟩
        have hq1b := mul_in (a := (n : Int)) (b := a1) (A := 100) (B := 100) (by omega) (by omega) (by omega) p4
        have hq2b := mul_in (a := T - (n : Int)) (b := b1) (A := 100) (B := 100) (by omega) (by omega) (by omega) r4
        have hce := HCE.out n
        rw [Int.mul_comm a1, Int.mul_comm b1, hq1, hq2] at hce
        rw [hq1] at hq1b
        rw [hq2] at hq2b
        have HCC := Lib.hid hce
        have HQ1 := Lib.hid hq1
        have HQ2 := Lib.hid hq2
        clear hce hq1 hq2
        have hin9 := HIN.out n
        have hn9 : (n : Int) ≤ 100 := by omega
        have G1 : IntKind.i64.wrap (T - (n : Int)) = T - n := by rw [IntWalk.i64_in _ (by omega)]
        have G2 : IntKind.i64.wrap (s1 + s2) = s1 + s2 := by rw [IntWalk.i64_in _ (by omega)]
        have hmin : (n : Int) ≤ min T a2 := by omega
        by_cases hTa : a2 < T
        · skip
          go_wp2
          have HCL := Lib.hid (show ∀ W', In w.heap.size w W' ∧ W'.cell? ⟨w.heap.size, 0, none⟩ = some (.int .i64 a0) ∧ W'.cell? ⟨w.heap.size, 1, none⟩ = some (.int .i64 a1) ∧ W'.cell? ⟨w.heap.size, 2, none⟩ = some (.int .i64 a2) ∧ W'.cell? ⟨w.heap.size + 1, 0, none⟩ = some (.int .i64 b0) ∧ W'.cell? ⟨w.heap.size + 1, 1, none⟩ = some (.int .i64 b1) ∧ W'.cell? ⟨w.heap.size + 1, 2, none⟩ = some (.int .i64 b2) → ∀ W2, Below W'.heap.size W' W2 → In w.heap.size w W2 ∧ W2.cell? ⟨w.heap.size, 0, none⟩ = some (.int .i64 a0) ∧ W2.cell? ⟨w.heap.size, 1, none⟩ = some (.int .i64 a1) ∧ W2.cell? ⟨w.heap.size, 2, none⟩ = some (.int .i64 a2) ∧ W2.cell? ⟨w.heap.size + 1, 0, none⟩ = some (.int .i64 b0) ∧ W2.cell? ⟨w.heap.size + 1, 1, none⟩ = some (.int .i64 b1) ∧ W2.cell? ⟨w.heap.size + 1, 2, none⟩ = some (.int .i64 b2) from fun W' h W2 hb => by
            obtain ⟨g0, g1, g2, g3, g4, g5, g6⟩ := h
            exact ⟨g0.step hb, cell_in g1 ⟨hb, hb.size⟩, cell_in g2 ⟨hb, hb.size⟩, cell_in g3 ⟨hb, hb.size⟩, cell_in g4 ⟨hb, hb.size⟩, cell_in g5 ⟨hb, hb.size⟩, cell_in g6 ⟨hb, hb.size⟩⟩)
          refine wp_region_S (C := (fun w' => In w.heap.size w w' ∧ w'.cell? ⟨w.heap.size, 0, none⟩ = some (.int .i64 a0) ∧ w'.cell? ⟨w.heap.size, 1, none⟩ = some (.int .i64 a1) ∧ w'.cell? ⟨w.heap.size, 2, none⟩ = some (.int .i64 a2) ∧ w'.cell? ⟨w.heap.size + 1, 0, none⟩ = some (.int .i64 b0) ∧ w'.cell? ⟨w.heap.size + 1, 1, none⟩ = some (.int .i64 b1) ∧ w'.cell? ⟨w.heap.size + 1, 2, none⟩ = some (.int .i64 b2))) (by kernel_rfl) (by kernel_rfl) ?_ ?_
          · exact ⟨f1_0.drew, f1_1, f1_2, f1_3, f1_4, f1_5, f1_6⟩
          repeat (first | go_big_quiet_skip | (go_big_quiet_want; first | (refine quiet_ex ?_; apply Exists.intro; refine ⟨fun W hW => ?_, ?_⟩; (· (obtain ⟨f2_0, f2_1, f2_2, f2_3, f2_4, f2_5, f2_6⟩ := hW; go_simp; (first | done | with_reducible rfl | rfl))); simp only [Act.put, List.setIfInBounds_toArray, List.set_cons_zero, List.set_cons_succ]; go_big_quiet_on) | (refine quiet_ex ?_; apply Exists.intro; refine ⟨fun W hW => ?_, ?_⟩; (· (go_simp; first | (go_at_call 179; (with_reducible refine (HC1.out _).mono ?_); rintro e w2 ⟨rfl, hb2⟩; exact ⟨rfl, HCL.out _ hW _ hb2⟩) | (go_at_call 179; (with_reducible refine (HC2.out _).mono ?_); rintro e w2 ⟨rfl, hb2⟩; exact ⟨rfl, HCL.out _ hW _ hb2⟩) | (go_at_call 178; (with_reducible refine (HS1.out _).mono ?_); rintro e w2 ⟨rfl, hb2⟩; exact ⟨rfl, HCL.out _ hW _ hb2⟩) | (go_at_call 178; (with_reducible refine (HS2.out _).mono ?_); rintro e w2 ⟨rfl, hb2⟩; exact ⟨rfl, HCL.out _ hW _ hb2⟩))); simp only [Act.put, List.setIfInBounds_toArray, List.set_cons_zero, List.set_cons_succ]; go_big_quiet_on)))
          refine wpQuiet_nil ?_
          rintro w' ⟨f2_0, f2_1, f2_2, f2_3, f2_4, f2_5, f2_6⟩
          clear f1_0 f1_1 f1_2 f1_3 f1_4 f1_5 f1_6
          obtain ⟨wb, hq9⟩ : ∃ q, q = w' := ⟨_, rfl⟩
          subst hq9
          clear G1 G2 HCL HC1 HC2 HS1 HS2
          have G3 : wrap64 ((n : Int) * a1) = q1 := by rw [HQ1.out, w64 ⟨by omega, by omega⟩]
          have G4 : wrap64 ((T - (n : Int)) * b1) = q2 := by rw [HQ2.out, w64 ⟨by omega, by omega⟩]
          by_cases hsp : 0 ≤ s1 + s2
          · skip
            have HO9 := Lib.hid (HT.out n (by rw [hok]; exact decide_eq_true hsp))
            rw [HCC.out] at HO9
            clear hok
            rcases hon : O n with _ | ⟨m9, d9⟩
            · skip
              rw [hon] at HO9
              have HO8 : Hid (O (n + 1) = some ((n : Int), q1 + q2)) := Lib.hid HO9.out
              clear HO9 hin9
              clear hon
              rw [show oN none = 0 from rfl, show oC none = 0 from rfl, show oB none = false from rfl]
              go_wp2
              go_roundw
              case rel => exact ⟨n + 1, by omega, by have := HM.out; omega, by go_num, by rw [HO8.out]; rfl, by rw [HO8.out]; rfl, by rw [HO8.out]; rfl, f2_0, f2_1, f2_2, f2_3, f2_4, f2_5, f2_6⟩
              case measure => have := HM.out; simp [intOf]; omega
            · skip
              rw [hon] at HO9
              obtain ⟨g1, g2, g3, g4⟩ := hin9 m9 d9 hon
              clear hin9 hon
              rw [show oN (some (m9, d9)) = m9 from rfl, show oC (some (m9, d9)) = d9 from rfl, show oB (some (m9, d9)) = true from rfl]
              by_cases hlt : q1 + q2 < d9
              · skip
                have HO8 : Hid (O (n + 1) = some ((n : Int), q1 + q2)) := Lib.hid (HO9.out.trans (if_pos hlt))
                clear HO9
                go_wp2
                go_roundw
                case rel => exact ⟨n + 1, by omega, by have := HM.out; omega, by go_num, by rw [HO8.out]; rfl, by rw [HO8.out]; rfl, by rw [HO8.out]; rfl, f2_0, f2_1, f2_2, f2_3, f2_4, f2_5, f2_6⟩
                case measure => have := HM.out; simp [intOf]; omega
              · skip
                have HO8 : Hid (O (n + 1) = some (m9, d9)) := Lib.hid (HO9.out.trans (if_neg hlt))
                clear HO9
                go_wp2
                go_roundw
                case rel => exact ⟨n + 1, by omega, by have := HM.out; omega, by go_num, by rw [HO8.out]; rfl, by rw [HO8.out]; rfl, by rw [HO8.out]; rfl, f2_0, f2_1, f2_2, f2_3, f2_4, f2_5, f2_6⟩
                case measure => have := HM.out; simp [intOf]; omega
          · skip
            have HO8 := Lib.hid (HF.out n (by rw [hok]; exact decide_eq_false hsp))
            clear hok
            obtain ⟨v1, hv1⟩ : ∃ v, oN (O n) = v := ⟨_, rfl⟩
            obtain ⟨v2, hv2⟩ : ∃ v, oC (O n) = v := ⟨_, rfl⟩
            obtain ⟨v3, hv3⟩ : ∃ v, oB (O n) = v := ⟨_, rfl⟩
            have HV := Lib.hid (And.intro hv1 (And.intro hv2 hv3))
            rw [hv1, hv2, hv3]
            clear hv1 hv2 hv3 hin9
            go_wp2
            go_roundw
            case rel => exact ⟨n + 1, by omega, by have := HM.out; omega, by go_num, by rw [HO8.out, HV.out.1], by rw [HO8.out, HV.out.2.1], by rw [HO8.out, HV.out.2.2], f2_0, f2_1, f2_2, f2_3, f2_4, f2_5, f2_6⟩
            case measure => have := HM.out; simp [intOf]; omega
        · skip
          go_wp2
          have HCL := Lib.hid (show ∀ W', In w.heap.size w W' ∧ W'.cell? ⟨w.heap.size, 0, none⟩ = some (.int .i64 a0) ∧ W'.cell? ⟨w.heap.size, 1, none⟩ = some (.int .i64 a1) ∧ W'.cell? ⟨w.heap.size, 2, none⟩ = some (.int .i64 a2) ∧ W'.cell? ⟨w.heap.size + 1, 0, none⟩ = some (.int .i64 b0) ∧ W'.cell? ⟨w.heap.size + 1, 1, none⟩ = some (.int .i64 b1) ∧ W'.cell? ⟨w.heap.size + 1, 2, none⟩ = some (.int .i64 b2) → ∀ W2, Below W'.heap.size W' W2 → In w.heap.size w W2 ∧ W2.cell? ⟨w.heap.size, 0, none⟩ = some (.int .i64 a0) ∧ W2.cell? ⟨w.heap.size, 1, none⟩ = some (.int .i64 a1) ∧ W2.cell? ⟨w.heap.size, 2, none⟩ = some (.int .i64 a2) ∧ W2.cell? ⟨w.heap.size + 1, 0, none⟩ = some (.int .i64 b0) ∧ W2.cell? ⟨w.heap.size + 1, 1, none⟩ = some (.int .i64 b1) ∧ W2.cell? ⟨w.heap.size + 1, 2, none⟩ = some (.int .i64 b2) from fun W' h W2 hb => by
            obtain ⟨g0, g1, g2, g3, g4, g5, g6⟩ := h
            exact ⟨g0.step hb, cell_in g1 ⟨hb, hb.size⟩, cell_in g2 ⟨hb, hb.size⟩, cell_in g3 ⟨hb, hb.size⟩, cell_in g4 ⟨hb, hb.size⟩, cell_in g5 ⟨hb, hb.size⟩, cell_in g6 ⟨hb, hb.size⟩⟩)
          refine wp_region_S (C := (fun w' => In w.heap.size w w' ∧ w'.cell? ⟨w.heap.size, 0, none⟩ = some (.int .i64 a0) ∧ w'.cell? ⟨w.heap.size, 1, none⟩ = some (.int .i64 a1) ∧ w'.cell? ⟨w.heap.size, 2, none⟩ = some (.int .i64 a2) ∧ w'.cell? ⟨w.heap.size + 1, 0, none⟩ = some (.int .i64 b0) ∧ w'.cell? ⟨w.heap.size + 1, 1, none⟩ = some (.int .i64 b1) ∧ w'.cell? ⟨w.heap.size + 1, 2, none⟩ = some (.int .i64 b2))) (by kernel_rfl) (by kernel_rfl) ?_ ?_
          · exact ⟨f1_0.drew, f1_1, f1_2, f1_3, f1_4, f1_5, f1_6⟩
          repeat (first | go_big_quiet_skip | (go_big_quiet_want; first | (refine quiet_ex ?_; apply Exists.intro; refine ⟨fun W hW => ?_, ?_⟩; (· (obtain ⟨f2_0, f2_1, f2_2, f2_3, f2_4, f2_5, f2_6⟩ := hW; go_simp; (first | done | with_reducible rfl | rfl))); simp only [Act.put, List.setIfInBounds_toArray, List.set_cons_zero, List.set_cons_succ]; go_big_quiet_on) | (refine quiet_ex ?_; apply Exists.intro; refine ⟨fun W hW => ?_, ?_⟩; (· (go_simp; first | (go_at_call 179; (with_reducible refine (HC1.out _).mono ?_); rintro e w2 ⟨rfl, hb2⟩; exact ⟨rfl, HCL.out _ hW _ hb2⟩) | (go_at_call 179; (with_reducible refine (HC2.out _).mono ?_); rintro e w2 ⟨rfl, hb2⟩; exact ⟨rfl, HCL.out _ hW _ hb2⟩) | (go_at_call 178; (with_reducible refine (HS1.out _).mono ?_); rintro e w2 ⟨rfl, hb2⟩; exact ⟨rfl, HCL.out _ hW _ hb2⟩) | (go_at_call 178; (with_reducible refine (HS2.out _).mono ?_); rintro e w2 ⟨rfl, hb2⟩; exact ⟨rfl, HCL.out _ hW _ hb2⟩))); simp only [Act.put, List.setIfInBounds_toArray, List.set_cons_zero, List.set_cons_succ]; go_big_quiet_on)))
          refine wpQuiet_nil ?_
          rintro w' ⟨f2_0, f2_1, f2_2, f2_3, f2_4, f2_5, f2_6⟩
          clear f1_0 f1_1 f1_2 f1_3 f1_4 f1_5 f1_6
          obtain ⟨wb, hq9⟩ : ∃ q, q = w' := ⟨_, rfl⟩
          subst hq9
          clear G1 G2 HCL HC1 HC2 HS1 HS2
          have G3 : wrap64 ((n : Int) * a1) = q1 := by rw [HQ1.out, w64 ⟨by omega, by omega⟩]
          have G4 : wrap64 ((T - (n : Int)) * b1) = q2 := by rw [HQ2.out, w64 ⟨by omega, by omega⟩]
          by_cases hsp : 0 ≤ s1 + s2
          · skip
            have HO9 := Lib.hid (HT.out n (by rw [hok]; exact decide_eq_true hsp))
            rw [HCC.out] at HO9
            clear hok
            rcases hon : O n with _ | ⟨m9, d9⟩
            · skip
              rw [hon] at HO9
              have HO8 : Hid (O (n + 1) = some ((n : Int), q1 + q2)) := Lib.hid HO9.out
              clear HO9 hin9
              clear hon
              rw [show oN none = 0 from rfl, show oC none = 0 from rfl, show oB none = false from rfl]
              go_wp2
              go_roundw
              case rel => exact ⟨n + 1, by omega, by have := HM.out; omega, by go_num, by rw [HO8.out]; rfl, by rw [HO8.out]; rfl, by rw [HO8.out]; rfl, f2_0, f2_1, f2_2, f2_3, f2_4, f2_5, f2_6⟩
              case measure => have := HM.out; simp [intOf]; omega
            · skip
              rw [hon] at HO9
              obtain ⟨g1, g2, g3, g4⟩ := hin9 m9 d9 hon
              clear hin9 hon
              rw [show oN (some (m9, d9)) = m9 from rfl, show oC (some (m9, d9)) = d9 from rfl, show oB (some (m9, d9)) = true from rfl]
              by_cases hlt : q1 + q2 < d9
              · skip
                have HO8 : Hid (O (n + 1) = some ((n : Int), q1 + q2)) := Lib.hid (HO9.out.trans (if_pos hlt))
                clear HO9
                go_wp2
                go_roundw
                case rel => exact ⟨n + 1, by omega, by have := HM.out; omega, by go_num, by rw [HO8.out]; rfl, by rw [HO8.out]; rfl, by rw [HO8.out]; rfl, f2_0, f2_1, f2_2, f2_3, f2_4, f2_5, f2_6⟩
                case measure => have := HM.out; simp [intOf]; omega
              · skip
                have HO8 : Hid (O (n + 1) = some (m9, d9)) := Lib.hid (HO9.out.trans (if_neg hlt))
                clear HO9
                go_wp2
                go_roundw
                case rel => exact ⟨n + 1, by omega, by have := HM.out; omega, by go_num, by rw [HO8.out]; rfl, by rw [HO8.out]; rfl, by rw [HO8.out]; rfl, f2_0, f2_1, f2_2, f2_3, f2_4, f2_5, f2_6⟩
                case measure => have := HM.out; simp [intOf]; omega
          · skip
            have HO8 := Lib.hid (HF.out n (by rw [hok]; exact decide_eq_false hsp))
            clear hok
            obtain ⟨v1, hv1⟩ : ∃ v, oN (O n) = v := ⟨_, rfl⟩
            obtain ⟨v2, hv2⟩ : ∃ v, oC (O n) = v := ⟨_, rfl⟩
            obtain ⟨v3, hv3⟩ : ∃ v, oB (O n) = v := ⟨_, rfl⟩
            have HV := Lib.hid (And.intro hv1 (And.intro hv2 hv3))
            rw [hv1, hv2, hv3]
            clear hv1 hv2 hv3 hin9
            go_wp2
            go_roundw
            case rel => exact ⟨n + 1, by omega, by have := HM.out; omega, by go_num, by rw [HO8.out, HV.out.1], by rw [HO8.out, HV.out.2.1], by rw [HO8.out, HV.out.2.2], f2_0, f2_1, f2_2, f2_3, f2_4, f2_5, f2_6⟩
            case measure => have := HM.out; simp [intOf]; omega
      · skip
        have HO8 : Hid (O (M + 1) = O n) := Lib.hid (by
          have h := HHI.out n (M + 1 - n) fun q hq => HNO.out q (by have := HM.out; omega)
          rw [show n + (M + 1 - n) = M + 1 by omega] at h
          exact h)
        have hmin : ¬ (n : Int) ≤ min T a2 := by omega
        have hgt : (min T a2) < (n : Int) := by omega
        have hn9 : (n : Int) ≤ 101 := by have := HM.out; omega
        generalize O n = on at *
        clear hin
        by_cases hTa : a2 < T
        · skip
          have hx : a2 < (n : Int) := by omega
          clear hmin hgt
          go_wp2
          exact bodyPost_ret (v := .tuple #[i64 (oN on), i64 (oC on), .bool (oB on)]) (by simp [results, Try.results107, go_sem]) rfl (Val.mk' (by rw [HO8.out]) f1_0)
        · skip
          have hx : T < (n : Int) := by omega
          clear hmin hgt
          go_wp2
          exact bodyPost_ret (v := .tuple #[i64 (oN on), i64 (oC on), .bool (oB on)]) (by simp [results, Try.results107, go_sem]) rfl (Val.mk' (by rw [HO8.out]) f1_0)
end Go.Proofs.Ytmkfnhgaiheckaa
