/- The law FnPowers. -/
import Derived.Test.YthndjpklfgcpmaaPwQ
import Derived.Test.YthndjpklfgcpmaaDsMachine
import Derived.Test.YthndjpklfgcpmaaH26
import Derived.Test.YthndjpklfgcpmaaI26
import Derived.Test.YthndjpklfgcpmaaAppS
import Derived.Test.YthndjpklfgcpmaaAtAll
import Derived.Test.YthndjpklfgcpmaaQuietL
import Derived.BigQuiet
import Derived.Deep.QuietTactic
namespace Go.Proofs.Ythndjpklfgcpmaa
open Go.ChangeShapes Go.WideShapes Go.ChangeAt Go.RowKit
set_option linter.unusedVariables false
set_option linter.unusedSimpArgs false
set_option maxHeartbeats 2000000

theorem own_cells3 {w : World} {base n c : Nat} {e : TypeId} {A : Option Addr} {L : List Value} (h : w.ownsRow base e 3 (.slice A n c) n L) (hL : L.length = n * 3) : ∀ ad, A = some ad → ∀ j u, L[j]? = some u → w.cell? (ad.add j) = some u := by
  intro ad hA j u hu
  subst hA
  have hj : j < L.length := (List.getElem?_eq_some_iff.1 hu).1
  obtain ⟨g, cap, hv, _, _⟩ := h.form (by omega)
  injection hv with h1 h2 h3
  injection h1 with h1
  subst h1 h3
  have hc := h.cellAt j (hL ▸ hj)
  rw [hu] at hc
  rw [Addr.add_lit, Nat.zero_add]
  exact hc
theorem flM_one (xs : List MachineR) : ∀ u ∈ flMachine xs, u.oneCell' = true := fun u hu => by
  simp only [flMachine, List.mem_flatMap, List.mem_cons, List.not_mem_nil, or_false] at hu
  obtain ⟨x, _, hx⟩ := hu
  rcases hx with rfl | rfl | rfl <;> rfl
theorem lit3_one (a b c : Int) : ∀ u ∈ (#[Value.int .i64 a, Value.int .i64 b, Value.int .i64 c] : Array Value).toList, u.oneCell' = true := by intro u hu; simp at hu; rcases hu with rfl | rfl | rfl <;> rfl
theorem flM_one_app (xs : List MachineR) (z : MachineR) : flMachine xs ++ [Value.int .i64 z.f0, .int .i64 z.f1, .int .i64 z.f2] = flMachine (xs ++ [z]) := by simp [flMachine]
set_option maxHeartbeats 40000000 in
set_option maxRecDepth 20000 in
theorem walk_FnPowers (a0 : Option Addr) (len0 cap0 : Nat) (z0 : List Int) (w : World) (w0 : IsRow .u8 w a0 len0 cap0 z0) :
    Calls Try.prog 10 #[.slice a0 len0 cap0] w fun e w' => e = .returned (.bool true) ∧ Below w.heap.size w w' := by
  have hb := ReadsU.of_row w0
  have hm := hb.1
  clear w0
  by_cases hbig : (1048576 : Int) < (len0 : Int)
  · go_enter Try.func10, Try.ntmps10
    go_wp2_with fail
    refine (bigU _ _ _ _ hm true (by simpa using hbig)).mono ?_
    rintro e w' ⟨rfl, rfl⟩
    go_wp2_with fail
    go_ret
    exact ⟨rfl, Below.refl _ _⟩
  have HB := Lib.hid hb
  obtain ⟨x0, h0, A0⟩ := at_all a0 len0 cap0 0 w (by omega) (by omega) hb
  have HA0 := Lib.hid A0
  clear A0
  obtain ⟨x1, h1, A1⟩ := at_all a0 len0 cap0 1 w (by omega) (by omega) hb
  have HA1 := Lib.hid A1
  clear A1
  obtain ⟨x2, h2, A2⟩ := at_all a0 len0 cap0 2 w (by omega) (by omega) hb
  have HA2 := Lib.hid A2
  clear A2
  obtain ⟨x3, h3, A3⟩ := at_all a0 len0 cap0 3 w (by omega) (by omega) hb
  have HA3 := Lib.hid A3
  clear A3
  go_enter Try.func10, Try.ntmps10
  go_wp2_with fail
  refine (bigU _ _ _ _ hm false (by simpa using hbig)).mono ?_
  rintro e w' ⟨rfl, rfl⟩
  clear hbig hm hb
  have f0_0 : In w.heap.size w w := In.refl w
  obtain ⟨i0, hi0, hiz, his, hib⟩ := info_parts infoDsMachine
  have HI := Lib.hid (And.intro hi0 (And.intro hiz (And.intro his hib)))
  clear hi0 hiz his hib
  have hbu := HB.out
  go_wp2_with fail
  refine (DrawMachines_c _ _ _ _ (bytes_of hbu)).mono ?_
  rintro _ w1 ⟨A, cp, n, xs, rfl, ⟨_, hn5⟩, hP, hl, hown, hnc, hb1⟩
  have f1_0 : In w.heap.size w w1 := f0_0.step hb1
  have f1_1 : w1.ownsRow w.heap.size 58 3 (.slice A n cp) n (flMachine xs) := hown
  clear f0_0
  clear hb1 hown hbu
  obtain ⟨N, hN⟩ : ∃ N : Nat, 1 + x0 = (N : Int) := ⟨(1 + x0).toNat, by omega⟩
  obtain ⟨t, ht⟩ : ∃ t : Int, 100 * (1 + x1 % 20) = t := ⟨_, rfl⟩
  obtain ⟨s, hs⟩ : ∃ s : Nat, x2 * 4 = (s : Int) := ⟨(x2 * 4).toNat, by omega⟩
  have hN1 : 1 ≤ N ∧ N ≤ 256 := by omega
  have ht1 : 100 ≤ t ∧ t ≤ 2000 := by omega
  have hs1 : s ≤ 1020 := by omega
  obtain ⟨m, p, x, y, mx, my, b, eOK, eM, eP, hm, hp, eB, hb, ePA, eX, eMX, eY, eMY, hxy, hpx, hWx, eE, eE2, hE, hT, eO, eO1⟩ := pow_law hl hn5 hP hN1 ht1 hs1
  have hnm : n ≤ maxLen := by unfold maxLen; omega
  have hnm1 : n + 1 ≤ maxLen := by unfold maxLen; omega
  have HR : Hid (∀ X : World, X.ownsRow w.heap.size 58 3 (.slice A n cp) n (flMachine xs) → ReadsMachine X A n xs) := Lib.hid fun X h => reads_own_Machine hl h
  have HPK := Lib.hid (fun X (h : ReadsMachine X A n xs) => iPeakTup A n cp xs X hnm h)
  rw [eM, eP] at HPK
  have HBS := Lib.hid (fun X (h : ReadsMachine X A n xs) => iBestStart A n cp xs N t X hnm h)
  rw [eB] at HBS
  have HPA := Lib.hid (fun X (h : ReadsMachine X A n xs) => iPowerAt A n cp xs m X hnm h)
  rw [ePA] at HPA
  have HPT := Lib.hid (fun (u : Int) X (h : ReadsMachine X A n xs) => iPowerAt A n cp xs u X hnm h)
  have HEN := Lib.hid (fun X (h : ReadsMachine X A n xs) => iEnergyOf A n cp xs X hnm h)
  rw [eE] at HEN
  have HOV := Lib.hid (fun X (h : ReadsMachine X A n xs) => iOverTimes A n cp xs p X hnm h)
  rw [eO] at HOV
  have HO1 := Lib.hid (fun X (h : ReadsMachine X A n xs) => iOverTimes A n cp xs (p - 1) X hnm h)
  have HOK := Lib.hid (fun X (h : ReadsMachine X A n xs) => iMachinesOk A n cp xs X hnm h)
  rw [eOK] at HOK
  have hl1 : (xs ++ [(⟨(b : Int), (b : Int) + N, t⟩ : MachineR)]).length = n + 1 := by simp [hl]
  have hl2 : (xs ++ [(⟨(s : Int), (s : Int) + N, t⟩ : MachineR)]).length = n + 1 := by simp [hl]
  obtain ⟨ys, hys⟩ : ∃ ys, xs ++ [(⟨(b : Int), (b : Int) + N, t⟩ : MachineR)] = ys := ⟨_, rfl⟩
  obtain ⟨zs, hzs⟩ : ∃ zs, xs ++ [(⟨(s : Int), (s : Int) + N, t⟩ : MachineR)] = zs := ⟨_, rfl⟩
  have HYS := Lib.hid hys
  have HZS := Lib.hid hzs
  rw [hys] at eX eMX eE2 hl1
  rw [hzs] at eY eMY hl2
  have HPX := Lib.hid (fun B d X (h : ReadsMachine X B (n + 1) ys) => iPeakTup B (n + 1) d ys X hnm1 h)
  rw [eX, eMX] at HPX
  have HPY := Lib.hid (fun B d X (h : ReadsMachine X B (n + 1) zs) => iPeakTup B (n + 1) d zs X hnm1 h)
  rw [eY, eMY] at HPY
  have HEY := Lib.hid (fun B d X (h : ReadsMachine X B (n + 1) ys) => iEnergyOf B (n + 1) d ys X hnm1 h)
  rw [eE2] at HEY
  have HNE := Lib.hid hN
  have HTE := Lib.hid ht
  have HSE := Lib.hid hs
  have HE := Lib.hid hE
  have HT := Lib.hid hT
  have HO := Lib.hid eO1
  have HP := Lib.hid hP
  have HL := Lib.hid hl
  have HL1 := Lib.hid hl1
  have HL2 := Lib.hid hl2
  have HNM := Lib.hid (And.intro hnm hnm1)
  have HN1 := Lib.hid hN1
  have HS1 := Lib.hid hs1
  clear hN ht hs hE hT eO1 hP hl hl1 hl2 hys hzs eOK eM eP eB ePA eX eMX eY eMY eE eE2 eO hnm hnm1 hN1 hs1
  go_wp2_with fail
  refine (HPK.out _ (HR.out _ f1_1)).mono ?_
  rintro _ w2 ⟨rfl, hb2⟩
  have f2_0 : In w.heap.size w w2 := f1_0.step hb2
  have f2_1 : w2.ownsRow w.heap.size 58 3 (.slice A n cp) n (flMachine xs) := own_step f1_1 hb2
  clear f1_0 f1_1
  clear hb2
  clear HPK
  go_wp2_with fail
  refine (HA0.out _ f2_0).mono ?_
  rintro e w' ⟨rfl, rfl⟩
  go_wp2_with fail
  refine (HA1.out _ f2_0).mono ?_
  rintro e w' ⟨rfl, rfl⟩
  go_wp2_with fail
  rw [HNE.out, HTE.out]
  refine (HBS.out _ (HR.out _ f2_1)).mono ?_
  rintro _ w3 ⟨rfl, hb3⟩
  have f3_0 : In w.heap.size w w3 := f2_0.step hb3
  have f3_1 : w3.ownsRow w.heap.size 58 3 (.slice A n cp) n (flMachine xs) := own_step f2_1 hb3
  clear f2_0 f2_1
  clear hb3
  clear HBS
  have d1 : decide (m < 0) = false := decide_eq_false (by omega)
  have d2 : decide (1439 < m) = false := decide_eq_false (by omega)
  have d3 : decide ((b : Int) < 0) = false := decide_eq_false (by omega)
  have d4 : decide (1440 < (b : Int) + N) = false := decide_eq_false (by omega)
  have bN : 0 ≤ (b : Int) + N ∧ (b : Int) + N ≤ 1440 := by omega
  go_wp2_with fail
  refine (HPA.out _ (HR.out _ f3_1)).mono ?_
  rintro _ w4 ⟨rfl, hb4⟩
  have f4_0 : In w.heap.size w w4 := f3_0.step hb4
  have f4_1 : w4.ownsRow w.heap.size 58 3 (.slice A n cp) n (flMachine xs) := own_step f3_1 hb4
  clear f3_0 f3_1
  clear hb4
  clear HPA
  obtain ⟨hi0, hiz, his, hib⟩ := HI.out
  have own0 := own_new3 w4 58 w4.heap.size (Nat.le_refl _)
  have hbz : Below w4.heap.size w4 (w4.alloc (.cells #[] 58)) := (Below.refl _ _).alloc (Nat.le_refl _) _
  have ownz := own_step f4_1 hbz
  have hcz := own_cells3 ownz (by rw [flMachine_len, HL.out])
  have hnz := own_none ownz
  have hlz : (flMachine xs).length = n * 3 := by rw [flMachine_len, HL.out]
  have FO := Lib.hid (flM_one xs)
  have HCZ := Lib.hid hcz
  have HNZ := Lib.hid hnz
  have HLZ := Lib.hid hlz
  have f1 : 0 + n ≤ maxLen := by unfold maxLen; omega
  have f2 : (0 + n) * 24 ≤ 140737488355328 := by omega
  have f3 : n + 1 ≤ maxLen := by unfold maxLen; omega
  have f4 : (n + 1) * 24 ≤ 140737488355328 := by omega
  have hsz9 : w4.heap.size ≤ (w4.alloc (.cells #[] 58)).heap.size := by simp
  obtain ⟨wz, hwz⟩ : ∃ wz, wz = w4.alloc (.cells #[] 58) := ⟨_, rfl⟩
  rw [← hwz] at own0 hbz ownz HCZ hsz9
  have HWZ := Lib.hid hwz
  have HF3 := Lib.hid (And.intro f3 f4)
  have F1 := Lib.hid (lit3_one (b : Int) ((b : Int) + N) t)
  clear hcz hnz hlz hwz f3 f4 ownz
  go_wp2_with (first | (at_builtin; refine wpList_app wy rfl (.tmp 65) (.tmp 72) 48 rfl w4.heap.size 58 i0 (.agg #[.int .i64 0, .int .i64 0, .int .i64 0]) 3 24 Try.underlying48 hi0 hiz his hib rfl (by omega) (.slice A1 n c1) n (flMachine xs) rfl hown1 1 #[Value.int .i64 (b : Int), Value.int .i64 ((b : Int) + N), Value.int .i64 t] rfl rfl F1.out f3 f4 hsz8 ?_; intro v2 wx hown2 hbw2; obtain ⟨A2, c2, rfl⟩ := own_shape_2 hown2) | (at_builtin; (rw [← HWZ.out]); refine wpList_app_spread rfl (.tmp 63) (.tmp 64) 48 rfl w4.heap.size 58 i0 (.agg #[.int .i64 0, .int .i64 0, .int .i64 0]) 3 24 Try.underlying48 hi0 hiz his hib rfl (by omega) (.slice (some ⟨w4.heap.size, 0, none⟩) 0 0) 0 [] rfl own0 A n cp (flMachine xs) rfl HNZ.out HLZ.out HCZ.out FO.out f1 f2 hsz9 ?_; intro v1 wy hown1 hbw1; rw [List.nil_append, Nat.zero_add] at hown1; obtain ⟨A1, c1, rfl⟩ := own_shape_2 hown1; have hsz8 : w4.heap.size ≤ wy.heap.size := Nat.le_trans hsz9 hbw1.size; obtain ⟨f3, f4⟩ := HF3.out))
  have ownP9 : wx.ownsRow w4.heap.size 58 3 (.slice A2 (n + 1) c2) (n + 1) (flMachine ys) := by
    rw [← HYS.out, ← flM_one_app]
    exact hown2
  have hbP9 : Below w4.heap.size w4 wx := hbz.trans (hbw1.trans hbw2)
  obtain ⟨w_P9, hq9⟩ : ∃ q, q = wx := ⟨_, rfl⟩
  subst hq9
  obtain ⟨AP9, hq9⟩ : ∃ q, q = A2 := ⟨_, rfl⟩
  subst hq9
  obtain ⟨cP9, hq9⟩ : ∃ q, q = c2 := ⟨_, rfl⟩
  subst hq9
  have f5_0 : In w.heap.size w w_P9 := f4_0.step hbP9
  have f5_1 : w_P9.ownsRow w.heap.size 58 3 (.slice A n cp) n (flMachine xs) := own_step f4_1 hbP9
  have f5_2 : w_P9.ownsRow 0 58 3 (.slice AP9 (n + 1) cP9) (n + 1) (flMachine ys) := own_base ownP9 (Nat.zero_le _)
  clear f4_0 f4_1
  clear own0 hbz hown1 hown2 hbw1 hbw2 FO HCZ HNZ HLZ f1 f2 f3 f4 hsz9 hsz8 HWZ HF3 F1 ownP9 hbP9 hi0 hiz his hib
  go_wp2_with fail
  refine (HA2.out _ f5_0).mono ?_
  rintro e w' ⟨rfl, rfl⟩
  have sN : 0 ≤ (s : Int) + N ∧ (s : Int) + N ≤ 1440 := by have := HN1.out; have := HS1.out; omega
  have hNs : (0 : Int) ≤ N ∧ (N : Int) ≤ 256 := by have := HN1.out; omega
  have hss : (0 : Int) ≤ s ∧ (s : Int) ≤ 1020 := by have := HS1.out; omega
  have hse := HSE.out
  obtain ⟨hi0, hiz, his, hib⟩ := HI.out
  have own0 := own_new3 w_P9 58 w_P9.heap.size (Nat.le_refl _)
  have hbz : Below w_P9.heap.size w_P9 (w_P9.alloc (.cells #[] 58)) := (Below.refl _ _).alloc (Nat.le_refl _) _
  have ownz := own_step f5_1 hbz
  have hcz := own_cells3 ownz (by rw [flMachine_len, HL.out])
  have hnz := own_none ownz
  have hlz : (flMachine xs).length = n * 3 := by rw [flMachine_len, HL.out]
  have FO := Lib.hid (flM_one xs)
  have HCZ := Lib.hid hcz
  have HNZ := Lib.hid hnz
  have HLZ := Lib.hid hlz
  have f1 : 0 + n ≤ maxLen := by unfold maxLen; omega
  have f2 : (0 + n) * 24 ≤ 140737488355328 := by omega
  have f3 : n + 1 ≤ maxLen := by unfold maxLen; omega
  have f4 : (n + 1) * 24 ≤ 140737488355328 := by omega
  have hsz9 : w_P9.heap.size ≤ (w_P9.alloc (.cells #[] 58)).heap.size := by simp
  obtain ⟨wz, hwz⟩ : ∃ wz, wz = w_P9.alloc (.cells #[] 58) := ⟨_, rfl⟩
  rw [← hwz] at own0 hbz ownz HCZ hsz9
  have HWZ := Lib.hid hwz
  have HF3 := Lib.hid (And.intro f3 f4)
  have F1 := Lib.hid (lit3_one (s : Int) ((s : Int) + N) t)
  clear hcz hnz hlz hwz f3 f4 ownz
  go_wp2_with (first | (at_builtin; refine wpList_app wy rfl (.tmp 79) (.tmp 86) 48 rfl w_P9.heap.size 58 i0 (.agg #[.int .i64 0, .int .i64 0, .int .i64 0]) 3 24 Try.underlying48 hi0 hiz his hib rfl (by omega) (.slice A1 n c1) n (flMachine xs) rfl hown1 1 #[Value.int .i64 (s : Int), Value.int .i64 ((s : Int) + N), Value.int .i64 t] rfl rfl F1.out f3 f4 hsz8 ?_; intro v2 wx hown2 hbw2; obtain ⟨A2, c2, rfl⟩ := own_shape_2 hown2) | (at_builtin; (rw [← HWZ.out]); refine wpList_app_spread rfl (.tmp 77) (.tmp 78) 48 rfl w_P9.heap.size 58 i0 (.agg #[.int .i64 0, .int .i64 0, .int .i64 0]) 3 24 Try.underlying48 hi0 hiz his hib rfl (by omega) (.slice (some ⟨w_P9.heap.size, 0, none⟩) 0 0) 0 [] rfl own0 A n cp (flMachine xs) rfl HNZ.out HLZ.out HCZ.out FO.out f1 f2 hsz9 ?_; intro v1 wy hown1 hbw1; rw [List.nil_append, Nat.zero_add] at hown1; obtain ⟨A1, c1, rfl⟩ := own_shape_2 hown1; have hsz8 : w_P9.heap.size ≤ wy.heap.size := Nat.le_trans hsz9 hbw1.size; obtain ⟨f3, f4⟩ := HF3.out))
  clear hse
  have ownQ9 : wx.ownsRow w_P9.heap.size 58 3 (.slice A2 (n + 1) c2) (n + 1) (flMachine zs) := by
    rw [← HZS.out, ← flM_one_app]
    exact hown2
  have hbQ9 : Below w_P9.heap.size w_P9 wx := hbz.trans (hbw1.trans hbw2)
  obtain ⟨w_Q9, hq9⟩ : ∃ q, q = wx := ⟨_, rfl⟩
  subst hq9
  obtain ⟨AQ9, hq9⟩ : ∃ q, q = A2 := ⟨_, rfl⟩
  subst hq9
  obtain ⟨cQ9, hq9⟩ : ∃ q, q = c2 := ⟨_, rfl⟩
  subst hq9
  have f6_0 : In w.heap.size w w_Q9 := f5_0.step hbQ9
  have f6_1 : w_Q9.ownsRow w.heap.size 58 3 (.slice A n cp) n (flMachine xs) := own_step f5_1 hbQ9
  have f6_2 : w_Q9.ownsRow 0 58 3 (.slice AP9 (n + 1) cP9) (n + 1) (flMachine ys) := own_step f5_2 hbQ9
  have f6_3 : w_Q9.ownsRow 0 58 3 (.slice AQ9 (n + 1) cQ9) (n + 1) (flMachine zs) := own_base ownQ9 (Nat.zero_le _)
  clear f5_0 f5_1 f5_2
  clear own0 hbz hown1 hown2 hbw1 hbw2 FO HCZ HNZ HLZ f1 f2 f3 f4 hsz9 hsz8 HWZ HF3 F1 ownQ9 hbQ9 hi0 hiz his hib
  go_wp2_with fail
  refine (HPX.out _ _ _ (reads_own_Machine HL1.out f6_2)).mono ?_
  rintro _ w7 ⟨rfl, hb7⟩
  have f7_0 : In w.heap.size w w7 := f6_0.step hb7
  have f7_1 : w7.ownsRow w.heap.size 58 3 (.slice A n cp) n (flMachine xs) := own_step f6_1 hb7
  have f7_2 : w7.ownsRow 0 58 3 (.slice AP9 (n + 1) cP9) (n + 1) (flMachine ys) := own_step f6_2 hb7
  have f7_3 : w7.ownsRow 0 58 3 (.slice AQ9 (n + 1) cQ9) (n + 1) (flMachine zs) := own_step f6_3 hb7
  clear f6_0 f6_1 f6_2 f6_3
  clear hb7
  clear HPX
  go_wp2_with fail
  refine (HPY.out _ _ _ (reads_own_Machine HL2.out f7_3)).mono ?_
  rintro _ w8 ⟨rfl, hb8⟩
  have f8_0 : In w.heap.size w w8 := f7_0.step hb8
  have f8_1 : w8.ownsRow w.heap.size 58 3 (.slice A n cp) n (flMachine xs) := own_step f7_1 hb8
  have f8_2 : w8.ownsRow 0 58 3 (.slice AP9 (n + 1) cP9) (n + 1) (flMachine ys) := own_step f7_2 hb8
  have f8_3 : w8.ownsRow 0 58 3 (.slice AQ9 (n + 1) cQ9) (n + 1) (flMachine zs) := own_step f7_3 hb8
  clear f7_0 f7_1 f7_2 f7_3
  clear hb8
  clear HPY
  go_wp2
  go_loopw [16, 17] (fun a i wr => ∃ k : Nat, k ≤ n ∧ i = .int .i64 k ∧ a = .int .i64 (sumTo (enG xs) k) ∧ (In w.heap.size w wr ∧ wr.ownsRow w.heap.size 58 3 (.slice A n cp) n (flMachine xs) ∧ wr.ownsRow 0 58 3 (.slice AP9 (n + 1) cP9) (n + 1) (flMachine ys) ∧ wr.ownsRow 0 58 3 (.slice AQ9 (n + 1) cQ9) (n + 1) (flMachine zs))) (fun _ i _ => n - (intOf i).toNat)
  case atStart => exact ⟨0, Nat.zero_le _, rfl, rfl, f8_0, f8_1, f8_2, f8_3⟩
  case round =>
    obtain ⟨k, hk, rfl, rfl, f9_0, f9_1, f9_2, f9_3⟩ := hrel
    clear f8_0 f8_1 f8_2 f8_3
    by_cases hlt : k < n
    · skip
      obtain ⟨ad, rfl, hc0, hc1, hc2⟩ := (HR.out _ f9_1).2 k hlt
      have hpk := HP.out k hlt
      have hek := HE.out k hk
      have HS := Lib.hid (sumTo_succ (enG xs) k)
      have HG : Hid (enG xs k = (xs.getD k z26).f2 * ((xs.getD k z26).f1 - (xs.getD k z26).f0)) := Lib.hid rfl
      generalize xs.getD k z26 = v at *
      obtain ⟨v0, v1, v2⟩ := v
      simp only at hc0 hc1 hc2 HG hpk
      obtain ⟨g1, g2, g3, g4⟩ := hpk
      generalize sumTo (enG xs) k = S at *
      obtain ⟨q, hq⟩ : ∃ q, v2 * (v1 - v0) = q := ⟨_, rfl⟩
      have hqq : 0 ≤ q ∧ q ≤ 600000 := by
        have := mul_in (a := v2) (b := v1 - v0) (A := 3000) (B := 200) (by omega) (by omega) (by omega) (by omega)
        omega
      rw [hq] at HG
      have q1 : IntKind.i64.wrap (v1 - v0) = v1 - v0 := by rw [IntWalk.i64_in _ (by omega)]
      have q2 : IntKind.i64.wrap (v2 * (v1 - v0)) = q := by rw [hq, IntWalk.i64_in _ (by omega)]
      have q3 : IntKind.i64.wrap (S + q) = S + q := by rw [IntWalk.i64_in _ (by omega)]
      clear hq
      go_wp2
      go_quiet (fail)
      clear q1 q2 q3
      go_wp2
      go_roundw
      case rel => exact ⟨k + 1, by omega, by go_num, v_int (by rw [HS.out, HG.out]), f9_0.drewN _, own_step f9_1 (below_drewN (Below.refl _ _) _), own_step f9_2 (below_drewN (Below.refl _ _) _), own_step f9_3 (below_drewN (Below.refl _ _) _)⟩
      case measure => simp [intOf]; omega
    · skip
      obtain ⟨wa, hq9⟩ : ∃ q, q = wr := ⟨_, rfl⟩
      subst hq9
      obtain rfl : n = k := by omega
      have hEn := HE.out n (Nat.le_refl _)
      obtain ⟨E, hE9⟩ : ∃ E, sumTo (enG xs) n = E := ⟨_, rfl⟩
      rw [hE9] at HEN HEY hEn ⊢
      clear hE9 hlt hk HE
      go_wp2_with fail
      refine (HA3.out _ f9_0).mono ?_
      rintro e w' ⟨rfl, rfl⟩
      obtain ⟨q, eq9, hq9⟩ := HT.out (x3 * 5) (by omega) (by omega)
      have HPT9 := Lib.hid (fun X (h : ReadsMachine X A n xs) => HPT.out (x3 * 5) X h)
      rw [eq9] at HPT9
      clear HPT HT eq9
      have e1 : decide (x ≤ y) = true := decide_eq_true hxy
      have e2 : decide (p ≤ x) = true := decide_eq_true hpx
      have e3 : decide (t ≤ x) = true := decide_eq_true hWx
      have e4 : decide (q ≤ p) = true := decide_eq_true hq9
      obtain ⟨NW, hNW⟩ : ∃ NW, (N : Int) * t = NW := ⟨_, rfl⟩
      have hNW1 : 0 ≤ NW ∧ NW ≤ 512000 := by
        have := mul_in (a := (N : Int)) (b := t) (A := 256) (B := 2000) (by omega) (by omega) (by omega) (by omega)
        omega
      have e5 : wrap64 ((N : Int) * t) = NW := by rw [hNW, w64 ⟨by omega, by omega⟩]
      rw [hNW] at HEY
      clear hNW
      go_wp2_with fail
      refine (HEN.out _ (HR.out _ f9_1)).mono ?_
      rintro _ w10 ⟨rfl, hb10⟩
      have f10_0 : In w.heap.size w w10 := f9_0.step hb10
      have f10_1 : w10.ownsRow w.heap.size 58 3 (.slice A n cp) n (flMachine xs) := own_step f9_1 hb10
      have f10_2 : w10.ownsRow 0 58 3 (.slice AP9 (n + 1) cP9) (n + 1) (flMachine ys) := own_step f9_2 hb10
      have f10_3 : w10.ownsRow 0 58 3 (.slice AQ9 (n + 1) cQ9) (n + 1) (flMachine zs) := own_step f9_3 hb10
      clear f9_0 f9_1 f9_2 f9_3
      clear hb10
      go_wp2_with fail
      refine (HEY.out _ _ _ (reads_own_Machine HL1.out f10_2)).mono ?_
      rintro _ w11 ⟨rfl, hb11⟩
      have f11_0 : In w.heap.size w w11 := f10_0.step hb11
      have f11_1 : w11.ownsRow w.heap.size 58 3 (.slice A n cp) n (flMachine xs) := own_step f10_1 hb11
      have f11_2 : w11.ownsRow 0 58 3 (.slice AP9 (n + 1) cP9) (n + 1) (flMachine ys) := own_step f10_2 hb11
      have f11_3 : w11.ownsRow 0 58 3 (.slice AQ9 (n + 1) cQ9) (n + 1) (flMachine zs) := own_step f10_3 hb11
      clear f10_0 f10_1 f10_2 f10_3
      clear hb11
      go_wp2_with fail
      refine (HPT9.out _ (HR.out _ f11_1)).mono ?_
      rintro _ w12 ⟨rfl, hb12⟩
      have f12_0 : In w.heap.size w w12 := f11_0.step hb12
      have f12_1 : w12.ownsRow w.heap.size 58 3 (.slice A n cp) n (flMachine xs) := own_step f11_1 hb12
      have f12_2 : w12.ownsRow 0 58 3 (.slice AP9 (n + 1) cP9) (n + 1) (flMachine ys) := own_step f11_2 hb12
      have f12_3 : w12.ownsRow 0 58 3 (.slice AQ9 (n + 1) cQ9) (n + 1) (flMachine zs) := own_step f11_3 hb12
      clear f11_0 f11_1 f11_2 f11_3
      clear hb12
      go_wp2_with fail
      refine (HOV.out _ (HR.out _ f12_1)).mono ?_
      rintro _ w13 ⟨rfl, hb13⟩
      have f13_0 : In w.heap.size w w13 := f12_0.step hb13
      have f13_1 : w13.ownsRow w.heap.size 58 3 (.slice A n cp) n (flMachine xs) := own_step f12_1 hb13
      have f13_2 : w13.ownsRow 0 58 3 (.slice AP9 (n + 1) cP9) (n + 1) (flMachine ys) := own_step f12_2 hb13
      have f13_3 : w13.ownsRow 0 58 3 (.slice AQ9 (n + 1) cQ9) (n + 1) (flMachine zs) := own_step f12_3 hb13
      clear f12_0 f12_1 f12_2 f12_3
      clear hb13
      by_cases hp0 : p = 0
      · skip
        have e6 : (p == 0) = true := by simpa using hp0
        have HPP := Lib.hid hp0
        clear hp0
        go_wp2_with fail
        refine (HOK.out _ (HR.out _ f13_1)).mono ?_
        rintro _ w14 ⟨rfl, hb14⟩
        have f14_0 : In w.heap.size w w14 := f13_0.step hb14
        have f14_1 : w14.ownsRow w.heap.size 58 3 (.slice A n cp) n (flMachine xs) := own_step f13_1 hb14
        have f14_2 : w14.ownsRow 0 58 3 (.slice AP9 (n + 1) cP9) (n + 1) (flMachine ys) := own_step f13_2 hb14
        have f14_3 : w14.ownsRow 0 58 3 (.slice AQ9 (n + 1) cQ9) (n + 1) (flMachine zs) := own_step f13_3 hb14
        clear f13_0 f13_1 f13_2 f13_3
        clear hb14
        go_wp2
        go_ret
        exact ⟨rfl, f14_0.below⟩
      · skip
        have e6 : (p == 0) = false := by simpa using hp0
        obtain ⟨ov, ev, hov⟩ := HO.out (by omega)
        have HO2 := Lib.hid (fun X (h : ReadsMachine X A n xs) => HO1.out X h)
        rw [ev] at HO2
        have e7 : decide (0 < ov) = true := decide_eq_true hov
        clear ev
        go_wp2_with fail
        refine (HO2.out _ (HR.out _ f13_1)).mono ?_
        rintro _ w14 ⟨rfl, hb14⟩
        have f14_0 : In w.heap.size w w14 := f13_0.step hb14
        have f14_1 : w14.ownsRow w.heap.size 58 3 (.slice A n cp) n (flMachine xs) := own_step f13_1 hb14
        have f14_2 : w14.ownsRow 0 58 3 (.slice AP9 (n + 1) cP9) (n + 1) (flMachine ys) := own_step f13_2 hb14
        have f14_3 : w14.ownsRow 0 58 3 (.slice AQ9 (n + 1) cQ9) (n + 1) (flMachine zs) := own_step f13_3 hb14
        clear f13_0 f13_1 f13_2 f13_3
        clear hb14
        go_wp2_with fail
        refine (HOK.out _ (HR.out _ f14_1)).mono ?_
        rintro _ w15 ⟨rfl, hb15⟩
        have f15_0 : In w.heap.size w w15 := f14_0.step hb15
        have f15_1 : w15.ownsRow w.heap.size 58 3 (.slice A n cp) n (flMachine xs) := own_step f14_1 hb15
        have f15_2 : w15.ownsRow 0 58 3 (.slice AP9 (n + 1) cP9) (n + 1) (flMachine ys) := own_step f14_2 hb15
        have f15_3 : w15.ownsRow 0 58 3 (.slice AQ9 (n + 1) cQ9) (n + 1) (flMachine zs) := own_step f14_3 hb15
        clear f14_0 f14_1 f14_2 f14_3
        clear hb15
        go_wp2
        go_ret
        exact ⟨rfl, f15_0.below⟩
end Go.Proofs.Ythndjpklfgcpmaa
