/- Chapter 31: BestShares: the program, its cuts. -/
import Derived.Test.YtmkfnhgaiheckaaJ31
namespace Go.Proofs.Ytmkfnhgaiheckaa
open Go.ChangeShapes Go.WideShapes Go.ChangeAt Go.RowKit
set_option linter.unusedVariables false
set_option linter.unusedSimpArgs false
set_option maxHeartbeats 2000000

theorem iBe1 (s W : Int) (b3 : Nat) (w : World) (c3 : w.cell? ⟨b3, 0, none⟩ = some (.int .i64 W)) :
    Calls Try.prog 119 #[.int .i64 s, .pointer (some ⟨b3, 0, none⟩)] w (Same (.bool (geP W s)) w) := by
  unfold geP
  go_enter Try.func119, Try.ntmps119
  go_wp2
  go_ret
  exact ⟨ret_bool rfl, rfl⟩
set_option maxRecDepth 20000 in
set_option maxHeartbeats 8000000 in
theorem ilenBest (A : Option Addr) (m c : Nat) (ys : List Int) (W : Int) (b3 : Nat) (w : World) (hm : m ≤ 40) (hs : ∀ i, i < m → 0 ≤ ys.getD i 0 ∧ ys.getD i 0 ≤ 1000) (hx : ReadsI w A m ys) (c3 : w.cell? ⟨b3, 0, none⟩ = some (.int .i64 W)) :
    Calls Try.prog 182 #[.slice A m c, (.func (.func 119) #[] #[.pointer (some ⟨b3, 0, none⟩)])] w (fun e w' => (∃ r : Nat, e = .returned (.int .i64 (r : Int)) ∧ ShR (geP W) ys m r) ∧ w = w') := by
  have HC := Lib.hid (fun s (h : 0 ≤ s ∧ s ≤ 100000) => iBe1 s W b3 w c3)
  have HS := Lib.hid hs
  clear c3 hs
  go_enter Try.func182, Try.ntmps182
  go_wp2
  go_loop [5, 6, 7, 10] (fun s a6 a7 i => ∃ k : Nat, k ≤ m ∧ i = .int .i64 k ∧ s = .int .i64 (lsum ys k) ∧ (∀ j, 0 < j → j ≤ k → geP W (lsum ys j) = false)) (fun _ _ _ i => m - (intOf i).toNat)
  case atStart => exact ⟨0, Nat.zero_le _, rfl, rfl, fun j h1 h2 => by omega⟩
  case round =>
    obtain ⟨k, hk, rfl, rfl, ho⟩ := hrel
    have HO := Lib.hid ho
    clear ho
    by_cases hlt : k < m
    · obtain ⟨ad, rfl, ha⟩ := hx.2 k hlt
      have hsm := lsum_in 1000 (n := k) fun i hi => HS.out i (by omega)
      have hsk := HS.out k hlt
      have HU := Lib.hid (lsum_succ ys k)
      generalize ys.getD k 0 = x at *
      generalize lsum ys k = s at *
      have hs2 : 0 ≤ s ∧ s ≤ 40000 := by omega
      have hs3 : 0 ≤ s + x ∧ s + x ≤ 100000 := by omega
      have HC2 := Lib.hid (HC.out (s + x) hs3)
      cases hc : geP W (s + x)
      · rw [hc] at HC2
        go_wp2_with (go_at_call 119; refine HC2.out.mono ?_; rintro _ _ ⟨rfl, rfl⟩)
        go_round
        case rel => exact ⟨k + 1, by omega, by go_num, v_int HU.out.symm, fun j h1 h2 => by
          by_cases e : j = k + 1
          · subst e; rw [HU.out]; exact hc
          · exact HO.out j h1 (by omega)⟩
        case measure => simp [intOf]; omega
      · rw [hc] at HC2
        go_wp2_with (go_at_call 119; refine HC2.out.mono ?_; rintro _ _ ⟨rfl, rfl⟩)
        go_ret
        exact ⟨⟨k + 1, by push_cast; rfl, .inl ⟨k, hlt, rfl, HO.out, by rw [HU.out]; exact hc⟩⟩, rfl⟩
    · obtain rfl : m = k := by omega
      go_wp2
      go_ret
      exact ⟨⟨0, rfl, .inr ⟨rfl, HO.out⟩⟩, rfl⟩
set_option maxRecDepth 20000 in
set_option maxHeartbeats 8000000 in
theorem icutBest (A : Option Addr) (n c : Nat) (xs : List Int) (N W : Int) (b3 : Nat) (w : World) (hn1 : 1 ≤ n) (hn : n ≤ 40) (hc : n ≤ c) (hcm : c ≤ maxLen) (hs : ∀ i, i < n → 0 ≤ xs.getD i 0 ∧ xs.getD i 0 ≤ 1000) (hN : 1 ≤ N ∧ N ≤ 10) (hx : ReadsI w A n xs) (c3 : w.cell? ⟨b3, 0, none⟩ = some (.int .i64 W)) (RL : List Int) (RB : Bool) (HRL : Hid ((if N ≤ ((ctS (geP W) xs n).2.length : Int) then (ctS (geP W) xs n).2.take (N.toNat - 1) else []) = RL)) (HRB : Hid ((decide (N ≤ ((ctS (geP W) xs n).2.length : Int))) = RB)) :
    Calls Try.prog 115 #[.slice A n c, .int .i64 N, (.func (.func 119) #[] #[.pointer (some ⟨b3, 0, none⟩)])] w (RowV RL (.bool RB) w) := by
  obtain ⟨i0, hi0, hz0, hz1, hz2⟩ := info_parts infoK
  obtain ⟨q, rfl⟩ : ∃ q : Nat, N = q := ⟨N.toNat, by omega⟩
  have HL := Lib.hid (fun B m d ys W' (h1 : m ≤ 40) (h2 : ∀ i, i < m → 0 ≤ ys.getD i 0 ∧ ys.getD i 0 ≤ 1000) (h3 : ReadsI W' B m ys) (h4 : In w.heap.size w W') => ilenBest B m d ys W b3 W' h1 h2 h3 (cell_in c3 h4))
  have HS := Lib.hid hs
  have HX := Lib.hid hx
  have hq1 : 1 ≤ q := by omega
  have hq2 : q ≤ 10 := by omega
  have HCM := Lib.hid hcm
  clear c3 hs hx hN hcm
  go_enter Try.func115, Try.ntmps115
  go_wp2
  go_loopw [8, 9, 10, 11, 14] (fun v8 v9 v10 v11 v14 wr => ∃ (j p : Nat) (L : List Int) (B : Option Addr) (d : Nat), j ≤ q ∧ v14 = .int .i64 j ∧ p ≤ n ∧ v9 = .int .i64 p ∧ ctS (geP W) xs p = (0, L) ∧ L.length = j ∧ wr.ownsRow w.heap.size 3 1 v8 j (iv L) ∧ v10 = .slice B (n - p) d ∧ n - p ≤ d ∧ d ≤ maxLen ∧ ReadsI w B (n - p) (xs.drop p) ∧ In w.heap.size w wr) (fun _ _ _ _ i _ => q - (intOf i).toNat)
  case atStart => exact ⟨0, 0, [], A, c, Nat.zero_le _, rfl, Nat.zero_le _, rfl, rfl, rfl, ⟨rfl, .inl ⟨rfl, rfl⟩⟩, by simp, by simpa using hc, HCM.out, by simpa using HX.out, In.refl w⟩
  case round =>
    obtain ⟨j, p, L, B, d, hj, rfl, hp, rfl, hct, hlen, hown, rfl, hpd, hdm, hrd, hi⟩ := hrel
    obtain ⟨E, e9, rfl⟩ := own_shape_i hown
    have HCT := Lib.hid hct
    have HLEN := Lib.hid hlen
    have HDM := Lib.hid hdm
    clear hct hlen hdm
    by_cases hlt : j < q
    · have hys : ∀ i, i < n - p → 0 ≤ (xs.drop p).getD i 0 ∧ (xs.drop p).getD i 0 ≤ 1000 := fun i hi => by rw [drop_at]; exact HS.out _ (by omega)
      have HLS := Lib.hid (HL.out B (n - p) d (xs.drop p) wr (by omega) hys (reads_in hrd hi) hi)
      clear hys
      obtain ⟨mm, hmm⟩ : ∃ mm, n - p = mm := ⟨_, rfl⟩
      rw [hmm] at hrd HLS hpd ⊢
      have HMM := Lib.hid hmm
      have HRD := Lib.hid hrd
      have hsz := hi.size
      clear hmm hrd
      go_wp2_with fail
      refine HLS.out.mono ?_
      rintro _ _ ⟨⟨r, rfl, hr⟩, rfl⟩
      have hmm := HMM.out
      have hrd := HRD.out
      rcases hr with ⟨i, him, rfl, hr1, hr2⟩ | ⟨rfl, hr1⟩
      · have HN := Lib.hid (ct_yes HCT.out i hr1 hr2)
        have hr0 : ¬ ((i : Int) + 1) = 0 := by omega
        have hpi : p + (i + 1) ≤ n := by omega
        obtain ⟨r, hrr⟩ : ∃ r : Nat, i + 1 = r := ⟨_, rfl⟩
        rw [hrr] at HN hpi
        have hr0n : ¬ (r : Int) = 0 := by omega
        have hr0b : ((r : Int) == 0) = false := by simp; omega
        have hrm : r ≤ mm := by omega
        have HSD := Lib.hid (fun W' => isidesOf B mm d r W' hrm hpd HDM.out)
        have HRR := Lib.hid hrr
        rw [hrr]
        clear hr1 hr2 HLS hr0 him hrr hmm
        have F1 : Hid (∀ u ∈ (#[Value.int .i64 ((p : Int) + (r : Int))] : Array Value).toList, u.oneCell' = true) := Lib.hid (one_lit _)
        have f12 : j + 1 ≤ maxLen := cap12 (by omega)
        have f13 : (j + 1) * 8 ≤ 140737488355328 := cap13 (by omega)
        have hz9 := hi.size
        go_wp2_with (first | (at_builtin; refine wpList_app wr rfl (.tmp 24) (.tmp 26) 43 rfl w.heap.size 3 i0 (.int .i64 0) 1 8 Try.underlying43 hi0 hz0 hz1 hz2 rfl Nat.one_pos (.slice E j e9) j (iv L) rfl hown 1 #[.int .i64 ((p : Int) + (r : Int))] rfl rfl F1.out f12 f13 hz9 ?_; intro v1 w1 hown1 hbw1) | (go_at_call 181; refine (HSD.out _).mono ?_; rintro _ w3 ⟨rfl, hb3⟩))
        have hown2 : w3.ownsRow w.heap.size 3 1 v1 (j + 1) (iv (L ++ [((p + r : Nat) : Int)])) := by
          rw [show ((p + r : Nat) : Int) = (p : Int) + (r : Int) by omega, iv_app]; exact own_step hown1 hb3
        have hi3 : In w.heap.size w w3 := (hi.wide hbw1).step hb3
        have hrd3 : ReadsI w (loA B mm r) (mm - r) ((xs.drop p).drop r) := (reads_lo hrd r hrm (Nat.le_refl _))
        go_roundw
        case rel => exact ⟨j + 1, p + r, L ++ [((p + r : Nat) : Int)], loA B mm r, mm - r, by omega, by go_num, by omega, by go_num, HN.out, by simp [HLEN.out], hown2, by rw [show n - (p + r) = mm - r by have := HMM.out; omega], by have := HMM.out; omega, by have := HDM.out; have := HMM.out; omega, by rw [show n - (p + r) = mm - r by have := HMM.out; omega, ← List.drop_drop]; exact hrd3, hi3⟩
        case measure => simp [intOf]; omega
      · have HN := Lib.hid (ct_no HCT.out mm hr1)
        have HE : Hid ((ctS (geP W) xs n).2.length = j) := Lib.hid (by rw [show n = p + mm by omega, HN.out]; exact HLEN.out)
        have hjq : ¬ (q : Int) ≤ (j : Int) := by omega
        go_wp2
        exact bodyPost_ret (v := .tuple #[.slice none 0 0, .bool false]) (by simp [results, Try.results115, go_sem]) rfl (by
          have hb := HRB.out
          have hl := HRL.out
          have hjq : ¬ (q : Int) ≤ (j : Int) := by omega
          rw [HE.out, decide_eq_false hjq] at hb
          rw [HE.out, if_neg hjq] at hl
          subst hb hl
          exact rowV_of9 rfl ⟨rfl, .inl ⟨rfl, rfl⟩⟩ hi.below)
    · obtain rfl : q = j := by omega
      have HP : Hid (∃ M, (ctS (geP W) xs n).2 = L ++ M) := Lib.hid (by
        obtain ⟨M, hM⟩ := ct_pre (geP W) xs p (n - p)
        rw [show p + (n - p) = n by omega, HCT.out] at hM
        exact ⟨M, hM⟩)
      obtain ⟨z, hz⟩ : ∃ z : Nat, (z : Int) = (q : Int) - 1 := ⟨q - 1, by omega⟩
      have hzq : (q : Int) - 1 = (z : Int) := hz.symm
      have HZ : Hid (z = q - 1) := Lib.hid (by omega)
      have hcap := own_cap_9 hown
      have hzd : (z : Int) ≤ e9 := by omega
      have HO2 := Lib.hid (own_take hown (show z ≤ q by omega))
      clear hz hown
      go_wp2
      exact bodyPost_ret (v := .tuple #[.slice E z e9, .bool true]) (by simp [results, Try.results115, go_sem]) rfl (by
        obtain ⟨M, hM⟩ := HP.out
        have hle : (q : Int) ≤ ((ctS (geP W) xs n).2.length : Int) := by rw [hM, List.length_append, HLEN.out]; omega
        have hb := HRB.out
        have hl := HRL.out
        rw [decide_eq_true hle] at hb
        rw [if_pos hle, hM, Int.toNat_natCast, ← HZ.out, List.take_append_of_le_length (by rw [HLEN.out, HZ.out]; omega)] at hl
        subst hb hl
        exact rowV_of9 (by rw [List.length_take, HLEN.out, HZ.out]; omega) HO2.out hi.below)
end Go.Proofs.Ytmkfnhgaiheckaa
