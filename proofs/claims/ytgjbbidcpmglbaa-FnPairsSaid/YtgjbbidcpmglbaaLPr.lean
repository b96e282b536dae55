/- The law FnPairs. -/
import Derived.Test.YtgjbbidcpmglbaaPrP
import Derived.Test.YtgjbbidcpmglbaaAtAll
import Derived.Test.YtgjbbidcpmglbaaQuiet
import Derived.BigQuiet
import Derived.Deep.QuietTactic
namespace Go.Proofs.Ytgjbbidcpmglbaa
open Go.ChangeShapes Go.WideShapes Go.ChangeAt Go.RowKit
set_option linter.unusedVariables false
set_option linter.unusedSimpArgs false
set_option maxHeartbeats 2000000

/-- a row that a call hands back, to be read -/
def RowG (zs : List Int) (m : Nat) (w : World) (e : Ending) (w' : World) : Prop :=
  ∃ A c, e = .returned (.slice A m c) ∧ ReadsI w' A m zs ∧ Below w.heap.size w w'
theorem rowG {zs zs' : List Int} {m : Nat} {w : World} {e : Ending} {w' : World} (e1 : zs = zs') (hm : zs'.length = m) (h : RowB zs w e w') : RowG zs' m w e w' := by
  subst e1 hm
  obtain ⟨A, c, rfl, hown, hb⟩ := h
  exact ⟨A, c, rfl, reads_own_i hown, hb⟩
def bakTo (lo hi : Int) (F : List Int) : Nat → Bool
  | 0 => false
  | i + 1 => bakTo lo hi F i || decide (lo ≤ F.getD i 0) && decide (F.getD i 0 ≤ hi)
theorem bakTo_t {lo hi : Int} {F : List Int} {i : Nat} (h1 : lo ≤ F.getD i 0) (h2 : F.getD i 0 ≤ hi) : ∀ m, i < m → bakTo lo hi F m = true
  | 0, h => absurd h (Nat.not_lt_zero i)
  | m + 1, h => by
    rw [bakTo]
    by_cases e : i = m
    · subst e; rw [decide_eq_true h1, decide_eq_true h2]; simp
    · rw [bakTo_t h1 h2 m (by omega)]; rfl
set_option maxHeartbeats 40000000 in
set_option maxRecDepth 20000 in
theorem walk_FnPairs (a0 : Option Addr) (len0 cap0 : Nat) (z0 : List Int) (w : World) (w0 : IsRow .u8 w a0 len0 cap0 z0) :
    Calls Try.prog 5 #[.slice a0 len0 cap0] w fun e w' => e = .returned (.bool true) ∧ Below w.heap.size w w' := by
  have hb := ReadsU.of_row w0
  have hm := hb.1
  clear w0
  by_cases hbig : (1048576 : Int) < (len0 : Int)
  · go_enter Try.func5, Try.ntmps5
    go_wp2_with fail
    refine (bigU _ _ _ _ hm true (by simpa using hbig)).mono ?_
    rintro e w' ⟨rfl, rfl⟩
    go_wp2_with fail
    go_ret
    exact ⟨rfl, Below.refl _ _⟩
  have HB := Lib.hid hb
  go_enter Try.func5, Try.ntmps5
  go_wp2_with fail
  refine (bigU _ _ _ _ hm false (by simpa using hbig)).mono ?_
  rintro e w' ⟨rfl, rfl⟩
  clear hbig hm hb
  have f0_0 : In w.heap.size w w := In.refl w
  have hbu := HB.out
  go_wp2_with fail
  refine (DrawBreads_c _ _ _ _ (bytes_of hbu)).mono ?_
  rintro _ w1 ⟨A, cp, n, xs, rfl, ⟨hn0, hn⟩, hx, hrd, hnc, hb1⟩
  have f1_0 : In w.heap.size w w1 := f0_0.step hb1
  have f1_1 : ReadsBread w1 A n xs := hrd
  clear f0_0
  clear hb1 hrd hbu hnc hn0 HB
  obtain ⟨hB, hself, AL, FL, m, ok, low, high, s, eA, eF, lA, lF, lm, hz, hat, hinc, hsh, hcov, eC, hok, hcom, eL, s0, s1, s2⟩ := pairs_law hn hx
  have hnm : n ≤ maxLen := by unfold maxLen; omega
  have hmi := mi_in (xs := xs) n fun i hi => by have := hx i hi; simp only [] at this; rw [show (z10 : BreadR) = ⟨0, 0, 0⟩ from rfl]; omega
  have HFH : Hid (∀ W, ReadsBread W A n xs → Calls Try.prog 27 #[.slice A n cp] W (RowG FL m W)) := Lib.hid fun W h => (iFewestHeats A n cp xs W hnm h).mono fun _ _ k => rowG eF lF k
  have HAB : Hid (∀ W, ReadsBread W A n xs → Calls Try.prog 28 #[.slice A n cp] W (RowG AL m W)) := Lib.hid fun W h => (iApartBreads A n cp xs W hnm h).mono fun _ _ k => rowG eA lA k
  have HL0 : Hid (∀ W, Calls Try.prog 29 #[.slice none 0 0] W (Val (i64 0) W)) := Lib.hid fun W => by
    have := iLongestShared none 0 0 [] W (Nat.zero_le _) ⟨rfl, fun k hk => absurd hk (Nat.not_lt_zero k)⟩
    rwa [long_nil] at this
  have HLS : Hid (∀ W, ReadsBread W A n xs → Calls Try.prog 29 #[.slice A n cp] W (Val (i64 s) W)) := Lib.hid fun W h => by
    have := iLongestShared A n cp xs W hnm h
    rwa [eL] at this
  have HCH : Hid (∀ W, ReadsBread W A n xs → Calls Try.prog 32 #[.slice A n cp] W (Val (.tuple #[.int .i64 low, .int .i64 high, .bool ok]) W)) := Lib.hid fun W h => by
    have := iCommonHeat A n cp xs W hnm h
    rwa [eC] at this
  have HAT := Lib.hid hat
  have HIN := Lib.hid hinc
  have HSH := Lib.hid hsh
  have HCV := Lib.hid hcov
  have HSE := Lib.hid hself
  have HCO := Lib.hid hcom
  have HOK := Lib.hid hok
  have HS := Lib.hid (And.intro s0 (And.intro s1 s2))
  have HMI := Lib.hid hmi
  have HX := Lib.hid hx
  obtain ⟨v0, hv0⟩ : ∃ v, decide (n = 0) = v := ⟨_, rfl⟩
  have q1 : ((n : Int) == 0) = v0 := by rw [← hv0]; exact (Bool.eq_iff_iff.2 (by simp))
  have q2 : ((m : Int) == 0) = v0 := by rw [← hv0]; exact (Bool.eq_iff_iff.2 (by simp; omega))
  have q3 : decide (m = 0) = v0 := by rw [← hv0]; exact decide_eq_decide.2 hz
  have q5 : (n == 0) = v0 := by rw [← hv0]; exact (Bool.eq_iff_iff.2 (by simp))
  have q6 : (m == 0) = v0 := by rw [← hv0]; exact (Bool.eq_iff_iff.2 (by simp; omega))
  clear hat hinc hsh hcov hself hcom hok s0 s1 s2 eA eF eC eL lA lF hB hx hmi hnm hz
  go_wp2_with fail
  refine (HFH.out _ f1_1).mono ?_
  rintro _ w2 ⟨Af, cf, rfl, hr2, hb2⟩
  have f2_0 : In w.heap.size w w2 := f1_0.step hb2
  have f2_1 : ReadsBread w2 A n xs := f1_1.step hb2
  have f2_2 : ReadsI w2 Af m FL := hr2
  clear f1_0 f1_1
  clear hb2 hr2
  clear HFH
  go_wp2_with fail
  refine (HAB.out _ f2_1).mono ?_
  rintro _ w3 ⟨Aa, ca, rfl, hr3, hb3⟩
  have f3_0 : In w.heap.size w w3 := f2_0.step hb3
  have f3_1 : ReadsBread w3 A n xs := f2_1.step hb3
  have f3_2 : ReadsI w3 Af m FL := f2_2.step hb3
  have f3_3 : ReadsI w3 Aa m AL := hr3
  clear f2_0 f2_1 f2_2
  clear hb3 hr3
  clear HAB
  go_wp2_with fail
  refine (HL0.out _).mono ?_
  rintro _ w4 ⟨rfl, hb4⟩
  have f4_0 : In w.heap.size w w4 := f3_0.step hb4
  have f4_1 : ReadsBread w4 A n xs := f3_1.step hb4
  have f4_2 : ReadsI w4 Af m FL := f3_2.step hb4
  have f4_3 : ReadsI w4 Aa m AL := f3_3.step hb4
  clear f3_0 f3_1 f3_2 f3_3
  clear hb4
  clear HL0
  have q4 : decide (n = 0) = v0 := hv0
  go_wp2
  clear q1 q2 q3 q4 q5 q6 hv0
  go_loopw [6, 7] (fun i a2 wr => ∃ i1 : Nat, i1 ≤ m ∧ i = .int .i64 i1 ∧ (In w.heap.size w wr ∧ ReadsBread wr A n xs ∧ ReadsI wr Af m FL ∧ ReadsI wr Aa m AL)) (fun i _ _ => m - (intOf i).toNat)
  case atStart => exact ⟨0, Nat.zero_le _, rfl, f4_0, f4_1, f4_2, f4_3⟩
  case round =>
    obtain ⟨i, him, rfl, f5_0, f5_1, f5_2, f5_3⟩ := hrel
    clear f4_0 f4_1 f4_2 f4_3
    obtain ⟨wa, hq9⟩ : ∃ q, q = wr := ⟨_, rfl⟩
    subst hq9
    by_cases hlt : i < m
    · skip
      obtain ⟨t, htn, eat, eft⟩ := HAT.out i hlt
      have htm : (t : Int) < (n : Int) := by omega
      have htz : (0 : Int) ≤ (t : Int) := by omega
      have d1 : decide ((t : Int) < 0) = false := decide_eq_false (by omega)
      have d2 : decide ((n : Int) ≤ (t : Int)) = false := decide_eq_false (by omega)
      have d3 : decide (n ≤ t) = false := decide_eq_false (by omega)
      have g1_ : (i : Int) < (m : Int) := by omega
      have g2_ : (0 : Int) ≤ (i : Int) := by omega
      obtain ⟨aa, rfl, ca0⟩ := f5_3.2 i hlt
      obtain ⟨af, rfl, cf0⟩ := f5_2.2 i hlt
      obtain ⟨ad, rfl, cb0, cb1, cb2⟩ := f5_1.2 t htn
      rw [eat] at ca0
      rw [eft] at cf0
      rw [show (⟨0, 0, 0⟩ : BreadR) = z10 from rfl] at cb0 cb1 cb2
      have HS1 := Lib.hid (fun (k : Nat) (hk : k < i) (u : Nat) (eu : AL.getD k 0 = u) => HSH.out i k hk hlt t u eat eu)
      have HI1 := Lib.hid (fun (j : Nat) (hj : j + 1 = i) => show FL.getD j 0 < (xs.getD t z10).f1 by have := HIN.out j (by omega); rw [hj, eft] at this; exact this)
      clear eat eft
      generalize (xs.getD t z10).f0 = p0 at *
      generalize (xs.getD t z10).f1 = p1 at *
      generalize (xs.getD t z10).f2 = p2 at *
      by_cases hi0 : i = 0
      · skip
        have d4 : decide ((0 : Int) < (i : Int)) = false := decide_eq_false (by omega)
        have d5 : decide (0 < i) = false := decide_eq_false (by omega)
        have HI0 := Lib.hid hi0
        clear hi0
        go_wp2
        refine wp_region_S (C := (fun w' => In w.heap.size w w' ∧ ReadsBread w' (some ad) n xs ∧ ReadsI w' (some af) m FL ∧ ReadsI w' (some aa) m AL ∧ w'.cell? (aa.add i) = some (.int .i64 t) ∧ w'.cell? (af.add i) = some (.int .i64 p1) ∧ w'.cell? (ad.add (t * 3)) = some (.int .i64 p0) ∧ w'.cell? ⟨(ad.add (t * 3)).block, (ad.add (t * 3)).off + 1, none⟩ = some (.int .i64 p1) ∧ w'.cell? ⟨(ad.add (t * 3)).block, (ad.add (t * 3)).off + 2, none⟩ = some (.int .i64 p2))) (by kernel_rfl) (by kernel_rfl) ?_ ?_
        · exact ⟨f5_0.drew, f5_1, f5_2, f5_3, ca0, cf0, cb0, cb1, cb2⟩
        repeat (first | go_big_quiet_skip | (go_big_quiet_want; first | (refine quiet_ex ?_; apply Exists.intro; refine ⟨fun W hW => ?_, ?_⟩; (· (obtain ⟨f6_0, f6_1, f6_2, f6_3, f6_4, f6_5, f6_6, f6_7, f6_8⟩ := hW; go_simp; (first | done | with_reducible rfl | rfl))); simp only [Act.put, List.setIfInBounds_toArray, List.set_cons_zero, List.set_cons_succ]; go_big_quiet_on) | (refine quiet_ex ?_; apply Exists.intro; refine ⟨fun W hW => ?_, ?_⟩; (· (go_simp; first | (fail))); simp only [Act.put, List.setIfInBounds_toArray, List.set_cons_zero, List.set_cons_succ]; go_big_quiet_on)))
        refine wpQuiet_nil ?_
        rintro w' ⟨f6_0, f6_1, f6_2, f6_3, f6_4, f6_5, f6_6, f6_7, f6_8⟩
        clear f5_0 f5_1 f5_2 f5_3 ca0 cf0 cb0 cb1 cb2
        obtain ⟨u1_, hx9⟩ : ∃ x, x = w' := ⟨_, rfl⟩
        subst hx9
        clear d1 d2 d3 d4 d5
        go_wp2
        go_loopw [7] (fun k wr => ∃ k1 : Nat, k1 ≤ i ∧ k = .int .i64 k1 ∧ (In w.heap.size w wr ∧ ReadsBread wr (some ad) n xs ∧ ReadsI wr (some af) m FL ∧ ReadsI wr (some aa) m AL ∧ wr.cell? (aa.add i) = some (.int .i64 t) ∧ wr.cell? (af.add i) = some (.int .i64 p1) ∧ wr.cell? (ad.add (t * 3)) = some (.int .i64 p0) ∧ wr.cell? ⟨(ad.add (t * 3)).block, (ad.add (t * 3)).off + 1, none⟩ = some (.int .i64 p1) ∧ wr.cell? ⟨(ad.add (t * 3)).block, (ad.add (t * 3)).off + 2, none⟩ = some (.int .i64 p2))) (fun k _ => i - (intOf k).toNat)
        case atStart => exact ⟨0, Nat.zero_le _, rfl, f6_0, f6_1, f6_2, f6_3, f6_4, f6_5, f6_6, f6_7, f6_8⟩
        case round =>
          obtain ⟨k, hki, rfl, f7_0, f7_1, f7_2, f7_3, f7_4, f7_5, f7_6, f7_7, f7_8⟩ := hrel
          clear f6_0 f6_1 f6_2 f6_3 f6_4 f6_5 f6_6 f6_7 f6_8
          by_cases hlt2 : k < i
          · skip
            have hkm : k < m := by omega
            obtain ⟨u, hun, eau, efu⟩ := HAT.out k hkm
            have hsf := HS1.out k hlt2 u eau
            obtain ⟨aa2, haa2, ck⟩ := f7_3.2 k hkm
            obtain rfl : aa = aa2 := Option.some.inj haa2
            rw [eau] at ck
            obtain ⟨ad2, had2, cu0, cu1, cu2⟩ := f7_1.2 u hun
            obtain rfl : ad = ad2 := Option.some.inj had2
            rw [show (⟨0, 0, 0⟩ : BreadR) = z10 from rfl] at cu0 cu1 cu2
            generalize (xs.getD u z10).f0 = r0 at *
            generalize (xs.getD u z10).f1 = r1 at *
            generalize (xs.getD u z10).f2 = r2 at *
            have HCS := Lib.hid (fun W => iCanShare p0 p1 p2 r0 r1 r2 W)
            rw [hsf] at HCS
            have g3_ : (k : Int) < (m : Int) := by omega
            have g4_ : (0 : Int) ≤ (k : Int) := by omega
            have g5_ : (u : Int) < (n : Int) := by omega
            have g6_ : (0 : Int) ≤ (u : Int) := by omega
            clear hsf eau efu haa2 had2
            go_wp2_with fail
            have HCL := Lib.hid (show ∀ W', In w.heap.size w W' ∧ ReadsBread W' (some ad) n xs ∧ ReadsI W' (some af) m FL ∧ ReadsI W' (some aa) m AL ∧ W'.cell? (aa.add i) = some (.int .i64 t) ∧ W'.cell? (af.add i) = some (.int .i64 p1) ∧ W'.cell? (ad.add (t * 3)) = some (.int .i64 p0) ∧ W'.cell? ⟨(ad.add (t * 3)).block, (ad.add (t * 3)).off + 1, none⟩ = some (.int .i64 p1) ∧ W'.cell? ⟨(ad.add (t * 3)).block, (ad.add (t * 3)).off + 2, none⟩ = some (.int .i64 p2) ∧ W'.cell? (aa.add k) = some (.int .i64 u) ∧ W'.cell? (ad.add (u * 3)) = some (.int .i64 r0) ∧ W'.cell? ⟨(ad.add (u * 3)).block, (ad.add (u * 3)).off + 1, none⟩ = some (.int .i64 r1) ∧ W'.cell? ⟨(ad.add (u * 3)).block, (ad.add (u * 3)).off + 2, none⟩ = some (.int .i64 r2) → ∀ W2, Below W'.heap.size W' W2 → In w.heap.size w W2 ∧ ReadsBread W2 (some ad) n xs ∧ ReadsI W2 (some af) m FL ∧ ReadsI W2 (some aa) m AL ∧ W2.cell? (aa.add i) = some (.int .i64 t) ∧ W2.cell? (af.add i) = some (.int .i64 p1) ∧ W2.cell? (ad.add (t * 3)) = some (.int .i64 p0) ∧ W2.cell? ⟨(ad.add (t * 3)).block, (ad.add (t * 3)).off + 1, none⟩ = some (.int .i64 p1) ∧ W2.cell? ⟨(ad.add (t * 3)).block, (ad.add (t * 3)).off + 2, none⟩ = some (.int .i64 p2) ∧ W2.cell? (aa.add k) = some (.int .i64 u) ∧ W2.cell? (ad.add (u * 3)) = some (.int .i64 r0) ∧ W2.cell? ⟨(ad.add (u * 3)).block, (ad.add (u * 3)).off + 1, none⟩ = some (.int .i64 r1) ∧ W2.cell? ⟨(ad.add (u * 3)).block, (ad.add (u * 3)).off + 2, none⟩ = some (.int .i64 r2) from fun W' h W2 hb => by
              obtain ⟨g0, g1, g2, g3, g4, g5, g6, g7, g8, g9, g10, g11, g12⟩ := h
              exact ⟨g0.step hb, g1.step hb, g2.step hb, g3.step hb, cell_in g4 ⟨hb, hb.size⟩, cell_in g5 ⟨hb, hb.size⟩, cell_in g6 ⟨hb, hb.size⟩, cell_in g7 ⟨hb, hb.size⟩, cell_in g8 ⟨hb, hb.size⟩, cell_in g9 ⟨hb, hb.size⟩, cell_in g10 ⟨hb, hb.size⟩, cell_in g11 ⟨hb, hb.size⟩, cell_in g12 ⟨hb, hb.size⟩⟩)
            refine wp_region_S (C := (fun w' => In w.heap.size w w' ∧ ReadsBread w' (some ad) n xs ∧ ReadsI w' (some af) m FL ∧ ReadsI w' (some aa) m AL ∧ w'.cell? (aa.add i) = some (.int .i64 t) ∧ w'.cell? (af.add i) = some (.int .i64 p1) ∧ w'.cell? (ad.add (t * 3)) = some (.int .i64 p0) ∧ w'.cell? ⟨(ad.add (t * 3)).block, (ad.add (t * 3)).off + 1, none⟩ = some (.int .i64 p1) ∧ w'.cell? ⟨(ad.add (t * 3)).block, (ad.add (t * 3)).off + 2, none⟩ = some (.int .i64 p2) ∧ w'.cell? (aa.add k) = some (.int .i64 u) ∧ w'.cell? (ad.add (u * 3)) = some (.int .i64 r0) ∧ w'.cell? ⟨(ad.add (u * 3)).block, (ad.add (u * 3)).off + 1, none⟩ = some (.int .i64 r1) ∧ w'.cell? ⟨(ad.add (u * 3)).block, (ad.add (u * 3)).off + 2, none⟩ = some (.int .i64 r2))) (by kernel_rfl) (by kernel_rfl) ?_ ?_
            · exact ⟨f7_0.drew, f7_1, f7_2, f7_3, f7_4, f7_5, f7_6, f7_7, f7_8, ck, cu0, cu1, cu2⟩
            repeat (first | go_big_quiet_skip | (go_big_quiet_want; first | (refine quiet_ex ?_; apply Exists.intro; refine ⟨fun W hW => ?_, ?_⟩; (· (obtain ⟨f8_0, f8_1, f8_2, f8_3, f8_4, f8_5, f8_6, f8_7, f8_8, f8_9, f8_10, f8_11, f8_12⟩ := hW; go_simp; (first | done | with_reducible rfl | rfl))); simp only [Act.put, List.setIfInBounds_toArray, List.set_cons_zero, List.set_cons_succ]; go_big_quiet_on) | (refine quiet_ex ?_; apply Exists.intro; refine ⟨fun W hW => ?_, ?_⟩; (· (go_simp; first | (go_at_call 30; (with_reducible refine (HCS.out _).mono ?_); rintro e w2 ⟨rfl, hb2⟩; exact ⟨rfl, HCL.out _ hW _ hb2⟩))); simp only [Act.put, List.setIfInBounds_toArray, List.set_cons_zero, List.set_cons_succ]; go_big_quiet_on)))
            refine wpQuiet_nil ?_
            rintro w' ⟨f8_0, f8_1, f8_2, f8_3, f8_4, f8_5, f8_6, f8_7, f8_8, f8_9, f8_10, f8_11, f8_12⟩
            clear f7_0 f7_1 f7_2 f7_3 f7_4 f7_5 f7_6 f7_7 f7_8 ck cu0 cu1 cu2
            obtain ⟨u2_, hx9⟩ : ∃ x, x = w' := ⟨_, rfl⟩
            subst hx9
            clear HCL HCS
            go_wp2
            go_roundw
            case rel => exact ⟨k + 1, by omega, by go_num, f8_0, f8_1, f8_2, f8_3, f8_4, f8_5, f8_6, f8_7, f8_8⟩
            case measure => simp [intOf]; omega
          · skip
            go_wp2
            go_roundw
            case rel => exact ⟨i + 1, by omega, by go_num, f7_0, f7_1, f7_2, f7_3⟩
            case measure => simp [intOf]; omega
      · skip
        have d4 : decide ((0 : Int) < (i : Int)) = true := decide_eq_true (by omega)
        have d5 : decide (0 < i) = true := decide_eq_true (by omega)
        obtain ⟨j, hj⟩ : ∃ j : Nat, j + 1 = i := ⟨i - 1, by omega⟩
        have hjm : j < m := by omega
        have g5_ : (j : Int) < (m : Int) := by omega
        have g6_ : (0 : Int) ≤ (j : Int) := by omega
        obtain ⟨af2, haf2, cj⟩ := f5_2.2 j hjm
        obtain rfl : af = af2 := Option.some.inj haf2
        have hlt3 := HI1.out j hj
        generalize FL.getD j 0 = pj at *
        have d6 : decide (p1 ≤ pj) = false := decide_eq_false (by omega)
        have V1 : IntKind.i64.wrap ((i : Int) - 1) = (j : Int) := by rw [IntWalk.i64_in _ (by omega)]; omega
        have HJ := Lib.hid hj
        clear haf2 hj hlt3 hi0
        go_wp2
        refine wp_region_S (C := (fun w' => In w.heap.size w w' ∧ ReadsBread w' (some ad) n xs ∧ ReadsI w' (some af) m FL ∧ ReadsI w' (some aa) m AL ∧ w'.cell? (aa.add i) = some (.int .i64 t) ∧ w'.cell? (af.add i) = some (.int .i64 p1) ∧ w'.cell? (ad.add (t * 3)) = some (.int .i64 p0) ∧ w'.cell? ⟨(ad.add (t * 3)).block, (ad.add (t * 3)).off + 1, none⟩ = some (.int .i64 p1) ∧ w'.cell? ⟨(ad.add (t * 3)).block, (ad.add (t * 3)).off + 2, none⟩ = some (.int .i64 p2) ∧ w'.cell? (af.add j) = some (.int .i64 pj))) (by kernel_rfl) (by kernel_rfl) ?_ ?_
        · exact ⟨f5_0.drew, f5_1, f5_2, f5_3, ca0, cf0, cb0, cb1, cb2, cj⟩
        repeat (first | go_big_quiet_skip | (go_big_quiet_want; first | (refine quiet_ex ?_; apply Exists.intro; refine ⟨fun W hW => ?_, ?_⟩; (· (obtain ⟨f6_0, f6_1, f6_2, f6_3, f6_4, f6_5, f6_6, f6_7, f6_8, f6_9⟩ := hW; go_simp; (first | done | with_reducible rfl | rfl))); simp only [Act.put, List.setIfInBounds_toArray, List.set_cons_zero, List.set_cons_succ]; go_big_quiet_on) | (refine quiet_ex ?_; apply Exists.intro; refine ⟨fun W hW => ?_, ?_⟩; (· (go_simp; first | (fail))); simp only [Act.put, List.setIfInBounds_toArray, List.set_cons_zero, List.set_cons_succ]; go_big_quiet_on)))
        refine wpQuiet_nil ?_
        rintro w' ⟨f6_0, f6_1, f6_2, f6_3, f6_4, f6_5, f6_6, f6_7, f6_8, f6_9⟩
        clear f5_0 f5_1 f5_2 f5_3 ca0 cf0 cb0 cb1 cb2 cj
        obtain ⟨u1_, hx9⟩ : ∃ x, x = w' := ⟨_, rfl⟩
        subst hx9
        clear d1 d2 d3 d4 d5 d6 V1
        go_wp2
        clear f6_9
        go_loopw [7] (fun k wr => ∃ k1 : Nat, k1 ≤ i ∧ k = .int .i64 k1 ∧ (In w.heap.size w wr ∧ ReadsBread wr (some ad) n xs ∧ ReadsI wr (some af) m FL ∧ ReadsI wr (some aa) m AL ∧ wr.cell? (aa.add i) = some (.int .i64 t) ∧ wr.cell? (af.add i) = some (.int .i64 p1) ∧ wr.cell? (ad.add (t * 3)) = some (.int .i64 p0) ∧ wr.cell? ⟨(ad.add (t * 3)).block, (ad.add (t * 3)).off + 1, none⟩ = some (.int .i64 p1) ∧ wr.cell? ⟨(ad.add (t * 3)).block, (ad.add (t * 3)).off + 2, none⟩ = some (.int .i64 p2))) (fun k _ => i - (intOf k).toNat)
        case atStart => exact ⟨0, Nat.zero_le _, rfl, f6_0, f6_1, f6_2, f6_3, f6_4, f6_5, f6_6, f6_7, f6_8⟩
        case round =>
          obtain ⟨k, hki, rfl, f7_0, f7_1, f7_2, f7_3, f7_4, f7_5, f7_6, f7_7, f7_8⟩ := hrel
          clear f6_0 f6_1 f6_2 f6_3 f6_4 f6_5 f6_6 f6_7 f6_8
          by_cases hlt2 : k < i
          · skip
            have hkm : k < m := by omega
            obtain ⟨u, hun, eau, efu⟩ := HAT.out k hkm
            have hsf := HS1.out k hlt2 u eau
            obtain ⟨aa2, haa2, ck⟩ := f7_3.2 k hkm
            obtain rfl : aa = aa2 := Option.some.inj haa2
            rw [eau] at ck
            obtain ⟨ad2, had2, cu0, cu1, cu2⟩ := f7_1.2 u hun
            obtain rfl : ad = ad2 := Option.some.inj had2
            rw [show (⟨0, 0, 0⟩ : BreadR) = z10 from rfl] at cu0 cu1 cu2
            generalize (xs.getD u z10).f0 = r0 at *
            generalize (xs.getD u z10).f1 = r1 at *
            generalize (xs.getD u z10).f2 = r2 at *
            have HCS := Lib.hid (fun W => iCanShare p0 p1 p2 r0 r1 r2 W)
            rw [hsf] at HCS
            have g3_ : (k : Int) < (m : Int) := by omega
            have g4_ : (0 : Int) ≤ (k : Int) := by omega
            have g5_ : (u : Int) < (n : Int) := by omega
            have g6_ : (0 : Int) ≤ (u : Int) := by omega
            clear hsf eau efu haa2 had2
            go_wp2_with fail
            have HCL := Lib.hid (show ∀ W', In w.heap.size w W' ∧ ReadsBread W' (some ad) n xs ∧ ReadsI W' (some af) m FL ∧ ReadsI W' (some aa) m AL ∧ W'.cell? (aa.add i) = some (.int .i64 t) ∧ W'.cell? (af.add i) = some (.int .i64 p1) ∧ W'.cell? (ad.add (t * 3)) = some (.int .i64 p0) ∧ W'.cell? ⟨(ad.add (t * 3)).block, (ad.add (t * 3)).off + 1, none⟩ = some (.int .i64 p1) ∧ W'.cell? ⟨(ad.add (t * 3)).block, (ad.add (t * 3)).off + 2, none⟩ = some (.int .i64 p2) ∧ W'.cell? (aa.add k) = some (.int .i64 u) ∧ W'.cell? (ad.add (u * 3)) = some (.int .i64 r0) ∧ W'.cell? ⟨(ad.add (u * 3)).block, (ad.add (u * 3)).off + 1, none⟩ = some (.int .i64 r1) ∧ W'.cell? ⟨(ad.add (u * 3)).block, (ad.add (u * 3)).off + 2, none⟩ = some (.int .i64 r2) → ∀ W2, Below W'.heap.size W' W2 → In w.heap.size w W2 ∧ ReadsBread W2 (some ad) n xs ∧ ReadsI W2 (some af) m FL ∧ ReadsI W2 (some aa) m AL ∧ W2.cell? (aa.add i) = some (.int .i64 t) ∧ W2.cell? (af.add i) = some (.int .i64 p1) ∧ W2.cell? (ad.add (t * 3)) = some (.int .i64 p0) ∧ W2.cell? ⟨(ad.add (t * 3)).block, (ad.add (t * 3)).off + 1, none⟩ = some (.int .i64 p1) ∧ W2.cell? ⟨(ad.add (t * 3)).block, (ad.add (t * 3)).off + 2, none⟩ = some (.int .i64 p2) ∧ W2.cell? (aa.add k) = some (.int .i64 u) ∧ W2.cell? (ad.add (u * 3)) = some (.int .i64 r0) ∧ W2.cell? ⟨(ad.add (u * 3)).block, (ad.add (u * 3)).off + 1, none⟩ = some (.int .i64 r1) ∧ W2.cell? ⟨(ad.add (u * 3)).block, (ad.add (u * 3)).off + 2, none⟩ = some (.int .i64 r2) from fun W' h W2 hb => by
              obtain ⟨g0, g1, g2, g3, g4, g5, g6, g7, g8, g9, g10, g11, g12⟩ := h
              exact ⟨g0.step hb, g1.step hb, g2.step hb, g3.step hb, cell_in g4 ⟨hb, hb.size⟩, cell_in g5 ⟨hb, hb.size⟩, cell_in g6 ⟨hb, hb.size⟩, cell_in g7 ⟨hb, hb.size⟩, cell_in g8 ⟨hb, hb.size⟩, cell_in g9 ⟨hb, hb.size⟩, cell_in g10 ⟨hb, hb.size⟩, cell_in g11 ⟨hb, hb.size⟩, cell_in g12 ⟨hb, hb.size⟩⟩)
            refine wp_region_S (C := (fun w' => In w.heap.size w w' ∧ ReadsBread w' (some ad) n xs ∧ ReadsI w' (some af) m FL ∧ ReadsI w' (some aa) m AL ∧ w'.cell? (aa.add i) = some (.int .i64 t) ∧ w'.cell? (af.add i) = some (.int .i64 p1) ∧ w'.cell? (ad.add (t * 3)) = some (.int .i64 p0) ∧ w'.cell? ⟨(ad.add (t * 3)).block, (ad.add (t * 3)).off + 1, none⟩ = some (.int .i64 p1) ∧ w'.cell? ⟨(ad.add (t * 3)).block, (ad.add (t * 3)).off + 2, none⟩ = some (.int .i64 p2) ∧ w'.cell? (aa.add k) = some (.int .i64 u) ∧ w'.cell? (ad.add (u * 3)) = some (.int .i64 r0) ∧ w'.cell? ⟨(ad.add (u * 3)).block, (ad.add (u * 3)).off + 1, none⟩ = some (.int .i64 r1) ∧ w'.cell? ⟨(ad.add (u * 3)).block, (ad.add (u * 3)).off + 2, none⟩ = some (.int .i64 r2))) (by kernel_rfl) (by kernel_rfl) ?_ ?_
            · exact ⟨f7_0.drew, f7_1, f7_2, f7_3, f7_4, f7_5, f7_6, f7_7, f7_8, ck, cu0, cu1, cu2⟩
            repeat (first | go_big_quiet_skip | (go_big_quiet_want; first | (refine quiet_ex ?_; apply Exists.intro; refine ⟨fun W hW => ?_, ?_⟩; (· (obtain ⟨f8_0, f8_1, f8_2, f8_3, f8_4, f8_5, f8_6, f8_7, f8_8, f8_9, f8_10, f8_11, f8_12⟩ := hW; go_simp; (first | done | with_reducible rfl | rfl))); simp only [Act.put, List.setIfInBounds_toArray, List.set_cons_zero, List.set_cons_succ]; go_big_quiet_on) | (refine quiet_ex ?_; apply Exists.intro; refine ⟨fun W hW => ?_, ?_⟩; (· (go_simp; first | (go_at_call 30; (with_reducible refine (HCS.out _).mono ?_); rintro e w2 ⟨rfl, hb2⟩; exact ⟨rfl, HCL.out _ hW _ hb2⟩))); simp only [Act.put, List.setIfInBounds_toArray, List.set_cons_zero, List.set_cons_succ]; go_big_quiet_on)))
            refine wpQuiet_nil ?_
            rintro w' ⟨f8_0, f8_1, f8_2, f8_3, f8_4, f8_5, f8_6, f8_7, f8_8, f8_9, f8_10, f8_11, f8_12⟩
            clear f7_0 f7_1 f7_2 f7_3 f7_4 f7_5 f7_6 f7_7 f7_8 ck cu0 cu1 cu2
            obtain ⟨u2_, hx9⟩ : ∃ x, x = w' := ⟨_, rfl⟩
            subst hx9
            clear HCL HCS
            go_wp2
            go_roundw
            case rel => exact ⟨k + 1, by omega, by go_num, f8_0, f8_1, f8_2, f8_3, f8_4, f8_5, f8_6, f8_7, f8_8⟩
            case measure => simp [intOf]; omega
          · skip
            go_wp2
            go_roundw
            case rel => exact ⟨i + 1, by omega, by go_num, f7_0, f7_1, f7_2, f7_3⟩
            case measure => simp [intOf]; omega
    · skip
      as_aux_lemma =>
       clear HAT HIN HSH
       go_wp2
       go_loopw [8, 9, 10] (fun k a2 a3 wr => ∃ k1 : Nat, k1 ≤ n ∧ k = .int .i64 k1 ∧ (In w.heap.size w wr ∧ ReadsBread wr A n xs ∧ ReadsI wr Af m FL ∧ ReadsI wr Aa m AL)) (fun k _ _ _ => n - (intOf k).toNat)
       case atStart => exact ⟨0, Nat.zero_le _, rfl, f5_0, f5_1, f5_2, f5_3⟩
       case round =>
         obtain ⟨k, hkn, rfl, f6_0, f6_1, f6_2, f6_3⟩ := hrel
         clear f5_0 f5_1 f5_2 f5_3
         obtain ⟨wb, hq9⟩ : ∃ q, q = wr := ⟨_, rfl⟩
         subst hq9
         by_cases hlt3 : k < n
         · skip
           obtain ⟨ad, rfl, cb0, cb1, cb2⟩ := f6_1.2 k hlt3
           rw [show (⟨0, 0, 0⟩ : BreadR) = z10 from rfl] at cb0 cb1 cb2
           obtain ⟨hbo, hss⟩ := HSE.out k hlt3
           obtain ⟨ic, hic, hc1, hc2⟩ := HCV.out k hlt3
           have HBT := Lib.hid (bakTo_t hc1 hc2 m hic)
           have HBS := Lib.hid (fun i => show bakTo (xs.getD k z10).f0 (xs.getD k z10).f1 FL (i + 1) = (bakTo (xs.getD k z10).f0 (xs.getD k z10).f1 FL i || decide ((xs.getD k z10).f0 ≤ FL.getD i 0) && decide (FL.getD i 0 ≤ (xs.getD k z10).f1)) from rfl)
           have HBO := Lib.hid (fun W => iBreadOk (xs.getD k z10).f0 (xs.getD k z10).f1 (xs.getD k z10).f2 W)
           rw [hbo] at HBO
           have HCS := Lib.hid (fun W => iCanShare (xs.getD k z10).f0 (xs.getD k z10).f1 (xs.getD k z10).f2 (xs.getD k z10).f0 (xs.getD k z10).f1 (xs.getD k z10).f2 W)
           rw [hss] at HCS
           clear hbo hss hc1 hc2 hic
           generalize (xs.getD k z10).f0 = p0 at *
           generalize (xs.getD k z10).f1 = p1 at *
           generalize (xs.getD k z10).f2 = p2 at *
           have g1_ : (k : Int) < (n : Int) := by omega
           have g2_ : (0 : Int) ≤ (k : Int) := by omega
           go_wp2
           go_loopw [9, 10] (fun a i wr => ∃ i1 : Nat, i1 ≤ m ∧ i = .int .i64 i1 ∧ a = .bool (bakTo p0 p1 FL i1) ∧ (In w.heap.size w wr ∧ ReadsBread wr (some ad) n xs ∧ ReadsI wr Af m FL ∧ ReadsI wr Aa m AL ∧ wr.cell? (ad.add (k * 3)) = some (.int .i64 p0) ∧ wr.cell? ⟨(ad.add (k * 3)).block, (ad.add (k * 3)).off + 1, none⟩ = some (.int .i64 p1) ∧ wr.cell? ⟨(ad.add (k * 3)).block, (ad.add (k * 3)).off + 2, none⟩ = some (.int .i64 p2))) (fun _ i _ => m - (intOf i).toNat)
           case atStart => exact ⟨0, Nat.zero_le _, rfl, rfl, f6_0, f6_1, f6_2, f6_3, cb0, cb1, cb2⟩
           case round =>
             obtain ⟨i, him, rfl, rfl, f7_0, f7_1, f7_2, f7_3, f7_4, f7_5, f7_6⟩ := hrel
             clear f6_0 f6_1 f6_2 f6_3 cb0 cb1 cb2
             by_cases hlt4 : i < m
             · skip
               obtain ⟨af, rfl, cf0⟩ := f7_2.2 i hlt4
               have HB1 := Lib.hid (HBS.out i)
               generalize FL.getD i 0 = y at *
               generalize bakTo p0 p1 FL i = b0 at *
               have g3_ : (i : Int) < (m : Int) := by omega
               have g4_ : (0 : Int) ≤ (i : Int) := by omega
               cases b0
               · skip
                 by_cases hlo : p0 ≤ y
                 · skip
                   have d1 : decide (p0 ≤ y) = true := decide_eq_true (by omega)
                   obtain ⟨b1, hb1⟩ : ∃ b1, decide (y ≤ p1) = b1 := ⟨_, rfl⟩
                   go_wp2
                   refine wp_region_S (C := (fun w' => In w.heap.size w w' ∧ ReadsBread w' (some ad) n xs ∧ ReadsI w' (some af) m FL ∧ ReadsI w' Aa m AL ∧ w'.cell? (ad.add (k * 3)) = some (.int .i64 p0) ∧ w'.cell? ⟨(ad.add (k * 3)).block, (ad.add (k * 3)).off + 1, none⟩ = some (.int .i64 p1) ∧ w'.cell? ⟨(ad.add (k * 3)).block, (ad.add (k * 3)).off + 2, none⟩ = some (.int .i64 p2) ∧ w'.cell? (af.add i) = some (.int .i64 y))) (by kernel_rfl) (by kernel_rfl) ?_ ?_
                   · exact ⟨f7_0.drew, f7_1, f7_2, f7_3, f7_4, f7_5, f7_6, cf0⟩
                   repeat (first | go_big_quiet_skip | (go_big_quiet_want; first | (refine quiet_ex ?_; apply Exists.intro; refine ⟨fun W hW => ?_, ?_⟩; (· (obtain ⟨f8_0, f8_1, f8_2, f8_3, f8_4, f8_5, f8_6, f8_7⟩ := hW; go_simp; (first | done | with_reducible rfl | rfl))); simp only [Act.put, List.setIfInBounds_toArray, List.set_cons_zero, List.set_cons_succ]; go_big_quiet_on) | (refine quiet_ex ?_; apply Exists.intro; refine ⟨fun W hW => ?_, ?_⟩; (· (go_simp; first | (fail))); simp only [Act.put, List.setIfInBounds_toArray, List.set_cons_zero, List.set_cons_succ]; go_big_quiet_on)))
                   refine wpQuiet_nil ?_
                   rintro w' ⟨f8_0, f8_1, f8_2, f8_3, f8_4, f8_5, f8_6, f8_7⟩
                   clear f7_0 f7_1 f7_2 f7_3 f7_4 f7_5 f7_6 cf0
                   obtain ⟨u3_, hx9⟩ : ∃ x, x = w' := ⟨_, rfl⟩
                   subst hx9
                   go_wp2
                   go_roundw
                   case rel => exact ⟨i + 1, by omega, by go_num, v_bool (by rw [HB1.out]; simp [d1, hb1]), f8_0, f8_1, f8_2, f8_3, f8_4, f8_5, f8_6⟩
                   case measure => simp [intOf]; omega
                 · skip
                   have d1 : decide (p0 ≤ y) = false := decide_eq_false (by omega)
                   go_wp2
                   refine wp_region_S (C := (fun w' => In w.heap.size w w' ∧ ReadsBread w' (some ad) n xs ∧ ReadsI w' (some af) m FL ∧ ReadsI w' Aa m AL ∧ w'.cell? (ad.add (k * 3)) = some (.int .i64 p0) ∧ w'.cell? ⟨(ad.add (k * 3)).block, (ad.add (k * 3)).off + 1, none⟩ = some (.int .i64 p1) ∧ w'.cell? ⟨(ad.add (k * 3)).block, (ad.add (k * 3)).off + 2, none⟩ = some (.int .i64 p2) ∧ w'.cell? (af.add i) = some (.int .i64 y))) (by kernel_rfl) (by kernel_rfl) ?_ ?_
                   · exact ⟨f7_0.drew, f7_1, f7_2, f7_3, f7_4, f7_5, f7_6, cf0⟩
                   repeat (first | go_big_quiet_skip | (go_big_quiet_want; first | (refine quiet_ex ?_; apply Exists.intro; refine ⟨fun W hW => ?_, ?_⟩; (· (obtain ⟨f8_0, f8_1, f8_2, f8_3, f8_4, f8_5, f8_6, f8_7⟩ := hW; go_simp; (first | done | with_reducible rfl | rfl))); simp only [Act.put, List.setIfInBounds_toArray, List.set_cons_zero, List.set_cons_succ]; go_big_quiet_on) | (refine quiet_ex ?_; apply Exists.intro; refine ⟨fun W hW => ?_, ?_⟩; (· (go_simp; first | (fail))); simp only [Act.put, List.setIfInBounds_toArray, List.set_cons_zero, List.set_cons_succ]; go_big_quiet_on)))
                   refine wpQuiet_nil ?_
                   rintro w' ⟨f8_0, f8_1, f8_2, f8_3, f8_4, f8_5, f8_6, f8_7⟩
                   clear f7_0 f7_1 f7_2 f7_3 f7_4 f7_5 f7_6 cf0
                   obtain ⟨u3_, hx9⟩ : ∃ x, x = w' := ⟨_, rfl⟩
                   subst hx9
                   go_wp2
                   go_roundw
                   case rel => exact ⟨i + 1, by omega, by go_num, v_bool (by rw [HB1.out]; simp [d1]), f8_0, f8_1, f8_2, f8_3, f8_4, f8_5, f8_6⟩
                   case measure => simp [intOf]; omega
               · skip
                 go_wp2
                 refine wp_region_S (C := (fun w' => In w.heap.size w w' ∧ ReadsBread w' (some ad) n xs ∧ ReadsI w' (some af) m FL ∧ ReadsI w' Aa m AL ∧ w'.cell? (ad.add (k * 3)) = some (.int .i64 p0) ∧ w'.cell? ⟨(ad.add (k * 3)).block, (ad.add (k * 3)).off + 1, none⟩ = some (.int .i64 p1) ∧ w'.cell? ⟨(ad.add (k * 3)).block, (ad.add (k * 3)).off + 2, none⟩ = some (.int .i64 p2) ∧ w'.cell? (af.add i) = some (.int .i64 y))) (by kernel_rfl) (by kernel_rfl) ?_ ?_
                 · exact ⟨f7_0.drew, f7_1, f7_2, f7_3, f7_4, f7_5, f7_6, cf0⟩
                 repeat (first | go_big_quiet_skip | (go_big_quiet_want; first | (refine quiet_ex ?_; apply Exists.intro; refine ⟨fun W hW => ?_, ?_⟩; (· (obtain ⟨f8_0, f8_1, f8_2, f8_3, f8_4, f8_5, f8_6, f8_7⟩ := hW; go_simp; (first | done | with_reducible rfl | rfl))); simp only [Act.put, List.setIfInBounds_toArray, List.set_cons_zero, List.set_cons_succ]; go_big_quiet_on) | (refine quiet_ex ?_; apply Exists.intro; refine ⟨fun W hW => ?_, ?_⟩; (· (go_simp; first | (fail))); simp only [Act.put, List.setIfInBounds_toArray, List.set_cons_zero, List.set_cons_succ]; go_big_quiet_on)))
                 refine wpQuiet_nil ?_
                 rintro w' ⟨f8_0, f8_1, f8_2, f8_3, f8_4, f8_5, f8_6, f8_7⟩
                 clear f7_0 f7_1 f7_2 f7_3 f7_4 f7_5 f7_6 cf0
                 obtain ⟨u3_, hx9⟩ : ∃ x, x = w' := ⟨_, rfl⟩
                 subst hx9
                 go_wp2
                 go_roundw
                 case rel => exact ⟨i + 1, by omega, by go_num, v_bool (by rw [HB1.out]; simp []), f8_0, f8_1, f8_2, f8_3, f8_4, f8_5, f8_6⟩
                 case measure => simp [intOf]; omega
             · skip
               obtain rfl : m = i := by omega
               have hbt := HBT.out
               rw [hbt]
               clear hbt HBT HBS
               go_wp2_with fail
               have HCL := Lib.hid (show ∀ W', In w.heap.size w W' ∧ ReadsBread W' (some ad) n xs ∧ ReadsI W' Af m FL ∧ ReadsI W' Aa m AL ∧ W'.cell? (ad.add (k * 3)) = some (.int .i64 p0) ∧ W'.cell? ⟨(ad.add (k * 3)).block, (ad.add (k * 3)).off + 1, none⟩ = some (.int .i64 p1) ∧ W'.cell? ⟨(ad.add (k * 3)).block, (ad.add (k * 3)).off + 2, none⟩ = some (.int .i64 p2) → ∀ W2, Below W'.heap.size W' W2 → In w.heap.size w W2 ∧ ReadsBread W2 (some ad) n xs ∧ ReadsI W2 Af m FL ∧ ReadsI W2 Aa m AL ∧ W2.cell? (ad.add (k * 3)) = some (.int .i64 p0) ∧ W2.cell? ⟨(ad.add (k * 3)).block, (ad.add (k * 3)).off + 1, none⟩ = some (.int .i64 p1) ∧ W2.cell? ⟨(ad.add (k * 3)).block, (ad.add (k * 3)).off + 2, none⟩ = some (.int .i64 p2) from fun W' h W2 hb => by
                 obtain ⟨g0, g1, g2, g3, g4, g5, g6⟩ := h
                 exact ⟨g0.step hb, g1.step hb, g2.step hb, g3.step hb, cell_in g4 ⟨hb, hb.size⟩, cell_in g5 ⟨hb, hb.size⟩, cell_in g6 ⟨hb, hb.size⟩⟩)
               refine wp_region_S (C := (fun w' => In w.heap.size w w' ∧ ReadsBread w' (some ad) n xs ∧ ReadsI w' Af m FL ∧ ReadsI w' Aa m AL ∧ w'.cell? (ad.add (k * 3)) = some (.int .i64 p0) ∧ w'.cell? ⟨(ad.add (k * 3)).block, (ad.add (k * 3)).off + 1, none⟩ = some (.int .i64 p1) ∧ w'.cell? ⟨(ad.add (k * 3)).block, (ad.add (k * 3)).off + 2, none⟩ = some (.int .i64 p2))) (by kernel_rfl) (by kernel_rfl) ?_ ?_
               · exact ⟨f7_0.drew, f7_1, f7_2, f7_3, f7_4, f7_5, f7_6⟩
               repeat (first | go_big_quiet_skip | (go_big_quiet_want; first | (refine quiet_ex ?_; apply Exists.intro; refine ⟨fun W hW => ?_, ?_⟩; (· (obtain ⟨f8_0, f8_1, f8_2, f8_3, f8_4, f8_5, f8_6⟩ := hW; go_simp; (first | done | with_reducible rfl | rfl))); simp only [Act.put, List.setIfInBounds_toArray, List.set_cons_zero, List.set_cons_succ]; go_big_quiet_on) | (refine quiet_ex ?_; apply Exists.intro; refine ⟨fun W hW => ?_, ?_⟩; (· (go_simp; first | (go_at_call 31; (with_reducible refine (HBO.out _).mono ?_); rintro e w2 ⟨rfl, hb2⟩; exact ⟨rfl, HCL.out _ hW _ hb2⟩) | (go_at_call 30; (with_reducible refine (HCS.out _).mono ?_); rintro e w2 ⟨rfl, hb2⟩; exact ⟨rfl, HCL.out _ hW _ hb2⟩))); simp only [Act.put, List.setIfInBounds_toArray, List.set_cons_zero, List.set_cons_succ]; go_big_quiet_on)))
               refine wpQuiet_nil ?_
               rintro w' ⟨f8_0, f8_1, f8_2, f8_3, f8_4, f8_5, f8_6⟩
               clear f7_0 f7_1 f7_2 f7_3 f7_4 f7_5 f7_6
               obtain ⟨u4_, hx9⟩ : ∃ x, x = w' := ⟨_, rfl⟩
               subst hx9
               clear HCL HBO HCS
               go_wp2
               go_roundw
               case rel => exact ⟨k + 1, by omega, by go_num, f8_0, f8_1, f8_2, f8_3⟩
               case measure => simp [intOf]; omega
         · skip
           as_aux_lemma =>
            clear HCV HSE
            clear f6_3 f6_2
            go_wp2_with fail
            refine (HCH.out _ f6_1).mono ?_
            rintro _ w7 ⟨rfl, hb7⟩
            have f7_0 : In w.heap.size w w7 := f6_0.step hb7
            have f7_1 : ReadsBread w7 A n xs := f6_1.step hb7
            clear f6_0 f6_1
            clear hb7
            clear HCH
            have hco := HCO.out
            have hok := HOK.out
            obtain ⟨hs0, hs1, hs2⟩ := HS.out
            clear HCO HOK HS
            cases ok
            · skip
              have hm1 : ¬ m = 1 := of_decide_eq_false hok.symm
              have hm2 : ¬ (m : Int) = 1 := by omega
              clear hok hco hs2
              go_wp2
              clear hm1 hm2
              go_loopw [14] (fun k wr => ∃ k1 : Nat, k1 ≤ n ∧ k = .int .i64 k1 ∧ (In w.heap.size w wr ∧ ReadsBread wr A n xs)) (fun k _ => n - (intOf k).toNat)
              case atStart => exact ⟨0, Nat.zero_le _, rfl, f7_0, f7_1⟩
              case round =>
                obtain ⟨k, hkn, rfl, f8_0, f8_1⟩ := hrel
                clear f7_0 f7_1
                by_cases hlt5 : k < n
                · skip
                  obtain ⟨wd, hq9⟩ : ∃ q, q = wr := ⟨_, rfl⟩
                  subst hq9
                  go_wp2_with fail
                  refine (HLS.out _ f8_1).mono ?_
                  rintro _ w9 ⟨rfl, hb9⟩
                  have f9_0 : In w.heap.size w w9 := f8_0.step hb9
                  have f9_1 : ReadsBread w9 A n xs := f8_1.step hb9
                  clear f8_0 f8_1
                  clear hb9
                  go_wp2
                  go_loopw [16, 17, 18] (fun a c i wr => ∃ k1 : Nat, k1 ≤ n ∧ i = .int .i64 k1 ∧ a = .int .i64 (sumTo (miG xs) k1) ∧ c = .int .i64 (miM xs k1) ∧ (In w.heap.size w wr ∧ ReadsBread wr A n xs)) (fun _ _ i _ => n - (intOf i).toNat)
                  case atStart => exact ⟨0, Nat.zero_le _, rfl, rfl, rfl, f9_0, f9_1⟩
                  case round =>
                    obtain ⟨k, hkn2, rfl, rfl, rfl, f10_0, f10_1⟩ := hrel
                    clear f9_0 f9_1
                    by_cases hlt6 : k < n
                    · skip
                      have hmk := mi_in (xs := xs) k fun i hi => by have := HX.out i (by omega); (try simp only [] at this); rw [show (z10 : BreadR) = ⟨0, 0, 0⟩ from rfl]; omega
                      have hxk := HX.out k hlt6
                      (try simp only [] at hxk)
                      obtain ⟨ad, rfl, cb0, cb1, cb2⟩ := f10_1.2 k hlt6
                      have HSS : Hid (sumTo (miG xs) (k + 1) = sumTo (miG xs) k + (xs.getD k ⟨0, 0, 0⟩).f2) := Lib.hid rfl
                      have HSM : Hid (miM xs (k + 1) = max (miM xs k) (xs.getD k ⟨0, 0, 0⟩).f2) := Lib.hid rfl
                      generalize (xs.getD k ⟨0, 0, 0⟩).f2 = p2 at *
                      generalize sumTo (miG xs) k = a9 at *
                      generalize miM xs k = b9 at *
                      have ha9 : 0 ≤ a9 ∧ a9 ≤ 400 := by omega
                      have hb9 : 0 ≤ b9 ∧ b9 ≤ 59 := by omega
                      have hp9 : 10 ≤ p2 ∧ p2 ≤ 59 := by omega
                      clear hmk hxk cb0 cb1 hs0 hs1
                      by_cases hmx : b9 < p2
                      · skip
                        go_wp2
                        go_roundw
                        case rel => exact ⟨k + 1, by omega, by go_num, v_int (by rw [HSS.out]), v_int (by rw [HSM.out]; omega), f10_0, f10_1⟩
                        case measure => simp [intOf]; omega
                      · skip
                        go_wp2
                        go_roundw
                        case rel => exact ⟨k + 1, by omega, by go_num, v_int (by rw [HSS.out]), v_int (by rw [HSM.out]; omega), f10_0, f10_1⟩
                        case measure => simp [intOf]; omega
                    · skip
                      obtain rfl : n = k := by omega
                      have hmi := HMI.out
                      generalize sumTo (miG xs) n = a9 at *
                      generalize miM xs n = b9 at *
                      go_wp2
                      go_ret
                      exact ⟨ret_bool rfl, f10_0.below⟩
                · skip
                  obtain ⟨wd, hq9⟩ : ∃ q, q = wr := ⟨_, rfl⟩
                  subst hq9
                  go_wp2_with fail
                  refine (HLS.out _ f8_1).mono ?_
                  rintro _ w9 ⟨rfl, hb9⟩
                  have f9_0 : In w.heap.size w w9 := f8_0.step hb9
                  have f9_1 : ReadsBread w9 A n xs := f8_1.step hb9
                  clear f8_0 f8_1
                  clear hb9
                  go_wp2
                  go_loopw [16, 17, 18] (fun a c i wr => ∃ k1 : Nat, k1 ≤ n ∧ i = .int .i64 k1 ∧ a = .int .i64 (sumTo (miG xs) k1) ∧ c = .int .i64 (miM xs k1) ∧ (In w.heap.size w wr ∧ ReadsBread wr A n xs)) (fun _ _ i _ => n - (intOf i).toNat)
                  case atStart => exact ⟨0, Nat.zero_le _, rfl, rfl, rfl, f9_0, f9_1⟩
                  case round =>
                    obtain ⟨k, hkn2, rfl, rfl, rfl, f10_0, f10_1⟩ := hrel
                    clear f9_0 f9_1
                    by_cases hlt6 : k < n
                    · skip
                      have hmk := mi_in (xs := xs) k fun i hi => by have := HX.out i (by omega); (try simp only [] at this); rw [show (z10 : BreadR) = ⟨0, 0, 0⟩ from rfl]; omega
                      have hxk := HX.out k hlt6
                      (try simp only [] at hxk)
                      obtain ⟨ad, rfl, cb0, cb1, cb2⟩ := f10_1.2 k hlt6
                      have HSS : Hid (sumTo (miG xs) (k + 1) = sumTo (miG xs) k + (xs.getD k ⟨0, 0, 0⟩).f2) := Lib.hid rfl
                      have HSM : Hid (miM xs (k + 1) = max (miM xs k) (xs.getD k ⟨0, 0, 0⟩).f2) := Lib.hid rfl
                      generalize (xs.getD k ⟨0, 0, 0⟩).f2 = p2 at *
                      generalize sumTo (miG xs) k = a9 at *
                      generalize miM xs k = b9 at *
                      have ha9 : 0 ≤ a9 ∧ a9 ≤ 400 := by omega
                      have hb9 : 0 ≤ b9 ∧ b9 ≤ 59 := by omega
                      have hp9 : 10 ≤ p2 ∧ p2 ≤ 59 := by omega
                      clear hmk hxk cb0 cb1 hs0 hs1
                      by_cases hmx : b9 < p2
                      · skip
                        go_wp2
                        go_roundw
                        case rel => exact ⟨k + 1, by omega, by go_num, v_int (by rw [HSS.out]), v_int (by rw [HSM.out]; omega), f10_0, f10_1⟩
                        case measure => simp [intOf]; omega
                      · skip
                        go_wp2
                        go_roundw
                        case rel => exact ⟨k + 1, by omega, by go_num, v_int (by rw [HSS.out]), v_int (by rw [HSM.out]; omega), f10_0, f10_1⟩
                        case measure => simp [intOf]; omega
                    · skip
                      obtain rfl : n = k := by omega
                      have hmi := HMI.out
                      generalize sumTo (miG xs) n = a9 at *
                      generalize miM xs n = b9 at *
                      go_wp2
                      go_ret
                      exact ⟨ret_bool rfl, f10_0.below⟩
            · skip
              have hm1 : m = 1 := of_decide_eq_true hok.symm
              have hm2 : (m : Int) = 1 := by omega
              obtain ⟨hlh, hall⟩ := hco rfl
              have hs3 := hs2 rfl
              have HAL := Lib.hid hall
              have hlh2 : ¬ high < low := by omega
              clear hok hco hs2 hall
              go_wp2
              clear hm1 hm2
              go_loopw [14] (fun k wr => ∃ k1 : Nat, k1 ≤ n ∧ k = .int .i64 k1 ∧ (In w.heap.size w wr ∧ ReadsBread wr A n xs)) (fun k _ => n - (intOf k).toNat)
              case atStart => exact ⟨0, Nat.zero_le _, rfl, f7_0, f7_1⟩
              case round =>
                obtain ⟨k, hkn, rfl, f8_0, f8_1⟩ := hrel
                clear f7_0 f7_1
                by_cases hlt5 : k < n
                · skip
                  obtain ⟨ad, rfl, cb0, cb1, cb2⟩ := f8_1.2 k hlt5
                  obtain ⟨hl1, hl2⟩ := HAL.out k hlt5
                  generalize (xs.getD k ⟨0, 0, 0⟩).f0 = p0 at *
                  generalize (xs.getD k ⟨0, 0, 0⟩).f1 = p1 at *
                  have hl3 : ¬ low < p0 := by omega
                  have hl4 : ¬ p1 < high := by omega
                  clear cb2
                  go_wp2
                  go_roundw
                  case rel => exact ⟨k + 1, by omega, by go_num, f8_0, f8_1⟩
                  case measure => simp [intOf]; omega
                · skip
                  obtain ⟨wd, hq9⟩ : ∃ q, q = wr := ⟨_, rfl⟩
                  subst hq9
                  go_wp2_with fail
                  refine (HLS.out _ f8_1).mono ?_
                  rintro _ w9 ⟨rfl, hb9⟩
                  have f9_0 : In w.heap.size w w9 := f8_0.step hb9
                  have f9_1 : ReadsBread w9 A n xs := f8_1.step hb9
                  clear f8_0 f8_1
                  clear hb9
                  go_wp2
                  go_loopw [16, 17, 18] (fun a c i wr => ∃ k1 : Nat, k1 ≤ n ∧ i = .int .i64 k1 ∧ a = .int .i64 (sumTo (miG xs) k1) ∧ c = .int .i64 (miM xs k1) ∧ (In w.heap.size w wr ∧ ReadsBread wr A n xs)) (fun _ _ i _ => n - (intOf i).toNat)
                  case atStart => exact ⟨0, Nat.zero_le _, rfl, rfl, rfl, f9_0, f9_1⟩
                  case round =>
                    obtain ⟨k, hkn2, rfl, rfl, rfl, f10_0, f10_1⟩ := hrel
                    clear f9_0 f9_1
                    by_cases hlt6 : k < n
                    · skip
                      have hmk := mi_in (xs := xs) k fun i hi => by have := HX.out i (by omega); (try simp only [] at this); rw [show (z10 : BreadR) = ⟨0, 0, 0⟩ from rfl]; omega
                      have hxk := HX.out k hlt6
                      (try simp only [] at hxk)
                      obtain ⟨ad, rfl, cb0, cb1, cb2⟩ := f10_1.2 k hlt6
                      have HSS : Hid (sumTo (miG xs) (k + 1) = sumTo (miG xs) k + (xs.getD k ⟨0, 0, 0⟩).f2) := Lib.hid rfl
                      have HSM : Hid (miM xs (k + 1) = max (miM xs k) (xs.getD k ⟨0, 0, 0⟩).f2) := Lib.hid rfl
                      generalize (xs.getD k ⟨0, 0, 0⟩).f2 = p2 at *
                      generalize sumTo (miG xs) k = a9 at *
                      generalize miM xs k = b9 at *
                      have ha9 : 0 ≤ a9 ∧ a9 ≤ 400 := by omega
                      have hb9 : 0 ≤ b9 ∧ b9 ≤ 59 := by omega
                      have hp9 : 10 ≤ p2 ∧ p2 ≤ 59 := by omega
                      clear hmk hxk cb0 cb1 hs0 hs1 hs3
                      by_cases hmx : b9 < p2
                      · skip
                        go_wp2
                        go_roundw
                        case rel => exact ⟨k + 1, by omega, by go_num, v_int (by rw [HSS.out]), v_int (by rw [HSM.out]; omega), f10_0, f10_1⟩
                        case measure => simp [intOf]; omega
                      · skip
                        go_wp2
                        go_roundw
                        case rel => exact ⟨k + 1, by omega, by go_num, v_int (by rw [HSS.out]), v_int (by rw [HSM.out]; omega), f10_0, f10_1⟩
                        case measure => simp [intOf]; omega
                    · skip
                      obtain rfl : n = k := by omega
                      have hmi := HMI.out
                      generalize sumTo (miG xs) n = a9 at *
                      generalize miM xs n = b9 at *
                      go_wp2
                      go_ret
                      exact ⟨ret_bool rfl, f10_0.below⟩
  end Go.Proofs.Ytgjbbidcpmglbaa
