/- Chapter 29: OneTime: the program. -/
import Derived.Test.YtepajjaiakdcfaaW29
namespace Go.Proofs.Ytepajjaiakdcfaa
open Go.ChangeShapes Go.WideShapes Go.ChangeAt Go.RowKit
set_option linter.unusedVariables false
set_option linter.unusedSimpArgs false
set_option maxHeartbeats 2000000

theorem WinP.far2 {w : World} {g n k b : Nat} {lo hi : Nat → Int} (h : WinP w g n k lo hi) (hne : g ≠ b) (u v : Value) : WinP ((w.setCell ⟨b, 0, none⟩ u).setCell ⟨b, 1, none⟩ v) g n k lo hi := by
  obtain ⟨cur, hk, r⟩ := h
  exact ⟨cur, (hk.far (p := ⟨b, 0, none⟩) hne u).far (p := ⟨b, 1, none⟩) hne v, r⟩
def lcO (xs : List FrozenR) (q : Int) : Nat → Int
  | 0 => loW xs q 0
  | k + 1 => max (lcO xs q k) (loW xs q k)
def hcO (xs : List FrozenR) (q : Int) : Nat → Int
  | 0 => hiW xs q 0
  | k + 1 => min (hcO xs q k) (hiW xs q k)
theorem lcO_succ (xs : List FrozenR) (q : Int) (k : Nat) : lcO xs q (k + 1) = max (lcO xs q k) (loW xs q k) := rfl
theorem hcO_succ (xs : List FrozenR) (q : Int) (k : Nat) : hcO xs q (k + 1) = min (hcO xs q k) (hiW xs q k) := rfl
theorem cO_eq {xs : List FrozenR} {q : Int} (h1 : -2000 ≤ loW xs q 0) (h2 : hiW xs q 0 ≤ 2000) : ∀ k : Nat, lcO xs q k = max (loW xs q 0) (lowO xs q k) ∧ hcO xs q k = min (hiW xs q 0) (highO xs q k)
  | 0 => by simp only [lcO, hcO, lowO, highO]; omega
  | k + 1 => by
    obtain ⟨i1, i2⟩ := cO_eq h1 h2 k
    rw [lcO_succ, hcO_succ, lowO_succ, highO_succ, i1, i2]
    unfold loW hiW
    omega
theorem first_in (xs : List FrozenR) (q : Int) : ∀ k : Nat, 0 < k → loW xs q 0 ≤ lowO xs q k ∧ highO xs q k ≤ hiW xs q 0
  | 0, h => absurd h (Nat.lt_irrefl 0)
  | k + 1, _ => by
    rw [lowO_succ, highO_succ]
    rcases Nat.eq_zero_or_pos k with rfl | hk
    · unfold loW hiW; omega
    · have := first_in xs q k hk
      omega
theorem win_ok {n : Nat} {xs : List FrozenR} {q : Int} (hn : 0 < n) : winB n xs q = ok29 n xs q := by
  rw [Bool.eq_iff_iff]
  constructor
  · intro h
    simp only [winB, Bool.and_eq_true, decide_eq_true_eq] at h
    have hk : ∀ i, i < n → frK xs i = true ∧ inB q (-48) 1000 = true := fun i hi => by
      have := allOk_at _ _ h.2 i hi
      simp only [winK, outB, Bool.and_eq_true] at this
      exact this
    simp [ok29, allOk_t _ _ fun i hi => (hk i hi).1, h.1, (hk 0 hn).2]
  · intro h
    simp only [ok29, Bool.and_eq_true, decide_eq_true_eq] at h
    have hk : ∀ i, i < n → winK xs q i = true := fun i hi => by
      have := allOk_at _ _ h.1 i hi
      unfold frK at this
      unfold winK outB
      rw [this, h.2.2]; rfl
    simp [winB, allOk_t _ _ hk, h.2.1]
theorem cO_fin {n : Nat} {xs : List FrozenR} {q : Int} (hn : 0 < n) (h : winB n xs q = true) : lcO xs q n = lowO xs q n ∧ hcO xs q n = highO xs q n ∧ ∀ k, k ≤ n → (-2000 ≤ lcO xs q k ∧ lcO xs q k ≤ 2000) ∧ (-2000 ≤ hcO xs q k ∧ hcO xs q k ≤ 2000) := by
  rw [win_ok hn] at h
  obtain ⟨h1, h2, h3⟩ := ok29_at h
  have h4 := fr_in (h3 0 hn)
  have h5 : loW xs q 0 = q - (xs.getD 0 z29).f0 - (xs.getD 0 z29).f1 := rfl
  have h6 : hiW xs q 0 = q - (xs.getD 0 z29).f0 := rfl
  have hc := fun k => cO_eq (xs := xs) (q := q) (by omega) (by omega) k
  have hf := first_in xs q n hn
  refine ⟨by have := (hc n).1; omega, by have := (hc n).2; omega, fun k hk => ?_⟩
  have h7 := lhO_in h k hk
  have h8 := hc k
  omega
def trayV (n : Nat) (xs : List FrozenR) (q : Int) : Value := if winB n xs q && !(decide (n = 0)) then .tuple #[.agg #[.int .i64 (lowO xs q n), .int .i64 (highO xs q n)], .bool (decide (lowO xs q n ≤ highO xs q n))] else .tuple #[.agg #[.int .i64 0, .int .i64 0], .bool false]
set_option maxRecDepth 20000 in
set_option maxHeartbeats 8000000 in
theorem itrayOut (A : Option Addr) (n c : Nat) (xs : List FrozenR) (q : Int) (w : World) (hn : n ≤ maxLen) (hx : ReadsFrozen w A n xs) : Calls Try.prog 222 #[.slice A n c, .int .i64 q] w (Val (trayV n xs q) w) := by
  obtain ⟨r, hr⟩ : ∃ r, w.heap.size = r := ⟨_, rfl⟩
  have kr : Blk (w.alloc (.cells #[.int .i64 0, .int .i64 0] 124)) r 124 #[.int .i64 0, .int .i64 0] := by rw [← hr]; exact Blk.new w _ _
  have hi0 : In w.heap.size w (w.alloc (.cells #[.int .i64 0, .int .i64 0] 124)) := (In.refl w).alloc _
  have hx0 := hx.alloc (.cells #[.int .i64 0, .int .i64 0] 124)
  have hwr : w.heap.size ≤ r := by omega
  go_enter Try.func222, Try.ntmps222
  go_wp2_with fail
  (try rw [hr])
  refine (iwindowsOf A n c xs q _ hn hx0).mono ?_
  rintro _ w2 ⟨hres, hb2⟩
  have kr2 := kr.step hb2
  have hi2 := hi0.step hb2
  have hgr0 : ∀ g, (w.alloc (.cells #[.int .i64 0, .int .i64 0] 124)).heap.size ≤ g → r < g := fun g hg => by simp at hg; omega
  clear kr hi0 hx0 hb2 hr
  have cr0 := kr2.cell 0
  have cr1 := kr2.cell 1
  have zr0 := kr2.frozen 0
  have zr1 := kr2.frozen 1
  have hrl := kr2.lt
  simp at cr0 cr1
  by_cases hbad : winB n xs q = true ∧ 0 < n
  case neg =>
    have HV : Hid (trayV n xs q = .tuple #[.agg #[.int .i64 0, .int .i64 0], .bool false]) := Lib.hid (by
      unfold trayV
      rw [if_neg]
      intro h
      simp only [Bool.and_eq_true, Bool.not_eq_true', decide_eq_false_iff_not] at h
      exact hbad ⟨h.1, by omega⟩)
    have hk := (kr2.set_ 0 (.int .i64 0)).set_ 1 (.int .i64 0)
    have hk0 := hk.cell 0
    have hk1 := hk.cell 1
    simp at hk0 hk1
    have HK := Lib.hid (And.intro hk0 hk1)
    have HI := Lib.hid ((hi2.set_ (p := ⟨r, 0, none⟩) hwr (.int .i64 0)).set_ (p := ⟨r, 1, none⟩) hwr (.int .i64 0))
    clear hk hk0 hk1 hi2
    rcases hres with ⟨hB, g, hgw, rfl, hN⟩ | ⟨hB, rfl⟩
    · have hn0 : n = 0 := by
        rcases Nat.eq_zero_or_pos n with e | e
        · exact e
        · exact absurd ⟨hB, e⟩ hbad
      subst hn0
      go_wp2
      obtain ⟨k0, k1⟩ := HK.out
      exact bodyPost_ret (v := .tuple #[.agg #[.int .i64 0, .int .i64 0], .bool false]) (by simp [results, Try.results222, go_sem, k0, k1]) rfl (Val.mk' (by rw [HV.out]) HI.out)
    · go_wp2
      obtain ⟨k0, k1⟩ := HK.out
      exact bodyPost_ret (v := .tuple #[.agg #[.int .i64 0, .int .i64 0], .bool false]) (by simp [results, Try.results222, go_sem, k0, k1]) rfl (Val.mk' (by rw [HV.out]) HI.out)
  obtain ⟨hB0, hn0⟩ := hbad
  rcases hres with ⟨hB, g, hgw, rfl, hN⟩ | ⟨hB, rfl⟩
  case inr => rw [hB0] at hB; cases hB
  have hn20 : n ≤ 20 := by
    have h9 := hB0
    simp only [winB, Bool.and_eq_true, decide_eq_true_eq] at h9
    exact h9.1
  obtain ⟨f1, f2, f3⟩ := cO_fin hn0 hB0
  have HF := Lib.hid f3
  have HV : Hid (trayV n xs q = .tuple #[.agg #[.int .i64 (lcO xs q n), .int .i64 (hcO xs q n)], .bool (decide (lcO xs q n ≤ hcO xs q n))]) := Lib.hid (by
    unfold trayV
    rw [if_pos (by rw [hB0]; simp; omega), f1, f2])
  have hrg := hgr0 g hgw
  have hgl := hN.lt
  have hn1 : ((n : Int) == 0) = false := by simp; omega
  have hn2 : ¬ n = 0 := by omega
  obtain ⟨c00, c01⟩ := hN.cell 0 hn0
  simp only [Nat.zero_mul, Nat.zero_add] at c00 c01
  obtain ⟨b, hb⟩ : ∃ b, w2.heap.size = b := ⟨_, rfl⟩
  have kb : Blk (w2.alloc (.cells #[.int .i64 (loW xs q 0), .int .i64 (hiW xs q 0)] 124)) b 124 #[.int .i64 (loW xs q 0), .int .i64 (hiW xs q 0)] := by rw [← hb]; exact Blk.new w2 _ _
  have HKB := Lib.hid kb
  have HN3 := Lib.hid (hN.alloc (.cells #[.int .i64 (loW xs q 0), .int .i64 (hiW xs q 0)] 124))
  have HR3 := Lib.hid (kr2.step ((Below.refl _ w2).alloc (Nat.le_refl _) (.cells #[.int .i64 (loW xs q 0), .int .i64 (hiW xs q 0)] 124)))
  have HI3 := Lib.hid (hi2.alloc (.cells #[.int .i64 (loW xs q 0), .int .i64 (hiW xs q 0)] 124))
  have hrb : r < b := by omega
  have hgb : g < b := by omega
  have hwb : w.heap.size ≤ b := by omega
  have HSZ : Hid (w2.heap.size = b) := Lib.hid hb
  clear f1 f2 f3 hB hB0 hgr0 kb hN kr2 hi2 hb hgw
  go_wp2
  (try rw [HSZ.out])
  clear cr0 cr1 zr0 zr1 c00 c01 hrl hgl
  go_loopw [10, 30] (fun a10 i wr => ∃ k : Nat, k ≤ n ∧ i = .int .i64 k ∧ Blk wr b 124 #[.int .i64 (lcO xs q k), .int .i64 (hcO xs q k)] ∧ Blk wr r 124 #[.int .i64 0, .int .i64 0] ∧ WinP wr g n n (loW xs q) (hiW xs q) ∧ In w.heap.size w wr) (fun _ i _ => n - (intOf i).toNat)
  case atStart => exact ⟨0, Nat.zero_le _, rfl, HKB.out, HR3.out, HN3.out, HI3.out⟩
  case round =>
    obtain ⟨k, hk, rfl, kb, kr, hN, hi⟩ := hrel
    have cb0 := kb.cell 0
    have cb1 := kb.cell 1
    have zb0 := kb.frozen 0
    have zb1 := kb.frozen 1
    have hbl := kb.lt
    have hbn : b ≠ wr.heap.size := by omega
    simp at cb0 cb1
    by_cases hlt : k < n
    · obtain ⟨c0, c1⟩ := hN.cell k hlt
      have hgl : g < wr.heap.size := hN.lt
      have HL := Lib.hid (lcO_succ xs q k)
      have HH := Lib.hid (hcO_succ xs q k)
      have hbd := HF.out k hk
      have KB := Lib.hid kb
      have KR := Lib.hid kr
      have KN := Lib.hid hN
      have KI := Lib.hid hi
      clear kb kr hN hi
      generalize lcO xs q k = l at *
      generalize hcO xs q k = h at *
      generalize hl1 : loW xs q k = l1 at *
      generalize hh1 : hiW xs q k = h1 at *
      by_cases g1 : l < l1
      · by_cases g2 : h1 < h
        · have e1 : max l l1 = l1 := by omega
          have e2 : min h h1 = h1 := by omega
          go_wp2
          go_roundw
          case rel => exact ⟨k + 1, by omega, by go_num, by rw [HL.out, HH.out, e1, e2]; exact (blks2 KB.out).step ((Below.refl _ _).alloc (Nat.le_refl _) _), ((KR.out.far (p := ⟨b, 0, none⟩) (show r ≠ b by omega) _).far (p := ⟨b, 1, none⟩) (show r ≠ b by omega) _).step ((Below.refl _ _).alloc (Nat.le_refl _) _), (KN.out.far2 (show g ≠ b by omega) _ _).alloc _, ((KI.out.set_ (p := ⟨b, 0, none⟩) hwb _).set_ (p := ⟨b, 1, none⟩) hwb _).alloc _⟩
          case measure => simp [intOf]; omega
        · have e1 : max l l1 = l1 := by omega
          have e2 : min h h1 = h := by omega
          go_wp2
          go_roundw
          case rel => exact ⟨k + 1, by omega, by go_num, by rw [HL.out, HH.out, e1, e2]; exact (blks2 KB.out).step ((Below.refl _ _).alloc (Nat.le_refl _) _), ((KR.out.far (p := ⟨b, 0, none⟩) (show r ≠ b by omega) _).far (p := ⟨b, 1, none⟩) (show r ≠ b by omega) _).step ((Below.refl _ _).alloc (Nat.le_refl _) _), (KN.out.far2 (show g ≠ b by omega) _ _).alloc _, ((KI.out.set_ (p := ⟨b, 0, none⟩) hwb _).set_ (p := ⟨b, 1, none⟩) hwb _).alloc _⟩
          case measure => simp [intOf]; omega
      · by_cases g2 : h1 < h
        · have e1 : max l l1 = l := by omega
          have e2 : min h h1 = h1 := by omega
          go_wp2
          go_roundw
          case rel => exact ⟨k + 1, by omega, by go_num, by rw [HL.out, HH.out, e1, e2]; exact (blks2 KB.out).step ((Below.refl _ _).alloc (Nat.le_refl _) _), ((KR.out.far (p := ⟨b, 0, none⟩) (show r ≠ b by omega) _).far (p := ⟨b, 1, none⟩) (show r ≠ b by omega) _).step ((Below.refl _ _).alloc (Nat.le_refl _) _), (KN.out.far2 (show g ≠ b by omega) _ _).alloc _, ((KI.out.set_ (p := ⟨b, 0, none⟩) hwb _).set_ (p := ⟨b, 1, none⟩) hwb _).alloc _⟩
          case measure => simp [intOf]; omega
        · have e1 : max l l1 = l := by omega
          have e2 : min h h1 = h := by omega
          go_wp2
          go_roundw
          case rel => exact ⟨k + 1, by omega, by go_num, by rw [HL.out, HH.out, e1, e2]; exact (blks2 KB.out).step ((Below.refl _ _).alloc (Nat.le_refl _) _), ((KR.out.far (p := ⟨b, 0, none⟩) (show r ≠ b by omega) _).far (p := ⟨b, 1, none⟩) (show r ≠ b by omega) _).step ((Below.refl _ _).alloc (Nat.le_refl _) _), (KN.out.far2 (show g ≠ b by omega) _ _).alloc _, ((KI.out.set_ (p := ⟨b, 0, none⟩) hwb _).set_ (p := ⟨b, 1, none⟩) hwb _).alloc _⟩
          case measure => simp [intOf]; omega
    · obtain rfl : n = k := by omega
      have cr0 := kr.cell 0
      have cr1 := kr.cell 1
      have zr0 := kr.frozen 0
      have zr1 := kr.frozen 1
      have hrl := kr.lt
      simp at cr0 cr1
      generalize lcO xs q n = l at *
      generalize hcO xs q n = h at *
      have hk9 := (kr.set_ 0 (.int .i64 l)).set_ 1 (.int .i64 h)
      have hk0 := hk9.cell 0
      have hk1 := hk9.cell 1
      simp at hk0 hk1
      have HK := Lib.hid (And.intro hk0 hk1)
      have HI := Lib.hid ((hi.set_ (p := ⟨r, 0, none⟩) hwr (.int .i64 l)).set_ (p := ⟨r, 1, none⟩) hwr (.int .i64 h))
      clear hk9 hk0 hk1 hi hN kr kb
      go_wp2
      go_region
      go_wp2
      obtain ⟨k0, k1⟩ := HK.out
      exact bodyPost_ret (v := .tuple #[.agg #[.int .i64 l, .int .i64 h], .bool (decide (l ≤ h))]) (by simp [results, Try.results222, go_sem, k0, k1]) rfl (Val.mk' (by rw [HV.out]) HI.out.drew)
end Go.Proofs.Ytepajjaiakdcfaa
