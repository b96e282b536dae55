/- Chapter 10: ApartBreads of the program. -/
import Derived.Test.YtgjbbidcpmglbaaAptS
import Derived.Test.YtgjbbidcpmglbaaOwnC
import Derived.Test.YtgjbbidcpmglbaaSl
import Derived.Test.YtgjbbidcpmglbaaSortI
import Derived.Test.YtgjbbidcpmglbaaQuiet
import Derived.IntWalk
namespace Go.Proofs.Ytgjbbidcpmglbaa
open Go.ChangeShapes Go.WideShapes Go.ChangeAt Go.RowKit
set_option linter.unusedVariables false
set_option linter.unusedSimpArgs false
set_option maxHeartbeats 2000000

theorem own_nil (w : World) (B : Nat) : w.ownsRow B 3 1 (.slice none 0 0) 0 (iv []) := ⟨rfl, .inl ⟨rfl, rfl⟩⟩
theorem iap1 (A : Option Addr) (n c gb : Nat) (xs : List BreadR) (hn : n ≤ 1000) (x y : Int) (w : World) (h1 : 0 ≤ x) (h2 : x < n) (h3 : 0 ≤ y) (h4 : y < n) (hb : w.cell? ⟨gb, 0, none⟩ = some (.slice A n c)) (hx : ReadsBread w A n xs) :
    Calls Try.prog 107 #[.int .i64 x, .int .i64 y, .pointer (some ⟨gb, 0, none⟩)] w (Val (.int .i64 (apV xs x y)) w) := by
  obtain ⟨i, rfl⟩ : ∃ i : Nat, x = i := ⟨x.toNat, by omega⟩
  obtain ⟨k, rfl⟩ : ∃ k : Nat, y = k := ⟨y.toNat, by omega⟩
  have hi : i < n := by omega
  have hk : k < n := by omega
  unfold apV
  simp only [Int.toNat_natCast]
  obtain ⟨a, rfl, _, ha, _⟩ := hx.2 i hi
  obtain ⟨b, hab, _, hc, _⟩ := hx.2 k hk
  injection hab with hab
  subst hab
  change w.cell? _ = some (.int .i64 (hiI xs i)) at ha
  change w.cell? _ = some (.int .i64 (hiI xs k)) at hc
  generalize hiI xs i = p at *
  generalize hiI xs k = q at *
  have HC := Lib.hid (fun W => iCmp p q W)
  clear h1 h2 h3 h4 hx
  go_enter Try.func107, Try.ntmps107
  go_wp2
  go_quiet ((go_at_call 108; exact (HC.out _).mono (by rintro e w2 ⟨rfl, rfl⟩; exact ⟨rfl, _, rfl⟩)))
  go_wp2
  go_ret
  exact Val.mk' rfl (by (repeat (first | exact In.refl _ | assumption | apply In.alloc | apply In.drewN | apply In.drew | (refine In.step ?_ (by assumption)))))
theorem ibakesAt (a b m h : Int) (w : World) : Calls Try.prog 110 #[.agg #[.int .i64 a, .int .i64 b, .int .i64 m], .int .i64 h] w (Val (.bool (inB h a b)) w) := by
  go_enter Try.func110, Try.ntmps110
  go_wp2_with (first | (go_at_call 66; refine (iIn _ _ _ _).mono ?_; rintro e w' ⟨rfl, rfl⟩))
  go_ret
  exact Val.mk' rfl (by (repeat (first | exact In.refl _ | assumption | apply In.alloc | apply In.drewN | apply In.drew | (refine In.step ?_ (by assumption)))))
theorem rdB {w w' : World} {A : Option Addr} {n B0 : Nat} {xs : List BreadR} (h : ReadsBread w A n xs) (hb : Below B0 w w') (hl : 0 < n → ∀ ad, A = some ad → ad.block < B0) : ReadsBread w' A n xs := by
  refine ⟨h.1, fun k hk => ?_⟩
  obtain ⟨ad, ha, h0, h1, h2⟩ := h.2 k hk
  have hbk : (ad.add (k * 3)).block < B0 := by rw [block_of_add]; exact hl (by omega) ad ha
  exact ⟨ad, ha, (hb.cell hbk).trans h0, (hb.cell (p := ⟨(ad.add (k * 3)).block, (ad.add (k * 3)).off + 1, none⟩) hbk).trans h1, (hb.cell (p := ⟨(ad.add (k * 3)).block, (ad.add (k * 3)).off + 2, none⟩) hbk).trans h2⟩
/-- of the blocks that were there, only two have turned -/
def Kp (b3 b4 : Nat) (w w' : World) : Prop := w.heap.size ≤ w'.heap.size ∧ ∀ i, i < w.heap.size → i ≠ b3 → i ≠ b4 → w'.heap[i]? = w.heap[i]?
theorem Kp.refl (b3 b4 : Nat) (w : World) : Kp b3 b4 w w := ⟨Nat.le_refl _, fun _ _ _ _ => rfl⟩
theorem Kp.step {b3 b4 : Nat} {w w' w2 : World} (k : Kp b3 b4 w w') (hb : Below w'.heap.size w' w2) : Kp b3 b4 w w2 := ⟨Nat.le_trans k.1 hb.size, fun i hi h1 h2 => (hb.block i (Nat.lt_of_lt_of_le hi k.1)).trans (k.2 i hi h1 h2)⟩
theorem Kp.set_ {b3 b4 : Nat} {w w' : World} (k : Kp b3 b4 w w') (p : Addr) (u : Value) (hp : p.block = b3 ∨ p.block = b4) : Kp b3 b4 w (w'.setCell p u) := ⟨by simpa [World.setCell] using k.1, fun i hi h1 h2 => (Below.heap_setCell w' p u i (by rcases hp with h | h <;> omega)).trans (k.2 i hi h1 h2)⟩
theorem own_kp {w w' : World} {B n b3 b4 : Nat} {v : Value} {xs : List Value} {e : TypeId} {size : Nat} (h : w.ownsRow B e size v n xs) (k : Kp b3 b4 w w') (h3 : b3 < B) (h4 : b4 < B) : w'.ownsRow B e size v n xs := by
  have hl := own_lt h
  refine ⟨h.1, ?_⟩
  rcases h.2 with hn | ⟨g, cap, cur, rfl, hg, hh, rest⟩
  · exact .inl hn
  · exact .inr ⟨g, cap, cur, rfl, hg, (k.2 g (hl g (by simp [Value.ownBlock])) (by omega) (by omega)).trans hh, rest⟩
/-- what next works on: u breads of the order are gone, the heat is h -/
structure StA (w : World) (b1 b3 b4 g : Nat) (A : Option Addr) (n c : Nat) (xs : List BreadR) (u : Nat) (h : Int) : Prop where
  k1 : Blk w b1 46 #[.slice A n c]
  k3 : ∃ B, Blk w b3 27 #[.slice B (n - u) (n - u)] ∧ (u < n → B = some ⟨g, u, none⟩)
  k4 : Blk w b4 3 #[.int .i64 h]
  ow : OwnC w g n n (srtL (ltOf (apV xs)) n)
  rd : ReadsBread w A n xs
theorem StA.step {w w' : World} {b1 b3 b4 g n c u : Nat} {A : Option Addr} {xs : List BreadR} {h : Int} (s : StA w b1 b3 b4 g A n c xs u h) (hb : Below w.heap.size w w') : StA w' b1 b3 b4 g A n c xs u h := by
  obtain ⟨k1, ⟨B, k3, e⟩, k4, ow, rd⟩ := s
  exact ⟨k1.step hb, ⟨B, k3.step hb, e⟩, k4.step hb, ow.step hb, rd.in_ ⟨hb, hb.size⟩⟩
def InvU (xs : List BreadR) (n u : Nat) (h : Int) : Prop := (∀ t, t < u → loI xs (apN xs n t) ≤ h) ∧ ∀ t, u ≤ t → t < n → h ≤ hiI xs (apN xs n t)
theorem inv_next {xs : List BreadR} {n v : Nat} (hin : ∀ i, i < n → 100 ≤ loI xs i ∧ loI xs i ≤ hiI xs i ∧ hiI xs i ≤ 350) (hv : v < n) : InvU xs n (v + 1) (hiI xs (apN xs n v)) := by
  constructor
  · intro t ht
    have h1 := hin (apN xs n t) (apN_in (by omega))
    rcases Nat.lt_or_ge t v with h | h
    · have := ap_sorted xs n t v h hv
      unfold bef at this; omega
    · obtain rfl : t = v := by omega
      omega
  · intro t h1 h2
    have := ap_sorted xs n v t (by omega) h2
    unfold bef at this; omega
/-- what next leaves -/
def Nexted (B0 b1 b3 b4 g : Nat) (A : Option Addr) (n c : Nat) (xs : List BreadR) (h : Int) (w : World) (e : Ending) (w' : World) : Prop :=
  e = .returned (.int .i64 (nxB xs n h)) ∧ In B0 w w' ∧ Kp b3 b4 w w' ∧ (¬ nxI xs n h < 0 → ∃ v : Nat, v < n ∧ nxB xs n h = apN xs n v ∧ StA w' b1 b3 b4 g A n c xs (v + 1) (hiI xs (apN xs n v)))
def NS (w' w : World) (B0 b1 b3 b4 g : Nat) (A : Option Addr) (n c : Nat) (xs : List BreadR) (u : Nat) (h : Int) (p1 p2 p3 : Addr) (x1 x2 x3 : Int) : Prop :=
  (In B0 w w' ∧ Kp b3 b4 w w' ∧ StA w' b1 b3 b4 g A n c xs u h) ∧ w'.cell? ⟨b1, 0, none⟩ = some (.slice A n c) ∧ w'.cell? ⟨b4, 0, none⟩ = some (.int .i64 h) ∧ w'.cell? p1 = some (.int .i64 x1) ∧ w'.cell? p2 = some (.int .i64 x2) ∧ w'.cell? p3 = some (.int .i64 x3)
theorem NS.step {w' w w2 : World} {B0 b1 b3 b4 g : Nat} {A : Option Addr} {n c : Nat} {xs : List BreadR} {u : Nat} {h : Int} {p1 p2 p3 : Addr} {x1 x2 x3 : Int} (k : NS w' w B0 b1 b3 b4 g A n c xs u h p1 p2 p3 x1 x2 x3) (hb : Below w'.heap.size w' w2) : NS w2 w B0 b1 b3 b4 g A n c xs u h p1 p2 p3 x1 x2 x3 := by
  obtain ⟨⟨i, kp, s⟩, c1, c2, c3, c4, c5⟩ := k
  exact ⟨⟨i.step hb, kp.step hb, s.step hb⟩, (hb.cell (cell_lt c1)).trans c1, (hb.cell (cell_lt c2)).trans c2, (hb.cell (cell_lt c3)).trans c3, (hb.cell (cell_lt c4)).trans c4, (hb.cell (cell_lt c5)).trans c5⟩
set_option maxRecDepth 20000 in
set_option maxHeartbeats 4000000 in
theorem inext (B0 b1 b3 b4 g n c : Nat) (A : Option Addr) (xs : List BreadR) (u : Nat) (h : Int) (w : World) (hB : B0 ≤ w.heap.size) (h3 : B0 ≤ b3) (h4 : B0 ≤ b4) (n31 : b3 ≠ b1) (n34 : b3 ≠ b4) (n41 : b4 ≠ b1) (ng3 : g ≠ b3) (ng4 : g ≠ b4) (hl : 0 < n → ∀ ad, A = some ad → ad.block < B0) (hn : n ≤ 10) (hu : u ≤ n) (hI : InvU xs n u h) (s : StA w b1 b3 b4 g A n c xs u h) :
    Calls Try.prog 109 #[.pointer (some ⟨b3, 0, none⟩), .pointer (some ⟨b1, 0, none⟩), .pointer (some ⟨b4, 0, none⟩)] w (Nexted B0 b1 b3 b4 g A n c xs h w) := by
  have HI := Lib.hid hI
  clear hI
  go_enter Try.func109, Try.ntmps109
  go_wp2
  go_loopw [3] (fun z wr => z = .int .i64 0 ∧ ∃ v : Nat, u ≤ v ∧ v ≤ n ∧ (∀ t, t < v → loI xs (apN xs n t) ≤ h) ∧ StA wr b1 b3 b4 g A n c xs v h ∧ In B0 w wr ∧ Kp b3 b4 w wr) (fun _ wr => match wr.cell? ⟨b3, 0, none⟩ with | some (.slice _ m _) => m | _ => 0)
  case atStart => exact ⟨rfl, u, Nat.le_refl _, hu, HI.out.1, s, ⟨Below.refl _ _, hB⟩, Kp.refl _ _ _⟩
  case round =>
    clear s
    obtain ⟨rfl, v, hv1, hv2, hlo, s, hi, hkp⟩ := hrel
    have HLO := Lib.hid hlo
    clear hlo
    obtain ⟨k1, ⟨B, k3, e3⟩, k4, ow, rd⟩ := s
    have c3 := k3.cell 0
    have z3 := k3.frozen 0
    by_cases hlt : v < n
    · obtain rfl := e3 hlt
      obtain ⟨m, hm⟩ : ∃ m, n - v = m + 1 := ⟨n - v - 1, by omega⟩
      rw [hm] at k3 c3
      have hm0 : decide ((0 : Int) < ((m : Int) + 1)) = true := decide_eq_true (by omega)
      have hsl : ∀ (W : World), (Instr.slice 27 (.slice (some ⟨g, v, none⟩) (m + 1) (m + 1)) (some (.int .i64 1)) none none).run Try.prog W = .ok (.slice (loA (some ⟨g, v, none⟩) (m + 1) 1) m m) W := fun W => slLo (some ⟨g, v, none⟩) (m + 1) (m + 1) 1 (by omega) W
      have hcv : wr.cell? ⟨g, v, none⟩ = some (.int .i64 (apN xs n v : Int)) := by
        have h1 : wr.ownsRow g 3 1 (.slice (some ⟨g, 0, none⟩) n n) n (iv (srtL (ltOf (apV xs)) n)) := ow
        rw [h1.cellAt v (by omega), iv_at _ v (by rw [srtL_len]; exact hlt)]
        have : (srtL (ltOf (apV xs)) n).getD v 0 = apN xs n v := by
          rw [← apN_eq hlt]; simp [srtL, apS, hlt]
        rw [this]
      obtain ⟨q, hq⟩ : ∃ q, apN xs n v = q := ⟨_, rfl⟩
      have hqn : q < n := hq ▸ apN_in hlt
      obtain ⟨ad, rfl, r0, r1, r2⟩ := rd.2 q hqn
      obtain ⟨C, hC⟩ : ∃ C, loA (some ⟨g, v, none⟩) (m + 1) 1 = C := ⟨_, rfl⟩
      have HC : Hid (v + 1 < n → C = some ⟨g, v + 1, none⟩) := Lib.hid (fun h => by
        rw [← hC, loA, if_neg (by omega)]; rfl)
      have hm2 : n - (v + 1) = m := by omega
      rw [hC] at hsl
      rw [hq] at hcv
      have HQ := Lib.hid hq
      clear hC
      have hb3 : Below B0 wr (wr.setCell ⟨b3, 0, none⟩ (.slice C m m)) := (Below.refl _ _).setCell h3 _
      have hst : NS (wr.setCell ⟨b3, 0, none⟩ (.slice C m m)) w B0 b1 b3 b4 g (some ad) n c xs (v + 1) h (ad.add (q * 3)) ⟨(ad.add (q * 3)).block, (ad.add (q * 3)).off + 1, none⟩ ⟨(ad.add (q * 3)).block, (ad.add (q * 3)).off + 2, none⟩ (xs.getD q z10).f0 (xs.getD q z10).f1 (xs.getD q z10).f2 := by
        have rd2 := rdB rd hb3 hl
        have k12 := k1.far (p := ⟨b3, 0, none⟩) n31.symm (.slice C m m)
        have k42 := k4.far (p := ⟨b3, 0, none⟩) n34.symm (.slice C m m)
        obtain ⟨a', ha', s0, s1, s2⟩ := rd2.2 q hqn
        injection ha' with ha'
        subst ha'
        exact ⟨⟨hi.wide hb3, hkp.set_ _ _ (.inl rfl), k12, ⟨C, by rw [hm2]; exact k3.set_ 0 _, HC.out⟩, k42, ow.only (only_set _ _) ng3, rd2⟩, k12.cell 0, k42.cell 0, s0, s1, s2⟩
      have HIH := Lib.hid (HI.out.2 v hv1 hlt)
      have HE : Hid ((xs.getD q z10).f0 = loI xs (apN xs n v) ∧ (xs.getD q z10).f1 = hiI xs (apN xs n v)) := Lib.hid (by rw [HQ.out]; exact ⟨rfl, rfl⟩)
      clear k1 k4 ow rd r0 r1 r2 hb3 hq
      generalize xs.getD q z10 = e at *
      obtain ⟨x0, x1, x2⟩ := e
      simp only at hst HE
      have HIH2 : Hid (h ≤ x1) := Lib.hid (by rw [HE.out.2]; exact HIH.out)
      by_cases hlo : x0 ≤ h
      · have hd : inB h x0 x1 = true := inB_t ⟨hlo, HIH2.out⟩
        go_wp2
        refine wp_region_S (C := (fun w' => NS w' w B0 b1 b3 b4 g (some ad) n c xs (v + 1) h (ad.add (q * 3)) ⟨(ad.add (q * 3)).block, (ad.add (q * 3)).off + 1, none⟩ ⟨(ad.add (q * 3)).block, (ad.add (q * 3)).off + 2, none⟩ x0 x1 x2)) (by kernel_rfl) (by kernel_rfl) ?_ ?_
        · exact hst.step (Below.refl _ _).drew
        repeat (first | go_big_quiet_skip | (go_big_quiet_want; first | (refine quiet_ex ?_; apply Exists.intro; refine ⟨fun W hW => ?_, ?_⟩; (· (obtain ⟨⟨i1, kp1, s1⟩, d1, d2, d3, d4, d5⟩ := hW; go_simp; (first | done | with_reducible rfl | rfl))); simp only [Act.put, List.setIfInBounds_toArray, List.set_cons_zero, List.set_cons_succ]; go_big_quiet_on) | (refine quiet_ex ?_; apply Exists.intro; refine ⟨fun W hW => ?_, ?_⟩; (· (go_simp; first | (go_at_call 110; exact (ibakesAt _ _ _ _ _).mono (by rintro e w2 ⟨rfl, hb2⟩; exact ⟨rfl, hW.step hb2⟩)))); simp only [Act.put, List.setIfInBounds_toArray, List.set_cons_zero, List.set_cons_succ]; go_big_quiet_on)))
        refine wpQuiet_nil ?_
        rintro w' ⟨⟨i1, kp1, s1⟩, d1, d2, d3, d4, d5⟩
        obtain ⟨B', k3', e3'⟩ := s1.k3
        rw [hm2] at k3'
        have c3' := k3'.cell 0
        have HS1 := Lib.hid s1
        clear hst s1 k3' e3'
        go_wp2
        go_roundw
        case rel => exact ⟨rfl, v + 1, by omega, by omega, fun t ht => by
          rcases Nat.lt_or_ge t v with h5 | h5
          · exact HLO.out t h5
          · obtain rfl : t = v := by omega
            rw [← HE.out.1]; exact hlo, HS1.out, i1, kp1⟩
        case measure => simp [c3, c3']
      · have hd : inB h x0 x1 = false := inB_f (by omega)
        have HNX := Lib.hid (nx_of (h := h) hlt (by rw [← HE.out.1]; omega) (fun t ht => by have := HLO.out t ht; omega))
        go_wp2
        refine wp_region_S (C := (fun w' => NS w' w B0 b1 b3 b4 g (some ad) n c xs (v + 1) h (ad.add (q * 3)) ⟨(ad.add (q * 3)).block, (ad.add (q * 3)).off + 1, none⟩ ⟨(ad.add (q * 3)).block, (ad.add (q * 3)).off + 2, none⟩ x0 x1 x2)) (by kernel_rfl) (by kernel_rfl) ?_ ?_
        · exact hst.step (Below.refl _ _).drew
        repeat (first | go_big_quiet_skip | (go_big_quiet_want; first | (refine quiet_ex ?_; apply Exists.intro; refine ⟨fun W hW => ?_, ?_⟩; (· (obtain ⟨⟨i1, kp1, s1⟩, d1, d2, d3, d4, d5⟩ := hW; go_simp; (first | done | with_reducible rfl | rfl))); simp only [Act.put, List.setIfInBounds_toArray, List.set_cons_zero, List.set_cons_succ]; go_big_quiet_on) | (refine quiet_ex ?_; apply Exists.intro; refine ⟨fun W hW => ?_, ?_⟩; (· (go_simp; first | (go_at_call 110; exact (ibakesAt _ _ _ _ _).mono (by rintro e w2 ⟨rfl, hb2⟩; exact ⟨rfl, hW.step hb2⟩)))); simp only [Act.put, List.setIfInBounds_toArray, List.set_cons_zero, List.set_cons_succ]; go_big_quiet_on)))
        refine wpQuiet_nil ?_
        rintro w' ⟨⟨i1, kp1, s1⟩, d1, d2, d3, d4, d5⟩
        have k4' := s1.k4
        have z4 := k4'.frozen 0
        have hb4 : Below B0 w' (w'.setCell ⟨b4, 0, none⟩ (.int .i64 x1)) := (Below.refl _ _).setCell h4 _
        have HR : Hid (Nexted B0 b1 b3 b4 g (some ad) n c xs h w (.returned (.int .i64 (q : Int))) (w'.setCell ⟨b4, 0, none⟩ (.int .i64 x1))) := Lib.hid (by
          obtain ⟨k1', ⟨B', k3', e3'⟩, _, ow', rd'⟩ := s1
          refine ⟨by rw [HNX.out.2, HQ.out], i1.wide hb4, kp1.set_ _ _ (.inr rfl), fun _ => ⟨v, hlt, HNX.out.2, ?_⟩⟩
          rw [← HE.out.2]
          exact ⟨k1'.far (p := ⟨b4, 0, none⟩) n41.symm _, ⟨B', k3'.far (p := ⟨b4, 0, none⟩) n34 _, e3'⟩, k4'.set_ 0 _, ow'.only (only_set _ _) ng4, rdB rd' hb4 hl⟩)
        clear hst s1 k4' hb4
        go_wp2
        go_ret
        exact HR.out
    · obtain rfl : v = n := by omega
      have HNX := Lib.hid (nx_none (xs := xs) (n := v) (h := h) (fun t ht => by have := HLO.out t ht; omega))
      have hz : v - v = 0 := by omega
      rw [hz] at k3 c3
      have HR : Hid (Nexted B0 b1 b3 b4 g A v c xs h w (.returned (.int .i64 (-1))) wr) := Lib.hid ⟨by rw [HNX.out.2], hi, hkp, fun hc => by
        have := HNX.out.1; omega⟩
      clear k1 k3 k4 ow rd
      go_wp2
      go_ret
      exact HR.out
def Chooser (A : Option Addr) (n c : Nat) (xs : List BreadR) (w : World) (e : Ending) (w' : World) : Prop :=
  ∃ b1 b3 b4 g, e = .returned (.func (Fn.func 109) #[] #[.pointer (some ⟨b3, 0, none⟩), .pointer (some ⟨b1, 0, none⟩), .pointer (some ⟨b4, 0, none⟩)]) ∧ StA w' b1 b3 b4 g A n c xs 0 0 ∧ w.heap.size ≤ b1 ∧ b1 < g ∧ g < b3 ∧ b3 < b4 ∧ b4 < w'.heap.size ∧ Below w.heap.size w w'
theorem iapartChooser (A : Option Addr) (n c : Nat) (xs : List BreadR) (w : World) (hn : n ≤ 10) (hx : ReadsBread w A n xs) : Calls Try.prog 72 #[.slice A n c] w (Chooser A n c xs w) := by
  have k0 : Blk (w.alloc (.cells #[.slice A n c] 46)) w.heap.size 46 #[.slice A n c] := Blk.new w _ _
  have in0 : In w.heap.size w (w.alloc (.cells #[.slice A n c] 46)) := by (repeat (first | exact In.refl _ | assumption | apply In.alloc | apply In.drewN | apply In.drew | (refine In.step ?_ (by assumption))))
  have HI := Lib.hid (iIndices 107 (.pointer (some ⟨w.heap.size, 0, none⟩)) (apV xs) n (w.alloc (.cells #[.slice A n c] 46)) (by omega) (fun _ _ => by kernel_rfl) (fun x y w' p1 p2 p3 p4 p5 => iap1 A n c w.heap.size xs (by omega) x y w' p1 p2 p3 p4 ((k0.step p5.below).cell 0) (hx.in_ (in0.trans p5))))
  go_enter Try.func72, Try.ntmps72
  go_wp2_with fail
  refine HI.out.mono ?_
  rintro _ w2 ⟨g, rfl, ho, hg, hb2⟩
  rw [srtL_len] at ho ⊢
  have hg1 : w.heap.size < g := by have h := hg; (try simp at h); omega
  have hgl : g < w2.heap.size := OwnC.lt (show OwnC w2 g n n _ from ho)
  have k2 := k0.step hb2
  have i2 := in0.step hb2
  have hx2 := hx.in_ i2
  have HR : Hid (Chooser A n c xs w (.returned (.func (Fn.func 109) #[] #[.pointer (some ⟨w2.heap.size, 0, none⟩), .pointer (some ⟨w.heap.size, 0, none⟩), .pointer (some ⟨w2.heap.size + 1, 0, none⟩)])) ((w2.alloc (.cells #[.slice (some ⟨g, 0, none⟩) n n] 27)).alloc (.cells #[.int .i64 0] 3))) := Lib.hid (by
    refine ⟨w.heap.size, w2.heap.size, w2.heap.size + 1, g, rfl, ⟨(k2.alloc _).alloc _, ⟨some ⟨g, 0, none⟩, (Blk.new w2 _ _).alloc _, fun _ => rfl⟩, Blk.new' (by simp), ?_, ?_⟩, Nat.le_refl _, hg1, hgl, by omega, by simp, ?_⟩
    · exact ((show OwnC w2 g n n _ from ho).alloc _).alloc _
    · exact (hx2.alloc _).alloc _
    · exact ((i2.alloc _).alloc _).below)
  clear HI ho hg hb2 k0 in0 k2 i2 hx2 hx
  go_wp2
  go_ret
  exact HR.out
def slLen : Value → Nat
  | .slice _ m _ => m
  | _ => 0
set_option maxHeartbeats 4000000 in
theorem iApartBreads (A : Option Addr) (n c : Nat) (xs : List BreadR) (w : World) (hn : n ≤ maxLen) (hx : ReadsBread w A n xs) : Calls Try.prog 28 #[.slice A n c] w (RowB (ApartBreadsL n xs) w) := by
  obtain ⟨i0, hi0, hz0, hz1, hz2⟩ := info_parts infoI
  have hm : n ≤ maxLen := hn
  unfold maxLen at hn
  have HX := Lib.hid hx
  go_enter Try.func28, Try.ntmps28
  go_wp2_with fail
  refine (ibreadsOk A n c xs _ hm hx).mono ?_
  rintro _ w1 ⟨rfl, hb1⟩
  have i1 : In w.heap.size w w1 := ⟨hb1, hb1.size⟩
  clear hx
  cases h0 : breadsB n xs
  · have e : Hid (ApartBreadsL n xs = []) := Lib.hid (by simp [ApartBreadsL, h0])
    go_wp2
    go_ret
    rw [e.out]
    exact rowB_nil _ _ i1
  obtain ⟨h10, hin⟩ := breads_at h0
  have HV : Hid (ApartBreadsL n xs = apF xs n 400 0) := Lib.hid (by simp [ApartBreadsL, h0])
  have HIN : Hid (∀ i, i < n → 100 ≤ loI xs i ∧ loI xs i ≤ hiI xs i ∧ hiI xs i ≤ 350) := Lib.hid (fun i hi => by have := hin i hi; unfold loI hiI; omega)
  clear hin h0 hb1
  have HL : Hid (0 < n → ∀ ad, A = some ad → ad.block < w.heap.size) := Lib.hid (fun h ad e => by
    obtain ⟨a, ha, h1, _⟩ := HX.out.2 0 h
    rw [e] at ha
    injection ha with ha
    subst ha
    have := cell_lt h1
    rwa [block_of_add] at this)
  go_wp2_with fail
  refine (iapartChooser A n c xs _ h10 (HX.out.in_ i1)).mono ?_
  rintro _ w2 ⟨b1, b3, b4, g, rfl, s2, e1, e2, e3, e4, e5, hb2⟩
  have i2 : In w.heap.size w w2 := i1.step hb2
  have hw1 := i1.size
  have HN := Lib.hid (fun (W : World) (u : Nat) (h : Int) (hu : u ≤ n) (hI : InvU xs n u h) (s : StA W b1 b3 b4 g A n c xs u h) (hW : w.heap.size ≤ W.heap.size) => inext w.heap.size b1 b3 b4 g n c A xs u h W hW (by omega) (by omega) (by omega) (by omega) (by omega) (by omega) (by omega) HL.out h10 hu hI s)
  obtain ⟨B1, hB1⟩ : ∃ B1, B1 = w2.heap.size := ⟨_, rfl⟩
  have hwB : w.heap.size ≤ B1 := by omega
  have h31 : b3 < B1 := by omega
  have h41 : b4 < B1 := by omega
  have h11 : b1 < B1 := by omega
  have hg1 : g < B1 := by omega
  have hBw2 : B1 ≤ w2.heap.size := by omega
  clear hB1 hb2 i1 e1 e2 e3 e4 e5 hw1
  go_wp2_with fail
  refine (HN.out _ 0 0 (Nat.zero_le _) ⟨fun t ht => by omega, fun t _ ht => by have := HIN.out _ (apN_in (xs := xs) ht); omega⟩ s2 i2.size).mono ?_
  rintro _ w3 ⟨rfl, i3, hkp3, hs3⟩
  have i3' : In w.heap.size w w3 := i2.wide i3.below
  have hB3 : B1 ≤ w3.heap.size := Nat.le_trans hBw2 hkp3.1
  have HS3 := Lib.hid hs3
  have hown0 := own_nil w3 B1
  clear hs3 s2 i2 i3 hkp3 hBw2
  go_wp2
  go_loopw [3, 5] (fun v i wr => ∃ (acc : List Int) (f : Nat) (h : Int), i = .int .i64 (nxB xs n h) ∧ 0 ≤ h ∧ h ≤ 350 ∧ 351 ≤ f + h ∧ acc.length + f ≤ 400 ∧ acc ++ apF xs n f h = apF xs n 400 0 ∧ wr.ownsRow B1 3 1 v acc.length (iv acc) ∧ In w.heap.size w wr ∧ B1 ≤ wr.heap.size ∧ (¬ nxI xs n h < 0 → ∃ v : Nat, v < n ∧ nxB xs n h = apN xs n v ∧ StA wr b1 b3 b4 g A n c xs (v + 1) (hiI xs (apN xs n v)))) (fun v _ _ => 400 - slLen v)
  case atStart => exact ⟨[], 400, 0, rfl, by omega, by omega, by omega, by simp, rfl, hown0, i3', hB3, fun h => HS3.out (by omega)⟩
  case round =>
    clear hown0 i3' hB3 HS3
    obtain ⟨acc, f, h, rfl, g1, g2, g3, g4, hacc, hown, hi, hB, hs⟩ := hrel
    have HACC := Lib.hid hacc
    have HS := Lib.hid hs
    clear hacc hs
    obtain ⟨A1, c1, rfl⟩ := own_shape_i hown
    generalize hm9 : acc.length = m at *
    have HM := Lib.hid hm9
    clear hm9
    by_cases hnx : nxI xs n h < 0
    · have hbv : nxB xs n h = -1 := by unfold nxB; rw [if_pos hnx]
      rw [hbv]
      have HR : Hid (RowB (ApartBreadsL n xs) w (.returned (.slice A1 m c1)) wr) := Lib.hid (by
        have h1 := HACC.out
        rw [apF_no hnx, List.append_nil] at h1
        rw [HV.out, ← h1]
        exact rowB_of HM.out (own_base hown hwB) hi.below)
      clear hown hnx hbv
      go_wp2
      go_ret
      exact HR.out
    · obtain ⟨v, hv, hq, s⟩ := HS.out hnx
      have hin := HIN.out _ (apN_in (xs := xs) hv)
      obtain ⟨_, v', hv'1, hv'2, hv'3, hlt', _⟩ : True ∧ ∃ v', v' < n ∧ nxI xs n h = (v' : Nat) ∧ nxB xs n h = apN xs n v' ∧ h < loI xs (apN xs n v') ∧ True := by
        obtain ⟨v', a1, a2, a3, a4, _⟩ := nx_at hnx
        exact ⟨trivial, v', a1, a2, a3, a4, trivial⟩
      have hlth : h < loI xs (apN xs n v) := by
        have : apN xs n v' = apN xs n v := by
          have := hv'3.symm.trans hq
          omega
        rw [← this]; exact hlt'
      have HA2 : Hid ((acc ++ [(apN xs n v : Int)]) ++ apF xs n (f - 1) (hiI xs (apN xs n v)) = apF xs n 400 0) := Lib.hid (by
        have h1 := HACC.out
        rw [apF_yes hnx f (by omega), hq, Int.toNat_natCast] at h1
        rw [← h1]; simp)
      have HIV := Lib.hid (inv_next HIN.out hv)
      have HST := Lib.hid s
      rw [hq]
      obtain ⟨y, hy⟩ : ∃ y, hiI xs (apN xs n v) = y := ⟨_, rfl⟩
      rw [hy] at hin HA2 HIV HST
      generalize apN xs n v = q at *
      have hge : (0 : Int) ≤ q := by omega
      have hd : decide ((0 : Int) ≤ (q : Int)) = true := decide_eq_true hge
      clear s hy hv'1 hv'2 hv'3 hlt' hq
      have F9 : Hid (∀ u ∈ (#[Value.int .i64 ((q : Int))] : Array Value).toList, u.oneCell' = true) := Lib.hid (by intro u hu; simp at hu; subst hu; rfl)
      have f92 : m + 1 ≤ maxLen := by unfold maxLen; omega
      have f93 : (m + 1) * 8 ≤ 140737488355328 := by omega
      have hB9 : B1 ≤ wr.heap.size := hB
      go_wp2_with (first | (go_at_call 66; refine (iIn _ _ _ _).mono ?_; rintro e w' ⟨rfl, rfl⟩) | (at_builtin; refine wpList_app wr rfl (.tmp 17) (.tmp 19) 27 rfl B1 3 i0 (.int .i64 0) 1 8 Try.underlying27 hi0 hz0 hz1 hz2 rfl Nat.one_pos (.slice A1 m c1) (m) (iv (acc)) rfl hown 1 #[.int .i64 ((q : Int))] rfl rfl F9.out f92 f93 hB9 ?_; intro v9 w9 hown9 hbw9))
      have sz9 := hbw9.size
      have s9 : StA w9 b1 b3 b4 g A n c xs (v + 1) y := by
        obtain ⟨k1, ⟨B, k3, e3⟩, k4, ow, rd⟩ := HST.out
        exact ⟨k1.below hbw9 h11, ⟨B, k3.below hbw9 h31, e3⟩, k4.below hbw9 h41, ow.below hbw9 hg1, rdB rd hbw9 (fun h ad e => by have := HL.out h ad e; omega)⟩
      have i9 : In w.heap.size w w9 := ⟨hi.below.trans (hbw9.mono hwB), by omega⟩
      have hB9' : B1 ≤ w9.heap.size := by omega
      have hown3 : w9.ownsRow B1 3 1 v9 (acc ++ [(q : Int)]).length (iv (acc ++ [(q : Int)])) := by rw [iv_app, List.length_append, HM.out]; exact hown9
      have HL3 : Hid ((acc ++ [(q : Int)]).length + (f - 1) ≤ 400) := Lib.hid (by rw [List.length_append, HM.out]; simp; omega)
      have hN9 := HN.out w9 (v + 1) y (by omega) HIV.out s9 i9.size
      clear hbw9 hown9 s9 hown hB9 hi hB sz9
      go_wp2_with fail
      refine hN9.mono ?_
      rintro _ w10 ⟨rfl, i10, kp10, hs10⟩
      have i11 : In w.heap.size w w10 := i9.wide i10.below
      have hB10 : B1 ≤ w10.heap.size := Nat.le_trans hB9' kp10.1
      have hown10 := own_kp hown3 kp10 h31 h41
      have HO10 := Lib.hid hown10
      have HS10 := Lib.hid hs10
      have HLV : Hid (slLen v9 = m + 1) := Lib.hid (by
        obtain ⟨A2, c2, rfl⟩ := own_shape_i hown3
        simp [slLen, HM.out])
      have hmf : m + f ≤ 400 := by omega
      clear hown10 hs10 hown3 kp10 i10 i9 hN9 HST
      go_wp2
      go_roundw
      case rel => exact ⟨acc ++ [(q : Int)], f - 1, y, rfl, by omega, by omega, by omega, HL3.out, HA2.out, HO10.out, i11, hB10, fun h => HS10.out (by omega)⟩
      case measure => rw [HLV.out]; simp [slLen]; omega
end Go.Proofs.Ytgjbbidcpmglbaa
