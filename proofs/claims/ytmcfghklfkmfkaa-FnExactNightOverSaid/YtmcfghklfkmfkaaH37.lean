/- Chapter 37: the counting of events, the program. -/
import Derived.Test.YtmcfghklfkmfkaaG37
import Derived.Test.YtmcfghklfkmfkaaM37
namespace Go.Proofs.Ytmcfghklfkmfkaa
open Go.ChangeShapes Go.WideShapes Go.ChangeAt Go.RowKit
set_option linter.unusedVariables false
set_option linter.unusedSimpArgs false
set_option maxHeartbeats 2000000

/-- what counting leaves: a book, or nothing -/
def BkP (n : Nat) (xs : List EventR) (w : World) (e : Ending) (w' : World) : Prop :=
  (cntB xs n = false ∧ e = .returned (.tuple #[.agg #[.slice none 0 0, .int .i64 0, .int .i64 0, .int .i64 0, .int .i64 0, .int .i64 0, .int .i64 0], .bool false]) ∧ Below w.heap.size w w') ∨
  (cntB xs n = true ∧ ∃ g c, e = .returned (.tuple #[.agg (bkC (some ⟨g, 0, none⟩) n c (stTo xs n)), .bool true]) ∧ OCEvent w' g n c xs ∧ w.heap.size ≤ g ∧ Below w.heap.size w w')
def JIICnt (w0 : World) (ga : Nat) (ca : Nat) (b_R : Nat) (b_C : Nat) (b_M : Nat) (k : Nat) (u3 : Value) (u7 : Value) (u8 : Value) (u9 : Value) (u10 : Value) (u11 : Value) (u12 : Value) (u19 : Value) (u20 : Value) (u21 : Value) (u22 : Value) (u23 : Value) (u24 : Value) (u25 : Value) (u26 : Value) (u27 : Value) (u28 : Value) (u29 : Value) (u30 : Value) (u31 : Value) (u32 : Value) (u33 : Value) (u34 : Value) (u35 : Value) (u36 : Value) (u37 : Value) (u38 : Value) (u39 : Value) (u40 : Value) (u41 : Value) (u42 : Value) (u43 : Value) (u44 : Value) (u45 : Value) (u46 : Value) (s0 : Int) (s1 : Int) (s2 : Int) (s3 : Int) (s4 : Int) (s5 : Int) (xs : List EventR) (mf : Int → Option Int) (a : Act) (w : World) : Prop := (∃ f : Nat → Value, a = ⟨#[Value.slice (some { block := ga, off := 0 }) k ca, undef, Value.pointer (some { block := b_R, off := 0 }), f 3, Value.pointer (some { block := b_C, off := 0 }), Value.map (some b_M), undef, u7, u8, u9, u10, u11, u12, Value.agg #[Value.int IntKind.i64 0, Value.int IntKind.i64 0, Value.int IntKind.i64 0], Value.map (some b_M), Value.slice (some { block := ga, off := 0 }) k ca, Value.int IntKind.i64 ((k : Nat) : Int), Value.int IntKind.i64 ((k : Nat) : Int), Value.bool false, u19, u20, u21, u22, u23, u24, u25, u26, u27, u28, u29, u30, u31, u32, u33, u34, u35, u36, u37, u38, u39, u40, u41, u42, u43, u44, u45, u46, f 47, f 48, f 49, f 50, f 51, f 52, f 53, f 54, f 55, f 56], []⟩) ∧ In w0.heap.size w0 w ∧ (∃ Y0 Y1 Y2 Y3 Y4 Y5 Y6, Blk w b_R 43 #[Y0, Y1, Y2, Y3, Y4, Y5, Y6]) ∧ Blk w b_C 41 #[.int .i64 s0, .int .i64 s1, .int .i64 s2] ∧ MapO w b_M (3 * k) 0 mf
def JFICnt (B : Nat) (ga : Nat) (ca : Nat) (b_R : Nat) (b_C : Nat) (b_M : Nat) (k : Nat) (u3 : Value) (u7 : Value) (u8 : Value) (u9 : Value) (u10 : Value) (u11 : Value) (u12 : Value) (u19 : Value) (u20 : Value) (u21 : Value) (u22 : Value) (u23 : Value) (u24 : Value) (u25 : Value) (u26 : Value) (u27 : Value) (u28 : Value) (u29 : Value) (u30 : Value) (u31 : Value) (u32 : Value) (u33 : Value) (u34 : Value) (u35 : Value) (u36 : Value) (u37 : Value) (u38 : Value) (u39 : Value) (u40 : Value) (u41 : Value) (u42 : Value) (u43 : Value) (u44 : Value) (u45 : Value) (u46 : Value) (s0 : Int) (s1 : Int) (s2 : Int) (s3 : Int) (s4 : Int) (s5 : Int) (xs : List EventR) (mf : Int → Option Int) : Nat → Act → World → Prop
  | 0, a, w => a.tmps[47]? = some (.slice (some ⟨ga, 0, none⟩) k ca)
  | 1, a, w => ∃ g0 c0, a.tmps[48]? = some (.slice (some ⟨g0, 0, none⟩) k c0) ∧ B ≤ g0 ∧ OCEvent w g0 k c0 xs
  | 2, a, w => a.tmps[49]? = some (.agg #[.int .i64 s0, .int .i64 s1, .int .i64 s2])
  | 3, a, w => a.tmps[50]? = some (.map (some b_M))
  | 4, a, w => a.tmps[51]? = some (.int .i64 s3)
  | 5, a, w => a.tmps[52]? = some (.map (some b_M))
  | 6, a, w => a.tmps[53]? = some (.int .i64 s4)
  | 7, a, w => a.tmps[54]? = some (.map (some b_M))
  | 8, a, w => a.tmps[55]? = some (.int .i64 s5)
  | 9, a, w => ∃ g0 c0, a.tmps[56]? = some (.agg #[.slice (some ⟨g0, 0, none⟩) k c0, .int .i64 s0, .int .i64 s1, .int .i64 s2, .int .i64 s3, .int .i64 s4, .int .i64 s5]) ∧ B ≤ g0 ∧ OCEvent w g0 k c0 xs
  | 10, a, w => ∃ g0 c0, Blk w b_R 43 #[.slice (some ⟨g0, 0, none⟩) k c0, .int .i64 s0, .int .i64 s1, .int .i64 s2, .int .i64 s3, .int .i64 s4, .int .i64 s5] ∧ B ≤ g0 ∧ OCEvent w g0 k c0 xs
  | 11, a, w => a.tmps[3]? = some (.bool true)
  | _, _, _ => True
theorem ibookOf (ga n ca : Nat) (xs : List EventR) (w : World) (hn : (n : Int) ≤ 41) (hx : ReadsEvent w (some ⟨ga, 0, none⟩) n xs) : Calls Try.prog 72 #[.slice (some ⟨ga, 0, none⟩) n ca] w (BkP n xs w) := by
  have HX := Lib.hid hx
  clear hx
  obtain ⟨b_R, hbx_R⟩ : ∃ b, b = w.heap.size := ⟨_, rfl⟩
  obtain ⟨b_C, hbx_C⟩ : ∃ b, b = w.heap.size + 1 := ⟨_, rfl⟩
  obtain ⟨b_M, hbx_M⟩ : ∃ b, b = w.heap.size + 1 + 1 := ⟨_, rfl⟩
  have kk_R : Blk (((w.alloc (.cells #[.slice none 0 0, .int .i64 0, .int .i64 0, .int .i64 0, .int .i64 0, .int .i64 0, .int .i64 0] 43)).alloc (.cells #[.int .i64 0, .int .i64 0, .int .i64 0] 41)).alloc (.map #[] 0)) b_R 43 #[.slice none 0 0, .int .i64 0, .int .i64 0, .int .i64 0, .int .i64 0, .int .i64 0, .int .i64 0] := ((Blk.new' (w := w) hbx_R).alloc _).alloc _
  have kk_C : Blk (((w.alloc (.cells #[.slice none 0 0, .int .i64 0, .int .i64 0, .int .i64 0, .int .i64 0, .int .i64 0, .int .i64 0] 43)).alloc (.cells #[.int .i64 0, .int .i64 0, .int .i64 0] 41)).alloc (.map #[] 0)) b_C 41 #[.int .i64 0, .int .i64 0, .int .i64 0] := (Blk.new' (by simp [hbx_C])).alloc _
  have kk_M : MapO (((w.alloc (.cells #[.slice none 0 0, .int .i64 0, .int .i64 0, .int .i64 0, .int .i64 0, .int .i64 0, .int .i64 0] 43)).alloc (.cells #[.int .i64 0, .int .i64 0, .int .i64 0] 41)).alloc (.map #[] 0)) b_M 0 0 (fun _ => none) := by
    have h := MapF.made ((w.alloc (.cells #[.slice none 0 0, .int .i64 0, .int .i64 0, .int .i64 0, .int .i64 0, .int .i64 0, .int .i64 0] 43)).alloc (.cells #[.int .i64 0, .int .i64 0, .int .i64 0] 41))
    simpa [MapO, hbx_M] using h
  have in0 : In w.heap.size w (((w.alloc (.cells #[.slice none 0 0, .int .i64 0, .int .i64 0, .int .i64 0, .int .i64 0, .int .i64 0, .int .i64 0] 43)).alloc (.cells #[.int .i64 0, .int .i64 0, .int .i64 0] 41)).alloc (.map #[] 0)) := by (repeat (first | exact In.refl _ | assumption | apply In.alloc | apply In.drewN | apply In.drew | (refine In.step ?_ (by assumption))))
  have hwb_R : w.heap.size ≤ b_R := by omega
  have hwb_C : w.heap.size ≤ b_C := by omega
  have GX_M : Hid (w.heap.size ≤ b_M) := Lib.hid (by omega)
  have NB_R_C : Hid (b_R ≠ b_C) := Lib.hid (by omega)
  have hmm := @run_makeMap Try.prog
  go_enter Try.func72, Try.ntmps72
  go_wp2
  clear hmm
  rw [← hbx_M, ← hbx_C, ← hbx_R]
  clear hbx_M hbx_C hbx_R
  generalize (((w.alloc (.cells #[.slice none 0 0, .int .i64 0, .int .i64 0, .int .i64 0, .int .i64 0, .int .i64 0, .int .i64 0] 43)).alloc (.cells #[.int .i64 0, .int .i64 0, .int .i64 0] 41)).alloc (.map #[] 0)) = w_0 at *
  go_loopw [17] (fun i wr => ∃ (k : Nat) (f : Int → Option Int), k ≤ n ∧ i = .int .i64 k ∧ (∀ j, j < k → okK xs j = true) ∧ Blk wr b_C 41 #[.int .i64 (stTo xs k).r0, .int .i64 (stTo xs k).r1, .int .i64 (stTo xs k).r2] ∧ Blk wr b_R 43 #[.slice none 0 0, .int .i64 0, .int .i64 0, .int .i64 0, .int .i64 0, .int .i64 0, .int .i64 0] ∧ MapO wr b_M (3 * k) 0 f ∧ (f 0).getD 0 = (stTo xs k).bk ∧ (f 1).getD 0 = (stTo xs k).sd ∧ (f 2).getD 0 = (stTo xs k).th ∧ In w.heap.size w wr) (fun i _ => n - (intOf i).toNat)
  case atStart => exact ⟨0, fun _ => none, Nat.zero_le _, rfl, fun j hj => absurd hj (Nat.not_lt_zero _), kk_C, kk_R, kk_M, rfl, rfl, rfl, in0⟩
  case round =>
    clear kk_C kk_R kk_M in0
    obtain ⟨k, mf, hk, rfl, hok, kC, kR, oM, hf0, hf1, hf2, iI⟩ := hrel
    have HOK := Lib.hid hok
    have HST := Lib.hid (st_in xs k hok)
    clear hok
    have wf0 := Lib.hid (wf_64 (x := 0) (by omega))
    have wf1 := Lib.hid (wf_64 (x := 1) (by omega))
    have wf2 := Lib.hid (wf_64 (x := 2) (by omega))
    by_cases hlt : k < n
    · obtain ⟨ad9, had, hx0, hx1⟩ := (HX.out.in_ iI).2 k hlt
      injection had with had
      subst had
      simp only [Addr.add_lit, Nat.zero_add] at hx0 hx1
      have HK : Hid (okK xs k = (evR (stTo xs k).r0 (stTo xs k).r1 (stTo xs k).r2 (xs.getD k ⟨0, 0⟩).f0 (xs.getD k ⟨0, 0⟩).f1).ok) := Lib.hid rfl
      have HN1 : Hid (stTo xs (k + 1) = stNext (stTo xs k) (evR (stTo xs k).r0 (stTo xs k).r1 (stTo xs k).r2 (xs.getD k ⟨0, 0⟩).f0 (xs.getD k ⟨0, 0⟩).f1)) := Lib.hid rfl
      generalize stTo xs k = s at *
      generalize xs.getD k ⟨0, 0⟩ = x at *
      obtain ⟨s0, s1, s2, s3, s4, s5⟩ := s
      obtain ⟨x0, x1⟩ := x
      simp only at hx0 hx1 kC HK HN1 hf0 hf1 hf2
      have HEV := Lib.hid (fun W => iEventOn s0 s1 s2 x0 x1 W)
      obtain ⟨r, hr⟩ : ∃ r, evR s0 s1 s2 x0 x1 = r := ⟨_, rfl⟩
      have HOKIN : Hid (r.ok = true → 0 ≤ r.m ∧ r.m ≤ 1000 ∧ 0 ≤ r.s ∧ r.s ≤ 1000 ∧ 0 ≤ r.t ∧ r.t ≤ 10000) := Lib.hid (fun h => by rw [← hr] at h ⊢; exact (ev_ok h).2)
      rw [hr] at HEV HK HN1
      clear hr
      obtain ⟨q0, q1, q2, q3, q4, q5, fl⟩ := r
      simp only [evT] at HEV HK HN1 HOKIN
      have HF0 := Lib.hid hf0
      have HF1 := Lib.hid hf1
      have HF2 := Lib.hid hf2
      clear hf0 hf1 hf2
      obtain ⟨w_9, rfl⟩ : ∃ x, x = wr := ⟨_, rfl⟩
      have i_9 := iI
      have k_9_R : Blk w_9 b_R 43 #[.slice none 0 0, .int .i64 0, .int .i64 0, .int .i64 0, .int .i64 0, .int .i64 0, .int .i64 0] := kR
      obtain ⟨c_9_R_0, c_9_R_1, c_9_R_2, c_9_R_3, c_9_R_4, c_9_R_5, c_9_R_6⟩ := cells7 k_9_R
      have l_9_R := k_9_R.lt
      have z_9_R := k_9_R.frozen
      have k_9_C : Blk w_9 b_C 41 #[.int .i64 s0, .int .i64 s1, .int .i64 s2] := kC
      obtain ⟨c_9_C_0, c_9_C_1, c_9_C_2⟩ := cells3 k_9_C
      have l_9_C := k_9_C.lt
      have z_9_C := k_9_C.frozen
      have o_9_M : MapO w_9 b_M (3 * k) 0 mf := oM
      clear kR kC oM iI
      go_wp2_with fail
      obtain ⟨b_A, hbx_A⟩ : ∃ b, b = w_9.heap.size := ⟨_, rfl⟩
      rw [← hbx_A]
      have hwb_A : w.heap.size ≤ b_A := by have h := In.size i_9; omega
      have NB_R_A : Hid (b_R ≠ b_A) := Lib.hid (by have h := k_9_R.lt; omega)
      have NB_C_A : Hid (b_C ≠ b_A) := Lib.hid (by have h := k_9_C.lt; omega)
      have hb_10 : Below w_9.heap.size w_9 (w_9.alloc (.cells #[.int .i64 x0, .int .i64 x1] 78)) := (Below.refl _ _).alloc (Nat.le_refl _) _
      have kk_10 : Blk (w_9.alloc (.cells #[.int .i64 x0, .int .i64 x1] 78)) b_A 78 #[.int .i64 x0, .int .i64 x1] := Blk.new' hbx_A
      clear hbx_A
      generalize (w_9.alloc (.cells #[.int .i64 x0, .int .i64 x1] 78)) = w_10 at *
      have i_10 : In w.heap.size w w_10 := In.step (by (repeat (first | exact In.refl _ | assumption | apply In.alloc | apply In.drewN | apply In.drew | (refine In.step ?_ (by assumption))))) hb_10
      have k_10_R : Blk w_10 b_R 43 #[.slice none 0 0, .int .i64 0, .int .i64 0, .int .i64 0, .int .i64 0, .int .i64 0, .int .i64 0] := Blk.step (by (with_reducible (repeat (first | assumption | exact Blk.new' (by simp) | apply Blk.drewN | apply Blk.drew | apply Blk.alloc | (refine Blk.far ?_ (by (try simp) <;> omega) _))))) hb_10
      obtain ⟨c_10_R_0, c_10_R_1, c_10_R_2, c_10_R_3, c_10_R_4, c_10_R_5, c_10_R_6⟩ := cells7 k_10_R
      have l_10_R := k_10_R.lt
      have z_10_R := k_10_R.frozen
      have k_10_C : Blk w_10 b_C 41 #[.int .i64 s0, .int .i64 s1, .int .i64 s2] := Blk.step (by (with_reducible (repeat (first | assumption | exact Blk.new' (by simp) | apply Blk.drewN | apply Blk.drew | apply Blk.alloc | (refine Blk.far ?_ (by (try simp) <;> omega) _))))) hb_10
      obtain ⟨c_10_C_0, c_10_C_1, c_10_C_2⟩ := cells3 k_10_C
      have l_10_C := k_10_C.lt
      have z_10_C := k_10_C.frozen
      have k_10_A : Blk w_10 b_A 78 #[.int .i64 x0, .int .i64 x1] := kk_10
      obtain ⟨c_10_A_0, c_10_A_1⟩ := cells2 k_10_A
      have l_10_A := k_10_A.lt
      have o_10_M : MapO w_10 b_M (3 * k) 0 mf := MapO.step (by with_reducible (repeat (first | assumption | apply MapO.drewN | apply MapO.drew | apply MapO.alloc))) hb_10
      clear i_9 k_9_R c_9_R_0 c_9_R_1 c_9_R_2 c_9_R_3 c_9_R_4 c_9_R_5 c_9_R_6 l_9_R z_9_R k_9_C c_9_C_0 c_9_C_1 c_9_C_2 l_9_C z_9_C o_9_M
      clear kk_10
      go_wp2_with fail
      refine (HEV.out _).mono ?_
      rintro _ w_11 ⟨rfl, hb_11⟩
      have i_11 : In w.heap.size w w_11 := In.step (by (repeat (first | exact In.refl _ | assumption | apply In.alloc | apply In.drewN | apply In.drew | (refine In.step ?_ (by assumption))))) hb_11
      have k_11_R : Blk w_11 b_R 43 #[.slice none 0 0, .int .i64 0, .int .i64 0, .int .i64 0, .int .i64 0, .int .i64 0, .int .i64 0] := Blk.step (by (with_reducible (repeat (first | assumption | exact Blk.new' (by simp) | apply Blk.drewN | apply Blk.drew | apply Blk.alloc | (refine Blk.far ?_ (by (try simp) <;> omega) _))))) hb_11
      obtain ⟨c_11_R_0, c_11_R_1, c_11_R_2, c_11_R_3, c_11_R_4, c_11_R_5, c_11_R_6⟩ := cells7 k_11_R
      have l_11_R := k_11_R.lt
      have z_11_R := k_11_R.frozen
      have k_11_C : Blk w_11 b_C 41 #[.int .i64 s0, .int .i64 s1, .int .i64 s2] := Blk.step (by (with_reducible (repeat (first | assumption | exact Blk.new' (by simp) | apply Blk.drewN | apply Blk.drew | apply Blk.alloc | (refine Blk.far ?_ (by (try simp) <;> omega) _))))) hb_11
      obtain ⟨c_11_C_0, c_11_C_1, c_11_C_2⟩ := cells3 k_11_C
      have l_11_C := k_11_C.lt
      have z_11_C := k_11_C.frozen
      have k_11_A : Blk w_11 b_A 78 #[.int .i64 x0, .int .i64 x1] := Blk.step (by (with_reducible (repeat (first | assumption | exact Blk.new' (by simp) | apply Blk.drewN | apply Blk.drew | apply Blk.alloc | (refine Blk.far ?_ (by (try simp) <;> omega) _))))) hb_11
      obtain ⟨c_11_A_0, c_11_A_1⟩ := cells2 k_11_A
      have l_11_A := k_11_A.lt
      have o_11_M : MapO w_11 b_M (3 * k) 0 mf := MapO.step (by with_reducible (repeat (first | assumption | apply MapO.drewN | apply MapO.drew | apply MapO.alloc))) hb_11
      clear i_10 k_10_R c_10_R_0 c_10_R_1 c_10_R_2 c_10_R_3 c_10_R_4 c_10_R_5 c_10_R_6 l_10_R z_10_R k_10_C c_10_C_0 c_10_C_1 c_10_C_2 l_10_C z_10_C k_10_A c_10_A_0 c_10_A_1 l_10_A o_10_M hb_10
      simp only []
      iterate 40 go_step
      obtain ⟨b_N, hbx_N⟩ : ∃ b, b = w_11.heap.size := ⟨_, rfl⟩
      rw [← hbx_N]
      have hwb_N : w.heap.size ≤ b_N := by have h := In.size i_11; omega
      have NB_R_N : Hid (b_R ≠ b_N) := Lib.hid (by have h := k_11_R.lt; omega)
      have NB_C_N : Hid (b_C ≠ b_N) := Lib.hid (by have h := k_11_C.lt; omega)
      have NB_A_N : Hid (b_A ≠ b_N) := Lib.hid (by have h := k_11_A.lt; omega)
      have hb_12 : Below w_11.heap.size w_11 (w_11.alloc (.cells #[.int .i64 q0, .int .i64 q1, .int .i64 q2] 41)) := (Below.refl _ _).alloc (Nat.le_refl _) _
      have kk_12 : Blk (w_11.alloc (.cells #[.int .i64 q0, .int .i64 q1, .int .i64 q2] 41)) b_N 41 #[.int .i64 q0, .int .i64 q1, .int .i64 q2] := Blk.new' hbx_N
      clear hbx_N
      generalize (w_11.alloc (.cells #[.int .i64 q0, .int .i64 q1, .int .i64 q2] 41)) = w_12 at *
      have i_12 : In w.heap.size w w_12 := In.step (by (repeat (first | exact In.refl _ | assumption | apply In.alloc | apply In.drewN | apply In.drew | (refine In.step ?_ (by assumption))))) hb_12
      have k_12_R : Blk w_12 b_R 43 #[.slice none 0 0, .int .i64 0, .int .i64 0, .int .i64 0, .int .i64 0, .int .i64 0, .int .i64 0] := Blk.step (by (with_reducible (repeat (first | assumption | exact Blk.new' (by simp) | apply Blk.drewN | apply Blk.drew | apply Blk.alloc | (refine Blk.far ?_ (by (try simp) <;> omega) _))))) hb_12
      obtain ⟨c_12_R_0, c_12_R_1, c_12_R_2, c_12_R_3, c_12_R_4, c_12_R_5, c_12_R_6⟩ := cells7 k_12_R
      have l_12_R := k_12_R.lt
      have z_12_R := k_12_R.frozen
      have k_12_C : Blk w_12 b_C 41 #[.int .i64 s0, .int .i64 s1, .int .i64 s2] := Blk.step (by (with_reducible (repeat (first | assumption | exact Blk.new' (by simp) | apply Blk.drewN | apply Blk.drew | apply Blk.alloc | (refine Blk.far ?_ (by (try simp) <;> omega) _))))) hb_12
      obtain ⟨c_12_C_0, c_12_C_1, c_12_C_2⟩ := cells3 k_12_C
      have l_12_C := k_12_C.lt
      have z_12_C := k_12_C.frozen
      have k_12_A : Blk w_12 b_A 78 #[.int .i64 x0, .int .i64 x1] := Blk.step (by (with_reducible (repeat (first | assumption | exact Blk.new' (by simp) | apply Blk.drewN | apply Blk.drew | apply Blk.alloc | (refine Blk.far ?_ (by (try simp) <;> omega) _))))) hb_12
      obtain ⟨c_12_A_0, c_12_A_1⟩ := cells2 k_12_A
      have l_12_A := k_12_A.lt
      have k_12_N : Blk w_12 b_N 41 #[.int .i64 q0, .int .i64 q1, .int .i64 q2] := kk_12
      obtain ⟨c_12_N_0, c_12_N_1, c_12_N_2⟩ := cells3 k_12_N
      have l_12_N := k_12_N.lt
      have o_12_M : MapO w_12 b_M (3 * k) 0 mf := MapO.step (by with_reducible (repeat (first | assumption | apply MapO.drewN | apply MapO.drew | apply MapO.alloc))) hb_12
      clear i_11 k_11_R c_11_R_0 c_11_R_1 c_11_R_2 c_11_R_3 c_11_R_4 c_11_R_5 c_11_R_6 l_11_R z_11_R k_11_C c_11_C_0 c_11_C_1 c_11_C_2 l_11_C z_11_C k_11_A c_11_A_0 c_11_A_1 l_11_A o_11_M hb_11
      clear kk_12
      cases fl
      · have HV : Hid (cntB xs n = false) := Lib.hid (allOk_f _ _ k hlt HK.out)
        clear HST HOK HOKIN HN1
        have hn1_R_C : b_C ≠ b_R := by first | exact NB_C_R.out | exact NB_R_C.out.symm
        have hn2_R_C : b_R ≠ b_C := hn1_R_C.symm
        have hn1_R_A : b_A ≠ b_R := by first | exact NB_A_R.out | exact NB_R_A.out.symm
        have hn2_R_A : b_R ≠ b_A := hn1_R_A.symm
        have hn1_R_N : b_N ≠ b_R := by first | exact NB_N_R.out | exact NB_R_N.out.symm
        have hn2_R_N : b_R ≠ b_N := hn1_R_N.symm
        have kk : Blk (((((((w_12.setCell ⟨b_R, 0, none⟩ (.slice none 0 0)).setCell ⟨b_R, 1, none⟩ (.int .i64 0)).setCell ⟨b_R, 2, none⟩ (.int .i64 0)).setCell ⟨b_R, 3, none⟩ (.int .i64 0)).setCell ⟨b_R, 4, none⟩ (.int .i64 0)).setCell ⟨b_R, 5, none⟩ (.int .i64 0)).setCell ⟨b_R, 6, none⟩ (.int .i64 0)) b_R 43 #[.slice none 0 0, .int .i64 0, .int .i64 0, .int .i64 0, .int .i64 0, .int .i64 0, .int .i64 0] := blks7 k_12_R
        have i9 : In w.heap.size w (((((((w_12.setCell ⟨b_R, 0, none⟩ (.slice none 0 0)).setCell ⟨b_R, 1, none⟩ (.int .i64 0)).setCell ⟨b_R, 2, none⟩ (.int .i64 0)).setCell ⟨b_R, 3, none⟩ (.int .i64 0)).setCell ⟨b_R, 4, none⟩ (.int .i64 0)).setCell ⟨b_R, 5, none⟩ (.int .i64 0)).setCell ⟨b_R, 6, none⟩ (.int .i64 0)) := ins7 i_12 hwb_R
        have HK0 : Hid ((_ : World).cell? ⟨b_R, 0, none⟩ = some (.slice none 0 0)) := Lib.hid (kk.cell 0)
        have HK1 : Hid ((_ : World).cell? ⟨b_R, 1, none⟩ = some (.int .i64 0)) := Lib.hid (kk.cell 1)
        have HK2 : Hid ((_ : World).cell? ⟨b_R, 2, none⟩ = some (.int .i64 0)) := Lib.hid (kk.cell 2)
        have HK3 : Hid ((_ : World).cell? ⟨b_R, 3, none⟩ = some (.int .i64 0)) := Lib.hid (kk.cell 3)
        have HK4 : Hid ((_ : World).cell? ⟨b_R, 4, none⟩ = some (.int .i64 0)) := Lib.hid (kk.cell 4)
        have HK5 : Hid ((_ : World).cell? ⟨b_R, 5, none⟩ = some (.int .i64 0)) := Lib.hid (kk.cell 5)
        have HK6 : Hid ((_ : World).cell? ⟨b_R, 6, none⟩ = some (.int .i64 0)) := Lib.hid (kk.cell 6)
        clear kk
        go_wp2
        have hk0 := HK0.out
        have hk1 := HK1.out
        have hk2 := HK2.out
        have hk3 := HK3.out
        have hk4 := HK4.out
        have hk5 := HK5.out
        have hk6 := HK6.out
        exact bodyPost_ret (v := .tuple #[.agg #[.slice none 0 0, .int .i64 0, .int .i64 0, .int .i64 0, .int .i64 0, .int .i64 0, .int .i64 0], .bool false]) (by simp [results, Try.results72, go_sem, hk0, hk1, hk2, hk3, hk4, hk5, hk6]) rfl (.inl ⟨HV.out, rfl, i9.below⟩)
      · obtain ⟨hq1, hq2, hq3, hq4, hq5, hq6⟩ := HOKIN.out rfl
        obtain ⟨_, hs1, hs2, hs3, hs4, hs5, hs6⟩ := HST.out
        simp only at hs1 hs2 hs3 hs4 hs5 hs6
        have hk4 : (k : Int) ≤ 41 := by omega
        have es3 : wrap64 (s3 + q3) = s3 + q3 := w64 (by omega)
        have wvs3 := Lib.hid (wf_64 (x := s3 + q3) (by omega))
        have es4 : wrap64 (s4 + q4) = s4 + q4 := w64 (by omega)
        have wvs4 := Lib.hid (wf_64 (x := s4 + q4) (by omega))
        have es5 : wrap64 (s5 + q5) = s5 + q5 := w64 (by omega)
        have wvs5 := Lib.hid (wf_64 (x := s5 + q5) (by omega))
        clear HOKIN HST
        have hn1_C_R : b_R ≠ b_C := by first | exact NB_R_C.out | exact NB_C_R.out.symm
        have hn2_C_R : b_C ≠ b_R := hn1_C_R.symm
        have hn1_C_A : b_A ≠ b_C := by first | exact NB_A_C.out | exact NB_C_A.out.symm
        have hn2_C_A : b_C ≠ b_A := hn1_C_A.symm
        have hn1_C_N : b_N ≠ b_C := by first | exact NB_N_C.out | exact NB_C_N.out.symm
        have hn2_C_N : b_C ≠ b_N := hn1_C_N.symm
        go_wp2_with (first | (at_lookup; refine lookup_stop rfl ?_) | (at_mapUpdate; refine update_stop rfl ?_))
        have kf_R : Blk (((w_12.setCell ⟨b_C, 0, none⟩ (.int .i64 q0)).setCell ⟨b_C, 1, none⟩ (.int .i64 q1)).setCell ⟨b_C, 2, none⟩ (.int .i64 q2)) b_R 43 #[.slice none 0 0, .int .i64 0, .int .i64 0, .int .i64 0, .int .i64 0, .int .i64 0, .int .i64 0] := by
          have h := (Blk.far (Blk.far (Blk.far k_12_R (p := ⟨b_C, 0, none⟩) (by first | exact NB_R_C.out | exact NB_C_R.out.symm) (.int .i64 q0)) (p := ⟨b_C, 1, none⟩) (by first | exact NB_R_C.out | exact NB_C_R.out.symm) (.int .i64 q1)) (p := ⟨b_C, 2, none⟩) (by first | exact NB_R_C.out | exact NB_C_R.out.symm) (.int .i64 q2))
          simpa using h
        have kf_C : Blk (((w_12.setCell ⟨b_C, 0, none⟩ (.int .i64 q0)).setCell ⟨b_C, 1, none⟩ (.int .i64 q1)).setCell ⟨b_C, 2, none⟩ (.int .i64 q2)) b_C 41 #[.int .i64 q0, .int .i64 q1, .int .i64 q2] := by
          have h := (((k_12_C.set_ 0 (.int .i64 q0)).set_ 1 (.int .i64 q1)).set_ 2 (.int .i64 q2))
          simpa using h
        have kf_A : Blk (((w_12.setCell ⟨b_C, 0, none⟩ (.int .i64 q0)).setCell ⟨b_C, 1, none⟩ (.int .i64 q1)).setCell ⟨b_C, 2, none⟩ (.int .i64 q2)) b_A 78 #[.int .i64 x0, .int .i64 x1] := by
          have h := (Blk.far (Blk.far (Blk.far k_12_A (p := ⟨b_C, 0, none⟩) (by first | exact NB_A_C.out | exact NB_C_A.out.symm) (.int .i64 q0)) (p := ⟨b_C, 1, none⟩) (by first | exact NB_A_C.out | exact NB_C_A.out.symm) (.int .i64 q1)) (p := ⟨b_C, 2, none⟩) (by first | exact NB_A_C.out | exact NB_C_A.out.symm) (.int .i64 q2))
          simpa using h
        have kf_N : Blk (((w_12.setCell ⟨b_C, 0, none⟩ (.int .i64 q0)).setCell ⟨b_C, 1, none⟩ (.int .i64 q1)).setCell ⟨b_C, 2, none⟩ (.int .i64 q2)) b_N 41 #[.int .i64 q0, .int .i64 q1, .int .i64 q2] := by
          have h := (Blk.far (Blk.far (Blk.far k_12_N (p := ⟨b_C, 0, none⟩) (by first | exact NB_N_C.out | exact NB_C_N.out.symm) (.int .i64 q0)) (p := ⟨b_C, 1, none⟩) (by first | exact NB_N_C.out | exact NB_C_N.out.symm) (.int .i64 q1)) (p := ⟨b_C, 2, none⟩) (by first | exact NB_N_C.out | exact NB_C_N.out.symm) (.int .i64 q2))
          simpa using h
        have fo_M : MapO (((w_12.setCell ⟨b_C, 0, none⟩ (.int .i64 q0)).setCell ⟨b_C, 1, none⟩ (.int .i64 q1)).setCell ⟨b_C, 2, none⟩ (.int .i64 q2)) b_M (3 * k) 0 mf := (MapO.far (MapO.far (MapO.far o_12_M k_12_C (by decide) (only_set ⟨b_C, 0, none⟩ _)) (k_12_C.set_ 0 _) (by decide) (only_set ⟨b_C, 1, none⟩ _)) ((k_12_C.set_ 0 _).set_ 1 _) (by decide) (only_set ⟨b_C, 2, none⟩ _))
        have ii_13 : In w.heap.size w (((w_12.setCell ⟨b_C, 0, none⟩ (.int .i64 q0)).setCell ⟨b_C, 1, none⟩ (.int .i64 q1)).setCell ⟨b_C, 2, none⟩ (.int .i64 q2)) := (In.set_ (In.set_ (In.set_ i_12 (p := ⟨b_C, 0, none⟩) hwb_C (.int .i64 q0)) (p := ⟨b_C, 1, none⟩) hwb_C (.int .i64 q1)) (p := ⟨b_C, 2, none⟩) hwb_C (.int .i64 q2))
        generalize (((w_12.setCell ⟨b_C, 0, none⟩ (.int .i64 q0)).setCell ⟨b_C, 1, none⟩ (.int .i64 q1)).setCell ⟨b_C, 2, none⟩ (.int .i64 q2)) = w_13 at *
        clear hn1_C_R hn2_C_R hn1_C_A hn2_C_A hn1_C_N hn2_C_N
        have i_13 : In w.heap.size w w_13 := ii_13
        have k_13_R : Blk w_13 b_R 43 #[.slice none 0 0, .int .i64 0, .int .i64 0, .int .i64 0, .int .i64 0, .int .i64 0, .int .i64 0] := kf_R
        obtain ⟨c_13_R_0, c_13_R_1, c_13_R_2, c_13_R_3, c_13_R_4, c_13_R_5, c_13_R_6⟩ := cells7 k_13_R
        have l_13_R := k_13_R.lt
        have z_13_R := k_13_R.frozen
        have k_13_C : Blk w_13 b_C 41 #[.int .i64 q0, .int .i64 q1, .int .i64 q2] := kf_C
        obtain ⟨c_13_C_0, c_13_C_1, c_13_C_2⟩ := cells3 k_13_C
        have l_13_C := k_13_C.lt
        have z_13_C := k_13_C.frozen
        have k_13_A : Blk w_13 b_A 78 #[.int .i64 x0, .int .i64 x1] := kf_A
        obtain ⟨c_13_A_0, c_13_A_1⟩ := cells2 k_13_A
        have l_13_A := k_13_A.lt
        have k_13_N : Blk w_13 b_N 41 #[.int .i64 q0, .int .i64 q1, .int .i64 q2] := kf_N
        obtain ⟨c_13_N_0, c_13_N_1, c_13_N_2⟩ := cells3 k_13_N
        have l_13_N := k_13_N.lt
        have o_13_M : MapO w_13 b_M (3 * k) 0 mf := fo_M
        clear i_12 k_12_R c_12_R_0 c_12_R_1 c_12_R_2 c_12_R_3 c_12_R_4 c_12_R_5 c_12_R_6 l_12_R z_12_R k_12_C c_12_C_0 c_12_C_1 c_12_C_2 l_12_C z_12_C k_12_A c_12_A_0 c_12_A_1 l_12_A k_12_N c_12_N_0 c_12_N_1 c_12_N_2 l_12_N o_12_M hb_12
        clear ii_13 kf_R kf_C kf_A kf_N fo_M
        refine Stop.go (wpList_lookF w_13 rfl (.tmp 34) (.const (.int .i64 0)) rfl b_M (3 * k) mf rfl o_13_M 0 rfl wf0.out ?_)
        rw [HF0.out]
        go_wp2_with (first | (at_lookup; refine lookup_stop rfl ?_) | (at_mapUpdate; refine update_stop rfl ?_))
        obtain ⟨f1, hf9⟩ : ∃ x, x = upd mf 0 (s3 + q3) := ⟨_, rfl⟩
        have HG0 : Hid ((f1 0).getD 0 = s3 + q3) := Lib.hid (by rw [hf9]; simp [upd])
        have HG1 : Hid ((f1 1).getD 0 = s4) := Lib.hid (by rw [hf9]; simp [upd, HF1.out])
        have HG2 : Hid ((f1 2).getD 0 = s5) := Lib.hid (by rw [hf9]; simp [upd, HF2.out])
        refine Stop.go (wpList_storeF w_13 rfl (.tmp 34) (.const (.int .i64 0)) (.tmp 37) (Or.inl rfl) b_M (3 * k) mf rfl o_13_M (by unfold maxLen; omega) 0 (s3 + q3) rfl rfl wf0.out wvs3.out ?_)
        rw [← hf9]
        intro w_14 hM9 hg9
        clear hf9 HF0 HF1 HF2
        have HF0 := HG0
        have HF1 := HG1
        have HF2 := HG2
        clear HG0 HG1 HG2
        have o_14_M : MapO w_14 b_M (3 * k + 1) 0 f1 := hM9
        clear hM9
        have i_14 : In w.heap.size w w_14 := In.wide (by (repeat (first | exact In.refl _ | assumption | apply In.alloc | apply In.drewN | apply In.drew | (refine In.step ?_ (by assumption))))) (below_of_only hg9 GX_M.out (In.size (B := w.heap.size) (a := w) (by (repeat (first | exact In.refl _ | assumption | apply In.alloc | apply In.drewN | apply In.drew | (refine In.step ?_ (by assumption)))))))
        have k_14_R : Blk w_14 b_R 43 #[.slice none 0 0, .int .i64 0, .int .i64 0, .int .i64 0, .int .i64 0, .int .i64 0, .int .i64 0] := Blk.grown k_13_R hg9 (fun h => (MapO.ne o_13_M k_13_R (by decide)) (Option.some.inj h).symm)
        obtain ⟨c_14_R_0, c_14_R_1, c_14_R_2, c_14_R_3, c_14_R_4, c_14_R_5, c_14_R_6⟩ := cells7 k_14_R
        have l_14_R := k_14_R.lt
        have z_14_R := k_14_R.frozen
        have k_14_C : Blk w_14 b_C 41 #[.int .i64 q0, .int .i64 q1, .int .i64 q2] := Blk.grown k_13_C hg9 (fun h => (MapO.ne o_13_M k_13_C (by decide)) (Option.some.inj h).symm)
        obtain ⟨c_14_C_0, c_14_C_1, c_14_C_2⟩ := cells3 k_14_C
        have l_14_C := k_14_C.lt
        have z_14_C := k_14_C.frozen
        have k_14_A : Blk w_14 b_A 78 #[.int .i64 x0, .int .i64 x1] := Blk.grown k_13_A hg9 (fun h => (MapO.ne o_13_M k_13_A (by decide)) (Option.some.inj h).symm)
        obtain ⟨c_14_A_0, c_14_A_1⟩ := cells2 k_14_A
        have l_14_A := k_14_A.lt
        have k_14_N : Blk w_14 b_N 41 #[.int .i64 q0, .int .i64 q1, .int .i64 q2] := Blk.grown k_13_N hg9 (fun h => (MapO.ne o_13_M k_13_N (by decide)) (Option.some.inj h).symm)
        obtain ⟨c_14_N_0, c_14_N_1, c_14_N_2⟩ := cells3 k_14_N
        have l_14_N := k_14_N.lt
        clear i_13 k_13_R c_13_R_0 c_13_R_1 c_13_R_2 c_13_R_3 c_13_R_4 c_13_R_5 c_13_R_6 l_13_R z_13_R k_13_C c_13_C_0 c_13_C_1 c_13_C_2 l_13_C z_13_C k_13_A c_13_A_0 c_13_A_1 l_13_A k_13_N c_13_N_0 c_13_N_1 c_13_N_2 l_13_N o_13_M
        clear hg9
        go_wp2_with (first | (at_lookup; refine lookup_stop rfl ?_) | (at_mapUpdate; refine update_stop rfl ?_))
        refine Stop.go (wpList_lookF w_14 rfl (.tmp 38) (.const (.int .i64 1)) rfl b_M (3 * k + 1) f1 rfl o_14_M 1 rfl wf1.out ?_)
        rw [HF1.out]
        go_wp2_with (first | (at_lookup; refine lookup_stop rfl ?_) | (at_mapUpdate; refine update_stop rfl ?_))
        obtain ⟨f2, hf9⟩ : ∃ x, x = upd f1 1 (s4 + q4) := ⟨_, rfl⟩
        have HG0 : Hid ((f2 0).getD 0 = s3 + q3) := Lib.hid (by rw [hf9]; simp [upd, HF0.out])
        have HG1 : Hid ((f2 1).getD 0 = s4 + q4) := Lib.hid (by rw [hf9]; simp [upd])
        have HG2 : Hid ((f2 2).getD 0 = s5) := Lib.hid (by rw [hf9]; simp [upd, HF2.out])
        refine Stop.go (wpList_storeF w_14 rfl (.tmp 38) (.const (.int .i64 1)) (.tmp 41) (Or.inl rfl) b_M (3 * k + 1) f1 rfl o_14_M (by unfold maxLen; omega) 1 (s4 + q4) rfl rfl wf1.out wvs4.out ?_)
        rw [← hf9]
        intro w_15 hM9 hg9
        clear hf9 HF0 HF1 HF2
        have HF0 := HG0
        have HF1 := HG1
        have HF2 := HG2
        clear HG0 HG1 HG2
        have o_15_M : MapO w_15 b_M (3 * k + 2) 0 f2 := hM9
        clear hM9
        have i_15 : In w.heap.size w w_15 := In.wide (by (repeat (first | exact In.refl _ | assumption | apply In.alloc | apply In.drewN | apply In.drew | (refine In.step ?_ (by assumption))))) (below_of_only hg9 GX_M.out (In.size (B := w.heap.size) (a := w) (by (repeat (first | exact In.refl _ | assumption | apply In.alloc | apply In.drewN | apply In.drew | (refine In.step ?_ (by assumption)))))))
        have k_15_R : Blk w_15 b_R 43 #[.slice none 0 0, .int .i64 0, .int .i64 0, .int .i64 0, .int .i64 0, .int .i64 0, .int .i64 0] := Blk.grown k_14_R hg9 (fun h => (MapO.ne o_14_M k_14_R (by decide)) (Option.some.inj h).symm)
        obtain ⟨c_15_R_0, c_15_R_1, c_15_R_2, c_15_R_3, c_15_R_4, c_15_R_5, c_15_R_6⟩ := cells7 k_15_R
        have l_15_R := k_15_R.lt
        have z_15_R := k_15_R.frozen
        have k_15_C : Blk w_15 b_C 41 #[.int .i64 q0, .int .i64 q1, .int .i64 q2] := Blk.grown k_14_C hg9 (fun h => (MapO.ne o_14_M k_14_C (by decide)) (Option.some.inj h).symm)
        obtain ⟨c_15_C_0, c_15_C_1, c_15_C_2⟩ := cells3 k_15_C
        have l_15_C := k_15_C.lt
        have z_15_C := k_15_C.frozen
        have k_15_A : Blk w_15 b_A 78 #[.int .i64 x0, .int .i64 x1] := Blk.grown k_14_A hg9 (fun h => (MapO.ne o_14_M k_14_A (by decide)) (Option.some.inj h).symm)
        obtain ⟨c_15_A_0, c_15_A_1⟩ := cells2 k_15_A
        have l_15_A := k_15_A.lt
        have k_15_N : Blk w_15 b_N 41 #[.int .i64 q0, .int .i64 q1, .int .i64 q2] := Blk.grown k_14_N hg9 (fun h => (MapO.ne o_14_M k_14_N (by decide)) (Option.some.inj h).symm)
        obtain ⟨c_15_N_0, c_15_N_1, c_15_N_2⟩ := cells3 k_15_N
        have l_15_N := k_15_N.lt
        clear i_14 k_14_R c_14_R_0 c_14_R_1 c_14_R_2 c_14_R_3 c_14_R_4 c_14_R_5 c_14_R_6 l_14_R z_14_R k_14_C c_14_C_0 c_14_C_1 c_14_C_2 l_14_C z_14_C k_14_A c_14_A_0 c_14_A_1 l_14_A k_14_N c_14_N_0 c_14_N_1 c_14_N_2 l_14_N o_14_M
        clear hg9
        go_wp2_with (first | (at_lookup; refine lookup_stop rfl ?_) | (at_mapUpdate; refine update_stop rfl ?_))
        refine Stop.go (wpList_lookF w_15 rfl (.tmp 42) (.const (.int .i64 2)) rfl b_M (3 * k + 2) f2 rfl o_15_M 2 rfl wf2.out ?_)
        rw [HF2.out]
        go_wp2_with (first | (at_lookup; refine lookup_stop rfl ?_) | (at_mapUpdate; refine update_stop rfl ?_))
        obtain ⟨f3, hf9⟩ : ∃ x, x = upd f2 2 (s5 + q5) := ⟨_, rfl⟩
        have HG0 : Hid ((f3 0).getD 0 = s3 + q3) := Lib.hid (by rw [hf9]; simp [upd, HF0.out])
        have HG1 : Hid ((f3 1).getD 0 = s4 + q4) := Lib.hid (by rw [hf9]; simp [upd, HF1.out])
        have HG2 : Hid ((f3 2).getD 0 = s5 + q5) := Lib.hid (by rw [hf9]; simp [upd])
        refine Stop.go (wpList_storeF w_15 rfl (.tmp 42) (.const (.int .i64 2)) (.tmp 45) (Or.inl rfl) b_M (3 * k + 2) f2 rfl o_15_M (by unfold maxLen; omega) 2 (s5 + q5) rfl rfl wf2.out wvs5.out ?_)
        rw [← hf9]
        intro w_16 hM9 hg9
        clear hf9 HF0 HF1 HF2
        have HF0 := HG0
        have HF1 := HG1
        have HF2 := HG2
        clear HG0 HG1 HG2
        have o_16_M : MapO w_16 b_M (3 * k + 3) 0 f3 := hM9
        clear hM9
        have i_16 : In w.heap.size w w_16 := In.wide (by (repeat (first | exact In.refl _ | assumption | apply In.alloc | apply In.drewN | apply In.drew | (refine In.step ?_ (by assumption))))) (below_of_only hg9 GX_M.out (In.size (B := w.heap.size) (a := w) (by (repeat (first | exact In.refl _ | assumption | apply In.alloc | apply In.drewN | apply In.drew | (refine In.step ?_ (by assumption)))))))
        have k_16_R : Blk w_16 b_R 43 #[.slice none 0 0, .int .i64 0, .int .i64 0, .int .i64 0, .int .i64 0, .int .i64 0, .int .i64 0] := Blk.grown k_15_R hg9 (fun h => (MapO.ne o_15_M k_15_R (by decide)) (Option.some.inj h).symm)
        obtain ⟨c_16_R_0, c_16_R_1, c_16_R_2, c_16_R_3, c_16_R_4, c_16_R_5, c_16_R_6⟩ := cells7 k_16_R
        have l_16_R := k_16_R.lt
        have z_16_R := k_16_R.frozen
        have k_16_C : Blk w_16 b_C 41 #[.int .i64 q0, .int .i64 q1, .int .i64 q2] := Blk.grown k_15_C hg9 (fun h => (MapO.ne o_15_M k_15_C (by decide)) (Option.some.inj h).symm)
        obtain ⟨c_16_C_0, c_16_C_1, c_16_C_2⟩ := cells3 k_16_C
        have l_16_C := k_16_C.lt
        have z_16_C := k_16_C.frozen
        have k_16_A : Blk w_16 b_A 78 #[.int .i64 x0, .int .i64 x1] := Blk.grown k_15_A hg9 (fun h => (MapO.ne o_15_M k_15_A (by decide)) (Option.some.inj h).symm)
        obtain ⟨c_16_A_0, c_16_A_1⟩ := cells2 k_16_A
        have l_16_A := k_16_A.lt
        have k_16_N : Blk w_16 b_N 41 #[.int .i64 q0, .int .i64 q1, .int .i64 q2] := Blk.grown k_15_N hg9 (fun h => (MapO.ne o_15_M k_15_N (by decide)) (Option.some.inj h).symm)
        obtain ⟨c_16_N_0, c_16_N_1, c_16_N_2⟩ := cells3 k_16_N
        have l_16_N := k_16_N.lt
        clear i_15 k_15_R c_15_R_0 c_15_R_1 c_15_R_2 c_15_R_3 c_15_R_4 c_15_R_5 c_15_R_6 l_15_R z_15_R k_15_C c_15_C_0 c_15_C_1 c_15_C_2 l_15_C z_15_C k_15_A c_15_A_0 c_15_A_1 l_15_A k_15_N c_15_N_0 c_15_N_1 c_15_N_2 l_15_N o_15_M
        clear hg9
        go_wp2
        go_roundw
        case rel => exact ⟨k + 1, f3, by omega, by go_num, fun j hj => by
            by_cases e : j = k
            · subst e; exact HK.out
            · exact HOK.out j (by omega), by rw [HN1.out]; exact k_16_C, k_16_R, MapF.mono o_16_M (by omega), by rw [HN1.out]; exact HF0.out, by rw [HN1.out]; exact HF1.out, by rw [HN1.out]; exact HF2.out, i_16⟩
        case measure => simp [intOf]; omega
    · obtain rfl : k = n := by omega
      have HV : Hid (cntB xs k = true) := Lib.hid (allOk_t _ _ HOK.out)
      clear HST HOK
      generalize hs : stTo xs k = s at *
      have HS := Lib.hid hs
      clear hs
      have HF0 := Lib.hid hf0
      have HF1 := Lib.hid hf1
      have HF2 := Lib.hid hf2
      clear hf0 hf1 hf2
      obtain ⟨s0, s1, s2, s3, s4, s5⟩ := s
      simp only at kC HF0 HF1 HF2
      obtain ⟨w_9, rfl⟩ : ∃ x, x = wr := ⟨_, rfl⟩
      have i_9 := iI
      have k_9_R : Blk w_9 b_R 43 #[.slice none 0 0, .int .i64 0, .int .i64 0, .int .i64 0, .int .i64 0, .int .i64 0, .int .i64 0] := kR
      obtain ⟨c_9_R_0, c_9_R_1, c_9_R_2, c_9_R_3, c_9_R_4, c_9_R_5, c_9_R_6⟩ := cells7 k_9_R
      have l_9_R := k_9_R.lt
      have z_9_R := k_9_R.frozen
      have k_9_C : Blk w_9 b_C 41 #[.int .i64 s0, .int .i64 s1, .int .i64 s2] := kC
      obtain ⟨c_9_C_0, c_9_C_1, c_9_C_2⟩ := cells3 k_9_C
      have l_9_C := k_9_C.lt
      have z_9_C := k_9_C.frozen
      have o_9_M : MapO w_9 b_M (3 * k) 0 mf := oM
      clear kR kC oM iI
      go_wp2_with fail
      obtain ⟨B_9, hB_9⟩ : ∃ B, B = w.heap.size := ⟨_, rfl⟩
      have hBl_9 : B_9 ≤ w.heap.size := by omega
      have hBg_9 : w.heap.size ≤ B_9 := by omega
      clear hB_9
      refine wp_region_facts (JIICnt w ga ca b_R b_C b_M k u3 u7 u8 u9 u10 u11 u12 u19 u20 u21 u22 u23 u24 u25 u26 u27 u28 u29 u30 u31 u32 u33 u34 u35 u36 u37 u38 u39 u40 u41 u42 u43 u44 u45 u46 s0 s1 s2 s3 s4 s5 xs mf) (JFICnt B_9 ga ca b_R b_C b_M k u3 u7 u8 u9 u10 u11 u12 u19 u20 u21 u22 u23 u24 u25 u26 u27 u28 u29 u30 u31 u32 u33 u34 u35 u36 u37 u38 u39 u40 u41 u42 u43 u44 u45 u46 s0 s1 s2 s3 s4 s5 xs mf) (by kernel_rfl) (by kernel_rfl) ⟨⟨fun j => if j = 3 then u3 else undef, rfl⟩, i_9.drew, ⟨_, _, _, _, _, _, _, Blk.drew k_9_R⟩, Blk.drew k_9_C, MapO.drew o_9_M⟩ ?_ ?_
      · intro a v1 i o ho hI haf
        obtain ⟨⟨f, rfl⟩, hin, ⟨Y0, Y1, Y2, Y3, Y4, Y5, Y6, kpW⟩, kp0, kp1⟩ := hI
        have cv_C_0 := kp0.cell 0
        have cv_C_1 := kp0.cell 1
        have cv_C_2 := kp0.cell 2
        have hm0 := MapF.run (show MapF v1 b_M (3 * k) mf from kp1) 0 wf0.out
        rw [HF0.out] at hm0
        have hm1 := MapF.run (show MapF v1 b_M (3 * k) mf from kp1) 1 wf1.out
        rw [HF1.out] at hm1
        have hm2 := MapF.run (show MapF v1 b_M (3 * k) mf from kp1) 2 wf2.out
        rw [HF2.out] at hm2
        have hi : i < 12 := by
          rcases Nat.lt_or_ge i 12 with h | h
          · exact h
          · simp [h] at ho
        suffices H : ∀ K : Act → World → Prop, (∀ a' w', ((JIICnt w ga ca b_R b_C b_M k u3 u7 u8 u9 u10 u11 u12 u19 u20 u21 u22 u23 u24 u25 u26 u27 u28 u29 u30 u31 u32 u33 u34 u35 u36 u37 u38 u39 u40 u41 u42 u43 u44 u45 u46 s0 s1 s2 s3 s4 s5 xs mf) a' w' ∧ (JFICnt B_9 ga ca b_R b_C b_M k u3 u7 u8 u9 u10 u11 u12 u19 u20 u21 u22 u23 u24 u25 u26 u27 u28 u29 u30 u31 u32 u33 u34 u35 u36 u37 u38 u39 u40 u41 u42 u43 u44 u45 u46 s0 s1 s2 s3 s4 s5 xs mf) i a' w' ∧ ∀ j, j ≠ i → waitsB _ j i = false → (JFICnt B_9 ga ca b_R b_C b_M k u3 u7 u8 u9 u10 u11 u12 u19 u20 u21 u22 u23 u24 u25 u26 u27 u28 u29 u30 u31 u32 u33 u34 u35 u36 u37 u38 u39 u40 u41 u42 u43 u44 u45 u46 s0 s1 s2 s3 s4 s5 xs mf) j ⟨#[Value.slice (some { block := ga, off := 0 }) k ca, undef, Value.pointer (some { block := b_R, off := 0 }), f 3, Value.pointer (some { block := b_C, off := 0 }), Value.map (some b_M), undef, u7, u8, u9, u10, u11, u12, Value.agg #[Value.int IntKind.i64 0, Value.int IntKind.i64 0, Value.int IntKind.i64 0], Value.map (some b_M), Value.slice (some { block := ga, off := 0 }) k ca, Value.int IntKind.i64 ((k : Nat) : Int), Value.int IntKind.i64 ((k : Nat) : Int), Value.bool false, u19, u20, u21, u22, u23, u24, u25, u26, u27, u28, u29, u30, u31, u32, u33, u34, u35, u36, u37, u38, u39, u40, u41, u42, u43, u44, u45, u46, f 47, f 48, f 49, f 50, f 51, f 52, f 53, f 54, f 55, f 56], []⟩ v1 → (JFICnt B_9 ga ca b_R b_C b_M k u3 u7 u8 u9 u10 u11 u12 u19 u20 u21 u22 u23 u24 u25 u26 u27 u28 u29 u30 u31 u32 u33 u34 u35 u36 u37 u38 u39 u40 u41 u42 u43 u44 u45 u46 s0 s1 s2 s3 s4 s5 xs mf) j a' w') → K a' w') → wpOp _ _ _ i K ⟨#[Value.slice (some { block := ga, off := 0 }) k ca, undef, Value.pointer (some { block := b_R, off := 0 }), f 3, Value.pointer (some { block := b_C, off := 0 }), Value.map (some b_M), undef, u7, u8, u9, u10, u11, u12, Value.agg #[Value.int IntKind.i64 0, Value.int IntKind.i64 0, Value.int IntKind.i64 0], Value.map (some b_M), Value.slice (some { block := ga, off := 0 }) k ca, Value.int IntKind.i64 ((k : Nat) : Int), Value.int IntKind.i64 ((k : Nat) : Int), Value.bool false, u19, u20, u21, u22, u23, u24, u25, u26, u27, u28, u29, u30, u31, u32, u33, u34, u35, u36, u37, u38, u39, u40, u41, u42, u43, u44, u45, u46, f 47, f 48, f 49, f 50, f 51, f 52, f 53, f 54, f 55, f 56], []⟩ v1 from H _ fun _ _ h => h
        intro K hK
        rcases (by omega : i = 0 ∨ i = 1 ∨ i = 2 ∨ i = 3 ∨ i = 4 ∨ i = 5 ∨ i = 6 ∨ i = 7 ∨ i = 8 ∨ i = 9 ∨ i = 10 ∨ i = 11) with rfl | rfl | rfl | rfl | rfl | rfl | rfl | rfl | rfl | rfl | rfl | rfl
        · obtain rfl := Option.some.inj ho
          refine wpOp_plain rfl rfl ?_
          unfold Oper.wp
          go_simp
          exact hK _ _ ⟨⟨⟨updf f 47 (.slice (some ⟨ga, 0, none⟩) k ca), rfl⟩, hin, ⟨Y0, Y1, Y2, Y3, Y4, Y5, Y6, kpW⟩, kp0, kp1⟩, rfl, fun j hj hw hf => by
              rcases j with _ | _ | _ | _ | _ | _ | _ | _ | _ | _ | _ | _ | j
              all_goals first | exact absurd rfl hj | exact hf | rfl⟩
        · obtain rfl := Option.some.inj ho
          have f0 := haf { on := 0, ground := .data } (by simp) rfl
          have f0 : _ = _ := Option.some.inj f0
          refine wpOp_plain rfl rfl ?_
          unfold Oper.wp
          go_simp
          refine (iCloneE ga k ca xs _ (by omega) (HX.out.in_ hin)).mono ?_
          rintro _ v2 ⟨g0_2, c0_2, rfl, ho0, hg0, hb2⟩
          exact hK _ _ ⟨⟨⟨updf f 48 (.slice (some ⟨g0_2, 0, none⟩) k c0_2), rfl⟩, hin.step hb2, ⟨Y0, Y1, Y2, Y3, Y4, Y5, Y6, kpW.step hb2⟩, kp0.step hb2, kp1.step hb2⟩, ⟨g0_2, c0_2, rfl, Nat.le_trans (Nat.le_trans hBl_9 hin.size) hg0, ho0⟩, fun j hj hw hf => by
              rcases j with _ | _ | _ | _ | _ | _ | _ | _ | _ | _ | _ | _ | j
              all_goals first | exact absurd rfl hj | (obtain ⟨g0, c0, h2, b0, o0⟩ := hf; exact ⟨g0, c0, h2.step hb2, b0, o0.step hb2⟩) | (obtain ⟨g0, c0, h0, b0, o0⟩ := hf; exact ⟨g0, c0, h0, b0, o0.step hb2⟩) | exact hf | rfl⟩
        · obtain rfl := Option.some.inj ho
          refine wpOp_plain rfl rfl ?_
          unfold Oper.wp
          go_simp
          exact hK _ _ ⟨⟨⟨updf f 49 (.agg #[.int .i64 s0, .int .i64 s1, .int .i64 s2]), rfl⟩, hin, ⟨Y0, Y1, Y2, Y3, Y4, Y5, Y6, kpW⟩, kp0, kp1⟩, rfl, fun j hj hw hf => by
              rcases j with _ | _ | _ | _ | _ | _ | _ | _ | _ | _ | _ | _ | j
              all_goals first | exact absurd rfl hj | exact hf | rfl⟩
        · obtain rfl := Option.some.inj ho
          refine wpOp_plain rfl rfl ?_
          unfold Oper.wp
          go_simp
          exact hK _ _ ⟨⟨⟨updf f 50 (.map (some b_M)), rfl⟩, hin, ⟨Y0, Y1, Y2, Y3, Y4, Y5, Y6, kpW⟩, kp0, kp1⟩, rfl, fun j hj hw hf => by
              rcases j with _ | _ | _ | _ | _ | _ | _ | _ | _ | _ | _ | _ | j
              all_goals first | exact absurd rfl hj | exact hf | rfl⟩
        · obtain rfl := Option.some.inj ho
          have f3 := haf { on := 3, ground := .data } (by simp) rfl
          have f3 : _ = _ := Option.some.inj f3
          refine wpOp_plain rfl rfl ?_
          unfold Oper.wp
          go_simp
          exact hK _ _ ⟨⟨⟨updf f 51 (.int .i64 s3), rfl⟩, hin, ⟨Y0, Y1, Y2, Y3, Y4, Y5, Y6, kpW⟩, kp0, kp1⟩, rfl, fun j hj hw hf => by
              rcases j with _ | _ | _ | _ | _ | _ | _ | _ | _ | _ | _ | _ | j
              all_goals first | exact absurd rfl hj | exact hf | rfl⟩
        · obtain rfl := Option.some.inj ho
          refine wpOp_plain rfl rfl ?_
          unfold Oper.wp
          go_simp
          exact hK _ _ ⟨⟨⟨updf f 52 (.map (some b_M)), rfl⟩, hin, ⟨Y0, Y1, Y2, Y3, Y4, Y5, Y6, kpW⟩, kp0, kp1⟩, rfl, fun j hj hw hf => by
              rcases j with _ | _ | _ | _ | _ | _ | _ | _ | _ | _ | _ | _ | j
              all_goals first | exact absurd rfl hj | exact hf | rfl⟩
        · obtain rfl := Option.some.inj ho
          have f5 := haf { on := 5, ground := .data } (by simp) rfl
          have f5 : _ = _ := Option.some.inj f5
          refine wpOp_plain rfl rfl ?_
          unfold Oper.wp
          go_simp
          exact hK _ _ ⟨⟨⟨updf f 53 (.int .i64 s4), rfl⟩, hin, ⟨Y0, Y1, Y2, Y3, Y4, Y5, Y6, kpW⟩, kp0, kp1⟩, rfl, fun j hj hw hf => by
              rcases j with _ | _ | _ | _ | _ | _ | _ | _ | _ | _ | _ | _ | j
              all_goals first | exact absurd rfl hj | exact hf | rfl⟩
        · obtain rfl := Option.some.inj ho
          refine wpOp_plain rfl rfl ?_
          unfold Oper.wp
          go_simp
          exact hK _ _ ⟨⟨⟨updf f 54 (.map (some b_M)), rfl⟩, hin, ⟨Y0, Y1, Y2, Y3, Y4, Y5, Y6, kpW⟩, kp0, kp1⟩, rfl, fun j hj hw hf => by
              rcases j with _ | _ | _ | _ | _ | _ | _ | _ | _ | _ | _ | _ | j
              all_goals first | exact absurd rfl hj | exact hf | rfl⟩
        · obtain rfl := Option.some.inj ho
          have f7 := haf { on := 7, ground := .data } (by simp) rfl
          have f7 : _ = _ := Option.some.inj f7
          refine wpOp_plain rfl rfl ?_
          unfold Oper.wp
          go_simp
          exact hK _ _ ⟨⟨⟨updf f 55 (.int .i64 s5), rfl⟩, hin, ⟨Y0, Y1, Y2, Y3, Y4, Y5, Y6, kpW⟩, kp0, kp1⟩, rfl, fun j hj hw hf => by
              rcases j with _ | _ | _ | _ | _ | _ | _ | _ | _ | _ | _ | _ | j
              all_goals first | exact absurd rfl hj | exact hf | rfl⟩
        · obtain rfl := Option.some.inj ho
          obtain ⟨g0_1, c0_1, f1, hb10, ho10⟩ := haf { on := 1, ground := .data } (by simp) rfl
          have f1 : f 48 = _ := Option.some.inj f1
          have f2 := haf { on := 2, ground := .data } (by simp) rfl
          have f2 : f 49 = _ := Option.some.inj f2
          have f4 := haf { on := 4, ground := .data } (by simp) rfl
          have f4 : f 51 = _ := Option.some.inj f4
          have f6 := haf { on := 6, ground := .data } (by simp) rfl
          have f6 : f 53 = _ := Option.some.inj f6
          have f8 := haf { on := 8, ground := .data } (by simp) rfl
          have f8 : f 55 = _ := Option.some.inj f8
          rw [f1, f2, f4, f6, f8]
          refine wpOp_plain rfl rfl ?_
          unfold Oper.wp
          go_simp
          exact hK _ _ ⟨⟨⟨updf (updf (updf (updf (updf (updf (f) 48 (.slice (some ⟨g0_1, 0, none⟩) k c0_1)) 49 (.agg #[.int .i64 s0, .int .i64 s1, .int .i64 s2])) 51 (.int .i64 s3)) 53 (.int .i64 s4)) 55 (.int .i64 s5)) 56 (.agg #[.slice (some ⟨g0_1, 0, none⟩) k c0_1, .int .i64 s0, .int .i64 s1, .int .i64 s2, .int .i64 s3, .int .i64 s4, .int .i64 s5]), rfl⟩, hin, ⟨Y0, Y1, Y2, Y3, Y4, Y5, Y6, kpW⟩, kp0, kp1⟩, ⟨g0_1, c0_1, rfl, hb10, ho10⟩, fun j hj hw hf => by
              rcases j with _ | _ | _ | _ | _ | _ | _ | _ | _ | _ | _ | _ | j
              all_goals first | exact absurd rfl hj | exact ⟨g0_1, c0_1, rfl, hb10, ho10⟩ | exact hf | rfl⟩
        · obtain rfl := Option.some.inj ho
          obtain ⟨g0_9, c0_9, f9, hb90, ho90⟩ := haf { on := 9, ground := .data } (by simp) rfl
          have f9 : f 56 = _ := Option.some.inj f9
          have z0 := kpW.cell 0
          have y0 := kpW.frozen 0
          have z1 := kpW.cell 1
          have y1 := kpW.frozen 1
          have z2 := kpW.cell 2
          have y2 := kpW.frozen 2
          have z3 := kpW.cell 3
          have y3 := kpW.frozen 3
          have z4 := kpW.cell 4
          have y4 := kpW.frozen 4
          have z5 := kpW.cell 5
          have y5 := kpW.frozen 5
          have z6 := kpW.cell 6
          have y6 := kpW.frozen 6
          have hgr : v1.grownBy (((((((v1.setCell ⟨b_R, 0, none⟩ (.slice (some ⟨g0_9, 0, none⟩) k c0_9)).setCell ⟨b_R, 1, none⟩ (.int .i64 s0)).setCell ⟨b_R, 2, none⟩ (.int .i64 s1)).setCell ⟨b_R, 3, none⟩ (.int .i64 s2)).setCell ⟨b_R, 4, none⟩ (.int .i64 s3)).setCell ⟨b_R, 5, none⟩ (.int .i64 s4)).setCell ⟨b_R, 6, none⟩ (.int .i64 s5)) (some b_R) := (only_setCell (only_setCell (only_setCell (only_setCell (only_setCell (only_setCell (only_setCell (only_refl _ _) (p := ⟨b_R, 0, none⟩) (.inl rfl) _) (p := ⟨b_R, 1, none⟩) (.inl rfl) _) (p := ⟨b_R, 2, none⟩) (.inl rfl) _) (p := ⟨b_R, 3, none⟩) (.inl rfl) _) (p := ⟨b_R, 4, none⟩) (.inl rfl) _) (p := ⟨b_R, 5, none⟩) (.inl rfl) _) (p := ⟨b_R, 6, none⟩) (.inl rfl) _)
          have hi2 : In w.heap.size w (((((((v1.setCell ⟨b_R, 0, none⟩ (.slice (some ⟨g0_9, 0, none⟩) k c0_9)).setCell ⟨b_R, 1, none⟩ (.int .i64 s0)).setCell ⟨b_R, 2, none⟩ (.int .i64 s1)).setCell ⟨b_R, 3, none⟩ (.int .i64 s2)).setCell ⟨b_R, 4, none⟩ (.int .i64 s3)).setCell ⟨b_R, 5, none⟩ (.int .i64 s4)).setCell ⟨b_R, 6, none⟩ (.int .i64 s5)) := (In.set_ (In.set_ (In.set_ (In.set_ (In.set_ (In.set_ (In.set_ hin (p := ⟨b_R, 0, none⟩) hwb_R _) (p := ⟨b_R, 1, none⟩) hwb_R _) (p := ⟨b_R, 2, none⟩) hwb_R _) (p := ⟨b_R, 3, none⟩) hwb_R _) (p := ⟨b_R, 4, none⟩) hwb_R _) (p := ⟨b_R, 5, none⟩) hwb_R _) (p := ⟨b_R, 6, none⟩) hwb_R _)
          have HBK : Blk (((((((v1.setCell ⟨b_R, 0, none⟩ (.slice (some ⟨g0_9, 0, none⟩) k c0_9)).setCell ⟨b_R, 1, none⟩ (.int .i64 s0)).setCell ⟨b_R, 2, none⟩ (.int .i64 s1)).setCell ⟨b_R, 3, none⟩ (.int .i64 s2)).setCell ⟨b_R, 4, none⟩ (.int .i64 s3)).setCell ⟨b_R, 5, none⟩ (.int .i64 s4)).setCell ⟨b_R, 6, none⟩ (.int .i64 s5)) b_R 43 #[.slice (some ⟨g0_9, 0, none⟩) k c0_9, .int .i64 s0, .int .i64 s1, .int .i64 s2, .int .i64 s3, .int .i64 s4, .int .i64 s5] := by
            have h := (((((((kpW.set_ 0 (.slice (some ⟨g0_9, 0, none⟩) k c0_9)).set_ 1 (.int .i64 s0)).set_ 2 (.int .i64 s1)).set_ 3 (.int .i64 s2)).set_ 4 (.int .i64 s3)).set_ 5 (.int .i64 s4)).set_ 6 (.int .i64 s5))
            simpa using h
          refine wpOp_plain rfl rfl ?_
          unfold Oper.wp
          go_simp
          exact hK _ _ ⟨⟨⟨updf f 56 (.agg #[.slice (some ⟨g0_9, 0, none⟩) k c0_9, .int .i64 s0, .int .i64 s1, .int .i64 s2, .int .i64 s3, .int .i64 s4, .int .i64 s5]), rfl⟩, hi2, ⟨_, _, _, _, _, _, _, HBK⟩, Blk.grown kp0 hgr (fun h => absurd (Option.some.inj h) (by first | exact NB_C_R.out | exact NB_R_C.out.symm)), kp1.far kpW (by decide) hgr⟩, ⟨g0_9, c0_9, HBK, hb90, ho90.far kpW (by decide) hgr⟩, fun j hj hw hf => by
              rcases j with _ | _ | _ | _ | _ | _ | _ | _ | _ | _ | _ | _ | j
              all_goals first | exact absurd rfl hj | exact ⟨g0_9, c0_9, rfl, hb90, ho90.far kpW (by decide) hgr⟩ | (obtain ⟨g0, c0, h2, b0, o0⟩ := hf; exact ⟨g0, c0, Blk.grown h2 hgr (by simp; omega), b0, o0.far kpW (by decide) hgr⟩) | (obtain ⟨g0, c0, h0, b0, o0⟩ := hf; exact ⟨g0, c0, h0, b0, o0.far kpW (by decide) hgr⟩) | exact hf | rfl⟩
        · obtain rfl := Option.some.inj ho
          refine wpOp_plain rfl rfl ?_
          unfold Oper.wp
          go_simp
          exact hK _ _ ⟨⟨⟨updf f 3 (.bool true), rfl⟩, hin, ⟨Y0, Y1, Y2, Y3, Y4, Y5, Y6, kpW⟩, kp0, kp1⟩, rfl, fun j hj hw hf => by
              rcases j with _ | _ | _ | _ | _ | _ | _ | _ | _ | _ | _ | _ | j
              all_goals first | exact absurd rfl hj | exact hf | rfl⟩
      intro a w_10 hI hF
      obtain ⟨⟨hICnt, rfl⟩, i_10, ⟨Y0, Y1, Y2, Y3, Y4, Y5, Y6, kpW⟩, kp0, kp1⟩ := hI
      clear kpW
      obtain ⟨g0_10, c0_10, kk_10, hg0_10, ho0_10⟩ := hF 10 (by decide)
      have he_10_3 : hICnt 3 = _ := Option.some.inj (hF 11 (by decide))
      clear hF
      rw [he_10_3]
      clear he_10_3
      have GX_M0R : Hid (w.heap.size ≤ g0_10) := Lib.hid (Nat.le_trans hBg_9 hg0_10)
      have o_10_M0R : OCEvent w_10 g0_10 (k) c0_10 xs := ho0_10
      clear ho0_10 hg0_10
      have k_10_R : Blk w_10 b_R 43 #[.slice (some ⟨g0_10, 0, none⟩) k c0_10, .int .i64 s0, .int .i64 s1, .int .i64 s2, .int .i64 s3, .int .i64 s4, .int .i64 s5] := kk_10
      clear kk_10
      clear kp0 kp1
      clear i_9 k_9_R c_9_R_0 c_9_R_1 c_9_R_2 c_9_R_3 c_9_R_4 c_9_R_5 c_9_R_6 l_9_R z_9_R k_9_C c_9_C_0 c_9_C_1 c_9_C_2 l_9_C z_9_C o_9_M
      obtain ⟨c_10_R_0, c_10_R_1, c_10_R_2, c_10_R_3, c_10_R_4, c_10_R_5, c_10_R_6⟩ := cells7 k_10_R
      have OE := Lib.hid o_10_M0R
      clear o_10_M0R
      go_wp2
      exact bodyPost_ret (v := .tuple #[.agg #[.slice (some ⟨g0_10, 0, none⟩) k c0_10, .int .i64 s0, .int .i64 s1, .int .i64 s2, .int .i64 s3, .int .i64 s4, .int .i64 s5], .bool true]) (by simp [results, Try.results72, go_sem, c_10_R_0, c_10_R_1, c_10_R_2, c_10_R_3, c_10_R_4, c_10_R_5, c_10_R_6]) rfl (.inr ⟨HV.out, g0_10, c0_10, by rw [HS.out], OE.out, GX_M0R.out, i_10.below⟩)
end Go.Proofs.Ytmcfghklfkmfkaa
