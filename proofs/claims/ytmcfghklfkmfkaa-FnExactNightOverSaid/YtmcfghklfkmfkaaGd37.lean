/- Chapter 37: the counting of events, the model, with its state in every case. -/
import Derived.Test.YtmcfghklfkmfkaaG37
namespace Go.Proofs.Ytmcfghklfkmfkaa
open Go.ChangeShapes Go.WideShapes Go.ChangeAt Go.RowKit
set_option linter.unusedVariables false
set_option linter.unusedSimpArgs false
set_option maxHeartbeats 2000000

def ffail (xs : List EventR) : Nat → Nat
  | 0 => 0
  | n + 1 => if ffail xs n < n then ffail xs n else if okK xs n then n + 1 else n
theorem ffail_all (xs : List EventR) (n : Nat) (h : ∀ j, j < n → okK xs j = true) : ffail xs n = n := by
  induction n with
  | zero => rfl
  | succ n ih => rw [ffail, ih fun j hj => h j (by omega), if_neg (by omega), if_pos (h n (by omega))]
theorem ffail_at (xs : List EventR) (k n : Nat) (h : ∀ j, j < k → okK xs j = true) (hk : okK xs k = false) (hn : k < n) : ffail xs n = k := by
  induction n with
  | zero => omega
  | succ n ih =>
    rcases Nat.lt_or_ge k n with hlt | hge
    · rw [ffail, ih hlt, if_pos hlt]
    · obtain rfl : k = n := by omega
      rw [ffail, ffail_all xs k h, if_neg (by omega), if_neg (by rw [hk]; decide)]
def cS (n : Nat) (xs : List EventR) : BkS := if n ≤ 40 then stTo xs (ffail xs n) else ⟨0, 0, 0, 0, 0, 0⟩
theorem cS_t {n : Nat} {xs : List EventR} (h : (decide (n ≤ 40) && cntB xs n) = true) : cS n xs = stTo xs n := by
  rw [Bool.and_eq_true, decide_eq_true_eq] at h
  rw [cS, if_pos h.1, ffail_all xs n (allOk_at _ _ h.2)]
def CntD (n : Nat) (xs : List EventR) (fl : Bool) (w : World) (e : Ending) (w' : World) : Prop :=
  ∃ g c, e = .returned (.tuple #[.agg (bkC (some ⟨g, 0, none⟩) n c (cS n xs)), .bool fl]) ∧ OCEvent w' g n c xs ∧ w.heap.size ≤ g ∧ Below w.heap.size w w'
def JISCntD (w0 : World) (ga : Nat) (n : Nat) (ca : Nat) (b_R : Nat) (b_O : Nat) (k : Nat) (gE_1 : Nat) (cE_1 : Nat) (u3 : Value) (u6 : Value) (u7 : Value) (u8 : Value) (u9 : Value) (u10 : Value) (u23 : Value) (u24 : Value) (u25 : Value) (u26 : Value) (u27 : Value) (u28 : Value) (u29 : Value) (u30 : Value) (u31 : Value) (u32 : Value) (u33 : Value) (u34 : Value) (u35 : Value) (u36 : Value) (u37 : Value) (u38 : Value) (u39 : Value) (u40 : Value) (u41 : Value) (u42 : Value) (u43 : Value) (u44 : Value) (u45 : Value) (u46 : Value) (u47 : Value) (u48 : Value) (u49 : Value) (u50 : Value) (u51 : Value) (u52 : Value) (u53 : Value) (u54 : Value) (u55 : Value) (u56 : Value) (u57 : Value) (s0 : Int) (s1 : Int) (s2 : Int) (x0 : Int) (x1 : Int) (q0 : Int) (q1 : Int) (q2 : Int) (q3 : Int) (q4 : Int) (q5 : Int) (fl : Bool) (a : Act) (w : World) : Prop := (∃ f : Nat → Value, a = ⟨#[Value.slice (some { block := ga, off := 0 }) n ca, undef, Value.pointer (some { block := b_R, off := 0 }), u3, Value.pointer (some { block := b_O, off := 0 }), Value.int IntKind.i64 ((k : Nat) : Int), f 6, f 7, f 8, f 9, f 10, Value.slice (some { block := b_R + 1, off := 0 }) 0 0, Value.slice (some { block := ga, off := 0 }) n ca, Value.slice (some { block := gE_1, off := 0 }) n cE_1, Value.agg #[Value.slice (some { block := gE_1, off := 0 }) n cE_1, Value.int IntKind.i64 0, Value.int IntKind.i64 0, Value.int IntKind.i64 0, Value.int IntKind.i64 0, Value.int IntKind.i64 0, Value.int IntKind.i64 0], Value.slice (some { block := ga, off := 0 }) n ca, Value.int IntKind.i64 ((n : Nat) : Int), Value.bool false, undef, Value.int IntKind.i64 ((k : Nat) : Int), Value.slice (some { block := ga, off := 0 }) n ca, Value.int IntKind.i64 ((n : Nat) : Int), Value.bool true, u23, u24, f 25, f 26, f 27, f 28, f 29, f 30, f 31, f 32, f 33, f 34, f 35, f 36, f 37, u38, u39, u40, u41, u42, u43, u44, u45, u46, u47, u48, u49, u50, u51, u52, u53, u54, u55, u56, u57, undef], []⟩) ∧ In w0.heap.size w0 w
def JFSCntD (B : Nat) (ga : Nat) (n : Nat) (ca : Nat) (b_R : Nat) (b_O : Nat) (k : Nat) (gE_1 : Nat) (cE_1 : Nat) (u3 : Value) (u6 : Value) (u7 : Value) (u8 : Value) (u9 : Value) (u10 : Value) (u23 : Value) (u24 : Value) (u25 : Value) (u26 : Value) (u27 : Value) (u28 : Value) (u29 : Value) (u30 : Value) (u31 : Value) (u32 : Value) (u33 : Value) (u34 : Value) (u35 : Value) (u36 : Value) (u37 : Value) (u38 : Value) (u39 : Value) (u40 : Value) (u41 : Value) (u42 : Value) (u43 : Value) (u44 : Value) (u45 : Value) (u46 : Value) (u47 : Value) (u48 : Value) (u49 : Value) (u50 : Value) (u51 : Value) (u52 : Value) (u53 : Value) (u54 : Value) (u55 : Value) (u56 : Value) (u57 : Value) (s0 : Int) (s1 : Int) (s2 : Int) (x0 : Int) (x1 : Int) (q0 : Int) (q1 : Int) (q2 : Int) (q3 : Int) (q4 : Int) (q5 : Int) (fl : Bool) : Nat → Act → World → Prop
  | 0, a, w => a.tmps[26]? = some (.pointer (some ⟨b_O, 1, none⟩))
  | 1, a, w => a.tmps[27]? = some (.agg #[.int .i64 s0, .int .i64 s1, .int .i64 s2])
  | 2, a, w => a.tmps[28]? = some (.slice (some ⟨ga, 0, none⟩) n ca)
  | 3, a, w => a.tmps[29]? = some (.int .i64 (k : Int))
  | 4, a, w => a.tmps[30]? = some (.pointer (some ⟨ga, k * 2, none⟩))
  | 5, a, w => a.tmps[31]? = some (.agg #[.int .i64 x0, .int .i64 x1])
  | 6, a, w => a.tmps[32]? = some (.tuple #[.agg #[.int .i64 q0, .int .i64 q1, .int .i64 q2], .int .i64 q3, .int .i64 q4, .int .i64 q5, .bool fl])
  | 7, a, w => a.tmps[25]? = some (.tuple #[.agg #[.int .i64 q0, .int .i64 q1, .int .i64 q2], .int .i64 q3, .int .i64 q4, .int .i64 q5, .bool fl])
  | 8, a, w => a.tmps[33]? = some (.agg #[.int .i64 q0, .int .i64 q1, .int .i64 q2])
  | 9, a, w => a.tmps[34]? = some (.int .i64 q3)
  | 10, a, w => a.tmps[35]? = some (.int .i64 q4)
  | 11, a, w => a.tmps[36]? = some (.int .i64 q5)
  | 12, a, w => a.tmps[37]? = some (.bool fl)
  | 13, a, w => ∃ gs X0 X1 X2, B ≤ gs ∧ a.tmps[6]? = some (.pointer (some ⟨gs, 0, none⟩)) ∧ Blk w gs 41 #[X0, X1, X2]
  | 14, a, w => ∃ gs, B ≤ gs ∧ a.tmps[6]? = some (.pointer (some ⟨gs, 0, none⟩)) ∧ Blk w gs 41 #[.int .i64 q0, .int .i64 q1, .int .i64 q2]
  | 15, a, w => a.tmps[7]? = some (.int .i64 q3)
  | 16, a, w => a.tmps[8]? = some (.int .i64 q4)
  | 17, a, w => a.tmps[9]? = some (.int .i64 q5)
  | 18, a, w => a.tmps[10]? = some (.bool fl)
  | _, _, _ => True
theorem s37CountD (ga n ca : Nat) (xs : List EventR) (w : World) (hn : n ≤ 10000000) (hx : ReadsEvent w (some ⟨ga, 0, none⟩) n xs) : Calls Try.prog 92 #[.slice (some ⟨ga, 0, none⟩) n ca] w (CntD n xs (decide (n ≤ 40) && cntB xs n) w) := by
  have HX := Lib.hid hx
  clear hx
  obtain ⟨b_R, hbx_R⟩ : ∃ b, b = w.heap.size := ⟨_, rfl⟩
  have kk_R : Blk (w.alloc (.cells #[.slice none 0 0, .int .i64 0, .int .i64 0, .int .i64 0, .int .i64 0, .int .i64 0, .int .i64 0] 43)) b_R 43 #[.slice none 0 0, .int .i64 0, .int .i64 0, .int .i64 0, .int .i64 0, .int .i64 0, .int .i64 0] := (Blk.new' (w := w) (t := 43) (cs := #[.slice none 0 0, .int .i64 0, .int .i64 0, .int .i64 0, .int .i64 0, .int .i64 0, .int .i64 0]) (g := b_R) (by simp [hbx_R]))
  have hwb_R : w.heap.size ≤ b_R := by omega
  have hb_0 : Below w.heap.size w (w.alloc (.cells #[.slice none 0 0, .int .i64 0, .int .i64 0, .int .i64 0, .int .i64 0, .int .i64 0, .int .i64 0] 43)) := by
    have h : In w.heap.size w (w.alloc (.cells #[.slice none 0 0, .int .i64 0, .int .i64 0, .int .i64 0, .int .i64 0, .int .i64 0, .int .i64 0] 43)) := by (repeat (first | exact In.refl _ | assumption | apply In.alloc | apply In.drewN | apply In.drew | (refine In.step ?_ (by assumption))))
    exact h.below
  have hsz_0 : (w.alloc (.cells #[.slice none 0 0, .int .i64 0, .int .i64 0, .int .i64 0, .int .i64 0, .int .i64 0, .int .i64 0] 43)).heap.size = b_R + 1 := by simp [hbx_R]
  go_enter Try.func92, Try.ntmps92
  go_wp2_with (at_builtin; refine append_stop rfl ?_)
  rw [← hbx_R]
  clear hbx_R
  generalize (w.alloc (.cells #[.slice none 0 0, .int .i64 0, .int .i64 0, .int .i64 0, .int .i64 0, .int .i64 0, .int .i64 0] 43)) = w_0 at *
  have i_0 : In w.heap.size w w_0 := In.step (by (repeat (first | exact In.refl _ | assumption | apply In.alloc | apply In.drewN | apply In.drew | (refine In.step ?_ (by assumption))))) hb_0
  have k_0_R : Blk w_0 b_R 43 #[.slice none 0 0, .int .i64 0, .int .i64 0, .int .i64 0, .int .i64 0, .int .i64 0, .int .i64 0] := kk_R
  obtain ⟨c_0_R_0, c_0_R_1, c_0_R_2, c_0_R_3, c_0_R_4, c_0_R_5, c_0_R_6⟩ := cells7 k_0_R
  have l_0_R := k_0_R.lt
  have z_0_R := k_0_R.frozen
  clear kk_R
  have HX0 := HX.out.in_ i_0
  obtain ⟨ti, hti, htz, hts, htb⟩ := infoEvent_p
  have hown0 := own_emptyEvent w_0
  rw [hsz_0] at hown0
  have hnews := OCEvent.news (HX0.in_ (show In w_0.heap.size w_0 (w_0.alloc (.cells #[] 78)) from In.alloc (In.refl _) _))
  have HLn := Lib.hid (show (flEvent xs).length = n * 2 by rw [flEvent_len, HX0.1])
  have HOn := Lib.hid (flEvent_one xs)
  have HBy : Hid ((0 + n) * ti.bytes ≤ 140737488355328) := Lib.hid (by have h9 : (0 + n) * ti.bytes ≤ (0 + n) * 64 := Nat.mul_le_mul_left _ htb; have h8 := hn; omega)
  have HMx : Hid (0 + n ≤ maxLen) := Lib.hid (by have h8 := hn; unfold maxLen; omega)
  refine Stop.go (wpList_append_own _ rfl (.tmp 11) (.tmp 12) 40 rfl (b_R + 1) 78 ti (.agg #[.int .i64 0, .int .i64 0]) 2 ti.bytes Try.underlying40 hti htz hts rfl rfl (by decide) (.slice (some ⟨(b_R + 1), 0, none⟩) 0 0) 0 [] rfl hown0 ⟨ga, 0, none⟩ n ca (flEvent xs) rfl HLn.out hnews HOn.out HMx.out HBy.out (by simp [hsz_0]) ?_)
  intro v9 w_1 hown9 hgr9 hif9
  obtain ⟨gE_1, cE_1, rfl, hgE_1, hoE_1⟩ := OCEvent.of (xs := xs) (by simpa using hown9) (by first | exact hif9 | (intro e9; exact absurd (hif9.1 e9).1 (by simp)))
  rw [← hsz_0] at hgE_1
  have hb_1 : Below w_0.heap.size w_0 w_1 := ((Below.refl _ w_0).alloc (Nat.le_refl _) _).grown hgr9 (by simp) (fun j hj => by simp [Value.ownBlock] at hj; omega)
  clear hown9 hgr9 hif9 hown0 hnews HLn HOn HBy HMx hti htz hts htb
  have GX_E : Hid (w.heap.size ≤ gE_1) := Lib.hid (by have h1 := hgE_1; have h2 := In.size i_0; omega)
  have o_1_E : OCEvent w_1 gE_1 (n) cE_1 xs := hoE_1
  clear hoE_1 hgE_1
  have i_1 : In w.heap.size w w_1 := In.step (by (repeat (first | exact In.refl _ | assumption | apply In.alloc | apply In.drewN | apply In.drew | (refine In.step ?_ (by assumption))))) hb_1
  have k_1_R : Blk w_1 b_R 43 #[.slice none 0 0, .int .i64 0, .int .i64 0, .int .i64 0, .int .i64 0, .int .i64 0, .int .i64 0] := Blk.step (by (with_reducible (repeat (first | assumption | exact Blk.new' (by simp) | apply Blk.drewN | apply Blk.drew | apply Blk.alloc | (refine Blk.far ?_ (by (try simp) <;> omega) _))))) hb_1
  obtain ⟨c_1_R_0, c_1_R_1, c_1_R_2, c_1_R_3, c_1_R_4, c_1_R_5, c_1_R_6⟩ := cells7 k_1_R
  have l_1_R := k_1_R.lt
  have z_1_R := k_1_R.frozen
  clear i_0 k_0_R c_0_R_0 c_0_R_1 c_0_R_2 c_0_R_3 c_0_R_4 c_0_R_5 c_0_R_6 l_0_R z_0_R hb_0
  clear HX0
  iterate 12 go_step
  obtain ⟨b_O, hbx_O⟩ : ∃ b, b = w_1.heap.size := ⟨_, rfl⟩
  rw [← hbx_O]
  have hwb_O : w.heap.size ≤ b_O := by have h := In.size i_1; omega
  have NB_R_O : Hid (b_R ≠ b_O) := Lib.hid (by have h := k_1_R.lt; omega)
  have hb_2 : Below w_1.heap.size w_1 (w_1.alloc (.cells #[.slice (some ⟨gE_1, 0, none⟩) n cE_1, .int .i64 0, .int .i64 0, .int .i64 0, .int .i64 0, .int .i64 0, .int .i64 0] 43)) := (Below.refl _ _).alloc (Nat.le_refl _) _
  have kk_2 : Blk (w_1.alloc (.cells #[.slice (some ⟨gE_1, 0, none⟩) n cE_1, .int .i64 0, .int .i64 0, .int .i64 0, .int .i64 0, .int .i64 0, .int .i64 0] 43)) b_O 43 #[.slice (some ⟨gE_1, 0, none⟩) n cE_1, .int .i64 0, .int .i64 0, .int .i64 0, .int .i64 0, .int .i64 0, .int .i64 0] := Blk.new' hbx_O
  clear hbx_O
  generalize (w_1.alloc (.cells #[.slice (some ⟨gE_1, 0, none⟩) n cE_1, .int .i64 0, .int .i64 0, .int .i64 0, .int .i64 0, .int .i64 0, .int .i64 0] 43)) = w_2 at *
  have i_2 : In w.heap.size w w_2 := In.step (by (repeat (first | exact In.refl _ | assumption | apply In.alloc | apply In.drewN | apply In.drew | (refine In.step ?_ (by assumption))))) hb_2
  have k_2_R : Blk w_2 b_R 43 #[.slice none 0 0, .int .i64 0, .int .i64 0, .int .i64 0, .int .i64 0, .int .i64 0, .int .i64 0] := Blk.step (by (with_reducible (repeat (first | assumption | exact Blk.new' (by simp) | apply Blk.drewN | apply Blk.drew | apply Blk.alloc | (refine Blk.far ?_ (by (try simp) <;> omega) _))))) hb_2
  obtain ⟨c_2_R_0, c_2_R_1, c_2_R_2, c_2_R_3, c_2_R_4, c_2_R_5, c_2_R_6⟩ := cells7 k_2_R
  have l_2_R := k_2_R.lt
  have z_2_R := k_2_R.frozen
  have k_2_O : Blk w_2 b_O 43 #[.slice (some ⟨gE_1, 0, none⟩) n cE_1, .int .i64 0, .int .i64 0, .int .i64 0, .int .i64 0, .int .i64 0, .int .i64 0] := kk_2
  obtain ⟨c_2_O_0, c_2_O_1, c_2_O_2, c_2_O_3, c_2_O_4, c_2_O_5, c_2_O_6⟩ := cells7 k_2_O
  have l_2_O := k_2_O.lt
  have z_2_O := k_2_O.frozen
  have o_2_E : OCEvent w_2 gE_1 (n) cE_1 xs := OCEvent.step (by with_reducible (repeat (first | assumption | apply OCEvent.drewN | apply OCEvent.drew | apply OCEvent.alloc))) hb_2
  clear i_1 k_1_R c_1_R_0 c_1_R_1 c_1_R_2 c_1_R_3 c_1_R_4 c_1_R_5 c_1_R_6 l_1_R z_1_R o_1_E hb_1
  clear kk_2
  have HN := Lib.hid hn
  clear hn
  by_cases h40 : (40 : Int) < (n : Int)
  · have HV : Hid ((decide (n ≤ 40) && cntB xs n) = false) := Lib.hid (by simp; omega)
    have HC : Hid (cS n xs = ⟨0, 0, 0, 0, 0, 0⟩) := Lib.hid (by rw [cS, if_neg (by omega)])
    have hn1_R_O : b_O ≠ b_R := by first | exact NB_O_R.out | exact NB_R_O.out.symm
    have hn2_R_O : b_R ≠ b_O := hn1_R_O.symm
    have kk : Blk (((((((w_2.setCell ⟨b_R, 0, none⟩ (.slice (some ⟨gE_1, 0, none⟩) n cE_1)).setCell ⟨b_R, 1, none⟩ (.int .i64 0)).setCell ⟨b_R, 2, none⟩ (.int .i64 0)).setCell ⟨b_R, 3, none⟩ (.int .i64 0)).setCell ⟨b_R, 4, none⟩ (.int .i64 0)).setCell ⟨b_R, 5, none⟩ (.int .i64 0)).setCell ⟨b_R, 6, none⟩ (.int .i64 0)) b_R 43 #[.slice (some ⟨gE_1, 0, none⟩) n cE_1, .int .i64 0, .int .i64 0, .int .i64 0, .int .i64 0, .int .i64 0, .int .i64 0] := blks7 k_2_R
    have i9 : In w.heap.size w (((((((w_2.setCell ⟨b_R, 0, none⟩ (.slice (some ⟨gE_1, 0, none⟩) n cE_1)).setCell ⟨b_R, 1, none⟩ (.int .i64 0)).setCell ⟨b_R, 2, none⟩ (.int .i64 0)).setCell ⟨b_R, 3, none⟩ (.int .i64 0)).setCell ⟨b_R, 4, none⟩ (.int .i64 0)).setCell ⟨b_R, 5, none⟩ (.int .i64 0)).setCell ⟨b_R, 6, none⟩ (.int .i64 0)) := ins7 i_2 hwb_R
    have OE : Hid (OCEvent (((((((w_2.setCell ⟨b_R, 0, none⟩ (.slice (some ⟨gE_1, 0, none⟩) n cE_1)).setCell ⟨b_R, 1, none⟩ (.int .i64 0)).setCell ⟨b_R, 2, none⟩ (.int .i64 0)).setCell ⟨b_R, 3, none⟩ (.int .i64 0)).setCell ⟨b_R, 4, none⟩ (.int .i64 0)).setCell ⟨b_R, 5, none⟩ (.int .i64 0)).setCell ⟨b_R, 6, none⟩ (.int .i64 0)) gE_1 (n) cE_1 xs) := Lib.hid (OCEvent.far o_2_E k_2_R (by decide) only7)
    have HK0 : Hid ((_ : World).cell? ⟨b_R, 0, none⟩ = some (.slice (some ⟨gE_1, 0, none⟩) n cE_1)) := Lib.hid (kk.cell 0)
    have HK1 : Hid ((_ : World).cell? ⟨b_R, 1, none⟩ = some (.int .i64 0)) := Lib.hid (kk.cell 1)
    have HK2 : Hid ((_ : World).cell? ⟨b_R, 2, none⟩ = some (.int .i64 0)) := Lib.hid (kk.cell 2)
    have HK3 : Hid ((_ : World).cell? ⟨b_R, 3, none⟩ = some (.int .i64 0)) := Lib.hid (kk.cell 3)
    have HK4 : Hid ((_ : World).cell? ⟨b_R, 4, none⟩ = some (.int .i64 0)) := Lib.hid (kk.cell 4)
    have HK5 : Hid ((_ : World).cell? ⟨b_R, 5, none⟩ = some (.int .i64 0)) := Lib.hid (kk.cell 5)
    have HK6 : Hid ((_ : World).cell? ⟨b_R, 6, none⟩ = some (.int .i64 0)) := Lib.hid (kk.cell 6)
    clear kk
    clear o_2_E
    go_wp2
    have hk0 := HK0.out
    have hk1 := HK1.out
    have hk2 := HK2.out
    have hk3 := HK3.out
    have hk4 := HK4.out
    have hk5 := HK5.out
    have hk6 := HK6.out
    exact bodyPost_ret (v := .tuple #[.agg #[.slice (some ⟨gE_1, 0, none⟩) n cE_1, .int .i64 0, .int .i64 0, .int .i64 0, .int .i64 0, .int .i64 0, .int .i64 0], .bool false]) (by simp [results, Try.results92, go_sem, hk0, hk1, hk2, hk3, hk4, hk5, hk6]) rfl (by rw [HV.out]; exact ⟨gE_1, cE_1, by rw [HC.out], OE.out, GX_E.out, i9.below⟩)
  have h40 : (n : Int) ≤ 40 := by omega
  go_wp2
  go_loopw [5] (fun i wr => ∃ k : Nat, k ≤ n ∧ i = .int .i64 k ∧ (∀ j, j < k → okK xs j = true) ∧ Blk wr b_O 43 #[.slice (some ⟨gE_1, 0, none⟩) n cE_1, .int .i64 (stTo xs k).r0, .int .i64 (stTo xs k).r1, .int .i64 (stTo xs k).r2, .int .i64 (stTo xs k).bk, .int .i64 (stTo xs k).sd, .int .i64 (stTo xs k).th] ∧ Blk wr b_R 43 #[.slice none 0 0, .int .i64 0, .int .i64 0, .int .i64 0, .int .i64 0, .int .i64 0, .int .i64 0] ∧ OCEvent wr gE_1 n cE_1 xs ∧ In w.heap.size w wr) (fun i _ => n - (intOf i).toNat)
  case atStart => exact ⟨0, Nat.zero_le _, rfl, fun j hj => absurd hj (Nat.not_lt_zero _), k_2_O, k_2_R, o_2_E, i_2⟩
  case round =>
    clear i_2 k_2_R c_2_R_0 c_2_R_1 c_2_R_2 c_2_R_3 c_2_R_4 c_2_R_5 c_2_R_6 l_2_R z_2_R k_2_O c_2_O_0 c_2_O_1 c_2_O_2 c_2_O_3 c_2_O_4 c_2_O_5 c_2_O_6 l_2_O z_2_O o_2_E hb_2
    obtain ⟨k, hk, rfl, hok, kO, kR, oE, iI⟩ := hrel
    have HOK := Lib.hid hok
    have HST := Lib.hid (st_in xs k hok)
    clear hok
    by_cases hlt : k < n
    · obtain ⟨ad9, had, hx0, hx1⟩ := (HX.out.in_ iI).2 k hlt
      injection had with had
      subst had
      simp only [Addr.add_lit, Nat.zero_add] at hx0 hx1
      have HK : Hid (okK xs k = (evR (stTo xs k).r0 (stTo xs k).r1 (stTo xs k).r2 (xs.getD k ⟨0, 0⟩).f0 (xs.getD k ⟨0, 0⟩).f1).ok) := Lib.hid rfl
      have HN1 : Hid (stTo xs (k + 1) = stNext (stTo xs k) (evR (stTo xs k).r0 (stTo xs k).r1 (stTo xs k).r2 (xs.getD k ⟨0, 0⟩).f0 (xs.getD k ⟨0, 0⟩).f1)) := Lib.hid rfl
      have HC9 : Hid (okK xs k = false → cS n xs = stTo xs k) := Lib.hid (fun h => by rw [cS, if_pos (by omega), ffail_at xs k n HOK.out h hlt])
      generalize stTo xs k = s at *
      generalize xs.getD k ⟨0, 0⟩ = x at *
      obtain ⟨s0, s1, s2, s3, s4, s5⟩ := s
      obtain ⟨x0, x1⟩ := x
      simp only at hx0 hx1 kO HK HN1
      have HEV := Lib.hid (fun W => sEventOn s0 s1 s2 x0 x1 W)
      obtain ⟨r, hr⟩ : ∃ r, evR s0 s1 s2 x0 x1 = r := ⟨_, rfl⟩
      have HOKIN : Hid (r.ok = true → 0 ≤ r.m ∧ r.m ≤ 1000 ∧ 0 ≤ r.s ∧ r.s ≤ 1000 ∧ 0 ≤ r.t ∧ r.t ≤ 10000) := Lib.hid (fun h => by rw [← hr] at h ⊢; exact (ev_ok h).2)
      rw [hr] at HEV HK HN1
      clear hr
      obtain ⟨q0, q1, q2, q3, q4, q5, fl⟩ := r
      simp only [evT] at HEV HK HN1 HOKIN
      obtain ⟨w_9, rfl⟩ : ∃ x, x = wr := ⟨_, rfl⟩
      have i_9 := iI
      have k_9_O := kO
      have k_9_R := kR
      have o_9_E := oE
      clear kO kR oE iI
      have c_9_O_0 : w_9.cell? ⟨b_O, 0, none⟩ = some (.slice (some ⟨gE_1, 0, none⟩) n cE_1) := k_9_O.cell 0
      have c_9_O_1 : w_9.cell? ⟨b_O, 1, none⟩ = some (.int .i64 s0) := k_9_O.cell 1
      have c_9_O_2 : w_9.cell? ⟨b_O, 2, none⟩ = some (.int .i64 s1) := k_9_O.cell 2
      have c_9_O_3 : w_9.cell? ⟨b_O, 3, none⟩ = some (.int .i64 s2) := k_9_O.cell 3
      have c_9_O_4 : w_9.cell? ⟨b_O, 4, none⟩ = some (.int .i64 s3) := k_9_O.cell 4
      have c_9_O_5 : w_9.cell? ⟨b_O, 5, none⟩ = some (.int .i64 s4) := k_9_O.cell 5
      have c_9_O_6 : w_9.cell? ⟨b_O, 6, none⟩ = some (.int .i64 s5) := k_9_O.cell 6
      have l_9_O := k_9_O.lt
      have c_9_R_0 : w_9.cell? ⟨b_R, 0, none⟩ = some (.slice none 0 0) := k_9_R.cell 0
      have c_9_R_1 : w_9.cell? ⟨b_R, 1, none⟩ = some (.int .i64 0) := k_9_R.cell 1
      have c_9_R_2 : w_9.cell? ⟨b_R, 2, none⟩ = some (.int .i64 0) := k_9_R.cell 2
      have c_9_R_3 : w_9.cell? ⟨b_R, 3, none⟩ = some (.int .i64 0) := k_9_R.cell 3
      have c_9_R_4 : w_9.cell? ⟨b_R, 4, none⟩ = some (.int .i64 0) := k_9_R.cell 4
      have c_9_R_5 : w_9.cell? ⟨b_R, 5, none⟩ = some (.int .i64 0) := k_9_R.cell 5
      have c_9_R_6 : w_9.cell? ⟨b_R, 6, none⟩ = some (.int .i64 0) := k_9_R.cell 6
      have l_9_R := k_9_R.lt
      go_wp2_with fail
      obtain ⟨B_9, hB_9⟩ : ∃ B, B = w_9.heap.size := ⟨_, rfl⟩
      have hBl_9 : B_9 ≤ w_9.heap.size := by omega
      have hBg_9 : w_9.heap.size ≤ B_9 := by omega
      clear hB_9
      refine wp_region_facts (JISCntD w_9 ga n ca b_R b_O k gE_1 cE_1 u3 u6 u7 u8 u9 u10 u23 u24 u25 u26 u27 u28 u29 u30 u31 u32 u33 u34 u35 u36 u37 u38 u39 u40 u41 u42 u43 u44 u45 u46 u47 u48 u49 u50 u51 u52 u53 u54 u55 u56 u57 s0 s1 s2 x0 x1 q0 q1 q2 q3 q4 q5 fl) (JFSCntD B_9 ga n ca b_R b_O k gE_1 cE_1 u3 u6 u7 u8 u9 u10 u23 u24 u25 u26 u27 u28 u29 u30 u31 u32 u33 u34 u35 u36 u37 u38 u39 u40 u41 u42 u43 u44 u45 u46 u47 u48 u49 u50 u51 u52 u53 u54 u55 u56 u57 s0 s1 s2 x0 x1 q0 q1 q2 q3 q4 q5 fl) (by kernel_rfl) (by kernel_rfl) ⟨⟨fun j => if j = 6 then u6 else if j = 7 then u7 else if j = 8 then u8 else if j = 9 then u9 else if j = 10 then u10 else if j = 25 then u25 else if j = 26 then u26 else if j = 27 then u27 else if j = 28 then u28 else if j = 29 then u29 else if j = 30 then u30 else if j = 31 then u31 else if j = 32 then u32 else if j = 33 then u33 else if j = 34 then u34 else if j = 35 then u35 else if j = 36 then u36 else if j = 37 then u37 else undef, rfl⟩, (In.refl _).drew⟩ ?_ ?_
      · intro a v1 i o ho hI haf
        obtain ⟨⟨f, rfl⟩, hin⟩ := hI
        have kv_O : Blk v1 b_O 43 #[.slice (some ⟨gE_1, 0, none⟩) n cE_1, .int .i64 s0, .int .i64 s1, .int .i64 s2, .int .i64 s3, .int .i64 s4, .int .i64 s5] := Blk.step k_9_O hin.below
        have cv_O_0 := kv_O.cell 0
        have cv_O_1 := kv_O.cell 1
        have cv_O_2 := kv_O.cell 2
        have cv_O_3 := kv_O.cell 3
        have cv_O_4 := kv_O.cell 4
        have cv_O_5 := kv_O.cell 5
        have cv_O_6 := kv_O.cell 6
        have kv_R : Blk v1 b_R 43 #[.slice none 0 0, .int .i64 0, .int .i64 0, .int .i64 0, .int .i64 0, .int .i64 0, .int .i64 0] := Blk.step k_9_R hin.below
        have cv_R_0 := kv_R.cell 0
        have cv_R_1 := kv_R.cell 1
        have cv_R_2 := kv_R.cell 2
        have cv_R_3 := kv_R.cell 3
        have cv_R_4 := kv_R.cell 4
        have cv_R_5 := kv_R.cell 5
        have cv_R_6 := kv_R.cell 6
        have ov_E : OCEvent v1 gE_1 (n) cE_1 xs := OCEvent.step o_9_E hin.below
        have fv0 := cell_in hx0 hin
        have fv1 := cell_in hx1 hin
        have hi : i < 19 := by
          rcases Nat.lt_or_ge i 19 with h | h
          · exact h
          · simp [h] at ho
        suffices H : ∀ K : Act → World → Prop, (∀ a' w', ((JISCntD w_9 ga n ca b_R b_O k gE_1 cE_1 u3 u6 u7 u8 u9 u10 u23 u24 u25 u26 u27 u28 u29 u30 u31 u32 u33 u34 u35 u36 u37 u38 u39 u40 u41 u42 u43 u44 u45 u46 u47 u48 u49 u50 u51 u52 u53 u54 u55 u56 u57 s0 s1 s2 x0 x1 q0 q1 q2 q3 q4 q5 fl) a' w' ∧ (JFSCntD B_9 ga n ca b_R b_O k gE_1 cE_1 u3 u6 u7 u8 u9 u10 u23 u24 u25 u26 u27 u28 u29 u30 u31 u32 u33 u34 u35 u36 u37 u38 u39 u40 u41 u42 u43 u44 u45 u46 u47 u48 u49 u50 u51 u52 u53 u54 u55 u56 u57 s0 s1 s2 x0 x1 q0 q1 q2 q3 q4 q5 fl) i a' w' ∧ ∀ j, j ≠ i → waitsB _ j i = false → (JFSCntD B_9 ga n ca b_R b_O k gE_1 cE_1 u3 u6 u7 u8 u9 u10 u23 u24 u25 u26 u27 u28 u29 u30 u31 u32 u33 u34 u35 u36 u37 u38 u39 u40 u41 u42 u43 u44 u45 u46 u47 u48 u49 u50 u51 u52 u53 u54 u55 u56 u57 s0 s1 s2 x0 x1 q0 q1 q2 q3 q4 q5 fl) j ⟨#[Value.slice (some { block := ga, off := 0 }) n ca, undef, Value.pointer (some { block := b_R, off := 0 }), u3, Value.pointer (some { block := b_O, off := 0 }), Value.int IntKind.i64 ((k : Nat) : Int), f 6, f 7, f 8, f 9, f 10, Value.slice (some { block := b_R + 1, off := 0 }) 0 0, Value.slice (some { block := ga, off := 0 }) n ca, Value.slice (some { block := gE_1, off := 0 }) n cE_1, Value.agg #[Value.slice (some { block := gE_1, off := 0 }) n cE_1, Value.int IntKind.i64 0, Value.int IntKind.i64 0, Value.int IntKind.i64 0, Value.int IntKind.i64 0, Value.int IntKind.i64 0, Value.int IntKind.i64 0], Value.slice (some { block := ga, off := 0 }) n ca, Value.int IntKind.i64 ((n : Nat) : Int), Value.bool false, undef, Value.int IntKind.i64 ((k : Nat) : Int), Value.slice (some { block := ga, off := 0 }) n ca, Value.int IntKind.i64 ((n : Nat) : Int), Value.bool true, u23, u24, f 25, f 26, f 27, f 28, f 29, f 30, f 31, f 32, f 33, f 34, f 35, f 36, f 37, u38, u39, u40, u41, u42, u43, u44, u45, u46, u47, u48, u49, u50, u51, u52, u53, u54, u55, u56, u57, undef], []⟩ v1 → (JFSCntD B_9 ga n ca b_R b_O k gE_1 cE_1 u3 u6 u7 u8 u9 u10 u23 u24 u25 u26 u27 u28 u29 u30 u31 u32 u33 u34 u35 u36 u37 u38 u39 u40 u41 u42 u43 u44 u45 u46 u47 u48 u49 u50 u51 u52 u53 u54 u55 u56 u57 s0 s1 s2 x0 x1 q0 q1 q2 q3 q4 q5 fl) j a' w') → K a' w') → wpOp _ _ _ i K ⟨#[Value.slice (some { block := ga, off := 0 }) n ca, undef, Value.pointer (some { block := b_R, off := 0 }), u3, Value.pointer (some { block := b_O, off := 0 }), Value.int IntKind.i64 ((k : Nat) : Int), f 6, f 7, f 8, f 9, f 10, Value.slice (some { block := b_R + 1, off := 0 }) 0 0, Value.slice (some { block := ga, off := 0 }) n ca, Value.slice (some { block := gE_1, off := 0 }) n cE_1, Value.agg #[Value.slice (some { block := gE_1, off := 0 }) n cE_1, Value.int IntKind.i64 0, Value.int IntKind.i64 0, Value.int IntKind.i64 0, Value.int IntKind.i64 0, Value.int IntKind.i64 0, Value.int IntKind.i64 0], Value.slice (some { block := ga, off := 0 }) n ca, Value.int IntKind.i64 ((n : Nat) : Int), Value.bool false, undef, Value.int IntKind.i64 ((k : Nat) : Int), Value.slice (some { block := ga, off := 0 }) n ca, Value.int IntKind.i64 ((n : Nat) : Int), Value.bool true, u23, u24, f 25, f 26, f 27, f 28, f 29, f 30, f 31, f 32, f 33, f 34, f 35, f 36, f 37, u38, u39, u40, u41, u42, u43, u44, u45, u46, u47, u48, u49, u50, u51, u52, u53, u54, u55, u56, u57, undef], []⟩ v1 from H _ fun _ _ h => h
        intro K hK
        rcases (by omega : i = 0 ∨ i = 1 ∨ i = 2 ∨ i = 3 ∨ i = 4 ∨ i = 5 ∨ i = 6 ∨ i = 7 ∨ i = 8 ∨ i = 9 ∨ i = 10 ∨ i = 11 ∨ i = 12 ∨ i = 13 ∨ i = 14 ∨ i = 15 ∨ i = 16 ∨ i = 17 ∨ i = 18) with rfl | rfl | rfl | rfl | rfl | rfl | rfl | rfl | rfl | rfl | rfl | rfl | rfl | rfl | rfl | rfl | rfl | rfl | rfl
        · obtain rfl := Option.some.inj ho
          refine wpOp_plain rfl rfl ?_
          unfold Oper.wp
          go_simp
          exact hK _ _ ⟨⟨⟨updf f 26 (.pointer (some ⟨b_O, 1, none⟩)), rfl⟩, hin⟩, rfl, fun j hj hw hf => by
              rcases j with _ | _ | _ | _ | _ | _ | _ | _ | _ | _ | _ | _ | _ | _ | _ | _ | _ | _ | _ | j
              all_goals first | exact absurd rfl hj | exact hf | rfl⟩
        · obtain rfl := Option.some.inj ho
          have f0 := haf { on := 0, ground := .data } (by simp) rfl
          have f0 : _ = _ := Option.some.inj f0
          refine wpOp_plain rfl rfl ?_
          unfold Oper.wp
          go_simp
          exact hK _ _ ⟨⟨⟨updf f 27 (.agg #[.int .i64 s0, .int .i64 s1, .int .i64 s2]), rfl⟩, hin⟩, rfl, fun j hj hw hf => by
              rcases j with _ | _ | _ | _ | _ | _ | _ | _ | _ | _ | _ | _ | _ | _ | _ | _ | _ | _ | _ | j
              all_goals first | exact absurd rfl hj | exact hf | rfl⟩
        · obtain rfl := Option.some.inj ho
          refine wpOp_plain rfl rfl ?_
          unfold Oper.wp
          go_simp
          exact hK _ _ ⟨⟨⟨updf f 28 (.slice (some ⟨ga, 0, none⟩) n ca), rfl⟩, hin⟩, rfl, fun j hj hw hf => by
              rcases j with _ | _ | _ | _ | _ | _ | _ | _ | _ | _ | _ | _ | _ | _ | _ | _ | _ | _ | _ | j
              all_goals first | exact absurd rfl hj | exact hf | rfl⟩
        · obtain rfl := Option.some.inj ho
          refine wpOp_plain rfl rfl ?_
          unfold Oper.wp
          go_simp
          exact hK _ _ ⟨⟨⟨updf f 29 (.int .i64 (k : Int)), rfl⟩, hin⟩, rfl, fun j hj hw hf => by
              rcases j with _ | _ | _ | _ | _ | _ | _ | _ | _ | _ | _ | _ | _ | _ | _ | _ | _ | _ | _ | j
              all_goals first | exact absurd rfl hj | exact hf | rfl⟩
        · obtain rfl := Option.some.inj ho
          have f2 := haf { on := 2, ground := .data } (by simp) rfl
          have f2 : _ = _ := Option.some.inj f2
          have f3 := haf { on := 3, ground := .data } (by simp) rfl
          have f3 : _ = _ := Option.some.inj f3
          refine wpOp_plain rfl rfl ?_
          unfold Oper.wp
          go_simp
          exact hK _ _ ⟨⟨⟨updf f 30 (.pointer (some ⟨ga, k * 2, none⟩)), rfl⟩, hin⟩, rfl, fun j hj hw hf => by
              rcases j with _ | _ | _ | _ | _ | _ | _ | _ | _ | _ | _ | _ | _ | _ | _ | _ | _ | _ | _ | j
              all_goals first | exact absurd rfl hj | exact hf | rfl⟩
        · obtain rfl := Option.some.inj ho
          have f4 := haf { on := 4, ground := .data } (by simp) rfl
          have f4 : _ = _ := Option.some.inj f4
          refine wpOp_plain rfl rfl ?_
          unfold Oper.wp
          go_simp
          exact hK _ _ ⟨⟨⟨updf f 31 (.agg #[.int .i64 x0, .int .i64 x1]), rfl⟩, hin⟩, rfl, fun j hj hw hf => by
              rcases j with _ | _ | _ | _ | _ | _ | _ | _ | _ | _ | _ | _ | _ | _ | _ | _ | _ | _ | _ | j
              all_goals first | exact absurd rfl hj | exact hf | rfl⟩
        · obtain rfl := Option.some.inj ho
          have f1 := haf { on := 1, ground := .data } (by simp) rfl
          have f1 : _ = _ := Option.some.inj f1
          have f5 := haf { on := 5, ground := .data } (by simp) rfl
          have f5 : _ = _ := Option.some.inj f5
          refine wpOp_plain rfl rfl ?_
          unfold Oper.wp
          go_simp
          refine (HEV.out _).mono ?_
          rintro _ v2 ⟨rfl, hb2⟩
          exact hK _ _ ⟨⟨⟨updf f 32 (.tuple #[.agg #[.int .i64 q0, .int .i64 q1, .int .i64 q2], .int .i64 q3, .int .i64 q4, .int .i64 q5, .bool fl]), rfl⟩, hin.step hb2⟩, rfl, fun j hj hw hf => by
              rcases j with _ | _ | _ | _ | _ | _ | _ | _ | _ | _ | _ | _ | _ | _ | _ | _ | _ | _ | _ | j
              all_goals first | exact absurd rfl hj | exact hf | rfl | (obtain ⟨gs, X0, X1, X2, h0, h1, h2⟩ := hf; exact ⟨gs, X0, X1, X2, h0, h1, h2.step hb2⟩) | (obtain ⟨gs, h0, h1, h2⟩ := hf; exact ⟨gs, h0, h1, h2.step hb2⟩)⟩
        · obtain rfl := Option.some.inj ho
          have f6 := haf { on := 6, ground := .data } (by simp) rfl
          have f6 : _ = _ := Option.some.inj f6
          refine wpOp_plain rfl rfl ?_
          unfold Oper.wp
          go_simp
          exact hK _ _ ⟨⟨⟨updf f 25 (.tuple #[.agg #[.int .i64 q0, .int .i64 q1, .int .i64 q2], .int .i64 q3, .int .i64 q4, .int .i64 q5, .bool fl]), rfl⟩, hin⟩, rfl, fun j hj hw hf => by
              rcases j with _ | _ | _ | _ | _ | _ | _ | _ | _ | _ | _ | _ | _ | _ | _ | _ | _ | _ | _ | j
              all_goals first | exact absurd rfl hj | exact hf | rfl⟩
        · obtain rfl := Option.some.inj ho
          have f7 := haf { on := 7, ground := .data } (by simp) rfl
          have f7 : _ = _ := Option.some.inj f7
          refine wpOp_plain rfl rfl ?_
          unfold Oper.wp
          go_simp
          exact hK _ _ ⟨⟨⟨updf f 33 (.agg #[.int .i64 q0, .int .i64 q1, .int .i64 q2]), rfl⟩, hin⟩, rfl, fun j hj hw hf => by
              rcases j with _ | _ | _ | _ | _ | _ | _ | _ | _ | _ | _ | _ | _ | _ | _ | _ | _ | _ | _ | j
              all_goals first | exact absurd rfl hj | exact hf | rfl⟩
        · obtain rfl := Option.some.inj ho
          have f7 := haf { on := 7, ground := .data } (by simp) rfl
          have f7 : _ = _ := Option.some.inj f7
          refine wpOp_plain rfl rfl ?_
          unfold Oper.wp
          go_simp
          exact hK _ _ ⟨⟨⟨updf f 34 (.int .i64 q3), rfl⟩, hin⟩, rfl, fun j hj hw hf => by
              rcases j with _ | _ | _ | _ | _ | _ | _ | _ | _ | _ | _ | _ | _ | _ | _ | _ | _ | _ | _ | j
              all_goals first | exact absurd rfl hj | exact hf | rfl⟩
        · obtain rfl := Option.some.inj ho
          have f7 := haf { on := 7, ground := .data } (by simp) rfl
          have f7 : _ = _ := Option.some.inj f7
          refine wpOp_plain rfl rfl ?_
          unfold Oper.wp
          go_simp
          exact hK _ _ ⟨⟨⟨updf f 35 (.int .i64 q4), rfl⟩, hin⟩, rfl, fun j hj hw hf => by
              rcases j with _ | _ | _ | _ | _ | _ | _ | _ | _ | _ | _ | _ | _ | _ | _ | _ | _ | _ | _ | j
              all_goals first | exact absurd rfl hj | exact hf | rfl⟩
        · obtain rfl := Option.some.inj ho
          have f7 := haf { on := 7, ground := .data } (by simp) rfl
          have f7 : _ = _ := Option.some.inj f7
          refine wpOp_plain rfl rfl ?_
          unfold Oper.wp
          go_simp
          exact hK _ _ ⟨⟨⟨updf f 36 (.int .i64 q5), rfl⟩, hin⟩, rfl, fun j hj hw hf => by
              rcases j with _ | _ | _ | _ | _ | _ | _ | _ | _ | _ | _ | _ | _ | _ | _ | _ | _ | _ | _ | j
              all_goals first | exact absurd rfl hj | exact hf | rfl⟩
        · obtain rfl := Option.some.inj ho
          have f7 := haf { on := 7, ground := .data } (by simp) rfl
          have f7 : _ = _ := Option.some.inj f7
          refine wpOp_plain rfl rfl ?_
          unfold Oper.wp
          go_simp
          exact hK _ _ ⟨⟨⟨updf f 37 (.bool fl), rfl⟩, hin⟩, rfl, fun j hj hw hf => by
              rcases j with _ | _ | _ | _ | _ | _ | _ | _ | _ | _ | _ | _ | _ | _ | _ | _ | _ | _ | _ | j
              all_goals first | exact absurd rfl hj | exact hf | rfl⟩
        · obtain rfl := Option.some.inj ho
          refine wpOp_plain rfl rfl ?_
          unfold Oper.wp
          go_simp
          exact hK _ _ ⟨⟨⟨updf f 6 (.pointer (some ⟨v1.heap.size, 0, none⟩)), rfl⟩, hin.alloc _⟩, ⟨v1.heap.size, _, _, _, Nat.le_trans hBl_9 hin.size, rfl, Blk.new v1 _ _⟩, fun j hj hw hf => by
              rcases j with _ | _ | _ | _ | _ | _ | _ | _ | _ | _ | _ | _ | _ | _ | _ | _ | _ | _ | _ | j
              all_goals first | exact absurd rfl hj | exact hf | rfl | (obtain ⟨gs, X0, X1, X2, h0, h1, h2⟩ := hf; exact ⟨gs, X0, X1, X2, h0, h1, h2.step ((Below.refl _ v1).alloc (Nat.le_refl _) _)⟩) | (obtain ⟨gs, h0, h1, h2⟩ := hf; exact ⟨gs, h0, h1, h2.step ((Below.refl _ v1).alloc (Nat.le_refl _) _)⟩) | exact absurd (hw.symm.trans (show waitsB _ _ _ = true by kernel_rfl)) (by decide)⟩
        · obtain rfl := Option.some.inj ho
          have f8 := haf { on := 8, ground := .data } (by simp) rfl
          have f8 : _ = _ := Option.some.inj f8
          obtain ⟨gs, X0, X1, X2, hgB, hsl, hbk⟩ := haf { on := 13, ground := .data } (by simp) rfl
          have hsl : _ = _ := Option.some.inj hsl
          have z0 := hbk.cell 0
          have y0 := hbk.frozen 0
          have z1 := hbk.cell 1
          have y1 := hbk.frozen 1
          have z2 := hbk.cell 2
          have y2 := hbk.frozen 2
          have hgw := Nat.le_trans hBg_9 hgB
          have hb2 : Below w_9.heap.size v1 (((v1.setCell ⟨gs, 0, none⟩ (.int .i64 q0)).setCell ⟨gs, 1, none⟩ (.int .i64 q1)).setCell ⟨gs, 2, none⟩ (.int .i64 q2)) := ((((Below.refl _ _).setCell hgw _).setCell hgw _).setCell hgw _)
          have hgr : v1.grownBy (((v1.setCell ⟨gs, 0, none⟩ (.int .i64 q0)).setCell ⟨gs, 1, none⟩ (.int .i64 q1)).setCell ⟨gs, 2, none⟩ (.int .i64 q2)) (some gs) := (only_setCell (only_setCell (only_setCell (only_refl _ _) (p := ⟨gs, 0, none⟩) (.inl rfl) _) (p := ⟨gs, 1, none⟩) (.inl rfl) _) (p := ⟨gs, 2, none⟩) (.inl rfl) _)
          have HBK : Blk (((v1.setCell ⟨gs, 0, none⟩ (.int .i64 q0)).setCell ⟨gs, 1, none⟩ (.int .i64 q1)).setCell ⟨gs, 2, none⟩ (.int .i64 q2)) gs 41 #[.int .i64 q0, .int .i64 q1, .int .i64 q2] := by
            have h := (((hbk.set_ 0 (.int .i64 q0)).set_ 1 (.int .i64 q1)).set_ 2 (.int .i64 q2))
            simpa using h
          refine wpOp_plain rfl rfl ?_
          unfold Oper.wp
          go_simp
          exact hK _ _ ⟨⟨⟨f, rfl⟩, hin.wide hb2⟩, ⟨gs, hgB, congrArg some hsl, HBK⟩, fun j hj hw hf => by
              rcases j with _ | _ | _ | _ | _ | _ | _ | _ | _ | _ | _ | _ | _ | _ | _ | _ | _ | _ | _ | j
              all_goals first | exact absurd rfl hj | exact hf | rfl | exact ⟨gs, _, _, _, hgB, congrArg some hsl, HBK⟩ | (obtain ⟨gs, X0, X1, X2, h0, h1, h2⟩ := hf; exact ⟨gs, X0, X1, X2, h0, h1, h2⟩) | (obtain ⟨gs, h0, h1, h2⟩ := hf; exact ⟨gs, h0, h1, h2⟩)⟩
        · obtain rfl := Option.some.inj ho
          have f9 := haf { on := 9, ground := .data } (by simp) rfl
          have f9 : _ = _ := Option.some.inj f9
          refine wpOp_plain rfl rfl ?_
          unfold Oper.wp
          go_simp
          exact hK _ _ ⟨⟨⟨updf f 7 (.int .i64 q3), rfl⟩, hin⟩, rfl, fun j hj hw hf => by
              rcases j with _ | _ | _ | _ | _ | _ | _ | _ | _ | _ | _ | _ | _ | _ | _ | _ | _ | _ | _ | j
              all_goals first | exact absurd rfl hj | exact hf | rfl⟩
        · obtain rfl := Option.some.inj ho
          have f10 := haf { on := 10, ground := .data } (by simp) rfl
          have f10 : _ = _ := Option.some.inj f10
          refine wpOp_plain rfl rfl ?_
          unfold Oper.wp
          go_simp
          exact hK _ _ ⟨⟨⟨updf f 8 (.int .i64 q4), rfl⟩, hin⟩, rfl, fun j hj hw hf => by
              rcases j with _ | _ | _ | _ | _ | _ | _ | _ | _ | _ | _ | _ | _ | _ | _ | _ | _ | _ | _ | j
              all_goals first | exact absurd rfl hj | exact hf | rfl⟩
        · obtain rfl := Option.some.inj ho
          have f11 := haf { on := 11, ground := .data } (by simp) rfl
          have f11 : _ = _ := Option.some.inj f11
          refine wpOp_plain rfl rfl ?_
          unfold Oper.wp
          go_simp
          exact hK _ _ ⟨⟨⟨updf f 9 (.int .i64 q5), rfl⟩, hin⟩, rfl, fun j hj hw hf => by
              rcases j with _ | _ | _ | _ | _ | _ | _ | _ | _ | _ | _ | _ | _ | _ | _ | _ | _ | _ | _ | j
              all_goals first | exact absurd rfl hj | exact hf | rfl⟩
        · obtain rfl := Option.some.inj ho
          have f12 := haf { on := 12, ground := .data } (by simp) rfl
          have f12 : _ = _ := Option.some.inj f12
          refine wpOp_plain rfl rfl ?_
          unfold Oper.wp
          go_simp
          exact hK _ _ ⟨⟨⟨updf f 10 (.bool fl), rfl⟩, hin⟩, rfl, fun j hj hw hf => by
              rcases j with _ | _ | _ | _ | _ | _ | _ | _ | _ | _ | _ | _ | _ | _ | _ | _ | _ | _ | _ | j
              all_goals first | exact absurd rfl hj | exact hf | rfl⟩
      intro a w_10 hI hF
      obtain ⟨⟨hSCntD, rfl⟩, hn_10⟩ := hI
      have hb_10 := hn_10.below
      obtain ⟨gs_10, hgs_10, hs_10, kk_10⟩ := hF 14 (by decide)
      have hs_10 : hSCntD 6 = _ := Option.some.inj hs_10
      have he_10_7 : hSCntD 7 = _ := Option.some.inj (hF 15 (by decide))
      have he_10_8 : hSCntD 8 = _ := Option.some.inj (hF 16 (by decide))
      have he_10_9 : hSCntD 9 = _ := Option.some.inj (hF 17 (by decide))
      have he_10_10 : hSCntD 10 = _ := Option.some.inj (hF 18 (by decide))
      clear hF
      rw [hs_10, he_10_7, he_10_8, he_10_9, he_10_10]
      clear hs_10 he_10_7 he_10_8 he_10_9 he_10_10
      obtain ⟨b_N, hbn_N⟩ : ∃ b, b = gs_10 := ⟨_, rfl⟩
      rw [← hbn_N] at hgs_10 kk_10 ⊢
      clear hbn_N 
      have hwb_N : w.heap.size ≤ b_N := Nat.le_trans (In.size (B := w.heap.size) (a := w) i_9) (Nat.le_trans hBg_9 hgs_10)
      have NB_O_N : Hid (b_O ≠ b_N) := Lib.hid (by have h1 := k_9_O.lt; have h2 := Nat.le_trans hBg_9 hgs_10; omega)
      have NB_R_N : Hid (b_R ≠ b_N) := Lib.hid (by have h1 := k_9_R.lt; have h2 := Nat.le_trans hBg_9 hgs_10; omega)
      have kb_10 : Blk w_10 b_N 41 #[.int .i64 q0, .int .i64 q1, .int .i64 q2] := kk_10
      clear kk_10
      have i_10 : In w.heap.size w w_10 := In.step (by (repeat (first | exact In.refl _ | assumption | apply In.alloc | apply In.drewN | apply In.drew | (refine In.step ?_ (by assumption))))) hb_10
      have k_10_O : Blk w_10 b_O 43 #[.slice (some ⟨gE_1, 0, none⟩) n cE_1, .int .i64 s0, .int .i64 s1, .int .i64 s2, .int .i64 s3, .int .i64 s4, .int .i64 s5] := Blk.step (by (with_reducible (repeat (first | assumption | exact Blk.new' (by simp) | apply Blk.drewN | apply Blk.drew | apply Blk.alloc | (refine Blk.far ?_ (by (try simp) <;> omega) _))))) hb_10
      obtain ⟨c_10_O_0, c_10_O_1, c_10_O_2, c_10_O_3, c_10_O_4, c_10_O_5, c_10_O_6⟩ := cells7 k_10_O
      have l_10_O := k_10_O.lt
      have z_10_O := k_10_O.frozen
      have k_10_R : Blk w_10 b_R 43 #[.slice none 0 0, .int .i64 0, .int .i64 0, .int .i64 0, .int .i64 0, .int .i64 0, .int .i64 0] := Blk.step (by (with_reducible (repeat (first | assumption | exact Blk.new' (by simp) | apply Blk.drewN | apply Blk.drew | apply Blk.alloc | (refine Blk.far ?_ (by (try simp) <;> omega) _))))) hb_10
      obtain ⟨c_10_R_0, c_10_R_1, c_10_R_2, c_10_R_3, c_10_R_4, c_10_R_5, c_10_R_6⟩ := cells7 k_10_R
      have l_10_R := k_10_R.lt
      have z_10_R := k_10_R.frozen
      have k_10_N : Blk w_10 b_N 41 #[.int .i64 q0, .int .i64 q1, .int .i64 q2] := kb_10
      obtain ⟨c_10_N_0, c_10_N_1, c_10_N_2⟩ := cells3 k_10_N
      have l_10_N := k_10_N.lt
      have o_10_E : OCEvent w_10 gE_1 (n) cE_1 xs := OCEvent.step (by with_reducible (repeat (first | assumption | apply OCEvent.drewN | apply OCEvent.drew | apply OCEvent.alloc))) hb_10
      clear k_9_O k_9_R o_9_E i_9 l_9_O l_9_R c_9_O_0 c_9_O_1 c_9_O_2 c_9_O_3 c_9_O_4 c_9_O_5 c_9_O_6 c_9_R_0 c_9_R_1 c_9_R_2 c_9_R_3 c_9_R_4 c_9_R_5 c_9_R_6
      clear kb_10 hn_10 hgs_10
      clear hBl_9 hBg_9
      cases fl
      · have HV : Hid ((decide (n ≤ 40) && cntB xs n) = false) := Lib.hid (by rw [Bool.and_eq_false_iff]; exact .inr (allOk_f _ _ k hlt HK.out))
        clear HST HOKIN HN1
        have hn1_R_O : b_O ≠ b_R := by first | exact NB_O_R.out | exact NB_R_O.out.symm
        have hn2_R_O : b_R ≠ b_O := hn1_R_O.symm
        have hn1_R_N : b_N ≠ b_R := by first | exact NB_N_R.out | exact NB_R_N.out.symm
        have hn2_R_N : b_R ≠ b_N := hn1_R_N.symm
        have kk : Blk (((((((w_10.setCell ⟨b_R, 0, none⟩ (.slice (some ⟨gE_1, 0, none⟩) n cE_1)).setCell ⟨b_R, 1, none⟩ (.int .i64 s0)).setCell ⟨b_R, 2, none⟩ (.int .i64 s1)).setCell ⟨b_R, 3, none⟩ (.int .i64 s2)).setCell ⟨b_R, 4, none⟩ (.int .i64 s3)).setCell ⟨b_R, 5, none⟩ (.int .i64 s4)).setCell ⟨b_R, 6, none⟩ (.int .i64 s5)) b_R 43 #[.slice (some ⟨gE_1, 0, none⟩) n cE_1, .int .i64 s0, .int .i64 s1, .int .i64 s2, .int .i64 s3, .int .i64 s4, .int .i64 s5] := blks7 k_10_R
        have i9 : In w.heap.size w (((((((w_10.setCell ⟨b_R, 0, none⟩ (.slice (some ⟨gE_1, 0, none⟩) n cE_1)).setCell ⟨b_R, 1, none⟩ (.int .i64 s0)).setCell ⟨b_R, 2, none⟩ (.int .i64 s1)).setCell ⟨b_R, 3, none⟩ (.int .i64 s2)).setCell ⟨b_R, 4, none⟩ (.int .i64 s3)).setCell ⟨b_R, 5, none⟩ (.int .i64 s4)).setCell ⟨b_R, 6, none⟩ (.int .i64 s5)) := ins7 i_10 hwb_R
        have OE : Hid (OCEvent (((((((w_10.setCell ⟨b_R, 0, none⟩ (.slice (some ⟨gE_1, 0, none⟩) n cE_1)).setCell ⟨b_R, 1, none⟩ (.int .i64 s0)).setCell ⟨b_R, 2, none⟩ (.int .i64 s1)).setCell ⟨b_R, 3, none⟩ (.int .i64 s2)).setCell ⟨b_R, 4, none⟩ (.int .i64 s3)).setCell ⟨b_R, 5, none⟩ (.int .i64 s4)).setCell ⟨b_R, 6, none⟩ (.int .i64 s5)) gE_1 (n) cE_1 xs) := Lib.hid (OCEvent.far o_10_E k_10_R (by decide) only7)
        have HK0 : Hid ((_ : World).cell? ⟨b_R, 0, none⟩ = some (.slice (some ⟨gE_1, 0, none⟩) n cE_1)) := Lib.hid (kk.cell 0)
        have HK1 : Hid ((_ : World).cell? ⟨b_R, 1, none⟩ = some (.int .i64 s0)) := Lib.hid (kk.cell 1)
        have HK2 : Hid ((_ : World).cell? ⟨b_R, 2, none⟩ = some (.int .i64 s1)) := Lib.hid (kk.cell 2)
        have HK3 : Hid ((_ : World).cell? ⟨b_R, 3, none⟩ = some (.int .i64 s2)) := Lib.hid (kk.cell 3)
        have HK4 : Hid ((_ : World).cell? ⟨b_R, 4, none⟩ = some (.int .i64 s3)) := Lib.hid (kk.cell 4)
        have HK5 : Hid ((_ : World).cell? ⟨b_R, 5, none⟩ = some (.int .i64 s4)) := Lib.hid (kk.cell 5)
        have HK6 : Hid ((_ : World).cell? ⟨b_R, 6, none⟩ = some (.int .i64 s5)) := Lib.hid (kk.cell 6)
        clear kk
        clear o_10_E
        go_wp2
        have hk0 := HK0.out
        have hk1 := HK1.out
        have hk2 := HK2.out
        have hk3 := HK3.out
        have hk4 := HK4.out
        have hk5 := HK5.out
        have hk6 := HK6.out
        exact bodyPost_ret (v := .tuple #[.agg #[.slice (some ⟨gE_1, 0, none⟩) n cE_1, .int .i64 s0, .int .i64 s1, .int .i64 s2, .int .i64 s3, .int .i64 s4, .int .i64 s5], .bool false]) (by simp [results, Try.results92, go_sem, hk0, hk1, hk2, hk3, hk4, hk5, hk6]) rfl (by rw [HV.out]; exact ⟨gE_1, cE_1, by rw [HC9.out HK.out], OE.out, GX_E.out, i9.below⟩)
      · obtain ⟨hq1, hq2, hq3, hq4, hq5, hq6⟩ := HOKIN.out rfl
        obtain ⟨_, hs1, hs2, hs3, hs4, hs5, hs6⟩ := HST.out
        simp only at hs1 hs2 hs3 hs4 hs5 hs6
        have hk4 : (k : Int) ≤ 40 := by omega
        have es3 : wrap64 (s3 + q3) = s3 + q3 := w64 (by omega)
        have es4 : wrap64 (s4 + q4) = s4 + q4 := w64 (by omega)
        have es5 : wrap64 (s5 + q5) = s5 + q5 := w64 (by omega)
        clear HOKIN HST
        have hn1_O_R : b_R ≠ b_O := by first | exact NB_R_O.out | exact NB_O_R.out.symm
        have hn2_O_R : b_O ≠ b_R := hn1_O_R.symm
        have hn1_O_N : b_N ≠ b_O := by first | exact NB_N_O.out | exact NB_O_N.out.symm
        have hn2_O_N : b_O ≠ b_N := hn1_O_N.symm
        go_wp2
        have kf_O : Blk ((((((w_10.setCell ⟨b_O, 1, none⟩ (.int .i64 q0)).setCell ⟨b_O, 2, none⟩ (.int .i64 q1)).setCell ⟨b_O, 3, none⟩ (.int .i64 q2)).setCell ⟨b_O, 4, none⟩ (.int .i64 (s3 + q3))).setCell ⟨b_O, 5, none⟩ (.int .i64 (s4 + q4))).setCell ⟨b_O, 6, none⟩ (.int .i64 (s5 + q5))) b_O 43 #[.slice (some ⟨gE_1, 0, none⟩) n cE_1, .int .i64 q0, .int .i64 q1, .int .i64 q2, .int .i64 (s3 + q3), .int .i64 (s4 + q4), .int .i64 (s5 + q5)] := by
          have h := ((((((k_10_O.set_ 1 (.int .i64 q0)).set_ 2 (.int .i64 q1)).set_ 3 (.int .i64 q2)).set_ 4 (.int .i64 (s3 + q3))).set_ 5 (.int .i64 (s4 + q4))).set_ 6 (.int .i64 (s5 + q5)))
          simpa using h
        have kf_R : Blk ((((((w_10.setCell ⟨b_O, 1, none⟩ (.int .i64 q0)).setCell ⟨b_O, 2, none⟩ (.int .i64 q1)).setCell ⟨b_O, 3, none⟩ (.int .i64 q2)).setCell ⟨b_O, 4, none⟩ (.int .i64 (s3 + q3))).setCell ⟨b_O, 5, none⟩ (.int .i64 (s4 + q4))).setCell ⟨b_O, 6, none⟩ (.int .i64 (s5 + q5))) b_R 43 #[.slice none 0 0, .int .i64 0, .int .i64 0, .int .i64 0, .int .i64 0, .int .i64 0, .int .i64 0] := by
          have h := (Blk.far (Blk.far (Blk.far (Blk.far (Blk.far (Blk.far k_10_R (p := ⟨b_O, 1, none⟩) (by first | exact NB_R_O.out | exact NB_O_R.out.symm) (.int .i64 q0)) (p := ⟨b_O, 2, none⟩) (by first | exact NB_R_O.out | exact NB_O_R.out.symm) (.int .i64 q1)) (p := ⟨b_O, 3, none⟩) (by first | exact NB_R_O.out | exact NB_O_R.out.symm) (.int .i64 q2)) (p := ⟨b_O, 4, none⟩) (by first | exact NB_R_O.out | exact NB_O_R.out.symm) (.int .i64 (s3 + q3))) (p := ⟨b_O, 5, none⟩) (by first | exact NB_R_O.out | exact NB_O_R.out.symm) (.int .i64 (s4 + q4))) (p := ⟨b_O, 6, none⟩) (by first | exact NB_R_O.out | exact NB_O_R.out.symm) (.int .i64 (s5 + q5)))
          simpa using h
        have kf_N : Blk ((((((w_10.setCell ⟨b_O, 1, none⟩ (.int .i64 q0)).setCell ⟨b_O, 2, none⟩ (.int .i64 q1)).setCell ⟨b_O, 3, none⟩ (.int .i64 q2)).setCell ⟨b_O, 4, none⟩ (.int .i64 (s3 + q3))).setCell ⟨b_O, 5, none⟩ (.int .i64 (s4 + q4))).setCell ⟨b_O, 6, none⟩ (.int .i64 (s5 + q5))) b_N 41 #[.int .i64 q0, .int .i64 q1, .int .i64 q2] := by
          have h := (Blk.far (Blk.far (Blk.far (Blk.far (Blk.far (Blk.far k_10_N (p := ⟨b_O, 1, none⟩) (by first | exact NB_N_O.out | exact NB_O_N.out.symm) (.int .i64 q0)) (p := ⟨b_O, 2, none⟩) (by first | exact NB_N_O.out | exact NB_O_N.out.symm) (.int .i64 q1)) (p := ⟨b_O, 3, none⟩) (by first | exact NB_N_O.out | exact NB_O_N.out.symm) (.int .i64 q2)) (p := ⟨b_O, 4, none⟩) (by first | exact NB_N_O.out | exact NB_O_N.out.symm) (.int .i64 (s3 + q3))) (p := ⟨b_O, 5, none⟩) (by first | exact NB_N_O.out | exact NB_O_N.out.symm) (.int .i64 (s4 + q4))) (p := ⟨b_O, 6, none⟩) (by first | exact NB_N_O.out | exact NB_O_N.out.symm) (.int .i64 (s5 + q5)))
          simpa using h
        have fo_E : OCEvent ((((((w_10.setCell ⟨b_O, 1, none⟩ (.int .i64 q0)).setCell ⟨b_O, 2, none⟩ (.int .i64 q1)).setCell ⟨b_O, 3, none⟩ (.int .i64 q2)).setCell ⟨b_O, 4, none⟩ (.int .i64 (s3 + q3))).setCell ⟨b_O, 5, none⟩ (.int .i64 (s4 + q4))).setCell ⟨b_O, 6, none⟩ (.int .i64 (s5 + q5))) gE_1 (n) cE_1 xs := OCEvent.far o_10_E k_10_O (by decide) only6
        have ii_11 : In w.heap.size w ((((((w_10.setCell ⟨b_O, 1, none⟩ (.int .i64 q0)).setCell ⟨b_O, 2, none⟩ (.int .i64 q1)).setCell ⟨b_O, 3, none⟩ (.int .i64 q2)).setCell ⟨b_O, 4, none⟩ (.int .i64 (s3 + q3))).setCell ⟨b_O, 5, none⟩ (.int .i64 (s4 + q4))).setCell ⟨b_O, 6, none⟩ (.int .i64 (s5 + q5))) := (In.set_ (In.set_ (In.set_ (In.set_ (In.set_ (In.set_ i_10 (p := ⟨b_O, 1, none⟩) hwb_O (.int .i64 q0)) (p := ⟨b_O, 2, none⟩) hwb_O (.int .i64 q1)) (p := ⟨b_O, 3, none⟩) hwb_O (.int .i64 q2)) (p := ⟨b_O, 4, none⟩) hwb_O (.int .i64 (s3 + q3))) (p := ⟨b_O, 5, none⟩) hwb_O (.int .i64 (s4 + q4))) (p := ⟨b_O, 6, none⟩) hwb_O (.int .i64 (s5 + q5)))
        generalize ((((((w_10.setCell ⟨b_O, 1, none⟩ (.int .i64 q0)).setCell ⟨b_O, 2, none⟩ (.int .i64 q1)).setCell ⟨b_O, 3, none⟩ (.int .i64 q2)).setCell ⟨b_O, 4, none⟩ (.int .i64 (s3 + q3))).setCell ⟨b_O, 5, none⟩ (.int .i64 (s4 + q4))).setCell ⟨b_O, 6, none⟩ (.int .i64 (s5 + q5))) = w_11 at *
        clear hn1_O_R hn2_O_R hn1_O_N hn2_O_N
        have i_11 : In w.heap.size w w_11 := ii_11
        have k_11_O : Blk w_11 b_O 43 #[.slice (some ⟨gE_1, 0, none⟩) n cE_1, .int .i64 q0, .int .i64 q1, .int .i64 q2, .int .i64 (s3 + q3), .int .i64 (s4 + q4), .int .i64 (s5 + q5)] := kf_O
        obtain ⟨c_11_O_0, c_11_O_1, c_11_O_2, c_11_O_3, c_11_O_4, c_11_O_5, c_11_O_6⟩ := cells7 k_11_O
        have l_11_O := k_11_O.lt
        have z_11_O := k_11_O.frozen
        have k_11_R : Blk w_11 b_R 43 #[.slice none 0 0, .int .i64 0, .int .i64 0, .int .i64 0, .int .i64 0, .int .i64 0, .int .i64 0] := kf_R
        obtain ⟨c_11_R_0, c_11_R_1, c_11_R_2, c_11_R_3, c_11_R_4, c_11_R_5, c_11_R_6⟩ := cells7 k_11_R
        have l_11_R := k_11_R.lt
        have z_11_R := k_11_R.frozen
        have k_11_N : Blk w_11 b_N 41 #[.int .i64 q0, .int .i64 q1, .int .i64 q2] := kf_N
        obtain ⟨c_11_N_0, c_11_N_1, c_11_N_2⟩ := cells3 k_11_N
        have l_11_N := k_11_N.lt
        have o_11_E : OCEvent w_11 gE_1 (n) cE_1 xs := fo_E
        clear i_10 k_10_O c_10_O_0 c_10_O_1 c_10_O_2 c_10_O_3 c_10_O_4 c_10_O_5 c_10_O_6 l_10_O z_10_O k_10_R c_10_R_0 c_10_R_1 c_10_R_2 c_10_R_3 c_10_R_4 c_10_R_5 c_10_R_6 l_10_R z_10_R k_10_N c_10_N_0 c_10_N_1 c_10_N_2 l_10_N o_10_E hb_10
        clear ii_11 kf_O kf_R kf_N fo_E
        go_roundw
        case rel => exact ⟨k + 1, by omega, by go_num, fun j hj => by
            by_cases e : j = k
            · subst e; exact HK.out
            · exact HOK.out j (by omega), by rw [HN1.out]; exact k_11_O, k_11_R, o_11_E, i_11⟩
        case measure => simp [intOf]; omega
    · obtain rfl : k = n := by omega
      have HV : Hid ((decide (k ≤ 40) && cntB xs k) = true) := Lib.hid (by rw [Bool.and_eq_true]; exact ⟨by simp; omega, allOk_t _ _ HOK.out⟩)
      clear HST HOK
      have HC := Lib.hid (cS_t HV.out)
      generalize hs : stTo xs k = s at *
      have HS := Lib.hid hs
      clear hs
      obtain ⟨w_9, rfl⟩ : ∃ x, x = wr := ⟨_, rfl⟩
      have i_9 := iI
      have k_9_O : Blk w_9 b_O 43 #[.slice (some ⟨gE_1, 0, none⟩) k cE_1, .int .i64 s.r0, .int .i64 s.r1, .int .i64 s.r2, .int .i64 s.bk, .int .i64 s.sd, .int .i64 s.th] := kO
      obtain ⟨c_9_O_0, c_9_O_1, c_9_O_2, c_9_O_3, c_9_O_4, c_9_O_5, c_9_O_6⟩ := cells7 k_9_O
      have l_9_O := k_9_O.lt
      have z_9_O := k_9_O.frozen
      have k_9_R : Blk w_9 b_R 43 #[.slice none 0 0, .int .i64 0, .int .i64 0, .int .i64 0, .int .i64 0, .int .i64 0, .int .i64 0] := kR
      obtain ⟨c_9_R_0, c_9_R_1, c_9_R_2, c_9_R_3, c_9_R_4, c_9_R_5, c_9_R_6⟩ := cells7 k_9_R
      have l_9_R := k_9_R.lt
      have z_9_R := k_9_R.frozen
      have o_9_E : OCEvent w_9 gE_1 (k) cE_1 xs := oE
      clear kO kR oE iI
      have hn1_R_O : b_O ≠ b_R := by first | exact NB_O_R.out | exact NB_R_O.out.symm
      have hn2_R_O : b_R ≠ b_O := hn1_R_O.symm
      have kk : Blk (((((((w_9.setCell ⟨b_R, 0, none⟩ (.slice (some ⟨gE_1, 0, none⟩) k cE_1)).setCell ⟨b_R, 1, none⟩ (.int .i64 s.r0)).setCell ⟨b_R, 2, none⟩ (.int .i64 s.r1)).setCell ⟨b_R, 3, none⟩ (.int .i64 s.r2)).setCell ⟨b_R, 4, none⟩ (.int .i64 s.bk)).setCell ⟨b_R, 5, none⟩ (.int .i64 s.sd)).setCell ⟨b_R, 6, none⟩ (.int .i64 s.th)) b_R 43 #[.slice (some ⟨gE_1, 0, none⟩) k cE_1, .int .i64 s.r0, .int .i64 s.r1, .int .i64 s.r2, .int .i64 s.bk, .int .i64 s.sd, .int .i64 s.th] := blks7 k_9_R
      have i9 : In w.heap.size w (((((((w_9.setCell ⟨b_R, 0, none⟩ (.slice (some ⟨gE_1, 0, none⟩) k cE_1)).setCell ⟨b_R, 1, none⟩ (.int .i64 s.r0)).setCell ⟨b_R, 2, none⟩ (.int .i64 s.r1)).setCell ⟨b_R, 3, none⟩ (.int .i64 s.r2)).setCell ⟨b_R, 4, none⟩ (.int .i64 s.bk)).setCell ⟨b_R, 5, none⟩ (.int .i64 s.sd)).setCell ⟨b_R, 6, none⟩ (.int .i64 s.th)) := ins7 i_9 hwb_R
      have OE : Hid (OCEvent (((((((w_9.setCell ⟨b_R, 0, none⟩ (.slice (some ⟨gE_1, 0, none⟩) k cE_1)).setCell ⟨b_R, 1, none⟩ (.int .i64 s.r0)).setCell ⟨b_R, 2, none⟩ (.int .i64 s.r1)).setCell ⟨b_R, 3, none⟩ (.int .i64 s.r2)).setCell ⟨b_R, 4, none⟩ (.int .i64 s.bk)).setCell ⟨b_R, 5, none⟩ (.int .i64 s.sd)).setCell ⟨b_R, 6, none⟩ (.int .i64 s.th)) gE_1 (k) cE_1 xs) := Lib.hid (OCEvent.far o_9_E k_9_R (by decide) only7)
      have HK0 : Hid ((_ : World).cell? ⟨b_R, 0, none⟩ = some (.slice (some ⟨gE_1, 0, none⟩) k cE_1)) := Lib.hid (kk.cell 0)
      have HK1 : Hid ((_ : World).cell? ⟨b_R, 1, none⟩ = some (.int .i64 s.r0)) := Lib.hid (kk.cell 1)
      have HK2 : Hid ((_ : World).cell? ⟨b_R, 2, none⟩ = some (.int .i64 s.r1)) := Lib.hid (kk.cell 2)
      have HK3 : Hid ((_ : World).cell? ⟨b_R, 3, none⟩ = some (.int .i64 s.r2)) := Lib.hid (kk.cell 3)
      have HK4 : Hid ((_ : World).cell? ⟨b_R, 4, none⟩ = some (.int .i64 s.bk)) := Lib.hid (kk.cell 4)
      have HK5 : Hid ((_ : World).cell? ⟨b_R, 5, none⟩ = some (.int .i64 s.sd)) := Lib.hid (kk.cell 5)
      have HK6 : Hid ((_ : World).cell? ⟨b_R, 6, none⟩ = some (.int .i64 s.th)) := Lib.hid (kk.cell 6)
      clear kk
      clear o_9_E
      go_wp2
      have hk0 := HK0.out
      have hk1 := HK1.out
      have hk2 := HK2.out
      have hk3 := HK3.out
      have hk4 := HK4.out
      have hk5 := HK5.out
      have hk6 := HK6.out
      exact bodyPost_ret (v := .tuple #[.agg #[.slice (some ⟨gE_1, 0, none⟩) k cE_1, .int .i64 s.r0, .int .i64 s.r1, .int .i64 s.r2, .int .i64 s.bk, .int .i64 s.sd, .int .i64 s.th], .bool true]) (by simp [results, Try.results92, go_sem, hk0, hk1, hk2, hk3, hk4, hk5, hk6]) rfl (by rw [HV.out]; exact ⟨gE_1, cE_1, by rw [HC.out], OE.out, GX_E.out, i9.below⟩)
end Go.Proofs.Ytmcfghklfkmfkaa
