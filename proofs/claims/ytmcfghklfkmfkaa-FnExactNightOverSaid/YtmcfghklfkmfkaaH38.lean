import Derived.Test.YtmcfghklfkmfkaaVal
import Derived.Test.YtmcfghklfkmfkaaChecked
import Derived.Conc.MuLone
import Derived.KernelRfl
import Derived.Test.YtmcfghklfkmfkaaF38
import Derived.Defers
/- The contracts of sync.Mutex at this program. -/
namespace Go.Proofs.Ytmcfghklfkmfkaa
open Go.ChangeShapes Go.WideShapes Go.ChangeAt Go.RowKit
set_option linter.unusedVariables false
set_option linter.unusedSimpArgs false
set_option maxHeartbeats 2000000

abbrev muLink : Go.Conc.Locks.MuLink := { lock := 94, unlock := 95, ilock := 101, iunlock := 102, lockSlow := 115, unlockSlow := 118, disable := 111, enable := 113, acquire := 114, relMerge := 116, cas32 := 112, add32 := 117, tMutex := 109, tIMutex := 107, tPMutex := 136, tPIMutex := 140, tPI32 := 142, tUP := 144, tNoCopy := 104, tU32 := 105 }
theorem muLib : Go.Conc.Locks.MuLib Try.prog muLink :=
  ⟨Try.func94, Try.func95, Try.func101, Try.func102, Try.func111, Try.func113, Try.func114, Try.func116, Try.func112, Try.func117, Try.underlying107, Try.runUnderlying107, Try.sizeOf107, Try.isAgg107, Try.zeroValue107, Try.underlying109, Try.runUnderlying109, Try.sizeOf109, Try.isAgg109, Try.zeroValue109, Try.underlying136, Try.runUnderlying136, Try.sizeOf136, Try.isAgg136, Try.zeroValue136, Try.underlying140, Try.runUnderlying140, Try.sizeOf140, Try.isAgg140, Try.zeroValue140, Try.underlying142, Try.runUnderlying142, Try.sizeOf142, Try.isAgg142, Try.zeroValue142, Try.underlying144, Try.runUnderlying144, Try.sizeOf144, Try.isAgg144, Try.zeroValue144, Try.underlying104, Try.runUnderlying104, Try.sizeOf104, Try.isAgg104, Try.zeroValue104, Try.underlying21, Try.runUnderlying21, Try.sizeOf21, Try.isAgg21, Try.zeroValue21, (by kernel_rfl)⟩
theorem cLock (a : Addr) (w : World) (hc : w.cell? a = some (.int .i32 0)) (hz : w.frozen? a = false) : Calls Try.prog 94 #[.pointer (some a)] w fun e w' => e = .returned (.tuple #[]) ∧ w' = w.setCell a (.int .i32 1) := Go.MuLone.lock_free muLib a w hc hz
theorem cUnlock (a : Addr) (u : FrameMode) (w : World) (hc : w.cell? a = some (.int .i32 1)) (hz : w.frozen? a = false) :
    CallsD Try.prog 95 #[.pointer (some a)] u w fun e u' w' => u' = u ∧ (e = .returned (.tuple #[]) ∧ w' = w.setCell a (.int .i32 0)) := Go.MuLone.unlock_deferred muLib a u w hc hz
end Go.Proofs.Ytmcfghklfkmfkaa
/- Chapter 38: work under the lock, for a closure that enters an event. -/
namespace Go.Proofs.Ytmcfghklfkmfkaa
open Go.ChangeShapes Go.WideShapes Go.ChangeAt Go.RowKit
set_option linter.unusedVariables false
set_option linter.unusedSimpArgs false
set_option maxHeartbeats 2000000

/-- what a closure does that enters an event in a bakery of ours -/
def DoEn (F : FuncId) (caps : Array Value) (w : World) (g n c h m d : Nat) (a0 a1 a2 a3 a4 a5 a6 a7 a8 a9 a10 a11 : Int) (fl : Bool) (zs : List EventR) (s0 s1 s2 s3 s4 s5 mo : Int) : Prop :=
  ∀ (W : World) (b : Nat), In w.heap.size w W → w.heap.size ≤ b → Blk W b 45 #[.slice (some ⟨g, 0, none⟩) n c, .int .i64 a0, .int .i64 a1, .int .i64 a2, .int .i64 a3, .int .i64 a4, .slice (some ⟨h, 0, none⟩) m d, .int .i64 a5, .int .i64 a6, .int .i64 a7, .int .i64 a8, .int .i64 a9, .int .i64 a10, .int .i64 a11] → Calls Try.prog F (#[.pointer (some ⟨b, 0, none⟩)] ++ caps) W (fun e W' => ∃ gz cz, e = .returned (.bool fl) ∧ Blk W' b 45 #[.slice (some ⟨g, 0, none⟩) n c, .int .i64 a0, .int .i64 a1, .int .i64 a2, .int .i64 a3, .int .i64 a4, .slice (some ⟨gz, 0, none⟩) zs.length cz, .int .i64 s0, .int .i64 s1, .int .i64 s2, .int .i64 s3, .int .i64 s4, .int .i64 s5, .int .i64 mo] ∧ OCEvent W' gz zs.length cz zs ∧ W.heap.size ≤ gz ∧ W.grownBy W' (some b))
def pick4 (p : Bool) (a b : Int) : Int := if p then a else b
def pickE (p : Bool) (a b : List EventR) : List EventR := if p then a else b
set_option maxRecDepth 100000 in
set_option maxHeartbeats 8000000 in
theorem iwork (F : FuncId) (caps : Array Value) (g n c : Nat) (xs : List Int) (h m d : Nat) (ys : List EventR) (a0 a1 a2 a3 a4 a5 a6 a7 a8 a9 a10 a11 : Int) (fl ok2 : Bool) (zs : List EventR) (s0 s1 s2 s3 s4 s5 mo : Int) (b_L : Nat) (w wI : World) (hI : In w.heap.size w wI) (hwb_L : w.heap.size ≤ b_L) (kL : Blk wI b_L 111 #[.int .i32 0, .int .u32 0, .slice (some ⟨g, 0, none⟩) n c, .int .i64 a0, .int .i64 a1, .int .i64 a2, .int .i64 a3, .int .i64 a4, .slice (some ⟨h, 0, none⟩) m d, .int .i64 a5, .int .i64 a6, .int .i64 a7, .int .i64 a8, .int .i64 a9, .int .i64 a10, .int .i64 a11])
    (hn : (n : Int) ≤ 1048576) (hm : (m : Int) ≤ 1048576) (hz : (zs.length : Int) ≤ 1048576) (hx : ReadsI w (some ⟨g, 0, none⟩) n xs) (hy : ReadsEvent w (some ⟨h, 0, none⟩) m ys) (hdo : DoEn F caps w g n c h m d a0 a1 a2 a3 a4 a5 a6 a7 a8 a9 a10 a11 fl zs s0 s1 s2 s3 s4 s5 mo) (hF : ∀ (args : Array Value) (W : World), Sem.run Try.prog (callFunc F args) W = .ok (.enter F args) W) (hok : yOk n xs zs.length zs a0 a1 a2 a3 a4 s0 s1 s2 s3 s4 s5 mo = ok2) :
    Calls Try.prog 69 #[.pointer (some ⟨b_L, 0, none⟩), .func (Fn.func F) #[] caps] wI (fun e w' => RowYV n xs (pickE (yOk n xs m ys a0 a1 a2 a3 a4 a5 a6 a7 a8 a9 a10 a11 && (fl && ok2)) zs ys).length (pickE (yOk n xs m ys a0 a1 a2 a3 a4 a5 a6 a7 a8 a9 a10 a11 && (fl && ok2)) zs ys) a0 a1 a2 a3 a4 (pick4 (yOk n xs m ys a0 a1 a2 a3 a4 a5 a6 a7 a8 a9 a10 a11 && (fl && ok2)) s0 a5) (pick4 (yOk n xs m ys a0 a1 a2 a3 a4 a5 a6 a7 a8 a9 a10 a11 && (fl && ok2)) s1 a6) (pick4 (yOk n xs m ys a0 a1 a2 a3 a4 a5 a6 a7 a8 a9 a10 a11 && (fl && ok2)) s2 a7) (pick4 (yOk n xs m ys a0 a1 a2 a3 a4 a5 a6 a7 a8 a9 a10 a11 && (fl && ok2)) s3 a8) (pick4 (yOk n xs m ys a0 a1 a2 a3 a4 a5 a6 a7 a8 a9 a10 a11 && (fl && ok2)) s4 a9) (pick4 (yOk n xs m ys a0 a1 a2 a3 a4 a5 a6 a7 a8 a9 a10 a11 && (fl && ok2)) s5 a10) (pick4 (yOk n xs m ys a0 a1 a2 a3 a4 a5 a6 a7 a8 a9 a10 a11 && (fl && ok2)) mo a11) (.bool (yOk n xs m ys a0 a1 a2 a3 a4 a5 a6 a7 a8 a9 a10 a11 && (fl && ok2))) w e w') := by
  have HX := Lib.hid hx
  have HY := Lib.hid hy
  have HDO := Lib.hid hdo
  have HOK := Lib.hid hok
  have hzl := hz
  have HF9 := Lib.hid hF
  clear hF
  clear hx hy hdo hok hz
  obtain ⟨b_R, hbx_R⟩ : ∃ b, b = wI.heap.size := ⟨_, rfl⟩
  have hlL := kL.lt
  have NB_L_R : Hid (b_L ≠ b_R) := Lib.hid (by omega)
  have hwb_R : w.heap.size ≤ b_R := by have := hI.size; omega
  have kk_R : Blk (wI.alloc (.cells #[.slice none 0 0, .int .i64 0, .int .i64 0, .int .i64 0, .int .i64 0, .int .i64 0, .slice none 0 0, .int .i64 0, .int .i64 0, .int .i64 0, .int .i64 0, .int .i64 0, .int .i64 0, .int .i64 0] 45)) b_R 45 #[.slice none 0 0, .int .i64 0, .int .i64 0, .int .i64 0, .int .i64 0, .int .i64 0, .slice none 0 0, .int .i64 0, .int .i64 0, .int .i64 0, .int .i64 0, .int .i64 0, .int .i64 0, .int .i64 0] := Blk.new' hbx_R
  have kk_L := kL.alloc (.cells #[.slice none 0 0, .int .i64 0, .int .i64 0, .int .i64 0, .int .i64 0, .int .i64 0, .slice none 0 0, .int .i64 0, .int .i64 0, .int .i64 0, .int .i64 0, .int .i64 0, .int .i64 0, .int .i64 0] 45)
  have ii_0 : In w.heap.size w (wI.alloc (.cells #[.slice none 0 0, .int .i64 0, .int .i64 0, .int .i64 0, .int .i64 0, .int .i64 0, .slice none 0 0, .int .i64 0, .int .i64 0, .int .i64 0, .int .i64 0, .int .i64 0, .int .i64 0, .int .i64 0] 45)) := hI.alloc _
  have hfin : ∀ p : Bool, p = false → RowYV n xs ys.length ys a0 a1 a2 a3 a4 a5 a6 a7 a8 a9 a10 a11 (.bool false) w = RowYV n xs (pickE p zs ys).length (pickE p zs ys) a0 a1 a2 a3 a4 (pick4 p s0 a5) (pick4 p s1 a6) (pick4 p s2 a7) (pick4 p s3 a8) (pick4 p s4 a9) (pick4 p s5 a10) (pick4 p mo a11) (.bool p) w := fun p hp => by subst hp; rfl
  have HFI := Lib.hid hfin
  clear hI kL hlL hfin
  go_enter_defers Try.func69, Try.ntmps69
  go_wp2_with fail
  rw [← hbx_R]
  clear hbx_R
  generalize (wI.alloc (.cells #[.slice none 0 0, .int .i64 0, .int .i64 0, .int .i64 0, .int .i64 0, .int .i64 0, .slice none 0 0, .int .i64 0, .int .i64 0, .int .i64 0, .int .i64 0, .int .i64 0, .int .i64 0, .int .i64 0] 45)) = w_0 at *
  have i_0 := ii_0
  have k_0_L : Blk w_0 b_L 111 #[.int .i32 0, .int .u32 0, .slice (some ⟨g, 0, none⟩) n c, .int .i64 a0, .int .i64 a1, .int .i64 a2, .int .i64 a3, .int .i64 a4, .slice (some ⟨h, 0, none⟩) m d, .int .i64 a5, .int .i64 a6, .int .i64 a7, .int .i64 a8, .int .i64 a9, .int .i64 a10, .int .i64 a11] := kk_L
  have c_0_L_0 : w_0.cell? ⟨b_L, 0, none⟩ = some (.int .i32 0) := k_0_L.cell 0
  have c_0_L_1 : w_0.cell? ⟨b_L, 1, none⟩ = some (.int .u32 0) := k_0_L.cell 1
  have c_0_L_2 : w_0.cell? ⟨b_L, 2, none⟩ = some (.slice (some ⟨g, 0, none⟩) n c) := k_0_L.cell 2
  have c_0_L_3 : w_0.cell? ⟨b_L, 3, none⟩ = some (.int .i64 a0) := k_0_L.cell 3
  have c_0_L_4 : w_0.cell? ⟨b_L, 4, none⟩ = some (.int .i64 a1) := k_0_L.cell 4
  have c_0_L_5 : w_0.cell? ⟨b_L, 5, none⟩ = some (.int .i64 a2) := k_0_L.cell 5
  have c_0_L_6 : w_0.cell? ⟨b_L, 6, none⟩ = some (.int .i64 a3) := k_0_L.cell 6
  have c_0_L_7 : w_0.cell? ⟨b_L, 7, none⟩ = some (.int .i64 a4) := k_0_L.cell 7
  have c_0_L_8 : w_0.cell? ⟨b_L, 8, none⟩ = some (.slice (some ⟨h, 0, none⟩) m d) := k_0_L.cell 8
  have c_0_L_9 : w_0.cell? ⟨b_L, 9, none⟩ = some (.int .i64 a5) := k_0_L.cell 9
  have c_0_L_10 : w_0.cell? ⟨b_L, 10, none⟩ = some (.int .i64 a6) := k_0_L.cell 10
  have c_0_L_11 : w_0.cell? ⟨b_L, 11, none⟩ = some (.int .i64 a7) := k_0_L.cell 11
  have c_0_L_12 : w_0.cell? ⟨b_L, 12, none⟩ = some (.int .i64 a8) := k_0_L.cell 12
  have c_0_L_13 : w_0.cell? ⟨b_L, 13, none⟩ = some (.int .i64 a9) := k_0_L.cell 13
  have c_0_L_14 : w_0.cell? ⟨b_L, 14, none⟩ = some (.int .i64 a10) := k_0_L.cell 14
  have c_0_L_15 : w_0.cell? ⟨b_L, 15, none⟩ = some (.int .i64 a11) := k_0_L.cell 15
  have l_0_L := k_0_L.lt
  have z_0_L := k_0_L.frozen
  have k_0_R : Blk w_0 b_R 45 #[.slice none 0 0, .int .i64 0, .int .i64 0, .int .i64 0, .int .i64 0, .int .i64 0, .slice none 0 0, .int .i64 0, .int .i64 0, .int .i64 0, .int .i64 0, .int .i64 0, .int .i64 0, .int .i64 0] := kk_R
  obtain ⟨c_0_R_0, c_0_R_1, c_0_R_2, c_0_R_3, c_0_R_4, c_0_R_5, c_0_R_6, c_0_R_7, c_0_R_8, c_0_R_9, c_0_R_10, c_0_R_11, c_0_R_12, c_0_R_13⟩ := cells14 k_0_R
  have l_0_R := k_0_R.lt
  have z_0_R := k_0_R.frozen
  clear ii_0 kk_R kk_L
  have hn1_L_R : b_R ≠ b_L := by first | exact NB_R_L.out | exact NB_L_R.out.symm
  have hn2_L_R : b_L ≠ b_R := hn1_L_R.symm
  refine (cLock ⟨b_L, 0, none⟩ _ c_0_L_0 (k_0_L.frozen 0)).mono ?_
  rintro _ _ ⟨rfl, rfl⟩
  have kf_L : Blk (w_0.setCell ⟨b_L, 0, none⟩ (.int .i32 1)) b_L 111 #[.int .i32 1, .int .u32 0, .slice (some ⟨g, 0, none⟩) n c, .int .i64 a0, .int .i64 a1, .int .i64 a2, .int .i64 a3, .int .i64 a4, .slice (some ⟨h, 0, none⟩) m d, .int .i64 a5, .int .i64 a6, .int .i64 a7, .int .i64 a8, .int .i64 a9, .int .i64 a10, .int .i64 a11] := by
    have h := (k_0_L.set_ 0 (.int .i32 1))
    simpa using h
  have kf_R : Blk (w_0.setCell ⟨b_L, 0, none⟩ (.int .i32 1)) b_R 45 #[.slice none 0 0, .int .i64 0, .int .i64 0, .int .i64 0, .int .i64 0, .int .i64 0, .slice none 0 0, .int .i64 0, .int .i64 0, .int .i64 0, .int .i64 0, .int .i64 0, .int .i64 0, .int .i64 0] := by
    have h := (Blk.far k_0_R (p := ⟨b_L, 0, none⟩) (by first | exact NB_R_L.out | exact NB_L_R.out.symm) (.int .i32 1))
    simpa using h
  have ii_1 : In w.heap.size w (w_0.setCell ⟨b_L, 0, none⟩ (.int .i32 1)) := (In.set_ i_0 (p := ⟨b_L, 0, none⟩) hwb_L (.int .i32 1))
  generalize (w_0.setCell ⟨b_L, 0, none⟩ (.int .i32 1)) = w_1 at *
  clear hn1_L_R hn2_L_R
  have i_1 : In w.heap.size w w_1 := ii_1
  have k_1_L : Blk w_1 b_L 111 #[.int .i32 1, .int .u32 0, .slice (some ⟨g, 0, none⟩) n c, .int .i64 a0, .int .i64 a1, .int .i64 a2, .int .i64 a3, .int .i64 a4, .slice (some ⟨h, 0, none⟩) m d, .int .i64 a5, .int .i64 a6, .int .i64 a7, .int .i64 a8, .int .i64 a9, .int .i64 a10, .int .i64 a11] := kf_L
  have c_1_L_0 : w_1.cell? ⟨b_L, 0, none⟩ = some (.int .i32 1) := k_1_L.cell 0
  have c_1_L_1 : w_1.cell? ⟨b_L, 1, none⟩ = some (.int .u32 0) := k_1_L.cell 1
  have c_1_L_2 : w_1.cell? ⟨b_L, 2, none⟩ = some (.slice (some ⟨g, 0, none⟩) n c) := k_1_L.cell 2
  have c_1_L_3 : w_1.cell? ⟨b_L, 3, none⟩ = some (.int .i64 a0) := k_1_L.cell 3
  have c_1_L_4 : w_1.cell? ⟨b_L, 4, none⟩ = some (.int .i64 a1) := k_1_L.cell 4
  have c_1_L_5 : w_1.cell? ⟨b_L, 5, none⟩ = some (.int .i64 a2) := k_1_L.cell 5
  have c_1_L_6 : w_1.cell? ⟨b_L, 6, none⟩ = some (.int .i64 a3) := k_1_L.cell 6
  have c_1_L_7 : w_1.cell? ⟨b_L, 7, none⟩ = some (.int .i64 a4) := k_1_L.cell 7
  have c_1_L_8 : w_1.cell? ⟨b_L, 8, none⟩ = some (.slice (some ⟨h, 0, none⟩) m d) := k_1_L.cell 8
  have c_1_L_9 : w_1.cell? ⟨b_L, 9, none⟩ = some (.int .i64 a5) := k_1_L.cell 9
  have c_1_L_10 : w_1.cell? ⟨b_L, 10, none⟩ = some (.int .i64 a6) := k_1_L.cell 10
  have c_1_L_11 : w_1.cell? ⟨b_L, 11, none⟩ = some (.int .i64 a7) := k_1_L.cell 11
  have c_1_L_12 : w_1.cell? ⟨b_L, 12, none⟩ = some (.int .i64 a8) := k_1_L.cell 12
  have c_1_L_13 : w_1.cell? ⟨b_L, 13, none⟩ = some (.int .i64 a9) := k_1_L.cell 13
  have c_1_L_14 : w_1.cell? ⟨b_L, 14, none⟩ = some (.int .i64 a10) := k_1_L.cell 14
  have c_1_L_15 : w_1.cell? ⟨b_L, 15, none⟩ = some (.int .i64 a11) := k_1_L.cell 15
  have l_1_L := k_1_L.lt
  have z_1_L := k_1_L.frozen
  have k_1_R : Blk w_1 b_R 45 #[.slice none 0 0, .int .i64 0, .int .i64 0, .int .i64 0, .int .i64 0, .int .i64 0, .slice none 0 0, .int .i64 0, .int .i64 0, .int .i64 0, .int .i64 0, .int .i64 0, .int .i64 0, .int .i64 0] := kf_R
  obtain ⟨c_1_R_0, c_1_R_1, c_1_R_2, c_1_R_3, c_1_R_4, c_1_R_5, c_1_R_6, c_1_R_7, c_1_R_8, c_1_R_9, c_1_R_10, c_1_R_11, c_1_R_12, c_1_R_13⟩ := cells14 k_1_R
  have l_1_R := k_1_R.lt
  have z_1_R := k_1_R.frozen
  clear i_0 k_0_L c_0_L_0 c_0_L_1 c_0_L_2 c_0_L_3 c_0_L_4 c_0_L_5 c_0_L_6 c_0_L_7 c_0_L_8 c_0_L_9 c_0_L_10 c_0_L_11 c_0_L_12 c_0_L_13 c_0_L_14 c_0_L_15 l_0_L z_0_L k_0_R c_0_R_0 c_0_R_1 c_0_R_2 c_0_R_3 c_0_R_4 c_0_R_5 c_0_R_6 c_0_R_7 c_0_R_8 c_0_R_9 c_0_R_10 c_0_R_11 c_0_R_12 c_0_R_13 l_0_R z_0_R
  clear ii_1 kf_L kf_R 
  go_wp2_with fail
  obtain ⟨b_N, hbx_N⟩ : ∃ b, b = w_1.heap.size := ⟨_, rfl⟩
  rw [← hbx_N]
  have hwb_N : w.heap.size ≤ b_N := by have h := In.size i_1; omega
  have NB_L_N : Hid (b_L ≠ b_N) := Lib.hid (by have h := k_1_L.lt; omega)
  have NB_R_N : Hid (b_R ≠ b_N) := Lib.hid (by have h := k_1_R.lt; omega)
  have hb_2 : Below w_1.heap.size w_1 (w_1.alloc (.cells #[.slice (some ⟨g, 0, none⟩) n c, .int .i64 a0, .int .i64 a1, .int .i64 a2, .int .i64 a3, .int .i64 a4, .slice (some ⟨h, 0, none⟩) m d, .int .i64 a5, .int .i64 a6, .int .i64 a7, .int .i64 a8, .int .i64 a9, .int .i64 a10, .int .i64 a11] 45)) := (Below.refl _ _).alloc (Nat.le_refl _) _
  have kk_2 : Blk (w_1.alloc (.cells #[.slice (some ⟨g, 0, none⟩) n c, .int .i64 a0, .int .i64 a1, .int .i64 a2, .int .i64 a3, .int .i64 a4, .slice (some ⟨h, 0, none⟩) m d, .int .i64 a5, .int .i64 a6, .int .i64 a7, .int .i64 a8, .int .i64 a9, .int .i64 a10, .int .i64 a11] 45)) b_N 45 #[.slice (some ⟨g, 0, none⟩) n c, .int .i64 a0, .int .i64 a1, .int .i64 a2, .int .i64 a3, .int .i64 a4, .slice (some ⟨h, 0, none⟩) m d, .int .i64 a5, .int .i64 a6, .int .i64 a7, .int .i64 a8, .int .i64 a9, .int .i64 a10, .int .i64 a11] := Blk.new' hbx_N
  clear hbx_N
  generalize (w_1.alloc (.cells #[.slice (some ⟨g, 0, none⟩) n c, .int .i64 a0, .int .i64 a1, .int .i64 a2, .int .i64 a3, .int .i64 a4, .slice (some ⟨h, 0, none⟩) m d, .int .i64 a5, .int .i64 a6, .int .i64 a7, .int .i64 a8, .int .i64 a9, .int .i64 a10, .int .i64 a11] 45)) = w_2 at *
  have i_2 : In w.heap.size w w_2 := In.step (by (repeat (first | exact In.refl _ | assumption | apply In.alloc | apply In.drewN | apply In.drew | (refine In.step ?_ (by assumption))))) hb_2
  have k_2_L : Blk w_2 b_L 111 #[.int .i32 1, .int .u32 0, .slice (some ⟨g, 0, none⟩) n c, .int .i64 a0, .int .i64 a1, .int .i64 a2, .int .i64 a3, .int .i64 a4, .slice (some ⟨h, 0, none⟩) m d, .int .i64 a5, .int .i64 a6, .int .i64 a7, .int .i64 a8, .int .i64 a9, .int .i64 a10, .int .i64 a11] := Blk.step (by (with_reducible (repeat (first | assumption | exact Blk.new' (by simp) | apply Blk.drewN | apply Blk.drew | apply Blk.alloc | (refine Blk.far ?_ (by (try simp) <;> omega) _))))) hb_2
  have c_2_L_0 : w_2.cell? ⟨b_L, 0, none⟩ = some (.int .i32 1) := k_2_L.cell 0
  have c_2_L_1 : w_2.cell? ⟨b_L, 1, none⟩ = some (.int .u32 0) := k_2_L.cell 1
  have c_2_L_2 : w_2.cell? ⟨b_L, 2, none⟩ = some (.slice (some ⟨g, 0, none⟩) n c) := k_2_L.cell 2
  have c_2_L_3 : w_2.cell? ⟨b_L, 3, none⟩ = some (.int .i64 a0) := k_2_L.cell 3
  have c_2_L_4 : w_2.cell? ⟨b_L, 4, none⟩ = some (.int .i64 a1) := k_2_L.cell 4
  have c_2_L_5 : w_2.cell? ⟨b_L, 5, none⟩ = some (.int .i64 a2) := k_2_L.cell 5
  have c_2_L_6 : w_2.cell? ⟨b_L, 6, none⟩ = some (.int .i64 a3) := k_2_L.cell 6
  have c_2_L_7 : w_2.cell? ⟨b_L, 7, none⟩ = some (.int .i64 a4) := k_2_L.cell 7
  have c_2_L_8 : w_2.cell? ⟨b_L, 8, none⟩ = some (.slice (some ⟨h, 0, none⟩) m d) := k_2_L.cell 8
  have c_2_L_9 : w_2.cell? ⟨b_L, 9, none⟩ = some (.int .i64 a5) := k_2_L.cell 9
  have c_2_L_10 : w_2.cell? ⟨b_L, 10, none⟩ = some (.int .i64 a6) := k_2_L.cell 10
  have c_2_L_11 : w_2.cell? ⟨b_L, 11, none⟩ = some (.int .i64 a7) := k_2_L.cell 11
  have c_2_L_12 : w_2.cell? ⟨b_L, 12, none⟩ = some (.int .i64 a8) := k_2_L.cell 12
  have c_2_L_13 : w_2.cell? ⟨b_L, 13, none⟩ = some (.int .i64 a9) := k_2_L.cell 13
  have c_2_L_14 : w_2.cell? ⟨b_L, 14, none⟩ = some (.int .i64 a10) := k_2_L.cell 14
  have c_2_L_15 : w_2.cell? ⟨b_L, 15, none⟩ = some (.int .i64 a11) := k_2_L.cell 15
  have l_2_L := k_2_L.lt
  have z_2_L := k_2_L.frozen
  have k_2_R : Blk w_2 b_R 45 #[.slice none 0 0, .int .i64 0, .int .i64 0, .int .i64 0, .int .i64 0, .int .i64 0, .slice none 0 0, .int .i64 0, .int .i64 0, .int .i64 0, .int .i64 0, .int .i64 0, .int .i64 0, .int .i64 0] := Blk.step (by (with_reducible (repeat (first | assumption | exact Blk.new' (by simp) | apply Blk.drewN | apply Blk.drew | apply Blk.alloc | (refine Blk.far ?_ (by (try simp) <;> omega) _))))) hb_2
  obtain ⟨c_2_R_0, c_2_R_1, c_2_R_2, c_2_R_3, c_2_R_4, c_2_R_5, c_2_R_6, c_2_R_7, c_2_R_8, c_2_R_9, c_2_R_10, c_2_R_11, c_2_R_12, c_2_R_13⟩ := cells14 k_2_R
  have l_2_R := k_2_R.lt
  have z_2_R := k_2_R.frozen
  have k_2_N : Blk w_2 b_N 45 #[.slice (some ⟨g, 0, none⟩) n c, .int .i64 a0, .int .i64 a1, .int .i64 a2, .int .i64 a3, .int .i64 a4, .slice (some ⟨h, 0, none⟩) m d, .int .i64 a5, .int .i64 a6, .int .i64 a7, .int .i64 a8, .int .i64 a9, .int .i64 a10, .int .i64 a11] := kk_2
  obtain ⟨c_2_N_0, c_2_N_1, c_2_N_2, c_2_N_3, c_2_N_4, c_2_N_5, c_2_N_6, c_2_N_7, c_2_N_8, c_2_N_9, c_2_N_10, c_2_N_11, c_2_N_12, c_2_N_13⟩ := cells14 k_2_N
  have l_2_N := k_2_N.lt
  have z_2_N := k_2_N.frozen
  clear i_1 k_1_L c_1_L_0 c_1_L_1 c_1_L_2 c_1_L_3 c_1_L_4 c_1_L_5 c_1_L_6 c_1_L_7 c_1_L_8 c_1_L_9 c_1_L_10 c_1_L_11 c_1_L_12 c_1_L_13 c_1_L_14 c_1_L_15 l_1_L z_1_L k_1_R c_1_R_0 c_1_R_1 c_1_R_2 c_1_R_3 c_1_R_4 c_1_R_5 c_1_R_6 c_1_R_7 c_1_R_8 c_1_R_9 c_1_R_10 c_1_R_11 c_1_R_12 c_1_R_13 l_1_R z_1_R
  clear kk_2
  go_wp2_with fail
  refine (iBakeryOk g n c xs h m d ys a0 a1 a2 a3 a4 a5 a6 a7 a8 a9 a10 a11 _ hn hm (HX.out.in_ (by (repeat (first | exact In.refl _ | assumption | apply In.alloc | apply In.drewN | apply In.drew | (refine In.step ?_ (by assumption)))))) (HY.out.in_ (by (repeat (first | exact In.refl _ | assumption | apply In.alloc | apply In.drewN | apply In.drew | (refine In.step ?_ (by assumption))))))).mono ?_
  rintro _ w_3 ⟨rfl, hb_3⟩
  have i_3 : In w.heap.size w w_3 := In.step (by (repeat (first | exact In.refl _ | assumption | apply In.alloc | apply In.drewN | apply In.drew | (refine In.step ?_ (by assumption))))) hb_3
  have k_3_L : Blk w_3 b_L 111 #[.int .i32 1, .int .u32 0, .slice (some ⟨g, 0, none⟩) n c, .int .i64 a0, .int .i64 a1, .int .i64 a2, .int .i64 a3, .int .i64 a4, .slice (some ⟨h, 0, none⟩) m d, .int .i64 a5, .int .i64 a6, .int .i64 a7, .int .i64 a8, .int .i64 a9, .int .i64 a10, .int .i64 a11] := Blk.step (by (with_reducible (repeat (first | assumption | exact Blk.new' (by simp) | apply Blk.drewN | apply Blk.drew | apply Blk.alloc | (refine Blk.far ?_ (by (try simp) <;> omega) _))))) hb_3
  have c_3_L_0 : w_3.cell? ⟨b_L, 0, none⟩ = some (.int .i32 1) := k_3_L.cell 0
  have c_3_L_1 : w_3.cell? ⟨b_L, 1, none⟩ = some (.int .u32 0) := k_3_L.cell 1
  have c_3_L_2 : w_3.cell? ⟨b_L, 2, none⟩ = some (.slice (some ⟨g, 0, none⟩) n c) := k_3_L.cell 2
  have c_3_L_3 : w_3.cell? ⟨b_L, 3, none⟩ = some (.int .i64 a0) := k_3_L.cell 3
  have c_3_L_4 : w_3.cell? ⟨b_L, 4, none⟩ = some (.int .i64 a1) := k_3_L.cell 4
  have c_3_L_5 : w_3.cell? ⟨b_L, 5, none⟩ = some (.int .i64 a2) := k_3_L.cell 5
  have c_3_L_6 : w_3.cell? ⟨b_L, 6, none⟩ = some (.int .i64 a3) := k_3_L.cell 6
  have c_3_L_7 : w_3.cell? ⟨b_L, 7, none⟩ = some (.int .i64 a4) := k_3_L.cell 7
  have c_3_L_8 : w_3.cell? ⟨b_L, 8, none⟩ = some (.slice (some ⟨h, 0, none⟩) m d) := k_3_L.cell 8
  have c_3_L_9 : w_3.cell? ⟨b_L, 9, none⟩ = some (.int .i64 a5) := k_3_L.cell 9
  have c_3_L_10 : w_3.cell? ⟨b_L, 10, none⟩ = some (.int .i64 a6) := k_3_L.cell 10
  have c_3_L_11 : w_3.cell? ⟨b_L, 11, none⟩ = some (.int .i64 a7) := k_3_L.cell 11
  have c_3_L_12 : w_3.cell? ⟨b_L, 12, none⟩ = some (.int .i64 a8) := k_3_L.cell 12
  have c_3_L_13 : w_3.cell? ⟨b_L, 13, none⟩ = some (.int .i64 a9) := k_3_L.cell 13
  have c_3_L_14 : w_3.cell? ⟨b_L, 14, none⟩ = some (.int .i64 a10) := k_3_L.cell 14
  have c_3_L_15 : w_3.cell? ⟨b_L, 15, none⟩ = some (.int .i64 a11) := k_3_L.cell 15
  have l_3_L := k_3_L.lt
  have z_3_L := k_3_L.frozen
  have k_3_R : Blk w_3 b_R 45 #[.slice none 0 0, .int .i64 0, .int .i64 0, .int .i64 0, .int .i64 0, .int .i64 0, .slice none 0 0, .int .i64 0, .int .i64 0, .int .i64 0, .int .i64 0, .int .i64 0, .int .i64 0, .int .i64 0] := Blk.step (by (with_reducible (repeat (first | assumption | exact Blk.new' (by simp) | apply Blk.drewN | apply Blk.drew | apply Blk.alloc | (refine Blk.far ?_ (by (try simp) <;> omega) _))))) hb_3
  obtain ⟨c_3_R_0, c_3_R_1, c_3_R_2, c_3_R_3, c_3_R_4, c_3_R_5, c_3_R_6, c_3_R_7, c_3_R_8, c_3_R_9, c_3_R_10, c_3_R_11, c_3_R_12, c_3_R_13⟩ := cells14 k_3_R
  have l_3_R := k_3_R.lt
  have z_3_R := k_3_R.frozen
  have k_3_N : Blk w_3 b_N 45 #[.slice (some ⟨g, 0, none⟩) n c, .int .i64 a0, .int .i64 a1, .int .i64 a2, .int .i64 a3, .int .i64 a4, .slice (some ⟨h, 0, none⟩) m d, .int .i64 a5, .int .i64 a6, .int .i64 a7, .int .i64 a8, .int .i64 a9, .int .i64 a10, .int .i64 a11] := Blk.step (by (with_reducible (repeat (first | assumption | exact Blk.new' (by simp) | apply Blk.drewN | apply Blk.drew | apply Blk.alloc | (refine Blk.far ?_ (by (try simp) <;> omega) _))))) hb_3
  obtain ⟨c_3_N_0, c_3_N_1, c_3_N_2, c_3_N_3, c_3_N_4, c_3_N_5, c_3_N_6, c_3_N_7, c_3_N_8, c_3_N_9, c_3_N_10, c_3_N_11, c_3_N_12, c_3_N_13⟩ := cells14 k_3_N
  have l_3_N := k_3_N.lt
  have z_3_N := k_3_N.frozen
  clear i_2 k_2_L c_2_L_0 c_2_L_1 c_2_L_2 c_2_L_3 c_2_L_4 c_2_L_5 c_2_L_6 c_2_L_7 c_2_L_8 c_2_L_9 c_2_L_10 c_2_L_11 c_2_L_12 c_2_L_13 c_2_L_14 c_2_L_15 l_2_L z_2_L k_2_R c_2_R_0 c_2_R_1 c_2_R_2 c_2_R_3 c_2_R_4 c_2_R_5 c_2_R_6 c_2_R_7 c_2_R_8 c_2_R_9 c_2_R_10 c_2_R_11 c_2_R_12 c_2_R_13 l_2_R z_2_R k_2_N c_2_N_0 c_2_N_1 c_2_N_2 c_2_N_3 c_2_N_4 c_2_N_5 c_2_N_6 c_2_N_7 c_2_N_8 c_2_N_9 c_2_N_10 c_2_N_11 c_2_N_12 c_2_N_13 l_2_N z_2_N hb_2
  cases h1 : yOk n xs m ys a0 a1 a2 a3 a4 a5 a6 a7 a8 a9 a10 a11
  · go_wp2_with fail
    refine (i38Copy g n c xs h m d ys a0 a1 a2 a3 a4 a5 a6 a7 a8 a9 a10 a11 _ hn (by omega) (HX.out.in_ (by (repeat (first | exact In.refl _ | assumption | apply In.alloc | apply In.drewN | apply In.drew | (refine In.step ?_ (by assumption)))))) (HY.out.in_ (by (repeat (first | exact In.refl _ | assumption | apply In.alloc | apply In.drewN | apply In.drew | (refine In.step ?_ (by assumption))))))).mono ?_
    rintro _ w_4 ⟨gS_4, cS_4, gQ_4, cQ_4, rfl, hoS_4, hgS_4, hoQ_4, hgQ_4, hb_4⟩
    have GX_S : Hid (w.heap.size ≤ gS_4) := Lib.hid (by have h1 := hgS_4; (try simp at h1); have h2 := In.size i_3; omega)
    have o_4_S : OwnC w_4 gS_4 (n) cS_4 xs := hoS_4
    clear hoS_4 hgS_4
    have NE_S_Q : Hid (gS_4 ≠ gQ_4) := Lib.hid (ne_OwnC_OCEvent o_4_S hoQ_4)
    have GX_Q : Hid (w.heap.size ≤ gQ_4) := Lib.hid (by have h1 := hgQ_4; (try simp at h1); have h2 := In.size i_3; omega)
    have o_4_Q : OCEvent w_4 gQ_4 (m) cQ_4 ys := hoQ_4
    clear hoQ_4 hgQ_4
    have i_4 : In w.heap.size w w_4 := In.step (by (repeat (first | exact In.refl _ | assumption | apply In.alloc | apply In.drewN | apply In.drew | (refine In.step ?_ (by assumption))))) hb_4
    have k_4_L : Blk w_4 b_L 111 #[.int .i32 1, .int .u32 0, .slice (some ⟨g, 0, none⟩) n c, .int .i64 a0, .int .i64 a1, .int .i64 a2, .int .i64 a3, .int .i64 a4, .slice (some ⟨h, 0, none⟩) m d, .int .i64 a5, .int .i64 a6, .int .i64 a7, .int .i64 a8, .int .i64 a9, .int .i64 a10, .int .i64 a11] := Blk.step (by (with_reducible (repeat (first | assumption | exact Blk.new' (by simp) | apply Blk.drewN | apply Blk.drew | apply Blk.alloc | (refine Blk.far ?_ (by (try simp) <;> omega) _))))) hb_4
    have c_4_L_0 : w_4.cell? ⟨b_L, 0, none⟩ = some (.int .i32 1) := k_4_L.cell 0
    have c_4_L_1 : w_4.cell? ⟨b_L, 1, none⟩ = some (.int .u32 0) := k_4_L.cell 1
    have c_4_L_2 : w_4.cell? ⟨b_L, 2, none⟩ = some (.slice (some ⟨g, 0, none⟩) n c) := k_4_L.cell 2
    have c_4_L_3 : w_4.cell? ⟨b_L, 3, none⟩ = some (.int .i64 a0) := k_4_L.cell 3
    have c_4_L_4 : w_4.cell? ⟨b_L, 4, none⟩ = some (.int .i64 a1) := k_4_L.cell 4
    have c_4_L_5 : w_4.cell? ⟨b_L, 5, none⟩ = some (.int .i64 a2) := k_4_L.cell 5
    have c_4_L_6 : w_4.cell? ⟨b_L, 6, none⟩ = some (.int .i64 a3) := k_4_L.cell 6
    have c_4_L_7 : w_4.cell? ⟨b_L, 7, none⟩ = some (.int .i64 a4) := k_4_L.cell 7
    have c_4_L_8 : w_4.cell? ⟨b_L, 8, none⟩ = some (.slice (some ⟨h, 0, none⟩) m d) := k_4_L.cell 8
    have c_4_L_9 : w_4.cell? ⟨b_L, 9, none⟩ = some (.int .i64 a5) := k_4_L.cell 9
    have c_4_L_10 : w_4.cell? ⟨b_L, 10, none⟩ = some (.int .i64 a6) := k_4_L.cell 10
    have c_4_L_11 : w_4.cell? ⟨b_L, 11, none⟩ = some (.int .i64 a7) := k_4_L.cell 11
    have c_4_L_12 : w_4.cell? ⟨b_L, 12, none⟩ = some (.int .i64 a8) := k_4_L.cell 12
    have c_4_L_13 : w_4.cell? ⟨b_L, 13, none⟩ = some (.int .i64 a9) := k_4_L.cell 13
    have c_4_L_14 : w_4.cell? ⟨b_L, 14, none⟩ = some (.int .i64 a10) := k_4_L.cell 14
    have c_4_L_15 : w_4.cell? ⟨b_L, 15, none⟩ = some (.int .i64 a11) := k_4_L.cell 15
    have l_4_L := k_4_L.lt
    have z_4_L := k_4_L.frozen
    have k_4_R : Blk w_4 b_R 45 #[.slice none 0 0, .int .i64 0, .int .i64 0, .int .i64 0, .int .i64 0, .int .i64 0, .slice none 0 0, .int .i64 0, .int .i64 0, .int .i64 0, .int .i64 0, .int .i64 0, .int .i64 0, .int .i64 0] := Blk.step (by (with_reducible (repeat (first | assumption | exact Blk.new' (by simp) | apply Blk.drewN | apply Blk.drew | apply Blk.alloc | (refine Blk.far ?_ (by (try simp) <;> omega) _))))) hb_4
    obtain ⟨c_4_R_0, c_4_R_1, c_4_R_2, c_4_R_3, c_4_R_4, c_4_R_5, c_4_R_6, c_4_R_7, c_4_R_8, c_4_R_9, c_4_R_10, c_4_R_11, c_4_R_12, c_4_R_13⟩ := cells14 k_4_R
    have l_4_R := k_4_R.lt
    have z_4_R := k_4_R.frozen
    have k_4_N : Blk w_4 b_N 45 #[.slice (some ⟨g, 0, none⟩) n c, .int .i64 a0, .int .i64 a1, .int .i64 a2, .int .i64 a3, .int .i64 a4, .slice (some ⟨h, 0, none⟩) m d, .int .i64 a5, .int .i64 a6, .int .i64 a7, .int .i64 a8, .int .i64 a9, .int .i64 a10, .int .i64 a11] := Blk.step (by (with_reducible (repeat (first | assumption | exact Blk.new' (by simp) | apply Blk.drewN | apply Blk.drew | apply Blk.alloc | (refine Blk.far ?_ (by (try simp) <;> omega) _))))) hb_4
    obtain ⟨c_4_N_0, c_4_N_1, c_4_N_2, c_4_N_3, c_4_N_4, c_4_N_5, c_4_N_6, c_4_N_7, c_4_N_8, c_4_N_9, c_4_N_10, c_4_N_11, c_4_N_12, c_4_N_13⟩ := cells14 k_4_N
    have l_4_N := k_4_N.lt
    have z_4_N := k_4_N.frozen
    clear i_3 k_3_L c_3_L_0 c_3_L_1 c_3_L_2 c_3_L_3 c_3_L_4 c_3_L_5 c_3_L_6 c_3_L_7 c_3_L_8 c_3_L_9 c_3_L_10 c_3_L_11 c_3_L_12 c_3_L_13 c_3_L_14 c_3_L_15 l_3_L z_3_L k_3_R c_3_R_0 c_3_R_1 c_3_R_2 c_3_R_3 c_3_R_4 c_3_R_5 c_3_R_6 c_3_R_7 c_3_R_8 c_3_R_9 c_3_R_10 c_3_R_11 c_3_R_12 c_3_R_13 l_3_R z_3_R k_3_N c_3_N_0 c_3_N_1 c_3_N_2 c_3_N_3 c_3_N_4 c_3_N_5 c_3_N_6 c_3_N_7 c_3_N_8 c_3_N_9 c_3_N_10 c_3_N_11 c_3_N_12 c_3_N_13 l_3_N z_3_N hb_3
    have hn1_R_L : b_L ≠ b_R := by first | exact NB_L_R.out | exact NB_R_L.out.symm
    have hn2_R_L : b_R ≠ b_L := hn1_R_L.symm
    have hn1_R_N : b_N ≠ b_R := by first | exact NB_N_R.out | exact NB_R_N.out.symm
    have hn2_R_N : b_R ≠ b_N := hn1_R_N.symm
    go_wp2_with fail
    have kf_L : Blk ((((((((((((((w_4.setCell ⟨b_R, 0, none⟩ (.slice (some ⟨gS_4, 0, none⟩) n cS_4)).setCell ⟨b_R, 1, none⟩ (.int .i64 a0)).setCell ⟨b_R, 2, none⟩ (.int .i64 a1)).setCell ⟨b_R, 3, none⟩ (.int .i64 a2)).setCell ⟨b_R, 4, none⟩ (.int .i64 a3)).setCell ⟨b_R, 5, none⟩ (.int .i64 a4)).setCell ⟨b_R, 6, none⟩ (.slice (some ⟨gQ_4, 0, none⟩) m cQ_4)).setCell ⟨b_R, 7, none⟩ (.int .i64 a5)).setCell ⟨b_R, 8, none⟩ (.int .i64 a6)).setCell ⟨b_R, 9, none⟩ (.int .i64 a7)).setCell ⟨b_R, 10, none⟩ (.int .i64 a8)).setCell ⟨b_R, 11, none⟩ (.int .i64 a9)).setCell ⟨b_R, 12, none⟩ (.int .i64 a10)).setCell ⟨b_R, 13, none⟩ (.int .i64 a11)) b_L 111 #[.int .i32 1, .int .u32 0, .slice (some ⟨g, 0, none⟩) n c, .int .i64 a0, .int .i64 a1, .int .i64 a2, .int .i64 a3, .int .i64 a4, .slice (some ⟨h, 0, none⟩) m d, .int .i64 a5, .int .i64 a6, .int .i64 a7, .int .i64 a8, .int .i64 a9, .int .i64 a10, .int .i64 a11] := by
      have h := (Blk.far (Blk.far (Blk.far (Blk.far (Blk.far (Blk.far (Blk.far (Blk.far (Blk.far (Blk.far (Blk.far (Blk.far (Blk.far (Blk.far k_4_L (p := ⟨b_R, 0, none⟩) (by first | exact NB_L_R.out | exact NB_R_L.out.symm) (.slice (some ⟨gS_4, 0, none⟩) n cS_4)) (p := ⟨b_R, 1, none⟩) (by first | exact NB_L_R.out | exact NB_R_L.out.symm) (.int .i64 a0)) (p := ⟨b_R, 2, none⟩) (by first | exact NB_L_R.out | exact NB_R_L.out.symm) (.int .i64 a1)) (p := ⟨b_R, 3, none⟩) (by first | exact NB_L_R.out | exact NB_R_L.out.symm) (.int .i64 a2)) (p := ⟨b_R, 4, none⟩) (by first | exact NB_L_R.out | exact NB_R_L.out.symm) (.int .i64 a3)) (p := ⟨b_R, 5, none⟩) (by first | exact NB_L_R.out | exact NB_R_L.out.symm) (.int .i64 a4)) (p := ⟨b_R, 6, none⟩) (by first | exact NB_L_R.out | exact NB_R_L.out.symm) (.slice (some ⟨gQ_4, 0, none⟩) m cQ_4)) (p := ⟨b_R, 7, none⟩) (by first | exact NB_L_R.out | exact NB_R_L.out.symm) (.int .i64 a5)) (p := ⟨b_R, 8, none⟩) (by first | exact NB_L_R.out | exact NB_R_L.out.symm) (.int .i64 a6)) (p := ⟨b_R, 9, none⟩) (by first | exact NB_L_R.out | exact NB_R_L.out.symm) (.int .i64 a7)) (p := ⟨b_R, 10, none⟩) (by first | exact NB_L_R.out | exact NB_R_L.out.symm) (.int .i64 a8)) (p := ⟨b_R, 11, none⟩) (by first | exact NB_L_R.out | exact NB_R_L.out.symm) (.int .i64 a9)) (p := ⟨b_R, 12, none⟩) (by first | exact NB_L_R.out | exact NB_R_L.out.symm) (.int .i64 a10)) (p := ⟨b_R, 13, none⟩) (by first | exact NB_L_R.out | exact NB_R_L.out.symm) (.int .i64 a11))
      simpa using h
    have kf_R : Blk ((((((((((((((w_4.setCell ⟨b_R, 0, none⟩ (.slice (some ⟨gS_4, 0, none⟩) n cS_4)).setCell ⟨b_R, 1, none⟩ (.int .i64 a0)).setCell ⟨b_R, 2, none⟩ (.int .i64 a1)).setCell ⟨b_R, 3, none⟩ (.int .i64 a2)).setCell ⟨b_R, 4, none⟩ (.int .i64 a3)).setCell ⟨b_R, 5, none⟩ (.int .i64 a4)).setCell ⟨b_R, 6, none⟩ (.slice (some ⟨gQ_4, 0, none⟩) m cQ_4)).setCell ⟨b_R, 7, none⟩ (.int .i64 a5)).setCell ⟨b_R, 8, none⟩ (.int .i64 a6)).setCell ⟨b_R, 9, none⟩ (.int .i64 a7)).setCell ⟨b_R, 10, none⟩ (.int .i64 a8)).setCell ⟨b_R, 11, none⟩ (.int .i64 a9)).setCell ⟨b_R, 12, none⟩ (.int .i64 a10)).setCell ⟨b_R, 13, none⟩ (.int .i64 a11)) b_R 45 #[.slice (some ⟨gS_4, 0, none⟩) n cS_4, .int .i64 a0, .int .i64 a1, .int .i64 a2, .int .i64 a3, .int .i64 a4, .slice (some ⟨gQ_4, 0, none⟩) m cQ_4, .int .i64 a5, .int .i64 a6, .int .i64 a7, .int .i64 a8, .int .i64 a9, .int .i64 a10, .int .i64 a11] := by
      have h := ((((((((((((((k_4_R.set_ 0 (.slice (some ⟨gS_4, 0, none⟩) n cS_4)).set_ 1 (.int .i64 a0)).set_ 2 (.int .i64 a1)).set_ 3 (.int .i64 a2)).set_ 4 (.int .i64 a3)).set_ 5 (.int .i64 a4)).set_ 6 (.slice (some ⟨gQ_4, 0, none⟩) m cQ_4)).set_ 7 (.int .i64 a5)).set_ 8 (.int .i64 a6)).set_ 9 (.int .i64 a7)).set_ 10 (.int .i64 a8)).set_ 11 (.int .i64 a9)).set_ 12 (.int .i64 a10)).set_ 13 (.int .i64 a11))
      simpa using h
    have kf_N : Blk ((((((((((((((w_4.setCell ⟨b_R, 0, none⟩ (.slice (some ⟨gS_4, 0, none⟩) n cS_4)).setCell ⟨b_R, 1, none⟩ (.int .i64 a0)).setCell ⟨b_R, 2, none⟩ (.int .i64 a1)).setCell ⟨b_R, 3, none⟩ (.int .i64 a2)).setCell ⟨b_R, 4, none⟩ (.int .i64 a3)).setCell ⟨b_R, 5, none⟩ (.int .i64 a4)).setCell ⟨b_R, 6, none⟩ (.slice (some ⟨gQ_4, 0, none⟩) m cQ_4)).setCell ⟨b_R, 7, none⟩ (.int .i64 a5)).setCell ⟨b_R, 8, none⟩ (.int .i64 a6)).setCell ⟨b_R, 9, none⟩ (.int .i64 a7)).setCell ⟨b_R, 10, none⟩ (.int .i64 a8)).setCell ⟨b_R, 11, none⟩ (.int .i64 a9)).setCell ⟨b_R, 12, none⟩ (.int .i64 a10)).setCell ⟨b_R, 13, none⟩ (.int .i64 a11)) b_N 45 #[.slice (some ⟨g, 0, none⟩) n c, .int .i64 a0, .int .i64 a1, .int .i64 a2, .int .i64 a3, .int .i64 a4, .slice (some ⟨h, 0, none⟩) m d, .int .i64 a5, .int .i64 a6, .int .i64 a7, .int .i64 a8, .int .i64 a9, .int .i64 a10, .int .i64 a11] := by
      have h := (Blk.far (Blk.far (Blk.far (Blk.far (Blk.far (Blk.far (Blk.far (Blk.far (Blk.far (Blk.far (Blk.far (Blk.far (Blk.far (Blk.far k_4_N (p := ⟨b_R, 0, none⟩) (by first | exact NB_N_R.out | exact NB_R_N.out.symm) (.slice (some ⟨gS_4, 0, none⟩) n cS_4)) (p := ⟨b_R, 1, none⟩) (by first | exact NB_N_R.out | exact NB_R_N.out.symm) (.int .i64 a0)) (p := ⟨b_R, 2, none⟩) (by first | exact NB_N_R.out | exact NB_R_N.out.symm) (.int .i64 a1)) (p := ⟨b_R, 3, none⟩) (by first | exact NB_N_R.out | exact NB_R_N.out.symm) (.int .i64 a2)) (p := ⟨b_R, 4, none⟩) (by first | exact NB_N_R.out | exact NB_R_N.out.symm) (.int .i64 a3)) (p := ⟨b_R, 5, none⟩) (by first | exact NB_N_R.out | exact NB_R_N.out.symm) (.int .i64 a4)) (p := ⟨b_R, 6, none⟩) (by first | exact NB_N_R.out | exact NB_R_N.out.symm) (.slice (some ⟨gQ_4, 0, none⟩) m cQ_4)) (p := ⟨b_R, 7, none⟩) (by first | exact NB_N_R.out | exact NB_R_N.out.symm) (.int .i64 a5)) (p := ⟨b_R, 8, none⟩) (by first | exact NB_N_R.out | exact NB_R_N.out.symm) (.int .i64 a6)) (p := ⟨b_R, 9, none⟩) (by first | exact NB_N_R.out | exact NB_R_N.out.symm) (.int .i64 a7)) (p := ⟨b_R, 10, none⟩) (by first | exact NB_N_R.out | exact NB_R_N.out.symm) (.int .i64 a8)) (p := ⟨b_R, 11, none⟩) (by first | exact NB_N_R.out | exact NB_R_N.out.symm) (.int .i64 a9)) (p := ⟨b_R, 12, none⟩) (by first | exact NB_N_R.out | exact NB_R_N.out.symm) (.int .i64 a10)) (p := ⟨b_R, 13, none⟩) (by first | exact NB_N_R.out | exact NB_R_N.out.symm) (.int .i64 a11))
      simpa using h
    have fo_S : OwnC ((((((((((((((w_4.setCell ⟨b_R, 0, none⟩ (.slice (some ⟨gS_4, 0, none⟩) n cS_4)).setCell ⟨b_R, 1, none⟩ (.int .i64 a0)).setCell ⟨b_R, 2, none⟩ (.int .i64 a1)).setCell ⟨b_R, 3, none⟩ (.int .i64 a2)).setCell ⟨b_R, 4, none⟩ (.int .i64 a3)).setCell ⟨b_R, 5, none⟩ (.int .i64 a4)).setCell ⟨b_R, 6, none⟩ (.slice (some ⟨gQ_4, 0, none⟩) m cQ_4)).setCell ⟨b_R, 7, none⟩ (.int .i64 a5)).setCell ⟨b_R, 8, none⟩ (.int .i64 a6)).setCell ⟨b_R, 9, none⟩ (.int .i64 a7)).setCell ⟨b_R, 10, none⟩ (.int .i64 a8)).setCell ⟨b_R, 11, none⟩ (.int .i64 a9)).setCell ⟨b_R, 12, none⟩ (.int .i64 a10)).setCell ⟨b_R, 13, none⟩ (.int .i64 a11)) gS_4 (n) cS_4 xs := OwnC.far o_4_S k_4_R (by decide) only14
    have fo_Q : OCEvent ((((((((((((((w_4.setCell ⟨b_R, 0, none⟩ (.slice (some ⟨gS_4, 0, none⟩) n cS_4)).setCell ⟨b_R, 1, none⟩ (.int .i64 a0)).setCell ⟨b_R, 2, none⟩ (.int .i64 a1)).setCell ⟨b_R, 3, none⟩ (.int .i64 a2)).setCell ⟨b_R, 4, none⟩ (.int .i64 a3)).setCell ⟨b_R, 5, none⟩ (.int .i64 a4)).setCell ⟨b_R, 6, none⟩ (.slice (some ⟨gQ_4, 0, none⟩) m cQ_4)).setCell ⟨b_R, 7, none⟩ (.int .i64 a5)).setCell ⟨b_R, 8, none⟩ (.int .i64 a6)).setCell ⟨b_R, 9, none⟩ (.int .i64 a7)).setCell ⟨b_R, 10, none⟩ (.int .i64 a8)).setCell ⟨b_R, 11, none⟩ (.int .i64 a9)).setCell ⟨b_R, 12, none⟩ (.int .i64 a10)).setCell ⟨b_R, 13, none⟩ (.int .i64 a11)) gQ_4 (m) cQ_4 ys := OCEvent.far o_4_Q k_4_R (by decide) only14
    have ii_5 : In w.heap.size w ((((((((((((((w_4.setCell ⟨b_R, 0, none⟩ (.slice (some ⟨gS_4, 0, none⟩) n cS_4)).setCell ⟨b_R, 1, none⟩ (.int .i64 a0)).setCell ⟨b_R, 2, none⟩ (.int .i64 a1)).setCell ⟨b_R, 3, none⟩ (.int .i64 a2)).setCell ⟨b_R, 4, none⟩ (.int .i64 a3)).setCell ⟨b_R, 5, none⟩ (.int .i64 a4)).setCell ⟨b_R, 6, none⟩ (.slice (some ⟨gQ_4, 0, none⟩) m cQ_4)).setCell ⟨b_R, 7, none⟩ (.int .i64 a5)).setCell ⟨b_R, 8, none⟩ (.int .i64 a6)).setCell ⟨b_R, 9, none⟩ (.int .i64 a7)).setCell ⟨b_R, 10, none⟩ (.int .i64 a8)).setCell ⟨b_R, 11, none⟩ (.int .i64 a9)).setCell ⟨b_R, 12, none⟩ (.int .i64 a10)).setCell ⟨b_R, 13, none⟩ (.int .i64 a11)) := ins14 i_4 hwb_R
    generalize ((((((((((((((w_4.setCell ⟨b_R, 0, none⟩ (.slice (some ⟨gS_4, 0, none⟩) n cS_4)).setCell ⟨b_R, 1, none⟩ (.int .i64 a0)).setCell ⟨b_R, 2, none⟩ (.int .i64 a1)).setCell ⟨b_R, 3, none⟩ (.int .i64 a2)).setCell ⟨b_R, 4, none⟩ (.int .i64 a3)).setCell ⟨b_R, 5, none⟩ (.int .i64 a4)).setCell ⟨b_R, 6, none⟩ (.slice (some ⟨gQ_4, 0, none⟩) m cQ_4)).setCell ⟨b_R, 7, none⟩ (.int .i64 a5)).setCell ⟨b_R, 8, none⟩ (.int .i64 a6)).setCell ⟨b_R, 9, none⟩ (.int .i64 a7)).setCell ⟨b_R, 10, none⟩ (.int .i64 a8)).setCell ⟨b_R, 11, none⟩ (.int .i64 a9)).setCell ⟨b_R, 12, none⟩ (.int .i64 a10)).setCell ⟨b_R, 13, none⟩ (.int .i64 a11)) = w_5 at *
    clear hn1_R_L hn2_R_L hn1_R_N hn2_R_N
    have i_5 : In w.heap.size w w_5 := ii_5
    have k_5_L : Blk w_5 b_L 111 #[.int .i32 1, .int .u32 0, .slice (some ⟨g, 0, none⟩) n c, .int .i64 a0, .int .i64 a1, .int .i64 a2, .int .i64 a3, .int .i64 a4, .slice (some ⟨h, 0, none⟩) m d, .int .i64 a5, .int .i64 a6, .int .i64 a7, .int .i64 a8, .int .i64 a9, .int .i64 a10, .int .i64 a11] := kf_L
    have c_5_L_0 : w_5.cell? ⟨b_L, 0, none⟩ = some (.int .i32 1) := k_5_L.cell 0
    have c_5_L_1 : w_5.cell? ⟨b_L, 1, none⟩ = some (.int .u32 0) := k_5_L.cell 1
    have c_5_L_2 : w_5.cell? ⟨b_L, 2, none⟩ = some (.slice (some ⟨g, 0, none⟩) n c) := k_5_L.cell 2
    have c_5_L_3 : w_5.cell? ⟨b_L, 3, none⟩ = some (.int .i64 a0) := k_5_L.cell 3
    have c_5_L_4 : w_5.cell? ⟨b_L, 4, none⟩ = some (.int .i64 a1) := k_5_L.cell 4
    have c_5_L_5 : w_5.cell? ⟨b_L, 5, none⟩ = some (.int .i64 a2) := k_5_L.cell 5
    have c_5_L_6 : w_5.cell? ⟨b_L, 6, none⟩ = some (.int .i64 a3) := k_5_L.cell 6
    have c_5_L_7 : w_5.cell? ⟨b_L, 7, none⟩ = some (.int .i64 a4) := k_5_L.cell 7
    have c_5_L_8 : w_5.cell? ⟨b_L, 8, none⟩ = some (.slice (some ⟨h, 0, none⟩) m d) := k_5_L.cell 8
    have c_5_L_9 : w_5.cell? ⟨b_L, 9, none⟩ = some (.int .i64 a5) := k_5_L.cell 9
    have c_5_L_10 : w_5.cell? ⟨b_L, 10, none⟩ = some (.int .i64 a6) := k_5_L.cell 10
    have c_5_L_11 : w_5.cell? ⟨b_L, 11, none⟩ = some (.int .i64 a7) := k_5_L.cell 11
    have c_5_L_12 : w_5.cell? ⟨b_L, 12, none⟩ = some (.int .i64 a8) := k_5_L.cell 12
    have c_5_L_13 : w_5.cell? ⟨b_L, 13, none⟩ = some (.int .i64 a9) := k_5_L.cell 13
    have c_5_L_14 : w_5.cell? ⟨b_L, 14, none⟩ = some (.int .i64 a10) := k_5_L.cell 14
    have c_5_L_15 : w_5.cell? ⟨b_L, 15, none⟩ = some (.int .i64 a11) := k_5_L.cell 15
    have l_5_L := k_5_L.lt
    have z_5_L := k_5_L.frozen
    have k_5_R : Blk w_5 b_R 45 #[.slice (some ⟨gS_4, 0, none⟩) n cS_4, .int .i64 a0, .int .i64 a1, .int .i64 a2, .int .i64 a3, .int .i64 a4, .slice (some ⟨gQ_4, 0, none⟩) m cQ_4, .int .i64 a5, .int .i64 a6, .int .i64 a7, .int .i64 a8, .int .i64 a9, .int .i64 a10, .int .i64 a11] := kf_R
    obtain ⟨c_5_R_0, c_5_R_1, c_5_R_2, c_5_R_3, c_5_R_4, c_5_R_5, c_5_R_6, c_5_R_7, c_5_R_8, c_5_R_9, c_5_R_10, c_5_R_11, c_5_R_12, c_5_R_13⟩ := cells14 k_5_R
    have l_5_R := k_5_R.lt
    have z_5_R := k_5_R.frozen
    have k_5_N : Blk w_5 b_N 45 #[.slice (some ⟨g, 0, none⟩) n c, .int .i64 a0, .int .i64 a1, .int .i64 a2, .int .i64 a3, .int .i64 a4, .slice (some ⟨h, 0, none⟩) m d, .int .i64 a5, .int .i64 a6, .int .i64 a7, .int .i64 a8, .int .i64 a9, .int .i64 a10, .int .i64 a11] := kf_N
    obtain ⟨c_5_N_0, c_5_N_1, c_5_N_2, c_5_N_3, c_5_N_4, c_5_N_5, c_5_N_6, c_5_N_7, c_5_N_8, c_5_N_9, c_5_N_10, c_5_N_11, c_5_N_12, c_5_N_13⟩ := cells14 k_5_N
    have l_5_N := k_5_N.lt
    have z_5_N := k_5_N.frozen
    have o_5_S : OwnC w_5 gS_4 (n) cS_4 xs := fo_S
    have o_5_Q : OCEvent w_5 gQ_4 (m) cQ_4 ys := fo_Q
    clear i_4 k_4_L c_4_L_0 c_4_L_1 c_4_L_2 c_4_L_3 c_4_L_4 c_4_L_5 c_4_L_6 c_4_L_7 c_4_L_8 c_4_L_9 c_4_L_10 c_4_L_11 c_4_L_12 c_4_L_13 c_4_L_14 c_4_L_15 l_4_L z_4_L k_4_R c_4_R_0 c_4_R_1 c_4_R_2 c_4_R_3 c_4_R_4 c_4_R_5 c_4_R_6 c_4_R_7 c_4_R_8 c_4_R_9 c_4_R_10 c_4_R_11 c_4_R_12 c_4_R_13 l_4_R z_4_R k_4_N c_4_N_0 c_4_N_1 c_4_N_2 c_4_N_3 c_4_N_4 c_4_N_5 c_4_N_6 c_4_N_7 c_4_N_8 c_4_N_9 c_4_N_10 c_4_N_11 c_4_N_12 c_4_N_13 l_4_N z_4_N o_4_S o_4_Q hb_4
    clear ii_5 kf_L kf_R kf_N fo_S fo_Q
    rw [← HFI.out (yOk n xs m ys a0 a1 a2 a3 a4 a5 a6 a7 a8 a9 a10 a11 && (fl && ok2)) (by simp [h1])]
    refine leaves_cons (f := 95) (args := #[.pointer (some ⟨b_L, 0, none⟩)]) (by simp) (by simp [go_sem]) ?_
    refine (cUnlock ⟨b_L, 0, none⟩ .returning w_5 c_5_L_0 (k_5_L.frozen 0)).mono ?_
    rintro e9 u9 w9 ⟨rfl, rfl, rfl⟩
    have kE : Blk (w_5.setCell ⟨b_L, 0, none⟩ (.int .i32 0)) b_R 45 #[.slice (some ⟨gS_4, 0, none⟩) n cS_4, .int .i64 a0, .int .i64 a1, .int .i64 a2, .int .i64 a3, .int .i64 a4, .slice (some ⟨gQ_4, 0, none⟩) m cQ_4, .int .i64 a5, .int .i64 a6, .int .i64 a7, .int .i64 a8, .int .i64 a9, .int .i64 a10, .int .i64 a11] := Blk.far k_5_R (p := ⟨b_L, 0, none⟩) (NB_L_R.out.symm) _
    have iE : In w.heap.size w (w_5.setCell ⟨b_L, 0, none⟩ (.int .i32 0)) := In.set_ i_5 (p := ⟨b_L, 0, none⟩) hwb_L _
    have OS : Hid (OwnC (w_5.setCell ⟨b_L, 0, none⟩ (.int .i32 0)) gS_4 (n) cS_4 xs) := Lib.hid (OwnC.far o_5_S k_5_L (by decide) (only_set _ _))
    have OQ : Hid (OCEvent (w_5.setCell ⟨b_L, 0, none⟩ (.int .i32 0)) gQ_4 (m) cQ_4 ys) := Lib.hid (OCEvent.far o_5_Q k_5_L (by decide) (only_set _ _))
    have e0 := kE.cell 0
    simp only [List.getElem?_toArray, List.getElem?_cons_zero, List.getElem?_cons_succ] at e0
    have e1 := kE.cell 1
    simp only [List.getElem?_toArray, List.getElem?_cons_zero, List.getElem?_cons_succ] at e1
    have e2 := kE.cell 2
    simp only [List.getElem?_toArray, List.getElem?_cons_zero, List.getElem?_cons_succ] at e2
    have e3 := kE.cell 3
    simp only [List.getElem?_toArray, List.getElem?_cons_zero, List.getElem?_cons_succ] at e3
    have e4 := kE.cell 4
    simp only [List.getElem?_toArray, List.getElem?_cons_zero, List.getElem?_cons_succ] at e4
    have e5 := kE.cell 5
    simp only [List.getElem?_toArray, List.getElem?_cons_zero, List.getElem?_cons_succ] at e5
    have e6 := kE.cell 6
    simp only [List.getElem?_toArray, List.getElem?_cons_zero, List.getElem?_cons_succ] at e6
    have e7 := kE.cell 7
    simp only [List.getElem?_toArray, List.getElem?_cons_zero, List.getElem?_cons_succ] at e7
    have e8 := kE.cell 8
    simp only [List.getElem?_toArray, List.getElem?_cons_zero, List.getElem?_cons_succ] at e8
    have e9 := kE.cell 9
    simp only [List.getElem?_toArray, List.getElem?_cons_zero, List.getElem?_cons_succ] at e9
    have e10 := kE.cell 10
    simp only [List.getElem?_toArray, List.getElem?_cons_zero, List.getElem?_cons_succ] at e10
    have e11 := kE.cell 11
    simp only [List.getElem?_toArray, List.getElem?_cons_zero, List.getElem?_cons_succ] at e11
    have e12 := kE.cell 12
    simp only [List.getElem?_toArray, List.getElem?_cons_zero, List.getElem?_cons_succ] at e12
    have e13 := kE.cell 13
    simp only [List.getElem?_toArray, List.getElem?_cons_zero, List.getElem?_cons_succ] at e13
    simp [Leaves, settle, results, Try.results69, go_sem, e0, e1, e2, e3, e4, e5, e6, e7, e8, e9, e10, e11, e12, e13]
    exact rowYV_of rfl rfl rfl rfl rfl rfl rfl rfl rfl OS.out GX_S.out OQ.out GX_Q.out iE.below
  have H1 := Lib.hid h1
  clear h1
  have hF9 := HF9.out
  go_wp2_with fail
  clear hF9
  refine (HDO.out _ b_N (by (repeat (first | exact In.refl _ | assumption | apply In.alloc | apply In.drewN | apply In.drew | (refine In.step ?_ (by assumption))))) hwb_N k_3_N).mono ?_
  rintro _ w_4 ⟨gZ_4, cZ_4, rfl, kN9, hoZ, hgZ, hgr⟩
  have GX_Z : Hid (w.heap.size ≤ gZ_4) := Lib.hid (Nat.le_trans (In.size (B := w.heap.size) (a := w) i_3) hgZ)
  have i_4 : In w.heap.size w w_4 := In.wide i_3 (below_of_only hgr hwb_N (In.size (B := w.heap.size) (a := w) i_3))
  have o_4_Z : OCEvent w_4 gZ_4 (zs.length) cZ_4 zs := hoZ
  have k_4_L : Blk w_4 b_L 111 #[.int .i32 1, .int .u32 0, .slice (some ⟨g, 0, none⟩) n c, .int .i64 a0, .int .i64 a1, .int .i64 a2, .int .i64 a3, .int .i64 a4, .slice (some ⟨h, 0, none⟩) m d, .int .i64 a5, .int .i64 a6, .int .i64 a7, .int .i64 a8, .int .i64 a9, .int .i64 a10, .int .i64 a11] := Blk.grown k_3_L hgr (fun h9 => absurd (Option.some.inj h9) (by first | exact NB_L_N.out | exact NB_N_L.out.symm))
  have c_4_L_0 : w_4.cell? ⟨b_L, 0, none⟩ = some (.int .i32 1) := k_4_L.cell 0
  have c_4_L_1 : w_4.cell? ⟨b_L, 1, none⟩ = some (.int .u32 0) := k_4_L.cell 1
  have c_4_L_2 : w_4.cell? ⟨b_L, 2, none⟩ = some (.slice (some ⟨g, 0, none⟩) n c) := k_4_L.cell 2
  have c_4_L_3 : w_4.cell? ⟨b_L, 3, none⟩ = some (.int .i64 a0) := k_4_L.cell 3
  have c_4_L_4 : w_4.cell? ⟨b_L, 4, none⟩ = some (.int .i64 a1) := k_4_L.cell 4
  have c_4_L_5 : w_4.cell? ⟨b_L, 5, none⟩ = some (.int .i64 a2) := k_4_L.cell 5
  have c_4_L_6 : w_4.cell? ⟨b_L, 6, none⟩ = some (.int .i64 a3) := k_4_L.cell 6
  have c_4_L_7 : w_4.cell? ⟨b_L, 7, none⟩ = some (.int .i64 a4) := k_4_L.cell 7
  have c_4_L_8 : w_4.cell? ⟨b_L, 8, none⟩ = some (.slice (some ⟨h, 0, none⟩) m d) := k_4_L.cell 8
  have c_4_L_9 : w_4.cell? ⟨b_L, 9, none⟩ = some (.int .i64 a5) := k_4_L.cell 9
  have c_4_L_10 : w_4.cell? ⟨b_L, 10, none⟩ = some (.int .i64 a6) := k_4_L.cell 10
  have c_4_L_11 : w_4.cell? ⟨b_L, 11, none⟩ = some (.int .i64 a7) := k_4_L.cell 11
  have c_4_L_12 : w_4.cell? ⟨b_L, 12, none⟩ = some (.int .i64 a8) := k_4_L.cell 12
  have c_4_L_13 : w_4.cell? ⟨b_L, 13, none⟩ = some (.int .i64 a9) := k_4_L.cell 13
  have c_4_L_14 : w_4.cell? ⟨b_L, 14, none⟩ = some (.int .i64 a10) := k_4_L.cell 14
  have c_4_L_15 : w_4.cell? ⟨b_L, 15, none⟩ = some (.int .i64 a11) := k_4_L.cell 15
  have l_4_L := k_4_L.lt
  have z_4_L := k_4_L.frozen
  have k_4_R : Blk w_4 b_R 45 #[.slice none 0 0, .int .i64 0, .int .i64 0, .int .i64 0, .int .i64 0, .int .i64 0, .slice none 0 0, .int .i64 0, .int .i64 0, .int .i64 0, .int .i64 0, .int .i64 0, .int .i64 0, .int .i64 0] := Blk.grown k_3_R hgr (fun h9 => absurd (Option.some.inj h9) (by first | exact NB_R_N.out | exact NB_N_R.out.symm))
  obtain ⟨c_4_R_0, c_4_R_1, c_4_R_2, c_4_R_3, c_4_R_4, c_4_R_5, c_4_R_6, c_4_R_7, c_4_R_8, c_4_R_9, c_4_R_10, c_4_R_11, c_4_R_12, c_4_R_13⟩ := cells14 k_4_R
  have l_4_R := k_4_R.lt
  have z_4_R := k_4_R.frozen
  have k_4_N : Blk w_4 b_N 45 #[.slice (some ⟨g, 0, none⟩) n c, .int .i64 a0, .int .i64 a1, .int .i64 a2, .int .i64 a3, .int .i64 a4, .slice (some ⟨gZ_4, 0, none⟩) zs.length cZ_4, .int .i64 s0, .int .i64 s1, .int .i64 s2, .int .i64 s3, .int .i64 s4, .int .i64 s5, .int .i64 mo] := kN9
  obtain ⟨c_4_N_0, c_4_N_1, c_4_N_2, c_4_N_3, c_4_N_4, c_4_N_5, c_4_N_6, c_4_N_7, c_4_N_8, c_4_N_9, c_4_N_10, c_4_N_11, c_4_N_12, c_4_N_13⟩ := cells14 k_4_N
  have l_4_N := k_4_N.lt
  have z_4_N := k_4_N.frozen
  clear hgr kN9 hoZ hgZ
  clear i_3 k_3_L c_3_L_0 c_3_L_1 c_3_L_2 c_3_L_3 c_3_L_4 c_3_L_5 c_3_L_6 c_3_L_7 c_3_L_8 c_3_L_9 c_3_L_10 c_3_L_11 c_3_L_12 c_3_L_13 c_3_L_14 c_3_L_15 l_3_L z_3_L k_3_R c_3_R_0 c_3_R_1 c_3_R_2 c_3_R_3 c_3_R_4 c_3_R_5 c_3_R_6 c_3_R_7 c_3_R_8 c_3_R_9 c_3_R_10 c_3_R_11 c_3_R_12 c_3_R_13 l_3_R z_3_R k_3_N c_3_N_0 c_3_N_1 c_3_N_2 c_3_N_3 c_3_N_4 c_3_N_5 c_3_N_6 c_3_N_7 c_3_N_8 c_3_N_9 c_3_N_10 c_3_N_11 c_3_N_12 c_3_N_13 l_3_N z_3_N hb_3
  cases fl
  · go_wp2_with fail
    refine (i38Copy g n c xs h m d ys a0 a1 a2 a3 a4 a5 a6 a7 a8 a9 a10 a11 _ hn (by omega) (HX.out.in_ (by (repeat (first | exact In.refl _ | assumption | apply In.alloc | apply In.drewN | apply In.drew | (refine In.step ?_ (by assumption)))))) (HY.out.in_ (by (repeat (first | exact In.refl _ | assumption | apply In.alloc | apply In.drewN | apply In.drew | (refine In.step ?_ (by assumption))))))).mono ?_
    rintro _ w_5 ⟨gS_5, cS_5, gQ_5, cQ_5, rfl, hoS_5, hgS_5, hoQ_5, hgQ_5, hb_5⟩
    have NE_Z_S : Hid (gZ_4 ≠ gS_5) := Lib.hid (by have h1 := hgS_5; (try simp at h1); have h2 := OCEvent.lt o_4_Z; omega)
    have GX_S : Hid (w.heap.size ≤ gS_5) := Lib.hid (by have h1 := hgS_5; (try simp at h1); have h2 := In.size i_4; omega)
    have o_5_S : OwnC w_5 gS_5 (n) cS_5 xs := hoS_5
    clear hoS_5 hgS_5
    have NE_Z_Q : Hid (gZ_4 ≠ gQ_5) := Lib.hid (by have h1 := hgQ_5; (try simp at h1); have h2 := OCEvent.lt o_4_Z; omega)
    have NE_S_Q : Hid (gS_5 ≠ gQ_5) := Lib.hid (ne_OwnC_OCEvent o_5_S hoQ_5)
    have GX_Q : Hid (w.heap.size ≤ gQ_5) := Lib.hid (by have h1 := hgQ_5; (try simp at h1); have h2 := In.size i_4; omega)
    have o_5_Q : OCEvent w_5 gQ_5 (m) cQ_5 ys := hoQ_5
    clear hoQ_5 hgQ_5
    have i_5 : In w.heap.size w w_5 := In.step (by (repeat (first | exact In.refl _ | assumption | apply In.alloc | apply In.drewN | apply In.drew | (refine In.step ?_ (by assumption))))) hb_5
    have k_5_L : Blk w_5 b_L 111 #[.int .i32 1, .int .u32 0, .slice (some ⟨g, 0, none⟩) n c, .int .i64 a0, .int .i64 a1, .int .i64 a2, .int .i64 a3, .int .i64 a4, .slice (some ⟨h, 0, none⟩) m d, .int .i64 a5, .int .i64 a6, .int .i64 a7, .int .i64 a8, .int .i64 a9, .int .i64 a10, .int .i64 a11] := Blk.step (by (with_reducible (repeat (first | assumption | exact Blk.new' (by simp) | apply Blk.drewN | apply Blk.drew | apply Blk.alloc | (refine Blk.far ?_ (by (try simp) <;> omega) _))))) hb_5
    have c_5_L_0 : w_5.cell? ⟨b_L, 0, none⟩ = some (.int .i32 1) := k_5_L.cell 0
    have c_5_L_1 : w_5.cell? ⟨b_L, 1, none⟩ = some (.int .u32 0) := k_5_L.cell 1
    have c_5_L_2 : w_5.cell? ⟨b_L, 2, none⟩ = some (.slice (some ⟨g, 0, none⟩) n c) := k_5_L.cell 2
    have c_5_L_3 : w_5.cell? ⟨b_L, 3, none⟩ = some (.int .i64 a0) := k_5_L.cell 3
    have c_5_L_4 : w_5.cell? ⟨b_L, 4, none⟩ = some (.int .i64 a1) := k_5_L.cell 4
    have c_5_L_5 : w_5.cell? ⟨b_L, 5, none⟩ = some (.int .i64 a2) := k_5_L.cell 5
    have c_5_L_6 : w_5.cell? ⟨b_L, 6, none⟩ = some (.int .i64 a3) := k_5_L.cell 6
    have c_5_L_7 : w_5.cell? ⟨b_L, 7, none⟩ = some (.int .i64 a4) := k_5_L.cell 7
    have c_5_L_8 : w_5.cell? ⟨b_L, 8, none⟩ = some (.slice (some ⟨h, 0, none⟩) m d) := k_5_L.cell 8
    have c_5_L_9 : w_5.cell? ⟨b_L, 9, none⟩ = some (.int .i64 a5) := k_5_L.cell 9
    have c_5_L_10 : w_5.cell? ⟨b_L, 10, none⟩ = some (.int .i64 a6) := k_5_L.cell 10
    have c_5_L_11 : w_5.cell? ⟨b_L, 11, none⟩ = some (.int .i64 a7) := k_5_L.cell 11
    have c_5_L_12 : w_5.cell? ⟨b_L, 12, none⟩ = some (.int .i64 a8) := k_5_L.cell 12
    have c_5_L_13 : w_5.cell? ⟨b_L, 13, none⟩ = some (.int .i64 a9) := k_5_L.cell 13
    have c_5_L_14 : w_5.cell? ⟨b_L, 14, none⟩ = some (.int .i64 a10) := k_5_L.cell 14
    have c_5_L_15 : w_5.cell? ⟨b_L, 15, none⟩ = some (.int .i64 a11) := k_5_L.cell 15
    have l_5_L := k_5_L.lt
    have z_5_L := k_5_L.frozen
    have k_5_R : Blk w_5 b_R 45 #[.slice none 0 0, .int .i64 0, .int .i64 0, .int .i64 0, .int .i64 0, .int .i64 0, .slice none 0 0, .int .i64 0, .int .i64 0, .int .i64 0, .int .i64 0, .int .i64 0, .int .i64 0, .int .i64 0] := Blk.step (by (with_reducible (repeat (first | assumption | exact Blk.new' (by simp) | apply Blk.drewN | apply Blk.drew | apply Blk.alloc | (refine Blk.far ?_ (by (try simp) <;> omega) _))))) hb_5
    obtain ⟨c_5_R_0, c_5_R_1, c_5_R_2, c_5_R_3, c_5_R_4, c_5_R_5, c_5_R_6, c_5_R_7, c_5_R_8, c_5_R_9, c_5_R_10, c_5_R_11, c_5_R_12, c_5_R_13⟩ := cells14 k_5_R
    have l_5_R := k_5_R.lt
    have z_5_R := k_5_R.frozen
    have k_5_N : Blk w_5 b_N 45 #[.slice (some ⟨g, 0, none⟩) n c, .int .i64 a0, .int .i64 a1, .int .i64 a2, .int .i64 a3, .int .i64 a4, .slice (some ⟨gZ_4, 0, none⟩) zs.length cZ_4, .int .i64 s0, .int .i64 s1, .int .i64 s2, .int .i64 s3, .int .i64 s4, .int .i64 s5, .int .i64 mo] := Blk.step (by (with_reducible (repeat (first | assumption | exact Blk.new' (by simp) | apply Blk.drewN | apply Blk.drew | apply Blk.alloc | (refine Blk.far ?_ (by (try simp) <;> omega) _))))) hb_5
    obtain ⟨c_5_N_0, c_5_N_1, c_5_N_2, c_5_N_3, c_5_N_4, c_5_N_5, c_5_N_6, c_5_N_7, c_5_N_8, c_5_N_9, c_5_N_10, c_5_N_11, c_5_N_12, c_5_N_13⟩ := cells14 k_5_N
    have l_5_N := k_5_N.lt
    have z_5_N := k_5_N.frozen
    have o_5_Z : OCEvent w_5 gZ_4 (zs.length) cZ_4 zs := OCEvent.step (by with_reducible (repeat (first | assumption | apply OCEvent.drewN | apply OCEvent.drew | apply OCEvent.alloc))) hb_5
    clear i_4 o_4_Z k_4_L c_4_L_0 c_4_L_1 c_4_L_2 c_4_L_3 c_4_L_4 c_4_L_5 c_4_L_6 c_4_L_7 c_4_L_8 c_4_L_9 c_4_L_10 c_4_L_11 c_4_L_12 c_4_L_13 c_4_L_14 c_4_L_15 l_4_L z_4_L k_4_R c_4_R_0 c_4_R_1 c_4_R_2 c_4_R_3 c_4_R_4 c_4_R_5 c_4_R_6 c_4_R_7 c_4_R_8 c_4_R_9 c_4_R_10 c_4_R_11 c_4_R_12 c_4_R_13 l_4_R z_4_R k_4_N c_4_N_0 c_4_N_1 c_4_N_2 c_4_N_3 c_4_N_4 c_4_N_5 c_4_N_6 c_4_N_7 c_4_N_8 c_4_N_9 c_4_N_10 c_4_N_11 c_4_N_12 c_4_N_13 l_4_N z_4_N
    have hn1_R_L : b_L ≠ b_R := by first | exact NB_L_R.out | exact NB_R_L.out.symm
    have hn2_R_L : b_R ≠ b_L := hn1_R_L.symm
    have hn1_R_N : b_N ≠ b_R := by first | exact NB_N_R.out | exact NB_R_N.out.symm
    have hn2_R_N : b_R ≠ b_N := hn1_R_N.symm
    go_wp2_with fail
    have kf_L : Blk ((((((((((((((w_5.setCell ⟨b_R, 0, none⟩ (.slice (some ⟨gS_5, 0, none⟩) n cS_5)).setCell ⟨b_R, 1, none⟩ (.int .i64 a0)).setCell ⟨b_R, 2, none⟩ (.int .i64 a1)).setCell ⟨b_R, 3, none⟩ (.int .i64 a2)).setCell ⟨b_R, 4, none⟩ (.int .i64 a3)).setCell ⟨b_R, 5, none⟩ (.int .i64 a4)).setCell ⟨b_R, 6, none⟩ (.slice (some ⟨gQ_5, 0, none⟩) m cQ_5)).setCell ⟨b_R, 7, none⟩ (.int .i64 a5)).setCell ⟨b_R, 8, none⟩ (.int .i64 a6)).setCell ⟨b_R, 9, none⟩ (.int .i64 a7)).setCell ⟨b_R, 10, none⟩ (.int .i64 a8)).setCell ⟨b_R, 11, none⟩ (.int .i64 a9)).setCell ⟨b_R, 12, none⟩ (.int .i64 a10)).setCell ⟨b_R, 13, none⟩ (.int .i64 a11)) b_L 111 #[.int .i32 1, .int .u32 0, .slice (some ⟨g, 0, none⟩) n c, .int .i64 a0, .int .i64 a1, .int .i64 a2, .int .i64 a3, .int .i64 a4, .slice (some ⟨h, 0, none⟩) m d, .int .i64 a5, .int .i64 a6, .int .i64 a7, .int .i64 a8, .int .i64 a9, .int .i64 a10, .int .i64 a11] := by
      have h := (Blk.far (Blk.far (Blk.far (Blk.far (Blk.far (Blk.far (Blk.far (Blk.far (Blk.far (Blk.far (Blk.far (Blk.far (Blk.far (Blk.far k_5_L (p := ⟨b_R, 0, none⟩) (by first | exact NB_L_R.out | exact NB_R_L.out.symm) (.slice (some ⟨gS_5, 0, none⟩) n cS_5)) (p := ⟨b_R, 1, none⟩) (by first | exact NB_L_R.out | exact NB_R_L.out.symm) (.int .i64 a0)) (p := ⟨b_R, 2, none⟩) (by first | exact NB_L_R.out | exact NB_R_L.out.symm) (.int .i64 a1)) (p := ⟨b_R, 3, none⟩) (by first | exact NB_L_R.out | exact NB_R_L.out.symm) (.int .i64 a2)) (p := ⟨b_R, 4, none⟩) (by first | exact NB_L_R.out | exact NB_R_L.out.symm) (.int .i64 a3)) (p := ⟨b_R, 5, none⟩) (by first | exact NB_L_R.out | exact NB_R_L.out.symm) (.int .i64 a4)) (p := ⟨b_R, 6, none⟩) (by first | exact NB_L_R.out | exact NB_R_L.out.symm) (.slice (some ⟨gQ_5, 0, none⟩) m cQ_5)) (p := ⟨b_R, 7, none⟩) (by first | exact NB_L_R.out | exact NB_R_L.out.symm) (.int .i64 a5)) (p := ⟨b_R, 8, none⟩) (by first | exact NB_L_R.out | exact NB_R_L.out.symm) (.int .i64 a6)) (p := ⟨b_R, 9, none⟩) (by first | exact NB_L_R.out | exact NB_R_L.out.symm) (.int .i64 a7)) (p := ⟨b_R, 10, none⟩) (by first | exact NB_L_R.out | exact NB_R_L.out.symm) (.int .i64 a8)) (p := ⟨b_R, 11, none⟩) (by first | exact NB_L_R.out | exact NB_R_L.out.symm) (.int .i64 a9)) (p := ⟨b_R, 12, none⟩) (by first | exact NB_L_R.out | exact NB_R_L.out.symm) (.int .i64 a10)) (p := ⟨b_R, 13, none⟩) (by first | exact NB_L_R.out | exact NB_R_L.out.symm) (.int .i64 a11))
      simpa using h
    have kf_R : Blk ((((((((((((((w_5.setCell ⟨b_R, 0, none⟩ (.slice (some ⟨gS_5, 0, none⟩) n cS_5)).setCell ⟨b_R, 1, none⟩ (.int .i64 a0)).setCell ⟨b_R, 2, none⟩ (.int .i64 a1)).setCell ⟨b_R, 3, none⟩ (.int .i64 a2)).setCell ⟨b_R, 4, none⟩ (.int .i64 a3)).setCell ⟨b_R, 5, none⟩ (.int .i64 a4)).setCell ⟨b_R, 6, none⟩ (.slice (some ⟨gQ_5, 0, none⟩) m cQ_5)).setCell ⟨b_R, 7, none⟩ (.int .i64 a5)).setCell ⟨b_R, 8, none⟩ (.int .i64 a6)).setCell ⟨b_R, 9, none⟩ (.int .i64 a7)).setCell ⟨b_R, 10, none⟩ (.int .i64 a8)).setCell ⟨b_R, 11, none⟩ (.int .i64 a9)).setCell ⟨b_R, 12, none⟩ (.int .i64 a10)).setCell ⟨b_R, 13, none⟩ (.int .i64 a11)) b_R 45 #[.slice (some ⟨gS_5, 0, none⟩) n cS_5, .int .i64 a0, .int .i64 a1, .int .i64 a2, .int .i64 a3, .int .i64 a4, .slice (some ⟨gQ_5, 0, none⟩) m cQ_5, .int .i64 a5, .int .i64 a6, .int .i64 a7, .int .i64 a8, .int .i64 a9, .int .i64 a10, .int .i64 a11] := by
      have h := ((((((((((((((k_5_R.set_ 0 (.slice (some ⟨gS_5, 0, none⟩) n cS_5)).set_ 1 (.int .i64 a0)).set_ 2 (.int .i64 a1)).set_ 3 (.int .i64 a2)).set_ 4 (.int .i64 a3)).set_ 5 (.int .i64 a4)).set_ 6 (.slice (some ⟨gQ_5, 0, none⟩) m cQ_5)).set_ 7 (.int .i64 a5)).set_ 8 (.int .i64 a6)).set_ 9 (.int .i64 a7)).set_ 10 (.int .i64 a8)).set_ 11 (.int .i64 a9)).set_ 12 (.int .i64 a10)).set_ 13 (.int .i64 a11))
      simpa using h
    have kf_N : Blk ((((((((((((((w_5.setCell ⟨b_R, 0, none⟩ (.slice (some ⟨gS_5, 0, none⟩) n cS_5)).setCell ⟨b_R, 1, none⟩ (.int .i64 a0)).setCell ⟨b_R, 2, none⟩ (.int .i64 a1)).setCell ⟨b_R, 3, none⟩ (.int .i64 a2)).setCell ⟨b_R, 4, none⟩ (.int .i64 a3)).setCell ⟨b_R, 5, none⟩ (.int .i64 a4)).setCell ⟨b_R, 6, none⟩ (.slice (some ⟨gQ_5, 0, none⟩) m cQ_5)).setCell ⟨b_R, 7, none⟩ (.int .i64 a5)).setCell ⟨b_R, 8, none⟩ (.int .i64 a6)).setCell ⟨b_R, 9, none⟩ (.int .i64 a7)).setCell ⟨b_R, 10, none⟩ (.int .i64 a8)).setCell ⟨b_R, 11, none⟩ (.int .i64 a9)).setCell ⟨b_R, 12, none⟩ (.int .i64 a10)).setCell ⟨b_R, 13, none⟩ (.int .i64 a11)) b_N 45 #[.slice (some ⟨g, 0, none⟩) n c, .int .i64 a0, .int .i64 a1, .int .i64 a2, .int .i64 a3, .int .i64 a4, .slice (some ⟨gZ_4, 0, none⟩) zs.length cZ_4, .int .i64 s0, .int .i64 s1, .int .i64 s2, .int .i64 s3, .int .i64 s4, .int .i64 s5, .int .i64 mo] := by
      have h := (Blk.far (Blk.far (Blk.far (Blk.far (Blk.far (Blk.far (Blk.far (Blk.far (Blk.far (Blk.far (Blk.far (Blk.far (Blk.far (Blk.far k_5_N (p := ⟨b_R, 0, none⟩) (by first | exact NB_N_R.out | exact NB_R_N.out.symm) (.slice (some ⟨gS_5, 0, none⟩) n cS_5)) (p := ⟨b_R, 1, none⟩) (by first | exact NB_N_R.out | exact NB_R_N.out.symm) (.int .i64 a0)) (p := ⟨b_R, 2, none⟩) (by first | exact NB_N_R.out | exact NB_R_N.out.symm) (.int .i64 a1)) (p := ⟨b_R, 3, none⟩) (by first | exact NB_N_R.out | exact NB_R_N.out.symm) (.int .i64 a2)) (p := ⟨b_R, 4, none⟩) (by first | exact NB_N_R.out | exact NB_R_N.out.symm) (.int .i64 a3)) (p := ⟨b_R, 5, none⟩) (by first | exact NB_N_R.out | exact NB_R_N.out.symm) (.int .i64 a4)) (p := ⟨b_R, 6, none⟩) (by first | exact NB_N_R.out | exact NB_R_N.out.symm) (.slice (some ⟨gQ_5, 0, none⟩) m cQ_5)) (p := ⟨b_R, 7, none⟩) (by first | exact NB_N_R.out | exact NB_R_N.out.symm) (.int .i64 a5)) (p := ⟨b_R, 8, none⟩) (by first | exact NB_N_R.out | exact NB_R_N.out.symm) (.int .i64 a6)) (p := ⟨b_R, 9, none⟩) (by first | exact NB_N_R.out | exact NB_R_N.out.symm) (.int .i64 a7)) (p := ⟨b_R, 10, none⟩) (by first | exact NB_N_R.out | exact NB_R_N.out.symm) (.int .i64 a8)) (p := ⟨b_R, 11, none⟩) (by first | exact NB_N_R.out | exact NB_R_N.out.symm) (.int .i64 a9)) (p := ⟨b_R, 12, none⟩) (by first | exact NB_N_R.out | exact NB_R_N.out.symm) (.int .i64 a10)) (p := ⟨b_R, 13, none⟩) (by first | exact NB_N_R.out | exact NB_R_N.out.symm) (.int .i64 a11))
      simpa using h
    have fo_Z : OCEvent ((((((((((((((w_5.setCell ⟨b_R, 0, none⟩ (.slice (some ⟨gS_5, 0, none⟩) n cS_5)).setCell ⟨b_R, 1, none⟩ (.int .i64 a0)).setCell ⟨b_R, 2, none⟩ (.int .i64 a1)).setCell ⟨b_R, 3, none⟩ (.int .i64 a2)).setCell ⟨b_R, 4, none⟩ (.int .i64 a3)).setCell ⟨b_R, 5, none⟩ (.int .i64 a4)).setCell ⟨b_R, 6, none⟩ (.slice (some ⟨gQ_5, 0, none⟩) m cQ_5)).setCell ⟨b_R, 7, none⟩ (.int .i64 a5)).setCell ⟨b_R, 8, none⟩ (.int .i64 a6)).setCell ⟨b_R, 9, none⟩ (.int .i64 a7)).setCell ⟨b_R, 10, none⟩ (.int .i64 a8)).setCell ⟨b_R, 11, none⟩ (.int .i64 a9)).setCell ⟨b_R, 12, none⟩ (.int .i64 a10)).setCell ⟨b_R, 13, none⟩ (.int .i64 a11)) gZ_4 (zs.length) cZ_4 zs := OCEvent.far o_5_Z k_5_R (by decide) only14
    have fo_S : OwnC ((((((((((((((w_5.setCell ⟨b_R, 0, none⟩ (.slice (some ⟨gS_5, 0, none⟩) n cS_5)).setCell ⟨b_R, 1, none⟩ (.int .i64 a0)).setCell ⟨b_R, 2, none⟩ (.int .i64 a1)).setCell ⟨b_R, 3, none⟩ (.int .i64 a2)).setCell ⟨b_R, 4, none⟩ (.int .i64 a3)).setCell ⟨b_R, 5, none⟩ (.int .i64 a4)).setCell ⟨b_R, 6, none⟩ (.slice (some ⟨gQ_5, 0, none⟩) m cQ_5)).setCell ⟨b_R, 7, none⟩ (.int .i64 a5)).setCell ⟨b_R, 8, none⟩ (.int .i64 a6)).setCell ⟨b_R, 9, none⟩ (.int .i64 a7)).setCell ⟨b_R, 10, none⟩ (.int .i64 a8)).setCell ⟨b_R, 11, none⟩ (.int .i64 a9)).setCell ⟨b_R, 12, none⟩ (.int .i64 a10)).setCell ⟨b_R, 13, none⟩ (.int .i64 a11)) gS_5 (n) cS_5 xs := OwnC.far o_5_S k_5_R (by decide) only14
    have fo_Q : OCEvent ((((((((((((((w_5.setCell ⟨b_R, 0, none⟩ (.slice (some ⟨gS_5, 0, none⟩) n cS_5)).setCell ⟨b_R, 1, none⟩ (.int .i64 a0)).setCell ⟨b_R, 2, none⟩ (.int .i64 a1)).setCell ⟨b_R, 3, none⟩ (.int .i64 a2)).setCell ⟨b_R, 4, none⟩ (.int .i64 a3)).setCell ⟨b_R, 5, none⟩ (.int .i64 a4)).setCell ⟨b_R, 6, none⟩ (.slice (some ⟨gQ_5, 0, none⟩) m cQ_5)).setCell ⟨b_R, 7, none⟩ (.int .i64 a5)).setCell ⟨b_R, 8, none⟩ (.int .i64 a6)).setCell ⟨b_R, 9, none⟩ (.int .i64 a7)).setCell ⟨b_R, 10, none⟩ (.int .i64 a8)).setCell ⟨b_R, 11, none⟩ (.int .i64 a9)).setCell ⟨b_R, 12, none⟩ (.int .i64 a10)).setCell ⟨b_R, 13, none⟩ (.int .i64 a11)) gQ_5 (m) cQ_5 ys := OCEvent.far o_5_Q k_5_R (by decide) only14
    have ii_6 : In w.heap.size w ((((((((((((((w_5.setCell ⟨b_R, 0, none⟩ (.slice (some ⟨gS_5, 0, none⟩) n cS_5)).setCell ⟨b_R, 1, none⟩ (.int .i64 a0)).setCell ⟨b_R, 2, none⟩ (.int .i64 a1)).setCell ⟨b_R, 3, none⟩ (.int .i64 a2)).setCell ⟨b_R, 4, none⟩ (.int .i64 a3)).setCell ⟨b_R, 5, none⟩ (.int .i64 a4)).setCell ⟨b_R, 6, none⟩ (.slice (some ⟨gQ_5, 0, none⟩) m cQ_5)).setCell ⟨b_R, 7, none⟩ (.int .i64 a5)).setCell ⟨b_R, 8, none⟩ (.int .i64 a6)).setCell ⟨b_R, 9, none⟩ (.int .i64 a7)).setCell ⟨b_R, 10, none⟩ (.int .i64 a8)).setCell ⟨b_R, 11, none⟩ (.int .i64 a9)).setCell ⟨b_R, 12, none⟩ (.int .i64 a10)).setCell ⟨b_R, 13, none⟩ (.int .i64 a11)) := ins14 i_5 hwb_R
    generalize ((((((((((((((w_5.setCell ⟨b_R, 0, none⟩ (.slice (some ⟨gS_5, 0, none⟩) n cS_5)).setCell ⟨b_R, 1, none⟩ (.int .i64 a0)).setCell ⟨b_R, 2, none⟩ (.int .i64 a1)).setCell ⟨b_R, 3, none⟩ (.int .i64 a2)).setCell ⟨b_R, 4, none⟩ (.int .i64 a3)).setCell ⟨b_R, 5, none⟩ (.int .i64 a4)).setCell ⟨b_R, 6, none⟩ (.slice (some ⟨gQ_5, 0, none⟩) m cQ_5)).setCell ⟨b_R, 7, none⟩ (.int .i64 a5)).setCell ⟨b_R, 8, none⟩ (.int .i64 a6)).setCell ⟨b_R, 9, none⟩ (.int .i64 a7)).setCell ⟨b_R, 10, none⟩ (.int .i64 a8)).setCell ⟨b_R, 11, none⟩ (.int .i64 a9)).setCell ⟨b_R, 12, none⟩ (.int .i64 a10)).setCell ⟨b_R, 13, none⟩ (.int .i64 a11)) = w_6 at *
    clear hn1_R_L hn2_R_L hn1_R_N hn2_R_N
    have i_6 : In w.heap.size w w_6 := ii_6
    have k_6_L : Blk w_6 b_L 111 #[.int .i32 1, .int .u32 0, .slice (some ⟨g, 0, none⟩) n c, .int .i64 a0, .int .i64 a1, .int .i64 a2, .int .i64 a3, .int .i64 a4, .slice (some ⟨h, 0, none⟩) m d, .int .i64 a5, .int .i64 a6, .int .i64 a7, .int .i64 a8, .int .i64 a9, .int .i64 a10, .int .i64 a11] := kf_L
    have c_6_L_0 : w_6.cell? ⟨b_L, 0, none⟩ = some (.int .i32 1) := k_6_L.cell 0
    have c_6_L_1 : w_6.cell? ⟨b_L, 1, none⟩ = some (.int .u32 0) := k_6_L.cell 1
    have c_6_L_2 : w_6.cell? ⟨b_L, 2, none⟩ = some (.slice (some ⟨g, 0, none⟩) n c) := k_6_L.cell 2
    have c_6_L_3 : w_6.cell? ⟨b_L, 3, none⟩ = some (.int .i64 a0) := k_6_L.cell 3
    have c_6_L_4 : w_6.cell? ⟨b_L, 4, none⟩ = some (.int .i64 a1) := k_6_L.cell 4
    have c_6_L_5 : w_6.cell? ⟨b_L, 5, none⟩ = some (.int .i64 a2) := k_6_L.cell 5
    have c_6_L_6 : w_6.cell? ⟨b_L, 6, none⟩ = some (.int .i64 a3) := k_6_L.cell 6
    have c_6_L_7 : w_6.cell? ⟨b_L, 7, none⟩ = some (.int .i64 a4) := k_6_L.cell 7
    have c_6_L_8 : w_6.cell? ⟨b_L, 8, none⟩ = some (.slice (some ⟨h, 0, none⟩) m d) := k_6_L.cell 8
    have c_6_L_9 : w_6.cell? ⟨b_L, 9, none⟩ = some (.int .i64 a5) := k_6_L.cell 9
    have c_6_L_10 : w_6.cell? ⟨b_L, 10, none⟩ = some (.int .i64 a6) := k_6_L.cell 10
    have c_6_L_11 : w_6.cell? ⟨b_L, 11, none⟩ = some (.int .i64 a7) := k_6_L.cell 11
    have c_6_L_12 : w_6.cell? ⟨b_L, 12, none⟩ = some (.int .i64 a8) := k_6_L.cell 12
    have c_6_L_13 : w_6.cell? ⟨b_L, 13, none⟩ = some (.int .i64 a9) := k_6_L.cell 13
    have c_6_L_14 : w_6.cell? ⟨b_L, 14, none⟩ = some (.int .i64 a10) := k_6_L.cell 14
    have c_6_L_15 : w_6.cell? ⟨b_L, 15, none⟩ = some (.int .i64 a11) := k_6_L.cell 15
    have l_6_L := k_6_L.lt
    have z_6_L := k_6_L.frozen
    have k_6_R : Blk w_6 b_R 45 #[.slice (some ⟨gS_5, 0, none⟩) n cS_5, .int .i64 a0, .int .i64 a1, .int .i64 a2, .int .i64 a3, .int .i64 a4, .slice (some ⟨gQ_5, 0, none⟩) m cQ_5, .int .i64 a5, .int .i64 a6, .int .i64 a7, .int .i64 a8, .int .i64 a9, .int .i64 a10, .int .i64 a11] := kf_R
    obtain ⟨c_6_R_0, c_6_R_1, c_6_R_2, c_6_R_3, c_6_R_4, c_6_R_5, c_6_R_6, c_6_R_7, c_6_R_8, c_6_R_9, c_6_R_10, c_6_R_11, c_6_R_12, c_6_R_13⟩ := cells14 k_6_R
    have l_6_R := k_6_R.lt
    have z_6_R := k_6_R.frozen
    have k_6_N : Blk w_6 b_N 45 #[.slice (some ⟨g, 0, none⟩) n c, .int .i64 a0, .int .i64 a1, .int .i64 a2, .int .i64 a3, .int .i64 a4, .slice (some ⟨gZ_4, 0, none⟩) zs.length cZ_4, .int .i64 s0, .int .i64 s1, .int .i64 s2, .int .i64 s3, .int .i64 s4, .int .i64 s5, .int .i64 mo] := kf_N
    obtain ⟨c_6_N_0, c_6_N_1, c_6_N_2, c_6_N_3, c_6_N_4, c_6_N_5, c_6_N_6, c_6_N_7, c_6_N_8, c_6_N_9, c_6_N_10, c_6_N_11, c_6_N_12, c_6_N_13⟩ := cells14 k_6_N
    have l_6_N := k_6_N.lt
    have z_6_N := k_6_N.frozen
    have o_6_Z : OCEvent w_6 gZ_4 (zs.length) cZ_4 zs := fo_Z
    have o_6_S : OwnC w_6 gS_5 (n) cS_5 xs := fo_S
    have o_6_Q : OCEvent w_6 gQ_5 (m) cQ_5 ys := fo_Q
    clear i_5 k_5_L c_5_L_0 c_5_L_1 c_5_L_2 c_5_L_3 c_5_L_4 c_5_L_5 c_5_L_6 c_5_L_7 c_5_L_8 c_5_L_9 c_5_L_10 c_5_L_11 c_5_L_12 c_5_L_13 c_5_L_14 c_5_L_15 l_5_L z_5_L k_5_R c_5_R_0 c_5_R_1 c_5_R_2 c_5_R_3 c_5_R_4 c_5_R_5 c_5_R_6 c_5_R_7 c_5_R_8 c_5_R_9 c_5_R_10 c_5_R_11 c_5_R_12 c_5_R_13 l_5_R z_5_R k_5_N c_5_N_0 c_5_N_1 c_5_N_2 c_5_N_3 c_5_N_4 c_5_N_5 c_5_N_6 c_5_N_7 c_5_N_8 c_5_N_9 c_5_N_10 c_5_N_11 c_5_N_12 c_5_N_13 l_5_N z_5_N o_5_Z o_5_S o_5_Q hb_5
    clear ii_6 kf_L kf_R kf_N fo_Z fo_S fo_Q
    rw [← HFI.out (yOk n xs m ys a0 a1 a2 a3 a4 a5 a6 a7 a8 a9 a10 a11 && (false && ok2)) (by simp)]
    refine leaves_cons (f := 95) (args := #[.pointer (some ⟨b_L, 0, none⟩)]) (by simp) (by simp [go_sem]) ?_
    refine (cUnlock ⟨b_L, 0, none⟩ .returning w_6 c_6_L_0 (k_6_L.frozen 0)).mono ?_
    rintro e9 u9 w9 ⟨rfl, rfl, rfl⟩
    have kE : Blk (w_6.setCell ⟨b_L, 0, none⟩ (.int .i32 0)) b_R 45 #[.slice (some ⟨gS_5, 0, none⟩) n cS_5, .int .i64 a0, .int .i64 a1, .int .i64 a2, .int .i64 a3, .int .i64 a4, .slice (some ⟨gQ_5, 0, none⟩) m cQ_5, .int .i64 a5, .int .i64 a6, .int .i64 a7, .int .i64 a8, .int .i64 a9, .int .i64 a10, .int .i64 a11] := Blk.far k_6_R (p := ⟨b_L, 0, none⟩) (NB_L_R.out.symm) _
    have iE : In w.heap.size w (w_6.setCell ⟨b_L, 0, none⟩ (.int .i32 0)) := In.set_ i_6 (p := ⟨b_L, 0, none⟩) hwb_L _
    have OZ : Hid (OCEvent (w_6.setCell ⟨b_L, 0, none⟩ (.int .i32 0)) gZ_4 (zs.length) cZ_4 zs) := Lib.hid (OCEvent.far o_6_Z k_6_L (by decide) (only_set _ _))
    have OS : Hid (OwnC (w_6.setCell ⟨b_L, 0, none⟩ (.int .i32 0)) gS_5 (n) cS_5 xs) := Lib.hid (OwnC.far o_6_S k_6_L (by decide) (only_set _ _))
    have OQ : Hid (OCEvent (w_6.setCell ⟨b_L, 0, none⟩ (.int .i32 0)) gQ_5 (m) cQ_5 ys) := Lib.hid (OCEvent.far o_6_Q k_6_L (by decide) (only_set _ _))
    have e0 := kE.cell 0
    simp only [List.getElem?_toArray, List.getElem?_cons_zero, List.getElem?_cons_succ] at e0
    have e1 := kE.cell 1
    simp only [List.getElem?_toArray, List.getElem?_cons_zero, List.getElem?_cons_succ] at e1
    have e2 := kE.cell 2
    simp only [List.getElem?_toArray, List.getElem?_cons_zero, List.getElem?_cons_succ] at e2
    have e3 := kE.cell 3
    simp only [List.getElem?_toArray, List.getElem?_cons_zero, List.getElem?_cons_succ] at e3
    have e4 := kE.cell 4
    simp only [List.getElem?_toArray, List.getElem?_cons_zero, List.getElem?_cons_succ] at e4
    have e5 := kE.cell 5
    simp only [List.getElem?_toArray, List.getElem?_cons_zero, List.getElem?_cons_succ] at e5
    have e6 := kE.cell 6
    simp only [List.getElem?_toArray, List.getElem?_cons_zero, List.getElem?_cons_succ] at e6
    have e7 := kE.cell 7
    simp only [List.getElem?_toArray, List.getElem?_cons_zero, List.getElem?_cons_succ] at e7
    have e8 := kE.cell 8
    simp only [List.getElem?_toArray, List.getElem?_cons_zero, List.getElem?_cons_succ] at e8
    have e9 := kE.cell 9
    simp only [List.getElem?_toArray, List.getElem?_cons_zero, List.getElem?_cons_succ] at e9
    have e10 := kE.cell 10
    simp only [List.getElem?_toArray, List.getElem?_cons_zero, List.getElem?_cons_succ] at e10
    have e11 := kE.cell 11
    simp only [List.getElem?_toArray, List.getElem?_cons_zero, List.getElem?_cons_succ] at e11
    have e12 := kE.cell 12
    simp only [List.getElem?_toArray, List.getElem?_cons_zero, List.getElem?_cons_succ] at e12
    have e13 := kE.cell 13
    simp only [List.getElem?_toArray, List.getElem?_cons_zero, List.getElem?_cons_succ] at e13
    simp [Leaves, settle, results, Try.results69, go_sem, e0, e1, e2, e3, e4, e5, e6, e7, e8, e9, e10, e11, e12, e13]
    exact rowYV_of rfl rfl rfl rfl rfl rfl rfl rfl rfl OS.out GX_S.out OQ.out GX_Q.out iE.below
  go_wp2_with fail
  refine (iBakeryOk g n c xs gZ_4 zs.length cZ_4 zs a0 a1 a2 a3 a4 s0 s1 s2 s3 s4 s5 mo _ hn hzl (HX.out.in_ (by (repeat (first | exact In.refl _ | assumption | apply In.alloc | apply In.drewN | apply In.drew | (refine In.step ?_ (by assumption)))))) (OCEvent.reads (by with_reducible (repeat (first | assumption | apply OCEvent.drewN | apply OCEvent.drew | apply OCEvent.alloc))))).mono ?_
  rintro _ w_5 ⟨rfl, hb_5⟩
  rw [HOK.out]
  have i_5 : In w.heap.size w w_5 := In.step (by (repeat (first | exact In.refl _ | assumption | apply In.alloc | apply In.drewN | apply In.drew | (refine In.step ?_ (by assumption))))) hb_5
  have k_5_L : Blk w_5 b_L 111 #[.int .i32 1, .int .u32 0, .slice (some ⟨g, 0, none⟩) n c, .int .i64 a0, .int .i64 a1, .int .i64 a2, .int .i64 a3, .int .i64 a4, .slice (some ⟨h, 0, none⟩) m d, .int .i64 a5, .int .i64 a6, .int .i64 a7, .int .i64 a8, .int .i64 a9, .int .i64 a10, .int .i64 a11] := Blk.step (by (with_reducible (repeat (first | assumption | exact Blk.new' (by simp) | apply Blk.drewN | apply Blk.drew | apply Blk.alloc | (refine Blk.far ?_ (by (try simp) <;> omega) _))))) hb_5
  have c_5_L_0 : w_5.cell? ⟨b_L, 0, none⟩ = some (.int .i32 1) := k_5_L.cell 0
  have c_5_L_1 : w_5.cell? ⟨b_L, 1, none⟩ = some (.int .u32 0) := k_5_L.cell 1
  have c_5_L_2 : w_5.cell? ⟨b_L, 2, none⟩ = some (.slice (some ⟨g, 0, none⟩) n c) := k_5_L.cell 2
  have c_5_L_3 : w_5.cell? ⟨b_L, 3, none⟩ = some (.int .i64 a0) := k_5_L.cell 3
  have c_5_L_4 : w_5.cell? ⟨b_L, 4, none⟩ = some (.int .i64 a1) := k_5_L.cell 4
  have c_5_L_5 : w_5.cell? ⟨b_L, 5, none⟩ = some (.int .i64 a2) := k_5_L.cell 5
  have c_5_L_6 : w_5.cell? ⟨b_L, 6, none⟩ = some (.int .i64 a3) := k_5_L.cell 6
  have c_5_L_7 : w_5.cell? ⟨b_L, 7, none⟩ = some (.int .i64 a4) := k_5_L.cell 7
  have c_5_L_8 : w_5.cell? ⟨b_L, 8, none⟩ = some (.slice (some ⟨h, 0, none⟩) m d) := k_5_L.cell 8
  have c_5_L_9 : w_5.cell? ⟨b_L, 9, none⟩ = some (.int .i64 a5) := k_5_L.cell 9
  have c_5_L_10 : w_5.cell? ⟨b_L, 10, none⟩ = some (.int .i64 a6) := k_5_L.cell 10
  have c_5_L_11 : w_5.cell? ⟨b_L, 11, none⟩ = some (.int .i64 a7) := k_5_L.cell 11
  have c_5_L_12 : w_5.cell? ⟨b_L, 12, none⟩ = some (.int .i64 a8) := k_5_L.cell 12
  have c_5_L_13 : w_5.cell? ⟨b_L, 13, none⟩ = some (.int .i64 a9) := k_5_L.cell 13
  have c_5_L_14 : w_5.cell? ⟨b_L, 14, none⟩ = some (.int .i64 a10) := k_5_L.cell 14
  have c_5_L_15 : w_5.cell? ⟨b_L, 15, none⟩ = some (.int .i64 a11) := k_5_L.cell 15
  have l_5_L := k_5_L.lt
  have z_5_L := k_5_L.frozen
  have k_5_R : Blk w_5 b_R 45 #[.slice none 0 0, .int .i64 0, .int .i64 0, .int .i64 0, .int .i64 0, .int .i64 0, .slice none 0 0, .int .i64 0, .int .i64 0, .int .i64 0, .int .i64 0, .int .i64 0, .int .i64 0, .int .i64 0] := Blk.step (by (with_reducible (repeat (first | assumption | exact Blk.new' (by simp) | apply Blk.drewN | apply Blk.drew | apply Blk.alloc | (refine Blk.far ?_ (by (try simp) <;> omega) _))))) hb_5
  obtain ⟨c_5_R_0, c_5_R_1, c_5_R_2, c_5_R_3, c_5_R_4, c_5_R_5, c_5_R_6, c_5_R_7, c_5_R_8, c_5_R_9, c_5_R_10, c_5_R_11, c_5_R_12, c_5_R_13⟩ := cells14 k_5_R
  have l_5_R := k_5_R.lt
  have z_5_R := k_5_R.frozen
  have k_5_N : Blk w_5 b_N 45 #[.slice (some ⟨g, 0, none⟩) n c, .int .i64 a0, .int .i64 a1, .int .i64 a2, .int .i64 a3, .int .i64 a4, .slice (some ⟨gZ_4, 0, none⟩) zs.length cZ_4, .int .i64 s0, .int .i64 s1, .int .i64 s2, .int .i64 s3, .int .i64 s4, .int .i64 s5, .int .i64 mo] := Blk.step (by (with_reducible (repeat (first | assumption | exact Blk.new' (by simp) | apply Blk.drewN | apply Blk.drew | apply Blk.alloc | (refine Blk.far ?_ (by (try simp) <;> omega) _))))) hb_5
  obtain ⟨c_5_N_0, c_5_N_1, c_5_N_2, c_5_N_3, c_5_N_4, c_5_N_5, c_5_N_6, c_5_N_7, c_5_N_8, c_5_N_9, c_5_N_10, c_5_N_11, c_5_N_12, c_5_N_13⟩ := cells14 k_5_N
  have l_5_N := k_5_N.lt
  have z_5_N := k_5_N.frozen
  have o_5_Z : OCEvent w_5 gZ_4 (zs.length) cZ_4 zs := OCEvent.step (by with_reducible (repeat (first | assumption | apply OCEvent.drewN | apply OCEvent.drew | apply OCEvent.alloc))) hb_5
  clear i_4 o_4_Z k_4_L c_4_L_0 c_4_L_1 c_4_L_2 c_4_L_3 c_4_L_4 c_4_L_5 c_4_L_6 c_4_L_7 c_4_L_8 c_4_L_9 c_4_L_10 c_4_L_11 c_4_L_12 c_4_L_13 c_4_L_14 c_4_L_15 l_4_L z_4_L k_4_R c_4_R_0 c_4_R_1 c_4_R_2 c_4_R_3 c_4_R_4 c_4_R_5 c_4_R_6 c_4_R_7 c_4_R_8 c_4_R_9 c_4_R_10 c_4_R_11 c_4_R_12 c_4_R_13 l_4_R z_4_R k_4_N c_4_N_0 c_4_N_1 c_4_N_2 c_4_N_3 c_4_N_4 c_4_N_5 c_4_N_6 c_4_N_7 c_4_N_8 c_4_N_9 c_4_N_10 c_4_N_11 c_4_N_12 c_4_N_13 l_4_N z_4_N
  cases ok2
  · go_wp2_with fail
    refine (i38Copy g n c xs h m d ys a0 a1 a2 a3 a4 a5 a6 a7 a8 a9 a10 a11 _ hn (by omega) (HX.out.in_ (by (repeat (first | exact In.refl _ | assumption | apply In.alloc | apply In.drewN | apply In.drew | (refine In.step ?_ (by assumption)))))) (HY.out.in_ (by (repeat (first | exact In.refl _ | assumption | apply In.alloc | apply In.drewN | apply In.drew | (refine In.step ?_ (by assumption))))))).mono ?_
    rintro _ w_6 ⟨gS_6, cS_6, gQ_6, cQ_6, rfl, hoS_6, hgS_6, hoQ_6, hgQ_6, hb_6⟩
    have NE_Z_S : Hid (gZ_4 ≠ gS_6) := Lib.hid (by have h1 := hgS_6; (try simp at h1); have h2 := OCEvent.lt o_5_Z; omega)
    have GX_S : Hid (w.heap.size ≤ gS_6) := Lib.hid (by have h1 := hgS_6; (try simp at h1); have h2 := In.size i_5; omega)
    have o_6_S : OwnC w_6 gS_6 (n) cS_6 xs := hoS_6
    clear hoS_6 hgS_6
    have NE_Z_Q : Hid (gZ_4 ≠ gQ_6) := Lib.hid (by have h1 := hgQ_6; (try simp at h1); have h2 := OCEvent.lt o_5_Z; omega)
    have NE_S_Q : Hid (gS_6 ≠ gQ_6) := Lib.hid (ne_OwnC_OCEvent o_6_S hoQ_6)
    have GX_Q : Hid (w.heap.size ≤ gQ_6) := Lib.hid (by have h1 := hgQ_6; (try simp at h1); have h2 := In.size i_5; omega)
    have o_6_Q : OCEvent w_6 gQ_6 (m) cQ_6 ys := hoQ_6
    clear hoQ_6 hgQ_6
    have i_6 : In w.heap.size w w_6 := In.step (by (repeat (first | exact In.refl _ | assumption | apply In.alloc | apply In.drewN | apply In.drew | (refine In.step ?_ (by assumption))))) hb_6
    have k_6_L : Blk w_6 b_L 111 #[.int .i32 1, .int .u32 0, .slice (some ⟨g, 0, none⟩) n c, .int .i64 a0, .int .i64 a1, .int .i64 a2, .int .i64 a3, .int .i64 a4, .slice (some ⟨h, 0, none⟩) m d, .int .i64 a5, .int .i64 a6, .int .i64 a7, .int .i64 a8, .int .i64 a9, .int .i64 a10, .int .i64 a11] := Blk.step (by (with_reducible (repeat (first | assumption | exact Blk.new' (by simp) | apply Blk.drewN | apply Blk.drew | apply Blk.alloc | (refine Blk.far ?_ (by (try simp) <;> omega) _))))) hb_6
    have c_6_L_0 : w_6.cell? ⟨b_L, 0, none⟩ = some (.int .i32 1) := k_6_L.cell 0
    have c_6_L_1 : w_6.cell? ⟨b_L, 1, none⟩ = some (.int .u32 0) := k_6_L.cell 1
    have c_6_L_2 : w_6.cell? ⟨b_L, 2, none⟩ = some (.slice (some ⟨g, 0, none⟩) n c) := k_6_L.cell 2
    have c_6_L_3 : w_6.cell? ⟨b_L, 3, none⟩ = some (.int .i64 a0) := k_6_L.cell 3
    have c_6_L_4 : w_6.cell? ⟨b_L, 4, none⟩ = some (.int .i64 a1) := k_6_L.cell 4
    have c_6_L_5 : w_6.cell? ⟨b_L, 5, none⟩ = some (.int .i64 a2) := k_6_L.cell 5
    have c_6_L_6 : w_6.cell? ⟨b_L, 6, none⟩ = some (.int .i64 a3) := k_6_L.cell 6
    have c_6_L_7 : w_6.cell? ⟨b_L, 7, none⟩ = some (.int .i64 a4) := k_6_L.cell 7
    have c_6_L_8 : w_6.cell? ⟨b_L, 8, none⟩ = some (.slice (some ⟨h, 0, none⟩) m d) := k_6_L.cell 8
    have c_6_L_9 : w_6.cell? ⟨b_L, 9, none⟩ = some (.int .i64 a5) := k_6_L.cell 9
    have c_6_L_10 : w_6.cell? ⟨b_L, 10, none⟩ = some (.int .i64 a6) := k_6_L.cell 10
    have c_6_L_11 : w_6.cell? ⟨b_L, 11, none⟩ = some (.int .i64 a7) := k_6_L.cell 11
    have c_6_L_12 : w_6.cell? ⟨b_L, 12, none⟩ = some (.int .i64 a8) := k_6_L.cell 12
    have c_6_L_13 : w_6.cell? ⟨b_L, 13, none⟩ = some (.int .i64 a9) := k_6_L.cell 13
    have c_6_L_14 : w_6.cell? ⟨b_L, 14, none⟩ = some (.int .i64 a10) := k_6_L.cell 14
    have c_6_L_15 : w_6.cell? ⟨b_L, 15, none⟩ = some (.int .i64 a11) := k_6_L.cell 15
    have l_6_L := k_6_L.lt
    have z_6_L := k_6_L.frozen
    have k_6_R : Blk w_6 b_R 45 #[.slice none 0 0, .int .i64 0, .int .i64 0, .int .i64 0, .int .i64 0, .int .i64 0, .slice none 0 0, .int .i64 0, .int .i64 0, .int .i64 0, .int .i64 0, .int .i64 0, .int .i64 0, .int .i64 0] := Blk.step (by (with_reducible (repeat (first | assumption | exact Blk.new' (by simp) | apply Blk.drewN | apply Blk.drew | apply Blk.alloc | (refine Blk.far ?_ (by (try simp) <;> omega) _))))) hb_6
    obtain ⟨c_6_R_0, c_6_R_1, c_6_R_2, c_6_R_3, c_6_R_4, c_6_R_5, c_6_R_6, c_6_R_7, c_6_R_8, c_6_R_9, c_6_R_10, c_6_R_11, c_6_R_12, c_6_R_13⟩ := cells14 k_6_R
    have l_6_R := k_6_R.lt
    have z_6_R := k_6_R.frozen
    have k_6_N : Blk w_6 b_N 45 #[.slice (some ⟨g, 0, none⟩) n c, .int .i64 a0, .int .i64 a1, .int .i64 a2, .int .i64 a3, .int .i64 a4, .slice (some ⟨gZ_4, 0, none⟩) zs.length cZ_4, .int .i64 s0, .int .i64 s1, .int .i64 s2, .int .i64 s3, .int .i64 s4, .int .i64 s5, .int .i64 mo] := Blk.step (by (with_reducible (repeat (first | assumption | exact Blk.new' (by simp) | apply Blk.drewN | apply Blk.drew | apply Blk.alloc | (refine Blk.far ?_ (by (try simp) <;> omega) _))))) hb_6
    obtain ⟨c_6_N_0, c_6_N_1, c_6_N_2, c_6_N_3, c_6_N_4, c_6_N_5, c_6_N_6, c_6_N_7, c_6_N_8, c_6_N_9, c_6_N_10, c_6_N_11, c_6_N_12, c_6_N_13⟩ := cells14 k_6_N
    have l_6_N := k_6_N.lt
    have z_6_N := k_6_N.frozen
    have o_6_Z : OCEvent w_6 gZ_4 (zs.length) cZ_4 zs := OCEvent.step (by with_reducible (repeat (first | assumption | apply OCEvent.drewN | apply OCEvent.drew | apply OCEvent.alloc))) hb_6
    clear i_5 k_5_L c_5_L_0 c_5_L_1 c_5_L_2 c_5_L_3 c_5_L_4 c_5_L_5 c_5_L_6 c_5_L_7 c_5_L_8 c_5_L_9 c_5_L_10 c_5_L_11 c_5_L_12 c_5_L_13 c_5_L_14 c_5_L_15 l_5_L z_5_L k_5_R c_5_R_0 c_5_R_1 c_5_R_2 c_5_R_3 c_5_R_4 c_5_R_5 c_5_R_6 c_5_R_7 c_5_R_8 c_5_R_9 c_5_R_10 c_5_R_11 c_5_R_12 c_5_R_13 l_5_R z_5_R k_5_N c_5_N_0 c_5_N_1 c_5_N_2 c_5_N_3 c_5_N_4 c_5_N_5 c_5_N_6 c_5_N_7 c_5_N_8 c_5_N_9 c_5_N_10 c_5_N_11 c_5_N_12 c_5_N_13 l_5_N z_5_N o_5_Z hb_5
    have hn1_R_L : b_L ≠ b_R := by first | exact NB_L_R.out | exact NB_R_L.out.symm
    have hn2_R_L : b_R ≠ b_L := hn1_R_L.symm
    have hn1_R_N : b_N ≠ b_R := by first | exact NB_N_R.out | exact NB_R_N.out.symm
    have hn2_R_N : b_R ≠ b_N := hn1_R_N.symm
    go_wp2_with fail
    have kf_L : Blk ((((((((((((((w_6.setCell ⟨b_R, 0, none⟩ (.slice (some ⟨gS_6, 0, none⟩) n cS_6)).setCell ⟨b_R, 1, none⟩ (.int .i64 a0)).setCell ⟨b_R, 2, none⟩ (.int .i64 a1)).setCell ⟨b_R, 3, none⟩ (.int .i64 a2)).setCell ⟨b_R, 4, none⟩ (.int .i64 a3)).setCell ⟨b_R, 5, none⟩ (.int .i64 a4)).setCell ⟨b_R, 6, none⟩ (.slice (some ⟨gQ_6, 0, none⟩) m cQ_6)).setCell ⟨b_R, 7, none⟩ (.int .i64 a5)).setCell ⟨b_R, 8, none⟩ (.int .i64 a6)).setCell ⟨b_R, 9, none⟩ (.int .i64 a7)).setCell ⟨b_R, 10, none⟩ (.int .i64 a8)).setCell ⟨b_R, 11, none⟩ (.int .i64 a9)).setCell ⟨b_R, 12, none⟩ (.int .i64 a10)).setCell ⟨b_R, 13, none⟩ (.int .i64 a11)) b_L 111 #[.int .i32 1, .int .u32 0, .slice (some ⟨g, 0, none⟩) n c, .int .i64 a0, .int .i64 a1, .int .i64 a2, .int .i64 a3, .int .i64 a4, .slice (some ⟨h, 0, none⟩) m d, .int .i64 a5, .int .i64 a6, .int .i64 a7, .int .i64 a8, .int .i64 a9, .int .i64 a10, .int .i64 a11] := by
      have h := (Blk.far (Blk.far (Blk.far (Blk.far (Blk.far (Blk.far (Blk.far (Blk.far (Blk.far (Blk.far (Blk.far (Blk.far (Blk.far (Blk.far k_6_L (p := ⟨b_R, 0, none⟩) (by first | exact NB_L_R.out | exact NB_R_L.out.symm) (.slice (some ⟨gS_6, 0, none⟩) n cS_6)) (p := ⟨b_R, 1, none⟩) (by first | exact NB_L_R.out | exact NB_R_L.out.symm) (.int .i64 a0)) (p := ⟨b_R, 2, none⟩) (by first | exact NB_L_R.out | exact NB_R_L.out.symm) (.int .i64 a1)) (p := ⟨b_R, 3, none⟩) (by first | exact NB_L_R.out | exact NB_R_L.out.symm) (.int .i64 a2)) (p := ⟨b_R, 4, none⟩) (by first | exact NB_L_R.out | exact NB_R_L.out.symm) (.int .i64 a3)) (p := ⟨b_R, 5, none⟩) (by first | exact NB_L_R.out | exact NB_R_L.out.symm) (.int .i64 a4)) (p := ⟨b_R, 6, none⟩) (by first | exact NB_L_R.out | exact NB_R_L.out.symm) (.slice (some ⟨gQ_6, 0, none⟩) m cQ_6)) (p := ⟨b_R, 7, none⟩) (by first | exact NB_L_R.out | exact NB_R_L.out.symm) (.int .i64 a5)) (p := ⟨b_R, 8, none⟩) (by first | exact NB_L_R.out | exact NB_R_L.out.symm) (.int .i64 a6)) (p := ⟨b_R, 9, none⟩) (by first | exact NB_L_R.out | exact NB_R_L.out.symm) (.int .i64 a7)) (p := ⟨b_R, 10, none⟩) (by first | exact NB_L_R.out | exact NB_R_L.out.symm) (.int .i64 a8)) (p := ⟨b_R, 11, none⟩) (by first | exact NB_L_R.out | exact NB_R_L.out.symm) (.int .i64 a9)) (p := ⟨b_R, 12, none⟩) (by first | exact NB_L_R.out | exact NB_R_L.out.symm) (.int .i64 a10)) (p := ⟨b_R, 13, none⟩) (by first | exact NB_L_R.out | exact NB_R_L.out.symm) (.int .i64 a11))
      simpa using h
    have kf_R : Blk ((((((((((((((w_6.setCell ⟨b_R, 0, none⟩ (.slice (some ⟨gS_6, 0, none⟩) n cS_6)).setCell ⟨b_R, 1, none⟩ (.int .i64 a0)).setCell ⟨b_R, 2, none⟩ (.int .i64 a1)).setCell ⟨b_R, 3, none⟩ (.int .i64 a2)).setCell ⟨b_R, 4, none⟩ (.int .i64 a3)).setCell ⟨b_R, 5, none⟩ (.int .i64 a4)).setCell ⟨b_R, 6, none⟩ (.slice (some ⟨gQ_6, 0, none⟩) m cQ_6)).setCell ⟨b_R, 7, none⟩ (.int .i64 a5)).setCell ⟨b_R, 8, none⟩ (.int .i64 a6)).setCell ⟨b_R, 9, none⟩ (.int .i64 a7)).setCell ⟨b_R, 10, none⟩ (.int .i64 a8)).setCell ⟨b_R, 11, none⟩ (.int .i64 a9)).setCell ⟨b_R, 12, none⟩ (.int .i64 a10)).setCell ⟨b_R, 13, none⟩ (.int .i64 a11)) b_R 45 #[.slice (some ⟨gS_6, 0, none⟩) n cS_6, .int .i64 a0, .int .i64 a1, .int .i64 a2, .int .i64 a3, .int .i64 a4, .slice (some ⟨gQ_6, 0, none⟩) m cQ_6, .int .i64 a5, .int .i64 a6, .int .i64 a7, .int .i64 a8, .int .i64 a9, .int .i64 a10, .int .i64 a11] := by
      have h := ((((((((((((((k_6_R.set_ 0 (.slice (some ⟨gS_6, 0, none⟩) n cS_6)).set_ 1 (.int .i64 a0)).set_ 2 (.int .i64 a1)).set_ 3 (.int .i64 a2)).set_ 4 (.int .i64 a3)).set_ 5 (.int .i64 a4)).set_ 6 (.slice (some ⟨gQ_6, 0, none⟩) m cQ_6)).set_ 7 (.int .i64 a5)).set_ 8 (.int .i64 a6)).set_ 9 (.int .i64 a7)).set_ 10 (.int .i64 a8)).set_ 11 (.int .i64 a9)).set_ 12 (.int .i64 a10)).set_ 13 (.int .i64 a11))
      simpa using h
    have kf_N : Blk ((((((((((((((w_6.setCell ⟨b_R, 0, none⟩ (.slice (some ⟨gS_6, 0, none⟩) n cS_6)).setCell ⟨b_R, 1, none⟩ (.int .i64 a0)).setCell ⟨b_R, 2, none⟩ (.int .i64 a1)).setCell ⟨b_R, 3, none⟩ (.int .i64 a2)).setCell ⟨b_R, 4, none⟩ (.int .i64 a3)).setCell ⟨b_R, 5, none⟩ (.int .i64 a4)).setCell ⟨b_R, 6, none⟩ (.slice (some ⟨gQ_6, 0, none⟩) m cQ_6)).setCell ⟨b_R, 7, none⟩ (.int .i64 a5)).setCell ⟨b_R, 8, none⟩ (.int .i64 a6)).setCell ⟨b_R, 9, none⟩ (.int .i64 a7)).setCell ⟨b_R, 10, none⟩ (.int .i64 a8)).setCell ⟨b_R, 11, none⟩ (.int .i64 a9)).setCell ⟨b_R, 12, none⟩ (.int .i64 a10)).setCell ⟨b_R, 13, none⟩ (.int .i64 a11)) b_N 45 #[.slice (some ⟨g, 0, none⟩) n c, .int .i64 a0, .int .i64 a1, .int .i64 a2, .int .i64 a3, .int .i64 a4, .slice (some ⟨gZ_4, 0, none⟩) zs.length cZ_4, .int .i64 s0, .int .i64 s1, .int .i64 s2, .int .i64 s3, .int .i64 s4, .int .i64 s5, .int .i64 mo] := by
      have h := (Blk.far (Blk.far (Blk.far (Blk.far (Blk.far (Blk.far (Blk.far (Blk.far (Blk.far (Blk.far (Blk.far (Blk.far (Blk.far (Blk.far k_6_N (p := ⟨b_R, 0, none⟩) (by first | exact NB_N_R.out | exact NB_R_N.out.symm) (.slice (some ⟨gS_6, 0, none⟩) n cS_6)) (p := ⟨b_R, 1, none⟩) (by first | exact NB_N_R.out | exact NB_R_N.out.symm) (.int .i64 a0)) (p := ⟨b_R, 2, none⟩) (by first | exact NB_N_R.out | exact NB_R_N.out.symm) (.int .i64 a1)) (p := ⟨b_R, 3, none⟩) (by first | exact NB_N_R.out | exact NB_R_N.out.symm) (.int .i64 a2)) (p := ⟨b_R, 4, none⟩) (by first | exact NB_N_R.out | exact NB_R_N.out.symm) (.int .i64 a3)) (p := ⟨b_R, 5, none⟩) (by first | exact NB_N_R.out | exact NB_R_N.out.symm) (.int .i64 a4)) (p := ⟨b_R, 6, none⟩) (by first | exact NB_N_R.out | exact NB_R_N.out.symm) (.slice (some ⟨gQ_6, 0, none⟩) m cQ_6)) (p := ⟨b_R, 7, none⟩) (by first | exact NB_N_R.out | exact NB_R_N.out.symm) (.int .i64 a5)) (p := ⟨b_R, 8, none⟩) (by first | exact NB_N_R.out | exact NB_R_N.out.symm) (.int .i64 a6)) (p := ⟨b_R, 9, none⟩) (by first | exact NB_N_R.out | exact NB_R_N.out.symm) (.int .i64 a7)) (p := ⟨b_R, 10, none⟩) (by first | exact NB_N_R.out | exact NB_R_N.out.symm) (.int .i64 a8)) (p := ⟨b_R, 11, none⟩) (by first | exact NB_N_R.out | exact NB_R_N.out.symm) (.int .i64 a9)) (p := ⟨b_R, 12, none⟩) (by first | exact NB_N_R.out | exact NB_R_N.out.symm) (.int .i64 a10)) (p := ⟨b_R, 13, none⟩) (by first | exact NB_N_R.out | exact NB_R_N.out.symm) (.int .i64 a11))
      simpa using h
    have fo_Z : OCEvent ((((((((((((((w_6.setCell ⟨b_R, 0, none⟩ (.slice (some ⟨gS_6, 0, none⟩) n cS_6)).setCell ⟨b_R, 1, none⟩ (.int .i64 a0)).setCell ⟨b_R, 2, none⟩ (.int .i64 a1)).setCell ⟨b_R, 3, none⟩ (.int .i64 a2)).setCell ⟨b_R, 4, none⟩ (.int .i64 a3)).setCell ⟨b_R, 5, none⟩ (.int .i64 a4)).setCell ⟨b_R, 6, none⟩ (.slice (some ⟨gQ_6, 0, none⟩) m cQ_6)).setCell ⟨b_R, 7, none⟩ (.int .i64 a5)).setCell ⟨b_R, 8, none⟩ (.int .i64 a6)).setCell ⟨b_R, 9, none⟩ (.int .i64 a7)).setCell ⟨b_R, 10, none⟩ (.int .i64 a8)).setCell ⟨b_R, 11, none⟩ (.int .i64 a9)).setCell ⟨b_R, 12, none⟩ (.int .i64 a10)).setCell ⟨b_R, 13, none⟩ (.int .i64 a11)) gZ_4 (zs.length) cZ_4 zs := OCEvent.far o_6_Z k_6_R (by decide) only14
    have fo_S : OwnC ((((((((((((((w_6.setCell ⟨b_R, 0, none⟩ (.slice (some ⟨gS_6, 0, none⟩) n cS_6)).setCell ⟨b_R, 1, none⟩ (.int .i64 a0)).setCell ⟨b_R, 2, none⟩ (.int .i64 a1)).setCell ⟨b_R, 3, none⟩ (.int .i64 a2)).setCell ⟨b_R, 4, none⟩ (.int .i64 a3)).setCell ⟨b_R, 5, none⟩ (.int .i64 a4)).setCell ⟨b_R, 6, none⟩ (.slice (some ⟨gQ_6, 0, none⟩) m cQ_6)).setCell ⟨b_R, 7, none⟩ (.int .i64 a5)).setCell ⟨b_R, 8, none⟩ (.int .i64 a6)).setCell ⟨b_R, 9, none⟩ (.int .i64 a7)).setCell ⟨b_R, 10, none⟩ (.int .i64 a8)).setCell ⟨b_R, 11, none⟩ (.int .i64 a9)).setCell ⟨b_R, 12, none⟩ (.int .i64 a10)).setCell ⟨b_R, 13, none⟩ (.int .i64 a11)) gS_6 (n) cS_6 xs := OwnC.far o_6_S k_6_R (by decide) only14
    have fo_Q : OCEvent ((((((((((((((w_6.setCell ⟨b_R, 0, none⟩ (.slice (some ⟨gS_6, 0, none⟩) n cS_6)).setCell ⟨b_R, 1, none⟩ (.int .i64 a0)).setCell ⟨b_R, 2, none⟩ (.int .i64 a1)).setCell ⟨b_R, 3, none⟩ (.int .i64 a2)).setCell ⟨b_R, 4, none⟩ (.int .i64 a3)).setCell ⟨b_R, 5, none⟩ (.int .i64 a4)).setCell ⟨b_R, 6, none⟩ (.slice (some ⟨gQ_6, 0, none⟩) m cQ_6)).setCell ⟨b_R, 7, none⟩ (.int .i64 a5)).setCell ⟨b_R, 8, none⟩ (.int .i64 a6)).setCell ⟨b_R, 9, none⟩ (.int .i64 a7)).setCell ⟨b_R, 10, none⟩ (.int .i64 a8)).setCell ⟨b_R, 11, none⟩ (.int .i64 a9)).setCell ⟨b_R, 12, none⟩ (.int .i64 a10)).setCell ⟨b_R, 13, none⟩ (.int .i64 a11)) gQ_6 (m) cQ_6 ys := OCEvent.far o_6_Q k_6_R (by decide) only14
    have ii_7 : In w.heap.size w ((((((((((((((w_6.setCell ⟨b_R, 0, none⟩ (.slice (some ⟨gS_6, 0, none⟩) n cS_6)).setCell ⟨b_R, 1, none⟩ (.int .i64 a0)).setCell ⟨b_R, 2, none⟩ (.int .i64 a1)).setCell ⟨b_R, 3, none⟩ (.int .i64 a2)).setCell ⟨b_R, 4, none⟩ (.int .i64 a3)).setCell ⟨b_R, 5, none⟩ (.int .i64 a4)).setCell ⟨b_R, 6, none⟩ (.slice (some ⟨gQ_6, 0, none⟩) m cQ_6)).setCell ⟨b_R, 7, none⟩ (.int .i64 a5)).setCell ⟨b_R, 8, none⟩ (.int .i64 a6)).setCell ⟨b_R, 9, none⟩ (.int .i64 a7)).setCell ⟨b_R, 10, none⟩ (.int .i64 a8)).setCell ⟨b_R, 11, none⟩ (.int .i64 a9)).setCell ⟨b_R, 12, none⟩ (.int .i64 a10)).setCell ⟨b_R, 13, none⟩ (.int .i64 a11)) := ins14 i_6 hwb_R
    generalize ((((((((((((((w_6.setCell ⟨b_R, 0, none⟩ (.slice (some ⟨gS_6, 0, none⟩) n cS_6)).setCell ⟨b_R, 1, none⟩ (.int .i64 a0)).setCell ⟨b_R, 2, none⟩ (.int .i64 a1)).setCell ⟨b_R, 3, none⟩ (.int .i64 a2)).setCell ⟨b_R, 4, none⟩ (.int .i64 a3)).setCell ⟨b_R, 5, none⟩ (.int .i64 a4)).setCell ⟨b_R, 6, none⟩ (.slice (some ⟨gQ_6, 0, none⟩) m cQ_6)).setCell ⟨b_R, 7, none⟩ (.int .i64 a5)).setCell ⟨b_R, 8, none⟩ (.int .i64 a6)).setCell ⟨b_R, 9, none⟩ (.int .i64 a7)).setCell ⟨b_R, 10, none⟩ (.int .i64 a8)).setCell ⟨b_R, 11, none⟩ (.int .i64 a9)).setCell ⟨b_R, 12, none⟩ (.int .i64 a10)).setCell ⟨b_R, 13, none⟩ (.int .i64 a11)) = w_7 at *
    clear hn1_R_L hn2_R_L hn1_R_N hn2_R_N
    have i_7 : In w.heap.size w w_7 := ii_7
    have k_7_L : Blk w_7 b_L 111 #[.int .i32 1, .int .u32 0, .slice (some ⟨g, 0, none⟩) n c, .int .i64 a0, .int .i64 a1, .int .i64 a2, .int .i64 a3, .int .i64 a4, .slice (some ⟨h, 0, none⟩) m d, .int .i64 a5, .int .i64 a6, .int .i64 a7, .int .i64 a8, .int .i64 a9, .int .i64 a10, .int .i64 a11] := kf_L
    have c_7_L_0 : w_7.cell? ⟨b_L, 0, none⟩ = some (.int .i32 1) := k_7_L.cell 0
    have c_7_L_1 : w_7.cell? ⟨b_L, 1, none⟩ = some (.int .u32 0) := k_7_L.cell 1
    have c_7_L_2 : w_7.cell? ⟨b_L, 2, none⟩ = some (.slice (some ⟨g, 0, none⟩) n c) := k_7_L.cell 2
    have c_7_L_3 : w_7.cell? ⟨b_L, 3, none⟩ = some (.int .i64 a0) := k_7_L.cell 3
    have c_7_L_4 : w_7.cell? ⟨b_L, 4, none⟩ = some (.int .i64 a1) := k_7_L.cell 4
    have c_7_L_5 : w_7.cell? ⟨b_L, 5, none⟩ = some (.int .i64 a2) := k_7_L.cell 5
    have c_7_L_6 : w_7.cell? ⟨b_L, 6, none⟩ = some (.int .i64 a3) := k_7_L.cell 6
    have c_7_L_7 : w_7.cell? ⟨b_L, 7, none⟩ = some (.int .i64 a4) := k_7_L.cell 7
    have c_7_L_8 : w_7.cell? ⟨b_L, 8, none⟩ = some (.slice (some ⟨h, 0, none⟩) m d) := k_7_L.cell 8
    have c_7_L_9 : w_7.cell? ⟨b_L, 9, none⟩ = some (.int .i64 a5) := k_7_L.cell 9
    have c_7_L_10 : w_7.cell? ⟨b_L, 10, none⟩ = some (.int .i64 a6) := k_7_L.cell 10
    have c_7_L_11 : w_7.cell? ⟨b_L, 11, none⟩ = some (.int .i64 a7) := k_7_L.cell 11
    have c_7_L_12 : w_7.cell? ⟨b_L, 12, none⟩ = some (.int .i64 a8) := k_7_L.cell 12
    have c_7_L_13 : w_7.cell? ⟨b_L, 13, none⟩ = some (.int .i64 a9) := k_7_L.cell 13
    have c_7_L_14 : w_7.cell? ⟨b_L, 14, none⟩ = some (.int .i64 a10) := k_7_L.cell 14
    have c_7_L_15 : w_7.cell? ⟨b_L, 15, none⟩ = some (.int .i64 a11) := k_7_L.cell 15
    have l_7_L := k_7_L.lt
    have z_7_L := k_7_L.frozen
    have k_7_R : Blk w_7 b_R 45 #[.slice (some ⟨gS_6, 0, none⟩) n cS_6, .int .i64 a0, .int .i64 a1, .int .i64 a2, .int .i64 a3, .int .i64 a4, .slice (some ⟨gQ_6, 0, none⟩) m cQ_6, .int .i64 a5, .int .i64 a6, .int .i64 a7, .int .i64 a8, .int .i64 a9, .int .i64 a10, .int .i64 a11] := kf_R
    obtain ⟨c_7_R_0, c_7_R_1, c_7_R_2, c_7_R_3, c_7_R_4, c_7_R_5, c_7_R_6, c_7_R_7, c_7_R_8, c_7_R_9, c_7_R_10, c_7_R_11, c_7_R_12, c_7_R_13⟩ := cells14 k_7_R
    have l_7_R := k_7_R.lt
    have z_7_R := k_7_R.frozen
    have k_7_N : Blk w_7 b_N 45 #[.slice (some ⟨g, 0, none⟩) n c, .int .i64 a0, .int .i64 a1, .int .i64 a2, .int .i64 a3, .int .i64 a4, .slice (some ⟨gZ_4, 0, none⟩) zs.length cZ_4, .int .i64 s0, .int .i64 s1, .int .i64 s2, .int .i64 s3, .int .i64 s4, .int .i64 s5, .int .i64 mo] := kf_N
    obtain ⟨c_7_N_0, c_7_N_1, c_7_N_2, c_7_N_3, c_7_N_4, c_7_N_5, c_7_N_6, c_7_N_7, c_7_N_8, c_7_N_9, c_7_N_10, c_7_N_11, c_7_N_12, c_7_N_13⟩ := cells14 k_7_N
    have l_7_N := k_7_N.lt
    have z_7_N := k_7_N.frozen
    have o_7_Z : OCEvent w_7 gZ_4 (zs.length) cZ_4 zs := fo_Z
    have o_7_S : OwnC w_7 gS_6 (n) cS_6 xs := fo_S
    have o_7_Q : OCEvent w_7 gQ_6 (m) cQ_6 ys := fo_Q
    clear i_6 k_6_L c_6_L_0 c_6_L_1 c_6_L_2 c_6_L_3 c_6_L_4 c_6_L_5 c_6_L_6 c_6_L_7 c_6_L_8 c_6_L_9 c_6_L_10 c_6_L_11 c_6_L_12 c_6_L_13 c_6_L_14 c_6_L_15 l_6_L z_6_L k_6_R c_6_R_0 c_6_R_1 c_6_R_2 c_6_R_3 c_6_R_4 c_6_R_5 c_6_R_6 c_6_R_7 c_6_R_8 c_6_R_9 c_6_R_10 c_6_R_11 c_6_R_12 c_6_R_13 l_6_R z_6_R k_6_N c_6_N_0 c_6_N_1 c_6_N_2 c_6_N_3 c_6_N_4 c_6_N_5 c_6_N_6 c_6_N_7 c_6_N_8 c_6_N_9 c_6_N_10 c_6_N_11 c_6_N_12 c_6_N_13 l_6_N z_6_N o_6_Z o_6_S o_6_Q hb_6
    clear ii_7 kf_L kf_R kf_N fo_Z fo_S fo_Q
    rw [← HFI.out (yOk n xs m ys a0 a1 a2 a3 a4 a5 a6 a7 a8 a9 a10 a11 && (true && false)) (by simp)]
    refine leaves_cons (f := 95) (args := #[.pointer (some ⟨b_L, 0, none⟩)]) (by simp) (by simp [go_sem]) ?_
    refine (cUnlock ⟨b_L, 0, none⟩ .returning w_7 c_7_L_0 (k_7_L.frozen 0)).mono ?_
    rintro e9 u9 w9 ⟨rfl, rfl, rfl⟩
    have kE : Blk (w_7.setCell ⟨b_L, 0, none⟩ (.int .i32 0)) b_R 45 #[.slice (some ⟨gS_6, 0, none⟩) n cS_6, .int .i64 a0, .int .i64 a1, .int .i64 a2, .int .i64 a3, .int .i64 a4, .slice (some ⟨gQ_6, 0, none⟩) m cQ_6, .int .i64 a5, .int .i64 a6, .int .i64 a7, .int .i64 a8, .int .i64 a9, .int .i64 a10, .int .i64 a11] := Blk.far k_7_R (p := ⟨b_L, 0, none⟩) (NB_L_R.out.symm) _
    have iE : In w.heap.size w (w_7.setCell ⟨b_L, 0, none⟩ (.int .i32 0)) := In.set_ i_7 (p := ⟨b_L, 0, none⟩) hwb_L _
    have OZ : Hid (OCEvent (w_7.setCell ⟨b_L, 0, none⟩ (.int .i32 0)) gZ_4 (zs.length) cZ_4 zs) := Lib.hid (OCEvent.far o_7_Z k_7_L (by decide) (only_set _ _))
    have OS : Hid (OwnC (w_7.setCell ⟨b_L, 0, none⟩ (.int .i32 0)) gS_6 (n) cS_6 xs) := Lib.hid (OwnC.far o_7_S k_7_L (by decide) (only_set _ _))
    have OQ : Hid (OCEvent (w_7.setCell ⟨b_L, 0, none⟩ (.int .i32 0)) gQ_6 (m) cQ_6 ys) := Lib.hid (OCEvent.far o_7_Q k_7_L (by decide) (only_set _ _))
    have e0 := kE.cell 0
    simp only [List.getElem?_toArray, List.getElem?_cons_zero, List.getElem?_cons_succ] at e0
    have e1 := kE.cell 1
    simp only [List.getElem?_toArray, List.getElem?_cons_zero, List.getElem?_cons_succ] at e1
    have e2 := kE.cell 2
    simp only [List.getElem?_toArray, List.getElem?_cons_zero, List.getElem?_cons_succ] at e2
    have e3 := kE.cell 3
    simp only [List.getElem?_toArray, List.getElem?_cons_zero, List.getElem?_cons_succ] at e3
    have e4 := kE.cell 4
    simp only [List.getElem?_toArray, List.getElem?_cons_zero, List.getElem?_cons_succ] at e4
    have e5 := kE.cell 5
    simp only [List.getElem?_toArray, List.getElem?_cons_zero, List.getElem?_cons_succ] at e5
    have e6 := kE.cell 6
    simp only [List.getElem?_toArray, List.getElem?_cons_zero, List.getElem?_cons_succ] at e6
    have e7 := kE.cell 7
    simp only [List.getElem?_toArray, List.getElem?_cons_zero, List.getElem?_cons_succ] at e7
    have e8 := kE.cell 8
    simp only [List.getElem?_toArray, List.getElem?_cons_zero, List.getElem?_cons_succ] at e8
    have e9 := kE.cell 9
    simp only [List.getElem?_toArray, List.getElem?_cons_zero, List.getElem?_cons_succ] at e9
    have e10 := kE.cell 10
    simp only [List.getElem?_toArray, List.getElem?_cons_zero, List.getElem?_cons_succ] at e10
    have e11 := kE.cell 11
    simp only [List.getElem?_toArray, List.getElem?_cons_zero, List.getElem?_cons_succ] at e11
    have e12 := kE.cell 12
    simp only [List.getElem?_toArray, List.getElem?_cons_zero, List.getElem?_cons_succ] at e12
    have e13 := kE.cell 13
    simp only [List.getElem?_toArray, List.getElem?_cons_zero, List.getElem?_cons_succ] at e13
    simp [Leaves, settle, results, Try.results69, go_sem, e0, e1, e2, e3, e4, e5, e6, e7, e8, e9, e10, e11, e12, e13]
    exact rowYV_of rfl rfl rfl rfl rfl rfl rfl rfl rfl OS.out GX_S.out OQ.out GX_Q.out iE.below
  have hn1_L_R : b_R ≠ b_L := by first | exact NB_R_L.out | exact NB_L_R.out.symm
  have hn2_L_R : b_L ≠ b_R := hn1_L_R.symm
  have hn1_L_N : b_N ≠ b_L := by first | exact NB_N_L.out | exact NB_L_N.out.symm
  have hn2_L_N : b_L ≠ b_N := hn1_L_N.symm
  go_wp2_with fail
  have kf_L : Blk ((((((((((((((w_5.setCell ⟨b_L, 2, none⟩ (.slice (some ⟨g, 0, none⟩) n c)).setCell ⟨b_L, 3, none⟩ (.int .i64 a0)).setCell ⟨b_L, 4, none⟩ (.int .i64 a1)).setCell ⟨b_L, 5, none⟩ (.int .i64 a2)).setCell ⟨b_L, 6, none⟩ (.int .i64 a3)).setCell ⟨b_L, 7, none⟩ (.int .i64 a4)).setCell ⟨b_L, 8, none⟩ (.slice (some ⟨gZ_4, 0, none⟩) zs.length cZ_4)).setCell ⟨b_L, 9, none⟩ (.int .i64 s0)).setCell ⟨b_L, 10, none⟩ (.int .i64 s1)).setCell ⟨b_L, 11, none⟩ (.int .i64 s2)).setCell ⟨b_L, 12, none⟩ (.int .i64 s3)).setCell ⟨b_L, 13, none⟩ (.int .i64 s4)).setCell ⟨b_L, 14, none⟩ (.int .i64 s5)).setCell ⟨b_L, 15, none⟩ (.int .i64 mo)) b_L 111 #[.int .i32 1, .int .u32 0, .slice (some ⟨g, 0, none⟩) n c, .int .i64 a0, .int .i64 a1, .int .i64 a2, .int .i64 a3, .int .i64 a4, .slice (some ⟨gZ_4, 0, none⟩) zs.length cZ_4, .int .i64 s0, .int .i64 s1, .int .i64 s2, .int .i64 s3, .int .i64 s4, .int .i64 s5, .int .i64 mo] := by
    have h := ((((((((((((((k_5_L.set_ 2 (.slice (some ⟨g, 0, none⟩) n c)).set_ 3 (.int .i64 a0)).set_ 4 (.int .i64 a1)).set_ 5 (.int .i64 a2)).set_ 6 (.int .i64 a3)).set_ 7 (.int .i64 a4)).set_ 8 (.slice (some ⟨gZ_4, 0, none⟩) zs.length cZ_4)).set_ 9 (.int .i64 s0)).set_ 10 (.int .i64 s1)).set_ 11 (.int .i64 s2)).set_ 12 (.int .i64 s3)).set_ 13 (.int .i64 s4)).set_ 14 (.int .i64 s5)).set_ 15 (.int .i64 mo))
    simpa using h
  have kf_R : Blk ((((((((((((((w_5.setCell ⟨b_L, 2, none⟩ (.slice (some ⟨g, 0, none⟩) n c)).setCell ⟨b_L, 3, none⟩ (.int .i64 a0)).setCell ⟨b_L, 4, none⟩ (.int .i64 a1)).setCell ⟨b_L, 5, none⟩ (.int .i64 a2)).setCell ⟨b_L, 6, none⟩ (.int .i64 a3)).setCell ⟨b_L, 7, none⟩ (.int .i64 a4)).setCell ⟨b_L, 8, none⟩ (.slice (some ⟨gZ_4, 0, none⟩) zs.length cZ_4)).setCell ⟨b_L, 9, none⟩ (.int .i64 s0)).setCell ⟨b_L, 10, none⟩ (.int .i64 s1)).setCell ⟨b_L, 11, none⟩ (.int .i64 s2)).setCell ⟨b_L, 12, none⟩ (.int .i64 s3)).setCell ⟨b_L, 13, none⟩ (.int .i64 s4)).setCell ⟨b_L, 14, none⟩ (.int .i64 s5)).setCell ⟨b_L, 15, none⟩ (.int .i64 mo)) b_R 45 #[.slice none 0 0, .int .i64 0, .int .i64 0, .int .i64 0, .int .i64 0, .int .i64 0, .slice none 0 0, .int .i64 0, .int .i64 0, .int .i64 0, .int .i64 0, .int .i64 0, .int .i64 0, .int .i64 0] := by
    have h := (Blk.far (Blk.far (Blk.far (Blk.far (Blk.far (Blk.far (Blk.far (Blk.far (Blk.far (Blk.far (Blk.far (Blk.far (Blk.far (Blk.far k_5_R (p := ⟨b_L, 2, none⟩) (by first | exact NB_R_L.out | exact NB_L_R.out.symm) (.slice (some ⟨g, 0, none⟩) n c)) (p := ⟨b_L, 3, none⟩) (by first | exact NB_R_L.out | exact NB_L_R.out.symm) (.int .i64 a0)) (p := ⟨b_L, 4, none⟩) (by first | exact NB_R_L.out | exact NB_L_R.out.symm) (.int .i64 a1)) (p := ⟨b_L, 5, none⟩) (by first | exact NB_R_L.out | exact NB_L_R.out.symm) (.int .i64 a2)) (p := ⟨b_L, 6, none⟩) (by first | exact NB_R_L.out | exact NB_L_R.out.symm) (.int .i64 a3)) (p := ⟨b_L, 7, none⟩) (by first | exact NB_R_L.out | exact NB_L_R.out.symm) (.int .i64 a4)) (p := ⟨b_L, 8, none⟩) (by first | exact NB_R_L.out | exact NB_L_R.out.symm) (.slice (some ⟨gZ_4, 0, none⟩) zs.length cZ_4)) (p := ⟨b_L, 9, none⟩) (by first | exact NB_R_L.out | exact NB_L_R.out.symm) (.int .i64 s0)) (p := ⟨b_L, 10, none⟩) (by first | exact NB_R_L.out | exact NB_L_R.out.symm) (.int .i64 s1)) (p := ⟨b_L, 11, none⟩) (by first | exact NB_R_L.out | exact NB_L_R.out.symm) (.int .i64 s2)) (p := ⟨b_L, 12, none⟩) (by first | exact NB_R_L.out | exact NB_L_R.out.symm) (.int .i64 s3)) (p := ⟨b_L, 13, none⟩) (by first | exact NB_R_L.out | exact NB_L_R.out.symm) (.int .i64 s4)) (p := ⟨b_L, 14, none⟩) (by first | exact NB_R_L.out | exact NB_L_R.out.symm) (.int .i64 s5)) (p := ⟨b_L, 15, none⟩) (by first | exact NB_R_L.out | exact NB_L_R.out.symm) (.int .i64 mo))
    simpa using h
  have kf_N : Blk ((((((((((((((w_5.setCell ⟨b_L, 2, none⟩ (.slice (some ⟨g, 0, none⟩) n c)).setCell ⟨b_L, 3, none⟩ (.int .i64 a0)).setCell ⟨b_L, 4, none⟩ (.int .i64 a1)).setCell ⟨b_L, 5, none⟩ (.int .i64 a2)).setCell ⟨b_L, 6, none⟩ (.int .i64 a3)).setCell ⟨b_L, 7, none⟩ (.int .i64 a4)).setCell ⟨b_L, 8, none⟩ (.slice (some ⟨gZ_4, 0, none⟩) zs.length cZ_4)).setCell ⟨b_L, 9, none⟩ (.int .i64 s0)).setCell ⟨b_L, 10, none⟩ (.int .i64 s1)).setCell ⟨b_L, 11, none⟩ (.int .i64 s2)).setCell ⟨b_L, 12, none⟩ (.int .i64 s3)).setCell ⟨b_L, 13, none⟩ (.int .i64 s4)).setCell ⟨b_L, 14, none⟩ (.int .i64 s5)).setCell ⟨b_L, 15, none⟩ (.int .i64 mo)) b_N 45 #[.slice (some ⟨g, 0, none⟩) n c, .int .i64 a0, .int .i64 a1, .int .i64 a2, .int .i64 a3, .int .i64 a4, .slice (some ⟨gZ_4, 0, none⟩) zs.length cZ_4, .int .i64 s0, .int .i64 s1, .int .i64 s2, .int .i64 s3, .int .i64 s4, .int .i64 s5, .int .i64 mo] := by
    have h := (Blk.far (Blk.far (Blk.far (Blk.far (Blk.far (Blk.far (Blk.far (Blk.far (Blk.far (Blk.far (Blk.far (Blk.far (Blk.far (Blk.far k_5_N (p := ⟨b_L, 2, none⟩) (by first | exact NB_N_L.out | exact NB_L_N.out.symm) (.slice (some ⟨g, 0, none⟩) n c)) (p := ⟨b_L, 3, none⟩) (by first | exact NB_N_L.out | exact NB_L_N.out.symm) (.int .i64 a0)) (p := ⟨b_L, 4, none⟩) (by first | exact NB_N_L.out | exact NB_L_N.out.symm) (.int .i64 a1)) (p := ⟨b_L, 5, none⟩) (by first | exact NB_N_L.out | exact NB_L_N.out.symm) (.int .i64 a2)) (p := ⟨b_L, 6, none⟩) (by first | exact NB_N_L.out | exact NB_L_N.out.symm) (.int .i64 a3)) (p := ⟨b_L, 7, none⟩) (by first | exact NB_N_L.out | exact NB_L_N.out.symm) (.int .i64 a4)) (p := ⟨b_L, 8, none⟩) (by first | exact NB_N_L.out | exact NB_L_N.out.symm) (.slice (some ⟨gZ_4, 0, none⟩) zs.length cZ_4)) (p := ⟨b_L, 9, none⟩) (by first | exact NB_N_L.out | exact NB_L_N.out.symm) (.int .i64 s0)) (p := ⟨b_L, 10, none⟩) (by first | exact NB_N_L.out | exact NB_L_N.out.symm) (.int .i64 s1)) (p := ⟨b_L, 11, none⟩) (by first | exact NB_N_L.out | exact NB_L_N.out.symm) (.int .i64 s2)) (p := ⟨b_L, 12, none⟩) (by first | exact NB_N_L.out | exact NB_L_N.out.symm) (.int .i64 s3)) (p := ⟨b_L, 13, none⟩) (by first | exact NB_N_L.out | exact NB_L_N.out.symm) (.int .i64 s4)) (p := ⟨b_L, 14, none⟩) (by first | exact NB_N_L.out | exact NB_L_N.out.symm) (.int .i64 s5)) (p := ⟨b_L, 15, none⟩) (by first | exact NB_N_L.out | exact NB_L_N.out.symm) (.int .i64 mo))
    simpa using h
  have fo_Z : OCEvent ((((((((((((((w_5.setCell ⟨b_L, 2, none⟩ (.slice (some ⟨g, 0, none⟩) n c)).setCell ⟨b_L, 3, none⟩ (.int .i64 a0)).setCell ⟨b_L, 4, none⟩ (.int .i64 a1)).setCell ⟨b_L, 5, none⟩ (.int .i64 a2)).setCell ⟨b_L, 6, none⟩ (.int .i64 a3)).setCell ⟨b_L, 7, none⟩ (.int .i64 a4)).setCell ⟨b_L, 8, none⟩ (.slice (some ⟨gZ_4, 0, none⟩) zs.length cZ_4)).setCell ⟨b_L, 9, none⟩ (.int .i64 s0)).setCell ⟨b_L, 10, none⟩ (.int .i64 s1)).setCell ⟨b_L, 11, none⟩ (.int .i64 s2)).setCell ⟨b_L, 12, none⟩ (.int .i64 s3)).setCell ⟨b_L, 13, none⟩ (.int .i64 s4)).setCell ⟨b_L, 14, none⟩ (.int .i64 s5)).setCell ⟨b_L, 15, none⟩ (.int .i64 mo)) gZ_4 (zs.length) cZ_4 zs := OCEvent.far o_5_Z k_5_L (by decide) only14
  have ii_6 : In w.heap.size w ((((((((((((((w_5.setCell ⟨b_L, 2, none⟩ (.slice (some ⟨g, 0, none⟩) n c)).setCell ⟨b_L, 3, none⟩ (.int .i64 a0)).setCell ⟨b_L, 4, none⟩ (.int .i64 a1)).setCell ⟨b_L, 5, none⟩ (.int .i64 a2)).setCell ⟨b_L, 6, none⟩ (.int .i64 a3)).setCell ⟨b_L, 7, none⟩ (.int .i64 a4)).setCell ⟨b_L, 8, none⟩ (.slice (some ⟨gZ_4, 0, none⟩) zs.length cZ_4)).setCell ⟨b_L, 9, none⟩ (.int .i64 s0)).setCell ⟨b_L, 10, none⟩ (.int .i64 s1)).setCell ⟨b_L, 11, none⟩ (.int .i64 s2)).setCell ⟨b_L, 12, none⟩ (.int .i64 s3)).setCell ⟨b_L, 13, none⟩ (.int .i64 s4)).setCell ⟨b_L, 14, none⟩ (.int .i64 s5)).setCell ⟨b_L, 15, none⟩ (.int .i64 mo)) := (In.set_ (In.set_ (In.set_ (In.set_ (In.set_ (In.set_ (In.set_ (In.set_ (In.set_ (In.set_ (In.set_ (In.set_ (In.set_ (In.set_ i_5 (p := ⟨b_L, 2, none⟩) hwb_L (.slice (some ⟨g, 0, none⟩) n c)) (p := ⟨b_L, 3, none⟩) hwb_L (.int .i64 a0)) (p := ⟨b_L, 4, none⟩) hwb_L (.int .i64 a1)) (p := ⟨b_L, 5, none⟩) hwb_L (.int .i64 a2)) (p := ⟨b_L, 6, none⟩) hwb_L (.int .i64 a3)) (p := ⟨b_L, 7, none⟩) hwb_L (.int .i64 a4)) (p := ⟨b_L, 8, none⟩) hwb_L (.slice (some ⟨gZ_4, 0, none⟩) zs.length cZ_4)) (p := ⟨b_L, 9, none⟩) hwb_L (.int .i64 s0)) (p := ⟨b_L, 10, none⟩) hwb_L (.int .i64 s1)) (p := ⟨b_L, 11, none⟩) hwb_L (.int .i64 s2)) (p := ⟨b_L, 12, none⟩) hwb_L (.int .i64 s3)) (p := ⟨b_L, 13, none⟩) hwb_L (.int .i64 s4)) (p := ⟨b_L, 14, none⟩) hwb_L (.int .i64 s5)) (p := ⟨b_L, 15, none⟩) hwb_L (.int .i64 mo))
  generalize ((((((((((((((w_5.setCell ⟨b_L, 2, none⟩ (.slice (some ⟨g, 0, none⟩) n c)).setCell ⟨b_L, 3, none⟩ (.int .i64 a0)).setCell ⟨b_L, 4, none⟩ (.int .i64 a1)).setCell ⟨b_L, 5, none⟩ (.int .i64 a2)).setCell ⟨b_L, 6, none⟩ (.int .i64 a3)).setCell ⟨b_L, 7, none⟩ (.int .i64 a4)).setCell ⟨b_L, 8, none⟩ (.slice (some ⟨gZ_4, 0, none⟩) zs.length cZ_4)).setCell ⟨b_L, 9, none⟩ (.int .i64 s0)).setCell ⟨b_L, 10, none⟩ (.int .i64 s1)).setCell ⟨b_L, 11, none⟩ (.int .i64 s2)).setCell ⟨b_L, 12, none⟩ (.int .i64 s3)).setCell ⟨b_L, 13, none⟩ (.int .i64 s4)).setCell ⟨b_L, 14, none⟩ (.int .i64 s5)).setCell ⟨b_L, 15, none⟩ (.int .i64 mo)) = w_6 at *
  clear hn1_L_R hn2_L_R hn1_L_N hn2_L_N
  have i_6 : In w.heap.size w w_6 := ii_6
  have k_6_L : Blk w_6 b_L 111 #[.int .i32 1, .int .u32 0, .slice (some ⟨g, 0, none⟩) n c, .int .i64 a0, .int .i64 a1, .int .i64 a2, .int .i64 a3, .int .i64 a4, .slice (some ⟨gZ_4, 0, none⟩) zs.length cZ_4, .int .i64 s0, .int .i64 s1, .int .i64 s2, .int .i64 s3, .int .i64 s4, .int .i64 s5, .int .i64 mo] := kf_L
  have c_6_L_0 : w_6.cell? ⟨b_L, 0, none⟩ = some (.int .i32 1) := k_6_L.cell 0
  have c_6_L_1 : w_6.cell? ⟨b_L, 1, none⟩ = some (.int .u32 0) := k_6_L.cell 1
  have c_6_L_2 : w_6.cell? ⟨b_L, 2, none⟩ = some (.slice (some ⟨g, 0, none⟩) n c) := k_6_L.cell 2
  have c_6_L_3 : w_6.cell? ⟨b_L, 3, none⟩ = some (.int .i64 a0) := k_6_L.cell 3
  have c_6_L_4 : w_6.cell? ⟨b_L, 4, none⟩ = some (.int .i64 a1) := k_6_L.cell 4
  have c_6_L_5 : w_6.cell? ⟨b_L, 5, none⟩ = some (.int .i64 a2) := k_6_L.cell 5
  have c_6_L_6 : w_6.cell? ⟨b_L, 6, none⟩ = some (.int .i64 a3) := k_6_L.cell 6
  have c_6_L_7 : w_6.cell? ⟨b_L, 7, none⟩ = some (.int .i64 a4) := k_6_L.cell 7
  have c_6_L_8 : w_6.cell? ⟨b_L, 8, none⟩ = some (.slice (some ⟨gZ_4, 0, none⟩) zs.length cZ_4) := k_6_L.cell 8
  have c_6_L_9 : w_6.cell? ⟨b_L, 9, none⟩ = some (.int .i64 s0) := k_6_L.cell 9
  have c_6_L_10 : w_6.cell? ⟨b_L, 10, none⟩ = some (.int .i64 s1) := k_6_L.cell 10
  have c_6_L_11 : w_6.cell? ⟨b_L, 11, none⟩ = some (.int .i64 s2) := k_6_L.cell 11
  have c_6_L_12 : w_6.cell? ⟨b_L, 12, none⟩ = some (.int .i64 s3) := k_6_L.cell 12
  have c_6_L_13 : w_6.cell? ⟨b_L, 13, none⟩ = some (.int .i64 s4) := k_6_L.cell 13
  have c_6_L_14 : w_6.cell? ⟨b_L, 14, none⟩ = some (.int .i64 s5) := k_6_L.cell 14
  have c_6_L_15 : w_6.cell? ⟨b_L, 15, none⟩ = some (.int .i64 mo) := k_6_L.cell 15
  have l_6_L := k_6_L.lt
  have z_6_L := k_6_L.frozen
  have k_6_R : Blk w_6 b_R 45 #[.slice none 0 0, .int .i64 0, .int .i64 0, .int .i64 0, .int .i64 0, .int .i64 0, .slice none 0 0, .int .i64 0, .int .i64 0, .int .i64 0, .int .i64 0, .int .i64 0, .int .i64 0, .int .i64 0] := kf_R
  obtain ⟨c_6_R_0, c_6_R_1, c_6_R_2, c_6_R_3, c_6_R_4, c_6_R_5, c_6_R_6, c_6_R_7, c_6_R_8, c_6_R_9, c_6_R_10, c_6_R_11, c_6_R_12, c_6_R_13⟩ := cells14 k_6_R
  have l_6_R := k_6_R.lt
  have z_6_R := k_6_R.frozen
  have k_6_N : Blk w_6 b_N 45 #[.slice (some ⟨g, 0, none⟩) n c, .int .i64 a0, .int .i64 a1, .int .i64 a2, .int .i64 a3, .int .i64 a4, .slice (some ⟨gZ_4, 0, none⟩) zs.length cZ_4, .int .i64 s0, .int .i64 s1, .int .i64 s2, .int .i64 s3, .int .i64 s4, .int .i64 s5, .int .i64 mo] := kf_N
  obtain ⟨c_6_N_0, c_6_N_1, c_6_N_2, c_6_N_3, c_6_N_4, c_6_N_5, c_6_N_6, c_6_N_7, c_6_N_8, c_6_N_9, c_6_N_10, c_6_N_11, c_6_N_12, c_6_N_13⟩ := cells14 k_6_N
  have l_6_N := k_6_N.lt
  have z_6_N := k_6_N.frozen
  have o_6_Z : OCEvent w_6 gZ_4 (zs.length) cZ_4 zs := fo_Z
  clear i_5 k_5_L c_5_L_0 c_5_L_1 c_5_L_2 c_5_L_3 c_5_L_4 c_5_L_5 c_5_L_6 c_5_L_7 c_5_L_8 c_5_L_9 c_5_L_10 c_5_L_11 c_5_L_12 c_5_L_13 c_5_L_14 c_5_L_15 l_5_L z_5_L k_5_R c_5_R_0 c_5_R_1 c_5_R_2 c_5_R_3 c_5_R_4 c_5_R_5 c_5_R_6 c_5_R_7 c_5_R_8 c_5_R_9 c_5_R_10 c_5_R_11 c_5_R_12 c_5_R_13 l_5_R z_5_R k_5_N c_5_N_0 c_5_N_1 c_5_N_2 c_5_N_3 c_5_N_4 c_5_N_5 c_5_N_6 c_5_N_7 c_5_N_8 c_5_N_9 c_5_N_10 c_5_N_11 c_5_N_12 c_5_N_13 l_5_N z_5_N o_5_Z hb_5
  clear ii_6 kf_L kf_R kf_N fo_Z
  skip
  refine (i38Copy g n c xs gZ_4 zs.length cZ_4 zs a0 a1 a2 a3 a4 s0 s1 s2 s3 s4 s5 mo _ hn (by omega) (HX.out.in_ (by (repeat (first | exact In.refl _ | assumption | apply In.alloc | apply In.drewN | apply In.drew | (refine In.step ?_ (by assumption)))))) (OCEvent.reads (by with_reducible (repeat (first | assumption | apply OCEvent.drewN | apply OCEvent.drew | apply OCEvent.alloc))))).mono ?_
  rintro _ w_7 ⟨gS_7, cS_7, gQ_7, cQ_7, rfl, hoS_7, hgS_7, hoQ_7, hgQ_7, hb_7⟩
  have NE_Z_S : Hid (gZ_4 ≠ gS_7) := Lib.hid (by have h1 := hgS_7; (try simp at h1); have h2 := OCEvent.lt o_6_Z; omega)
  have GX_S : Hid (w.heap.size ≤ gS_7) := Lib.hid (by have h1 := hgS_7; (try simp at h1); have h2 := In.size i_6; omega)
  have o_7_S : OwnC w_7 gS_7 (n) cS_7 xs := hoS_7
  clear hoS_7 hgS_7
  have NE_Z_Q : Hid (gZ_4 ≠ gQ_7) := Lib.hid (by have h1 := hgQ_7; (try simp at h1); have h2 := OCEvent.lt o_6_Z; omega)
  have NE_S_Q : Hid (gS_7 ≠ gQ_7) := Lib.hid (ne_OwnC_OCEvent o_7_S hoQ_7)
  have GX_Q : Hid (w.heap.size ≤ gQ_7) := Lib.hid (by have h1 := hgQ_7; (try simp at h1); have h2 := In.size i_6; omega)
  have o_7_Q : OCEvent w_7 gQ_7 (zs.length) cQ_7 zs := hoQ_7
  clear hoQ_7 hgQ_7
  have i_7 : In w.heap.size w w_7 := In.step (by (repeat (first | exact In.refl _ | assumption | apply In.alloc | apply In.drewN | apply In.drew | (refine In.step ?_ (by assumption))))) hb_7
  have k_7_L : Blk w_7 b_L 111 #[.int .i32 1, .int .u32 0, .slice (some ⟨g, 0, none⟩) n c, .int .i64 a0, .int .i64 a1, .int .i64 a2, .int .i64 a3, .int .i64 a4, .slice (some ⟨gZ_4, 0, none⟩) zs.length cZ_4, .int .i64 s0, .int .i64 s1, .int .i64 s2, .int .i64 s3, .int .i64 s4, .int .i64 s5, .int .i64 mo] := Blk.step (by (with_reducible (repeat (first | assumption | exact Blk.new' (by simp) | apply Blk.drewN | apply Blk.drew | apply Blk.alloc | (refine Blk.far ?_ (by (try simp) <;> omega) _))))) hb_7
  have c_7_L_0 : w_7.cell? ⟨b_L, 0, none⟩ = some (.int .i32 1) := k_7_L.cell 0
  have c_7_L_1 : w_7.cell? ⟨b_L, 1, none⟩ = some (.int .u32 0) := k_7_L.cell 1
  have c_7_L_2 : w_7.cell? ⟨b_L, 2, none⟩ = some (.slice (some ⟨g, 0, none⟩) n c) := k_7_L.cell 2
  have c_7_L_3 : w_7.cell? ⟨b_L, 3, none⟩ = some (.int .i64 a0) := k_7_L.cell 3
  have c_7_L_4 : w_7.cell? ⟨b_L, 4, none⟩ = some (.int .i64 a1) := k_7_L.cell 4
  have c_7_L_5 : w_7.cell? ⟨b_L, 5, none⟩ = some (.int .i64 a2) := k_7_L.cell 5
  have c_7_L_6 : w_7.cell? ⟨b_L, 6, none⟩ = some (.int .i64 a3) := k_7_L.cell 6
  have c_7_L_7 : w_7.cell? ⟨b_L, 7, none⟩ = some (.int .i64 a4) := k_7_L.cell 7
  have c_7_L_8 : w_7.cell? ⟨b_L, 8, none⟩ = some (.slice (some ⟨gZ_4, 0, none⟩) zs.length cZ_4) := k_7_L.cell 8
  have c_7_L_9 : w_7.cell? ⟨b_L, 9, none⟩ = some (.int .i64 s0) := k_7_L.cell 9
  have c_7_L_10 : w_7.cell? ⟨b_L, 10, none⟩ = some (.int .i64 s1) := k_7_L.cell 10
  have c_7_L_11 : w_7.cell? ⟨b_L, 11, none⟩ = some (.int .i64 s2) := k_7_L.cell 11
  have c_7_L_12 : w_7.cell? ⟨b_L, 12, none⟩ = some (.int .i64 s3) := k_7_L.cell 12
  have c_7_L_13 : w_7.cell? ⟨b_L, 13, none⟩ = some (.int .i64 s4) := k_7_L.cell 13
  have c_7_L_14 : w_7.cell? ⟨b_L, 14, none⟩ = some (.int .i64 s5) := k_7_L.cell 14
  have c_7_L_15 : w_7.cell? ⟨b_L, 15, none⟩ = some (.int .i64 mo) := k_7_L.cell 15
  have l_7_L := k_7_L.lt
  have z_7_L := k_7_L.frozen
  have k_7_R : Blk w_7 b_R 45 #[.slice none 0 0, .int .i64 0, .int .i64 0, .int .i64 0, .int .i64 0, .int .i64 0, .slice none 0 0, .int .i64 0, .int .i64 0, .int .i64 0, .int .i64 0, .int .i64 0, .int .i64 0, .int .i64 0] := Blk.step (by (with_reducible (repeat (first | assumption | exact Blk.new' (by simp) | apply Blk.drewN | apply Blk.drew | apply Blk.alloc | (refine Blk.far ?_ (by (try simp) <;> omega) _))))) hb_7
  obtain ⟨c_7_R_0, c_7_R_1, c_7_R_2, c_7_R_3, c_7_R_4, c_7_R_5, c_7_R_6, c_7_R_7, c_7_R_8, c_7_R_9, c_7_R_10, c_7_R_11, c_7_R_12, c_7_R_13⟩ := cells14 k_7_R
  have l_7_R := k_7_R.lt
  have z_7_R := k_7_R.frozen
  have k_7_N : Blk w_7 b_N 45 #[.slice (some ⟨g, 0, none⟩) n c, .int .i64 a0, .int .i64 a1, .int .i64 a2, .int .i64 a3, .int .i64 a4, .slice (some ⟨gZ_4, 0, none⟩) zs.length cZ_4, .int .i64 s0, .int .i64 s1, .int .i64 s2, .int .i64 s3, .int .i64 s4, .int .i64 s5, .int .i64 mo] := Blk.step (by (with_reducible (repeat (first | assumption | exact Blk.new' (by simp) | apply Blk.drewN | apply Blk.drew | apply Blk.alloc | (refine Blk.far ?_ (by (try simp) <;> omega) _))))) hb_7
  obtain ⟨c_7_N_0, c_7_N_1, c_7_N_2, c_7_N_3, c_7_N_4, c_7_N_5, c_7_N_6, c_7_N_7, c_7_N_8, c_7_N_9, c_7_N_10, c_7_N_11, c_7_N_12, c_7_N_13⟩ := cells14 k_7_N
  have l_7_N := k_7_N.lt
  have z_7_N := k_7_N.frozen
  have o_7_Z : OCEvent w_7 gZ_4 (zs.length) cZ_4 zs := OCEvent.step (by with_reducible (repeat (first | assumption | apply OCEvent.drewN | apply OCEvent.drew | apply OCEvent.alloc))) hb_7
  clear i_6 k_6_L c_6_L_0 c_6_L_1 c_6_L_2 c_6_L_3 c_6_L_4 c_6_L_5 c_6_L_6 c_6_L_7 c_6_L_8 c_6_L_9 c_6_L_10 c_6_L_11 c_6_L_12 c_6_L_13 c_6_L_14 c_6_L_15 l_6_L z_6_L k_6_R c_6_R_0 c_6_R_1 c_6_R_2 c_6_R_3 c_6_R_4 c_6_R_5 c_6_R_6 c_6_R_7 c_6_R_8 c_6_R_9 c_6_R_10 c_6_R_11 c_6_R_12 c_6_R_13 l_6_R z_6_R k_6_N c_6_N_0 c_6_N_1 c_6_N_2 c_6_N_3 c_6_N_4 c_6_N_5 c_6_N_6 c_6_N_7 c_6_N_8 c_6_N_9 c_6_N_10 c_6_N_11 c_6_N_12 c_6_N_13 l_6_N z_6_N o_6_Z
  have hn1_R_L : b_L ≠ b_R := by first | exact NB_L_R.out | exact NB_R_L.out.symm
  have hn2_R_L : b_R ≠ b_L := hn1_R_L.symm
  have hn1_R_N : b_N ≠ b_R := by first | exact NB_N_R.out | exact NB_R_N.out.symm
  have hn2_R_N : b_R ≠ b_N := hn1_R_N.symm
  go_wp2_with fail
  have kf_L : Blk ((((((((((((((w_7.setCell ⟨b_R, 0, none⟩ (.slice (some ⟨gS_7, 0, none⟩) n cS_7)).setCell ⟨b_R, 1, none⟩ (.int .i64 a0)).setCell ⟨b_R, 2, none⟩ (.int .i64 a1)).setCell ⟨b_R, 3, none⟩ (.int .i64 a2)).setCell ⟨b_R, 4, none⟩ (.int .i64 a3)).setCell ⟨b_R, 5, none⟩ (.int .i64 a4)).setCell ⟨b_R, 6, none⟩ (.slice (some ⟨gQ_7, 0, none⟩) zs.length cQ_7)).setCell ⟨b_R, 7, none⟩ (.int .i64 s0)).setCell ⟨b_R, 8, none⟩ (.int .i64 s1)).setCell ⟨b_R, 9, none⟩ (.int .i64 s2)).setCell ⟨b_R, 10, none⟩ (.int .i64 s3)).setCell ⟨b_R, 11, none⟩ (.int .i64 s4)).setCell ⟨b_R, 12, none⟩ (.int .i64 s5)).setCell ⟨b_R, 13, none⟩ (.int .i64 mo)) b_L 111 #[.int .i32 1, .int .u32 0, .slice (some ⟨g, 0, none⟩) n c, .int .i64 a0, .int .i64 a1, .int .i64 a2, .int .i64 a3, .int .i64 a4, .slice (some ⟨gZ_4, 0, none⟩) zs.length cZ_4, .int .i64 s0, .int .i64 s1, .int .i64 s2, .int .i64 s3, .int .i64 s4, .int .i64 s5, .int .i64 mo] := by
    have h := (Blk.far (Blk.far (Blk.far (Blk.far (Blk.far (Blk.far (Blk.far (Blk.far (Blk.far (Blk.far (Blk.far (Blk.far (Blk.far (Blk.far k_7_L (p := ⟨b_R, 0, none⟩) (by first | exact NB_L_R.out | exact NB_R_L.out.symm) (.slice (some ⟨gS_7, 0, none⟩) n cS_7)) (p := ⟨b_R, 1, none⟩) (by first | exact NB_L_R.out | exact NB_R_L.out.symm) (.int .i64 a0)) (p := ⟨b_R, 2, none⟩) (by first | exact NB_L_R.out | exact NB_R_L.out.symm) (.int .i64 a1)) (p := ⟨b_R, 3, none⟩) (by first | exact NB_L_R.out | exact NB_R_L.out.symm) (.int .i64 a2)) (p := ⟨b_R, 4, none⟩) (by first | exact NB_L_R.out | exact NB_R_L.out.symm) (.int .i64 a3)) (p := ⟨b_R, 5, none⟩) (by first | exact NB_L_R.out | exact NB_R_L.out.symm) (.int .i64 a4)) (p := ⟨b_R, 6, none⟩) (by first | exact NB_L_R.out | exact NB_R_L.out.symm) (.slice (some ⟨gQ_7, 0, none⟩) zs.length cQ_7)) (p := ⟨b_R, 7, none⟩) (by first | exact NB_L_R.out | exact NB_R_L.out.symm) (.int .i64 s0)) (p := ⟨b_R, 8, none⟩) (by first | exact NB_L_R.out | exact NB_R_L.out.symm) (.int .i64 s1)) (p := ⟨b_R, 9, none⟩) (by first | exact NB_L_R.out | exact NB_R_L.out.symm) (.int .i64 s2)) (p := ⟨b_R, 10, none⟩) (by first | exact NB_L_R.out | exact NB_R_L.out.symm) (.int .i64 s3)) (p := ⟨b_R, 11, none⟩) (by first | exact NB_L_R.out | exact NB_R_L.out.symm) (.int .i64 s4)) (p := ⟨b_R, 12, none⟩) (by first | exact NB_L_R.out | exact NB_R_L.out.symm) (.int .i64 s5)) (p := ⟨b_R, 13, none⟩) (by first | exact NB_L_R.out | exact NB_R_L.out.symm) (.int .i64 mo))
    simpa using h
  have kf_R : Blk ((((((((((((((w_7.setCell ⟨b_R, 0, none⟩ (.slice (some ⟨gS_7, 0, none⟩) n cS_7)).setCell ⟨b_R, 1, none⟩ (.int .i64 a0)).setCell ⟨b_R, 2, none⟩ (.int .i64 a1)).setCell ⟨b_R, 3, none⟩ (.int .i64 a2)).setCell ⟨b_R, 4, none⟩ (.int .i64 a3)).setCell ⟨b_R, 5, none⟩ (.int .i64 a4)).setCell ⟨b_R, 6, none⟩ (.slice (some ⟨gQ_7, 0, none⟩) zs.length cQ_7)).setCell ⟨b_R, 7, none⟩ (.int .i64 s0)).setCell ⟨b_R, 8, none⟩ (.int .i64 s1)).setCell ⟨b_R, 9, none⟩ (.int .i64 s2)).setCell ⟨b_R, 10, none⟩ (.int .i64 s3)).setCell ⟨b_R, 11, none⟩ (.int .i64 s4)).setCell ⟨b_R, 12, none⟩ (.int .i64 s5)).setCell ⟨b_R, 13, none⟩ (.int .i64 mo)) b_R 45 #[.slice (some ⟨gS_7, 0, none⟩) n cS_7, .int .i64 a0, .int .i64 a1, .int .i64 a2, .int .i64 a3, .int .i64 a4, .slice (some ⟨gQ_7, 0, none⟩) zs.length cQ_7, .int .i64 s0, .int .i64 s1, .int .i64 s2, .int .i64 s3, .int .i64 s4, .int .i64 s5, .int .i64 mo] := by
    have h := ((((((((((((((k_7_R.set_ 0 (.slice (some ⟨gS_7, 0, none⟩) n cS_7)).set_ 1 (.int .i64 a0)).set_ 2 (.int .i64 a1)).set_ 3 (.int .i64 a2)).set_ 4 (.int .i64 a3)).set_ 5 (.int .i64 a4)).set_ 6 (.slice (some ⟨gQ_7, 0, none⟩) zs.length cQ_7)).set_ 7 (.int .i64 s0)).set_ 8 (.int .i64 s1)).set_ 9 (.int .i64 s2)).set_ 10 (.int .i64 s3)).set_ 11 (.int .i64 s4)).set_ 12 (.int .i64 s5)).set_ 13 (.int .i64 mo))
    simpa using h
  have kf_N : Blk ((((((((((((((w_7.setCell ⟨b_R, 0, none⟩ (.slice (some ⟨gS_7, 0, none⟩) n cS_7)).setCell ⟨b_R, 1, none⟩ (.int .i64 a0)).setCell ⟨b_R, 2, none⟩ (.int .i64 a1)).setCell ⟨b_R, 3, none⟩ (.int .i64 a2)).setCell ⟨b_R, 4, none⟩ (.int .i64 a3)).setCell ⟨b_R, 5, none⟩ (.int .i64 a4)).setCell ⟨b_R, 6, none⟩ (.slice (some ⟨gQ_7, 0, none⟩) zs.length cQ_7)).setCell ⟨b_R, 7, none⟩ (.int .i64 s0)).setCell ⟨b_R, 8, none⟩ (.int .i64 s1)).setCell ⟨b_R, 9, none⟩ (.int .i64 s2)).setCell ⟨b_R, 10, none⟩ (.int .i64 s3)).setCell ⟨b_R, 11, none⟩ (.int .i64 s4)).setCell ⟨b_R, 12, none⟩ (.int .i64 s5)).setCell ⟨b_R, 13, none⟩ (.int .i64 mo)) b_N 45 #[.slice (some ⟨g, 0, none⟩) n c, .int .i64 a0, .int .i64 a1, .int .i64 a2, .int .i64 a3, .int .i64 a4, .slice (some ⟨gZ_4, 0, none⟩) zs.length cZ_4, .int .i64 s0, .int .i64 s1, .int .i64 s2, .int .i64 s3, .int .i64 s4, .int .i64 s5, .int .i64 mo] := by
    have h := (Blk.far (Blk.far (Blk.far (Blk.far (Blk.far (Blk.far (Blk.far (Blk.far (Blk.far (Blk.far (Blk.far (Blk.far (Blk.far (Blk.far k_7_N (p := ⟨b_R, 0, none⟩) (by first | exact NB_N_R.out | exact NB_R_N.out.symm) (.slice (some ⟨gS_7, 0, none⟩) n cS_7)) (p := ⟨b_R, 1, none⟩) (by first | exact NB_N_R.out | exact NB_R_N.out.symm) (.int .i64 a0)) (p := ⟨b_R, 2, none⟩) (by first | exact NB_N_R.out | exact NB_R_N.out.symm) (.int .i64 a1)) (p := ⟨b_R, 3, none⟩) (by first | exact NB_N_R.out | exact NB_R_N.out.symm) (.int .i64 a2)) (p := ⟨b_R, 4, none⟩) (by first | exact NB_N_R.out | exact NB_R_N.out.symm) (.int .i64 a3)) (p := ⟨b_R, 5, none⟩) (by first | exact NB_N_R.out | exact NB_R_N.out.symm) (.int .i64 a4)) (p := ⟨b_R, 6, none⟩) (by first | exact NB_N_R.out | exact NB_R_N.out.symm) (.slice (some ⟨gQ_7, 0, none⟩) zs.length cQ_7)) (p := ⟨b_R, 7, none⟩) (by first | exact NB_N_R.out | exact NB_R_N.out.symm) (.int .i64 s0)) (p := ⟨b_R, 8, none⟩) (by first | exact NB_N_R.out | exact NB_R_N.out.symm) (.int .i64 s1)) (p := ⟨b_R, 9, none⟩) (by first | exact NB_N_R.out | exact NB_R_N.out.symm) (.int .i64 s2)) (p := ⟨b_R, 10, none⟩) (by first | exact NB_N_R.out | exact NB_R_N.out.symm) (.int .i64 s3)) (p := ⟨b_R, 11, none⟩) (by first | exact NB_N_R.out | exact NB_R_N.out.symm) (.int .i64 s4)) (p := ⟨b_R, 12, none⟩) (by first | exact NB_N_R.out | exact NB_R_N.out.symm) (.int .i64 s5)) (p := ⟨b_R, 13, none⟩) (by first | exact NB_N_R.out | exact NB_R_N.out.symm) (.int .i64 mo))
    simpa using h
  have fo_Z : OCEvent ((((((((((((((w_7.setCell ⟨b_R, 0, none⟩ (.slice (some ⟨gS_7, 0, none⟩) n cS_7)).setCell ⟨b_R, 1, none⟩ (.int .i64 a0)).setCell ⟨b_R, 2, none⟩ (.int .i64 a1)).setCell ⟨b_R, 3, none⟩ (.int .i64 a2)).setCell ⟨b_R, 4, none⟩ (.int .i64 a3)).setCell ⟨b_R, 5, none⟩ (.int .i64 a4)).setCell ⟨b_R, 6, none⟩ (.slice (some ⟨gQ_7, 0, none⟩) zs.length cQ_7)).setCell ⟨b_R, 7, none⟩ (.int .i64 s0)).setCell ⟨b_R, 8, none⟩ (.int .i64 s1)).setCell ⟨b_R, 9, none⟩ (.int .i64 s2)).setCell ⟨b_R, 10, none⟩ (.int .i64 s3)).setCell ⟨b_R, 11, none⟩ (.int .i64 s4)).setCell ⟨b_R, 12, none⟩ (.int .i64 s5)).setCell ⟨b_R, 13, none⟩ (.int .i64 mo)) gZ_4 (zs.length) cZ_4 zs := OCEvent.far o_7_Z k_7_R (by decide) only14
  have fo_S : OwnC ((((((((((((((w_7.setCell ⟨b_R, 0, none⟩ (.slice (some ⟨gS_7, 0, none⟩) n cS_7)).setCell ⟨b_R, 1, none⟩ (.int .i64 a0)).setCell ⟨b_R, 2, none⟩ (.int .i64 a1)).setCell ⟨b_R, 3, none⟩ (.int .i64 a2)).setCell ⟨b_R, 4, none⟩ (.int .i64 a3)).setCell ⟨b_R, 5, none⟩ (.int .i64 a4)).setCell ⟨b_R, 6, none⟩ (.slice (some ⟨gQ_7, 0, none⟩) zs.length cQ_7)).setCell ⟨b_R, 7, none⟩ (.int .i64 s0)).setCell ⟨b_R, 8, none⟩ (.int .i64 s1)).setCell ⟨b_R, 9, none⟩ (.int .i64 s2)).setCell ⟨b_R, 10, none⟩ (.int .i64 s3)).setCell ⟨b_R, 11, none⟩ (.int .i64 s4)).setCell ⟨b_R, 12, none⟩ (.int .i64 s5)).setCell ⟨b_R, 13, none⟩ (.int .i64 mo)) gS_7 (n) cS_7 xs := OwnC.far o_7_S k_7_R (by decide) only14
  have fo_Q : OCEvent ((((((((((((((w_7.setCell ⟨b_R, 0, none⟩ (.slice (some ⟨gS_7, 0, none⟩) n cS_7)).setCell ⟨b_R, 1, none⟩ (.int .i64 a0)).setCell ⟨b_R, 2, none⟩ (.int .i64 a1)).setCell ⟨b_R, 3, none⟩ (.int .i64 a2)).setCell ⟨b_R, 4, none⟩ (.int .i64 a3)).setCell ⟨b_R, 5, none⟩ (.int .i64 a4)).setCell ⟨b_R, 6, none⟩ (.slice (some ⟨gQ_7, 0, none⟩) zs.length cQ_7)).setCell ⟨b_R, 7, none⟩ (.int .i64 s0)).setCell ⟨b_R, 8, none⟩ (.int .i64 s1)).setCell ⟨b_R, 9, none⟩ (.int .i64 s2)).setCell ⟨b_R, 10, none⟩ (.int .i64 s3)).setCell ⟨b_R, 11, none⟩ (.int .i64 s4)).setCell ⟨b_R, 12, none⟩ (.int .i64 s5)).setCell ⟨b_R, 13, none⟩ (.int .i64 mo)) gQ_7 (zs.length) cQ_7 zs := OCEvent.far o_7_Q k_7_R (by decide) only14
  have ii_8 : In w.heap.size w ((((((((((((((w_7.setCell ⟨b_R, 0, none⟩ (.slice (some ⟨gS_7, 0, none⟩) n cS_7)).setCell ⟨b_R, 1, none⟩ (.int .i64 a0)).setCell ⟨b_R, 2, none⟩ (.int .i64 a1)).setCell ⟨b_R, 3, none⟩ (.int .i64 a2)).setCell ⟨b_R, 4, none⟩ (.int .i64 a3)).setCell ⟨b_R, 5, none⟩ (.int .i64 a4)).setCell ⟨b_R, 6, none⟩ (.slice (some ⟨gQ_7, 0, none⟩) zs.length cQ_7)).setCell ⟨b_R, 7, none⟩ (.int .i64 s0)).setCell ⟨b_R, 8, none⟩ (.int .i64 s1)).setCell ⟨b_R, 9, none⟩ (.int .i64 s2)).setCell ⟨b_R, 10, none⟩ (.int .i64 s3)).setCell ⟨b_R, 11, none⟩ (.int .i64 s4)).setCell ⟨b_R, 12, none⟩ (.int .i64 s5)).setCell ⟨b_R, 13, none⟩ (.int .i64 mo)) := ins14 i_7 hwb_R
  generalize ((((((((((((((w_7.setCell ⟨b_R, 0, none⟩ (.slice (some ⟨gS_7, 0, none⟩) n cS_7)).setCell ⟨b_R, 1, none⟩ (.int .i64 a0)).setCell ⟨b_R, 2, none⟩ (.int .i64 a1)).setCell ⟨b_R, 3, none⟩ (.int .i64 a2)).setCell ⟨b_R, 4, none⟩ (.int .i64 a3)).setCell ⟨b_R, 5, none⟩ (.int .i64 a4)).setCell ⟨b_R, 6, none⟩ (.slice (some ⟨gQ_7, 0, none⟩) zs.length cQ_7)).setCell ⟨b_R, 7, none⟩ (.int .i64 s0)).setCell ⟨b_R, 8, none⟩ (.int .i64 s1)).setCell ⟨b_R, 9, none⟩ (.int .i64 s2)).setCell ⟨b_R, 10, none⟩ (.int .i64 s3)).setCell ⟨b_R, 11, none⟩ (.int .i64 s4)).setCell ⟨b_R, 12, none⟩ (.int .i64 s5)).setCell ⟨b_R, 13, none⟩ (.int .i64 mo)) = w_8 at *
  clear hn1_R_L hn2_R_L hn1_R_N hn2_R_N
  have i_8 : In w.heap.size w w_8 := ii_8
  have k_8_L : Blk w_8 b_L 111 #[.int .i32 1, .int .u32 0, .slice (some ⟨g, 0, none⟩) n c, .int .i64 a0, .int .i64 a1, .int .i64 a2, .int .i64 a3, .int .i64 a4, .slice (some ⟨gZ_4, 0, none⟩) zs.length cZ_4, .int .i64 s0, .int .i64 s1, .int .i64 s2, .int .i64 s3, .int .i64 s4, .int .i64 s5, .int .i64 mo] := kf_L
  have c_8_L_0 : w_8.cell? ⟨b_L, 0, none⟩ = some (.int .i32 1) := k_8_L.cell 0
  have c_8_L_1 : w_8.cell? ⟨b_L, 1, none⟩ = some (.int .u32 0) := k_8_L.cell 1
  have c_8_L_2 : w_8.cell? ⟨b_L, 2, none⟩ = some (.slice (some ⟨g, 0, none⟩) n c) := k_8_L.cell 2
  have c_8_L_3 : w_8.cell? ⟨b_L, 3, none⟩ = some (.int .i64 a0) := k_8_L.cell 3
  have c_8_L_4 : w_8.cell? ⟨b_L, 4, none⟩ = some (.int .i64 a1) := k_8_L.cell 4
  have c_8_L_5 : w_8.cell? ⟨b_L, 5, none⟩ = some (.int .i64 a2) := k_8_L.cell 5
  have c_8_L_6 : w_8.cell? ⟨b_L, 6, none⟩ = some (.int .i64 a3) := k_8_L.cell 6
  have c_8_L_7 : w_8.cell? ⟨b_L, 7, none⟩ = some (.int .i64 a4) := k_8_L.cell 7
  have c_8_L_8 : w_8.cell? ⟨b_L, 8, none⟩ = some (.slice (some ⟨gZ_4, 0, none⟩) zs.length cZ_4) := k_8_L.cell 8
  have c_8_L_9 : w_8.cell? ⟨b_L, 9, none⟩ = some (.int .i64 s0) := k_8_L.cell 9
  have c_8_L_10 : w_8.cell? ⟨b_L, 10, none⟩ = some (.int .i64 s1) := k_8_L.cell 10
  have c_8_L_11 : w_8.cell? ⟨b_L, 11, none⟩ = some (.int .i64 s2) := k_8_L.cell 11
  have c_8_L_12 : w_8.cell? ⟨b_L, 12, none⟩ = some (.int .i64 s3) := k_8_L.cell 12
  have c_8_L_13 : w_8.cell? ⟨b_L, 13, none⟩ = some (.int .i64 s4) := k_8_L.cell 13
  have c_8_L_14 : w_8.cell? ⟨b_L, 14, none⟩ = some (.int .i64 s5) := k_8_L.cell 14
  have c_8_L_15 : w_8.cell? ⟨b_L, 15, none⟩ = some (.int .i64 mo) := k_8_L.cell 15
  have l_8_L := k_8_L.lt
  have z_8_L := k_8_L.frozen
  have k_8_R : Blk w_8 b_R 45 #[.slice (some ⟨gS_7, 0, none⟩) n cS_7, .int .i64 a0, .int .i64 a1, .int .i64 a2, .int .i64 a3, .int .i64 a4, .slice (some ⟨gQ_7, 0, none⟩) zs.length cQ_7, .int .i64 s0, .int .i64 s1, .int .i64 s2, .int .i64 s3, .int .i64 s4, .int .i64 s5, .int .i64 mo] := kf_R
  obtain ⟨c_8_R_0, c_8_R_1, c_8_R_2, c_8_R_3, c_8_R_4, c_8_R_5, c_8_R_6, c_8_R_7, c_8_R_8, c_8_R_9, c_8_R_10, c_8_R_11, c_8_R_12, c_8_R_13⟩ := cells14 k_8_R
  have l_8_R := k_8_R.lt
  have z_8_R := k_8_R.frozen
  have k_8_N : Blk w_8 b_N 45 #[.slice (some ⟨g, 0, none⟩) n c, .int .i64 a0, .int .i64 a1, .int .i64 a2, .int .i64 a3, .int .i64 a4, .slice (some ⟨gZ_4, 0, none⟩) zs.length cZ_4, .int .i64 s0, .int .i64 s1, .int .i64 s2, .int .i64 s3, .int .i64 s4, .int .i64 s5, .int .i64 mo] := kf_N
  obtain ⟨c_8_N_0, c_8_N_1, c_8_N_2, c_8_N_3, c_8_N_4, c_8_N_5, c_8_N_6, c_8_N_7, c_8_N_8, c_8_N_9, c_8_N_10, c_8_N_11, c_8_N_12, c_8_N_13⟩ := cells14 k_8_N
  have l_8_N := k_8_N.lt
  have z_8_N := k_8_N.frozen
  have o_8_Z : OCEvent w_8 gZ_4 (zs.length) cZ_4 zs := fo_Z
  have o_8_S : OwnC w_8 gS_7 (n) cS_7 xs := fo_S
  have o_8_Q : OCEvent w_8 gQ_7 (zs.length) cQ_7 zs := fo_Q
  clear i_7 k_7_L c_7_L_0 c_7_L_1 c_7_L_2 c_7_L_3 c_7_L_4 c_7_L_5 c_7_L_6 c_7_L_7 c_7_L_8 c_7_L_9 c_7_L_10 c_7_L_11 c_7_L_12 c_7_L_13 c_7_L_14 c_7_L_15 l_7_L z_7_L k_7_R c_7_R_0 c_7_R_1 c_7_R_2 c_7_R_3 c_7_R_4 c_7_R_5 c_7_R_6 c_7_R_7 c_7_R_8 c_7_R_9 c_7_R_10 c_7_R_11 c_7_R_12 c_7_R_13 l_7_R z_7_R k_7_N c_7_N_0 c_7_N_1 c_7_N_2 c_7_N_3 c_7_N_4 c_7_N_5 c_7_N_6 c_7_N_7 c_7_N_8 c_7_N_9 c_7_N_10 c_7_N_11 c_7_N_12 c_7_N_13 l_7_N z_7_N o_7_Z o_7_S o_7_Q hb_7
  clear ii_8 kf_L kf_R kf_N fo_Z fo_S fo_Q
  refine leaves_cons (f := 95) (args := #[.pointer (some ⟨b_L, 0, none⟩)]) (by simp) (by simp [go_sem]) ?_
  refine (cUnlock ⟨b_L, 0, none⟩ .returning w_8 c_8_L_0 (k_8_L.frozen 0)).mono ?_
  rintro e9 u9 w9 ⟨rfl, rfl, rfl⟩
  have kE : Blk (w_8.setCell ⟨b_L, 0, none⟩ (.int .i32 0)) b_R 45 #[.slice (some ⟨gS_7, 0, none⟩) n cS_7, .int .i64 a0, .int .i64 a1, .int .i64 a2, .int .i64 a3, .int .i64 a4, .slice (some ⟨gQ_7, 0, none⟩) zs.length cQ_7, .int .i64 s0, .int .i64 s1, .int .i64 s2, .int .i64 s3, .int .i64 s4, .int .i64 s5, .int .i64 mo] := Blk.far k_8_R (p := ⟨b_L, 0, none⟩) (NB_L_R.out.symm) _
  have iE : In w.heap.size w (w_8.setCell ⟨b_L, 0, none⟩ (.int .i32 0)) := In.set_ i_8 (p := ⟨b_L, 0, none⟩) hwb_L _
  have OZ : Hid (OCEvent (w_8.setCell ⟨b_L, 0, none⟩ (.int .i32 0)) gZ_4 (zs.length) cZ_4 zs) := Lib.hid (OCEvent.far o_8_Z k_8_L (by decide) (only_set _ _))
  have OS : Hid (OwnC (w_8.setCell ⟨b_L, 0, none⟩ (.int .i32 0)) gS_7 (n) cS_7 xs) := Lib.hid (OwnC.far o_8_S k_8_L (by decide) (only_set _ _))
  have OQ : Hid (OCEvent (w_8.setCell ⟨b_L, 0, none⟩ (.int .i32 0)) gQ_7 (zs.length) cQ_7 zs) := Lib.hid (OCEvent.far o_8_Q k_8_L (by decide) (only_set _ _))
  have e0 := kE.cell 0
  simp only [List.getElem?_toArray, List.getElem?_cons_zero, List.getElem?_cons_succ] at e0
  have e1 := kE.cell 1
  simp only [List.getElem?_toArray, List.getElem?_cons_zero, List.getElem?_cons_succ] at e1
  have e2 := kE.cell 2
  simp only [List.getElem?_toArray, List.getElem?_cons_zero, List.getElem?_cons_succ] at e2
  have e3 := kE.cell 3
  simp only [List.getElem?_toArray, List.getElem?_cons_zero, List.getElem?_cons_succ] at e3
  have e4 := kE.cell 4
  simp only [List.getElem?_toArray, List.getElem?_cons_zero, List.getElem?_cons_succ] at e4
  have e5 := kE.cell 5
  simp only [List.getElem?_toArray, List.getElem?_cons_zero, List.getElem?_cons_succ] at e5
  have e6 := kE.cell 6
  simp only [List.getElem?_toArray, List.getElem?_cons_zero, List.getElem?_cons_succ] at e6
  have e7 := kE.cell 7
  simp only [List.getElem?_toArray, List.getElem?_cons_zero, List.getElem?_cons_succ] at e7
  have e8 := kE.cell 8
  simp only [List.getElem?_toArray, List.getElem?_cons_zero, List.getElem?_cons_succ] at e8
  have e9 := kE.cell 9
  simp only [List.getElem?_toArray, List.getElem?_cons_zero, List.getElem?_cons_succ] at e9
  have e10 := kE.cell 10
  simp only [List.getElem?_toArray, List.getElem?_cons_zero, List.getElem?_cons_succ] at e10
  have e11 := kE.cell 11
  simp only [List.getElem?_toArray, List.getElem?_cons_zero, List.getElem?_cons_succ] at e11
  have e12 := kE.cell 12
  simp only [List.getElem?_toArray, List.getElem?_cons_zero, List.getElem?_cons_succ] at e12
  have e13 := kE.cell 13
  simp only [List.getElem?_toArray, List.getElem?_cons_zero, List.getElem?_cons_succ] at e13
  simp [Leaves, settle, results, Try.results69, go_sem, e0, e1, e2, e3, e4, e5, e6, e7, e8, e9, e10, e11, e12, e13]
  exact by simpa [pickE, pick4, H1.out] using (rowYV_of rfl rfl rfl rfl rfl rfl rfl rfl rfl OS.out GX_S.out OQ.out GX_Q.out iE.below)
end Go.Proofs.Ytmcfghklfkmfkaa
