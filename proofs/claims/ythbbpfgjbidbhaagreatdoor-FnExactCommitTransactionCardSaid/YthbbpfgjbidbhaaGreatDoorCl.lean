/- Copies of lists of two-integer structs and of a transaction, in memory of their own: the library's slices.Clone, the program's copyTransaction, the model's copy. -/
import Derived.Test.YthbbpfgjbidbhaaGreatDoorBx
import Derived.WalkKit
import Derived.ProofKit
import Derived.Below
import Derived.Lib.Hide
import Derived.LoopTactic
import Derived.Deep.QuietTactic
import Derived.BigQuiet
import Derived.StillTailTactics
import Derived.Outline
import Derived.IntWalk
import Derived.Deep.RegionHeld3
import Derived.Deep.RegionWith
import Derived.Deep.RegionLaw
import Derived.Lib.LazyBuf
namespace Go.Proofs.YthbbpfgjbidbhaaGreatDoor.cl
open Go.ChangeShapes Go.WideShapes Go.ChangeAt Go.RowKit
open Go.Proofs.YthbbpfgjbidbhaaGreatDoor.el2 Go.Proofs.YthbbpfgjbidbhaaGreatDoor.tx Go.Proofs.YthbbpfgjbidbhaaGreatDoor.fr Go.Proofs.YthbbpfgjbidbhaaGreatDoor.ow2 Go.Proofs.YthbbpfgjbidbhaaGreatDoor.ap Go.Proofs.YthbbpfgjbidbhaaGreatDoor.bx
set_option linter.unusedVariables false
set_option linter.unusedSimpArgs false
set_option linter.constructorNameAsVariable false
theorem info_rm : (Tryz.prog.info? 78).map (fun i => (i.zero, i.size, i.bytes)) = some (some (.agg #[.int .i64 0, .int .i64 0]), 2, 16) := by kernel_rfl
theorem info_wr : (Tryz.prog.info? 75).map (fun i => (i.zero, i.size, i.bytes)) = some (some (.agg #[.int .i64 0, .int .i64 0]), 2, 16) := by kernel_rfl
theorem own_empty (w : World) (e : TypeId) (base : Nat) (hb : base ≤ w.heap.size) : (w.alloc (.cells #[] e)).ownsRow base e 2 (.slice (some ⟨w.heap.size, 0, none⟩) 0 0) 0 (flat []) := by
  have := World.ownsRow_made w (e := e) (size := 2) #[] 0 hb (by unfold maxLen; omega) rfl
  simpa [flat] using this

set_option maxRecDepth 100000 in
set_option maxHeartbeats 800000 in
theorem clone_r {w : World} {B n c : Nat} {A : Option Addr} {l : List E2} (hn : n ≤ 2097152) (h1 : Vs w B A n l) (hB : B ≤ w.heap.size) :
    Calls Tryz.prog 53 #[.slice A n c] w fun e w' => ∃ A' c', e = .returned (.slice A' n c') ∧ w'.ownsRow w.heap.size 78 2 (.slice A' n c') n (flat l) ∧ Below w.heap.size w w' := by
  have H1 := Lib.hid h1
  obtain ⟨i0, hi, hz, hs, hb⟩ := info_parts info_rm
  have HI := Lib.hid hi
  have HZ := Lib.hid hz
  have HS := Lib.hid hs
  have HB := Lib.hid hb
  clear h1 hi hz hs hb
  have q22 : ∀ (w : World) (a : Option Addr) (n c : Nat), (binOp .eql 34 (.slice a n c) (.slice none 0 0)).run Tryz.prog w = .ok (.bool a.isNone) w := fun w a n c => Go.run_eql_slice_nil w _ _ a n c Tryz.underlying34
  go_enter Tryz.func53, Tryz.ntmps53
  cases A with
  | none =>
    go_wp2_with fail
    go_ret
    obtain rfl : n = 0 := by
      rcases Nat.eq_zero_or_pos n with h | h
      · exact h
      · obtain ⟨_, _, e, _⟩ := H1.out.2 h; cases e
    obtain rfl : l = [] := List.eq_nil_of_length_eq_zero H1.out.1
    exact ⟨_, _, rfl, World.ownsRow_nil _ _ _ _, Below.refl _ _⟩
  | some a =>
    have hbase : w.heap.size ≤ (w.alloc (.cells #[] 78)).heap.size := by simp
    obtain ⟨v', w', hr, ho, hg⟩ := run_append_e2 (P := Tryz.prog) (w.alloc (.cells #[] 78)) 34 34 78 i0 _ Tryz.underlying34 HI.out HZ.out HS.out HB.out rfl (own_empty w 78 w.heap.size (Nat.le_refl _)) (H1.out.below (below_le (new1 w _) hB)) (A := some a) (c := c) (by omega) hbase
    have hb1 := (new1 w (.cells #[] 78)).grown hg hbase (fun k hk => by simp [Value.ownBlock] at hk; omega)
    rw [Nat.zero_add, List.nil_append] at ho
    obtain ⟨A', c', rfl, _⟩ := own_vs ho H1.out.1
    obtain ⟨ab, ao, asp⟩ := a
    go_wp2_with (at_builtin; refine Lib.wpList_append_run _ rfl _ _ 34 34 rfl _ _ rfl rfl _ _ hr ?_)
    go_ret
    exact ⟨_, _, rfl, ho, hb1⟩

set_option maxRecDepth 100000 in
set_option maxHeartbeats 800000 in
theorem clone_w {w : World} {B n c : Nat} {A : Option Addr} {l : List E2} (hn : n ≤ 2097152) (h1 : Vs w B A n l) (hB : B ≤ w.heap.size) :
    Calls Tryz.prog 54 #[.slice A n c] w fun e w' => ∃ A' c', e = .returned (.slice A' n c') ∧ w'.ownsRow w.heap.size 75 2 (.slice A' n c') n (flat l) ∧ Below w.heap.size w w' := by
  have H1 := Lib.hid h1
  obtain ⟨i0, hi, hz, hs, hb⟩ := info_parts info_wr
  have HI := Lib.hid hi
  have HZ := Lib.hid hz
  have HS := Lib.hid hs
  have HB := Lib.hid hb
  clear h1 hi hz hs hb
  have q22 : ∀ (w : World) (a : Option Addr) (n c : Nat), (binOp .eql 35 (.slice a n c) (.slice none 0 0)).run Tryz.prog w = .ok (.bool a.isNone) w := fun w a n c => Go.run_eql_slice_nil w _ _ a n c Tryz.underlying35
  go_enter Tryz.func54, Tryz.ntmps54
  cases A with
  | none =>
    go_wp2_with fail
    go_ret
    obtain rfl : n = 0 := by
      rcases Nat.eq_zero_or_pos n with h | h
      · exact h
      · obtain ⟨_, _, e, _⟩ := H1.out.2 h; cases e
    obtain rfl : l = [] := List.eq_nil_of_length_eq_zero H1.out.1
    exact ⟨_, _, rfl, World.ownsRow_nil _ _ _ _, Below.refl _ _⟩
  | some a =>
    have hbase : w.heap.size ≤ (w.alloc (.cells #[] 75)).heap.size := by simp
    obtain ⟨v', w', hr, ho, hg⟩ := run_append_e2 (P := Tryz.prog) (w.alloc (.cells #[] 75)) 35 35 75 i0 _ Tryz.underlying35 HI.out HZ.out HS.out HB.out rfl (own_empty w 75 w.heap.size (Nat.le_refl _)) (H1.out.below (below_le (new1 w _) hB)) (A := some a) (c := c) (by omega) hbase
    have hb1 := (new1 w (.cells #[] 75)).grown hg hbase (fun k hk => by simp [Value.ownBlock] at hk; omega)
    rw [Nat.zero_add, List.nil_append] at ho
    obtain ⟨A', c', rfl, _⟩ := own_vs ho H1.out.1
    obtain ⟨ab, ao, asp⟩ := a
    go_wp2_with (at_builtin; refine Lib.wpList_append_run _ rfl _ _ 35 35 rfl _ _ rfl rfl _ _ hr ?_)
    go_ret
    exact ⟨_, _, rfl, ho, hb1⟩
set_option maxRecDepth 100000 in
set_option maxHeartbeats 1600000 in
theorem copy_t {w : World} {B n c n2 c2 : Nat} {A A2 : Option Addr} {R S : List E2} (x : Hd) (hn : n ≤ 2097152) (hn2 : n2 ≤ 2097152) (h1 : Vs w B A n R) (h2 : Vs w B A2 n2 S) (hB : B ≤ w.heap.size) :
    Calls Tryz.prog 28 #[.agg #[.int .i64 x.i, .int .i64 x.s, .int .i64 x.t, .int .i64 x.b, .int .i64 x.l, .int .i64 x.h, .int .i64 x.c, .slice A n c, .slice A2 n2 c2]] w (CopO x n R n2 S w) := by
  have H1 := Lib.hid h1
  have H2 := Lib.hid h2
  clear h1 h2
  go_enter Tryz.func28, Tryz.ntmps28
  go_wp2_with fail
  have hb := (new1 w (.cells #[.int .i64 x.i, .int .i64 x.s, .int .i64 x.t, .int .i64 x.b, .int .i64 x.l, .int .i64 x.h, .int .i64 x.c, .slice A n c, .slice A2 n2 c2] 37)).alloc (by simp) (.cells #[.int .i64 0, .int .i64 0, .int .i64 0, .int .i64 0, .int .i64 0, .int .i64 0, .int .i64 0, .slice none 0 0, .slice none 0 0] 37)
  have hx := (Bx.new w x (.slice A n c) (.slice A2 n2 c2)).alloc (.cells #[.int .i64 0, .int .i64 0, .int .i64 0, .int .i64 0, .int .i64 0, .int .i64 0, .int .i64 0, .slice none 0 0, .slice none 0 0] 37)
  have hz := Bx.zero (w.alloc (.cells #[.int .i64 x.i, .int .i64 x.s, .int .i64 x.t, .int .i64 x.b, .int .i64 x.l, .int .i64 x.h, .int .i64 x.c, .slice A n c, .slice A2 n2 c2] 37))
  have hs : (w.alloc (.cells #[.int .i64 x.i, .int .i64 x.s, .int .i64 x.t, .int .i64 x.b, .int .i64 x.l, .int .i64 x.h, .int .i64 x.c, .slice A n c, .slice A2 n2 c2] 37)).heap.size = w.heap.size + 1 := by simp
  have hs2 : ((w.alloc (.cells #[.int .i64 x.i, .int .i64 x.s, .int .i64 x.t, .int .i64 x.b, .int .i64 x.l, .int .i64 x.h, .int .i64 x.c, .slice A n c, .slice A2 n2 c2] 37)).alloc (.cells #[.int .i64 0, .int .i64 0, .int .i64 0, .int .i64 0, .int .i64 0, .int .i64 0, .int .i64 0, .slice none 0 0, .slice none 0 0] 37)).heap.size = w.heap.size + 2 := by simp
  rw [hs] at hz
  generalize (w.alloc _).alloc _ = W at hb hx hz hs2 ⊢
  clear hs
  obtain ⟨t0, t1, t2, t3, t4, t5, t6, t7, t8⟩ := hx.tb
  have hd : Below W.heap.size W W.drew := (Below.refl _ _).drew
  have hBW : B ≤ W.heap.size := by omega
  have hlw : w.heap.size < W.heap.size := by omega
  have HR0 := H1.out.below (below_le hb hB)
  have HS0 := H2.out.below (below_le hb hB)
  go_region_law (first | (go_simp; go_at_call 53; refine (clone_r (w := W.drew) hn (HR0.below (below_le hd hBW)) hBW).mono ?_; rintro e W1 ⟨A', c', rfl, ho1, hb0⟩; have hb1 : Below W.heap.size W W1 := hd.trans hb0; have hs1 := hb1.size; have hx1 := hx.keep hb1 hlw; obtain ⟨_, _, _, _, _, _, _, d7, d8⟩ := hx1.tb) | (go_simp; go_at_call 54; refine (clone_w (w := W.drew) hn2 (HS0.below (below_le hd hBW)) hBW).mono ?_; rintro e W1 ⟨A2', c2', rfl, ho2, hb0⟩; have hb1 : Below W.heap.size W W1 := hd.trans hb0; have hs1 := hb1.size; have hx1 := hx.keep hb1 hlw; obtain ⟨_, _, _, _, _, _, _, d7, d8⟩ := hx1.tb) | (go_simp; go_at_call 54; refine (clone_w (w := W1) hn2 (HS0.below (below_le hb1 hBW)) (Nat.le_trans hBW hs1)).mono ?_; rintro e W2 ⟨A2', c2', rfl, ho2, hb2'⟩; have hb2 := hb1.trans (hb2'.mono hs1); have hoo : OwnT W2 W.heap.size (.slice A' n c') n R (.slice A2' n2 c2') n2 S := ⟨own_keep ho1 hb2', own_more ho2 hs1⟩; have hx2 := hx.keep hb2 hlw; obtain ⟨_, _, _, _, _, _, _, c7, c8⟩ := hx2.tb; have f7 := hx2.fz 7; have f8 := hx2.fz 8) | (go_simp; go_at_call 53; refine (clone_r (w := W1) hn (HR0.below (below_le hb1 hBW)) (Nat.le_trans hBW hs1)).mono ?_; rintro e W2 ⟨A', c', rfl, ho1, hb2'⟩; have hb2 := hb1.trans (hb2'.mono hs1); have hoo : OwnT W2 W.heap.size (.slice A' n c') n R (.slice A2' n2 c2') n2 S := ⟨own_more ho1 hs1, own_keep ho2 hb2'⟩; have hx2 := hx.keep hb2 hlw; obtain ⟨_, _, _, _, _, _, _, c7, c8⟩ := hx2.tb; have f7 := hx2.fz 7; have f8 := hx2.fz 8))
  all_goals
    have ho := ((Off.refl w.heap.size W2).setCell (p := ⟨w.heap.size, 7, none⟩) rfl (.slice A' n c')).setCell (p := ⟨w.heap.size, 8, none⟩) rfl (.slice A2' n2 c2')
    have hx3 := (hx2.set7 (.slice A' n c')).set8 (.slice A2' n2 c2')
    have hz3 := (hz.keep hb2 (by omega)).other ho (by omega)
    have hoo3 := hoo.off ho (by omega)
    have hb3 : Below w.heap.size w _ := (hb.trans (hb2.mono (by omega))).trans (ho.below (Nat.le_refl _))
    clear hb hb2 hb2' hoo ho hx2 c7 c8 f7 f8 hx hz hx1 d7 d8 ho1 ho2 hb0 hb1 hd HR0 HS0 t0 t1 t2 t3 t4 t5 t6 t7 t8
    generalize (World.setCell _ _ _).setCell _ _ = W3 at hx3 hz3 hoo3 hb3 ⊢
    obtain ⟨t0, t1, t2, t3, t4, t5, t6, t7, t8⟩ := hx3.tb
    obtain ⟨z0, z1, z2, z3, z4, z5, z6, z7, z8⟩ := hz3.tb
    have y0 := hz3.fz 0
    have y1 := hz3.fz 1
    have y2 := hz3.fz 2
    have y3 := hz3.fz 3
    have y4 := hz3.fz 4
    have y5 := hz3.fz 5
    have y6 := hz3.fz 6
    have y7 := hz3.fz 7
    have y8 := hz3.fz 8
    go_wp2_with fail
    obtain ⟨hT, hO, hB9⟩ := give_back (w := w) (x := x) hz3 hoo3 (by omega) (by omega) hb3 (by omega)
    clear hz3 hoo3 hb3 hx3 t0 t1 t2 t3 t4 t5 t6 t7 t8 z0 z1 z2 z3 z4 z5 z6 z7 z8 y0 y1 y2 y3 y4 y5 y6 y7 y8
    generalize (((((((((World.setCell W3 _ _).setCell _ _).setCell _ _).setCell _ _).setCell _ _).setCell _ _).setCell _ _).setCell _ _).setCell _ _) = W4 at hT hO hB9 ⊢
    obtain ⟨e0, e1, e2, e3, e4, e5, e6, e7, e8⟩ := hT
    exact bodyPost_ret (v := txv x (.slice A' n c') (.slice A2' n2 c2')) (by simp [results, Tryz.results28, go_sem, e0, e1, e2, e3, e4, e5, e6, e7, e8]) rfl ⟨_, _, rfl, hO, hB9⟩
end Go.Proofs.YthbbpfgjbidbhaaGreatDoor.cl
