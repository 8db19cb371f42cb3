/- The model's copy of a transaction (l5Copy): in memory of its own. -/
import Derived.Test.YthbbpfgjbidbhaaGreatDoorCl
namespace Go.Proofs.YthbbpfgjbidbhaaGreatDoor.lc
open Go.ChangeShapes Go.WideShapes Go.ChangeAt Go.RowKit
open Go.Proofs.YthbbpfgjbidbhaaGreatDoor.el2 Go.Proofs.YthbbpfgjbidbhaaGreatDoor.tx Go.Proofs.YthbbpfgjbidbhaaGreatDoor.fr Go.Proofs.YthbbpfgjbidbhaaGreatDoor.ow2 Go.Proofs.YthbbpfgjbidbhaaGreatDoor.ap Go.Proofs.YthbbpfgjbidbhaaGreatDoor.bx Go.Proofs.YthbbpfgjbidbhaaGreatDoor.cl
set_option linter.unusedVariables false
set_option linter.unusedSimpArgs false
set_option linter.constructorNameAsVariable false
/-- an append of a list onto an empty row just laid -/
theorem app_empty {e t : TypeId} {i : TypeInfo} {z : Value} (w : World) (ty : TypeId) (ht : Tryz.prog.underlying t = some (.slice e)) (hi : Tryz.prog.info? e = some i) (hz : i.zero = some z) (hsize : i.size = 2) (hby : i.bytes = 16) (hzs : z.cells.size = 2) {A : Option Addr} {n c B : Nat} {l : List E2} (hv : Vs w B A n l) (hn : n ≤ 2097152) (hB : B ≤ w.heap.size) :
    ∃ A' c' w', (Builtin.append_ #[t, t] ty #[.slice (some ⟨w.heap.size, 0, none⟩) 0 0, .slice A n c]).run Tryz.prog (w.alloc (.cells #[] e)) = .ok (.slice A' n c') w' ∧ w'.ownsRow w.heap.size e 2 (.slice A' n c') n (flat l) ∧ Below w.heap.size w w' := by
  have hbase : w.heap.size ≤ (w.alloc (.cells #[] e)).heap.size := by simp
  obtain ⟨v', w', hr, ho, hg⟩ := run_append_e2 (P := Tryz.prog) (w.alloc (.cells #[] e)) t ty e i z ht hi hz hsize hby hzs (own_empty w e w.heap.size (Nat.le_refl _)) (hv.below (below_le (new1 w _) hB)) (A := A) (c := c) (by omega) hbase
  have hb1 := (new1 w (.cells #[] e)).grown hg hbase (fun k hk => by simp [Value.ownBlock] at hk; omega)
  rw [Nat.zero_add, List.nil_append] at ho
  obtain ⟨A', c', rfl, _⟩ := own_vs ho hv.1
  exact ⟨A', c', w', hr, ho, hb1⟩
set_option maxRecDepth 100000 in
set_option maxHeartbeats 1600000 in
theorem copy_m {w : World} {B n c n2 c2 : Nat} {A A2 : Option Addr} {R S : List E2} (x : Hd) (hn : n ≤ 2097152) (hn2 : n2 ≤ 2097152) (h1 : Vs w B A n R) (h2 : Vs w B A2 n2 S) (hB : B ≤ w.heap.size) :
    Calls Tryz.prog 22 #[.agg #[.int .i64 x.i, .int .i64 x.s, .int .i64 x.t, .int .i64 x.b, .int .i64 x.l, .int .i64 x.h, .int .i64 x.c, .slice A n c, .slice A2 n2 c2]] w (CopO x n R n2 S w) := by
  obtain ⟨i0, hi0, hz0, hsz0, hby0⟩ := info_parts info_rm
  obtain ⟨i1, hi1, hz1, hsz1, hby1⟩ := info_parts info_wr
  have hs1 : (((w.alloc (.cells #[.int .i64 x.i, .int .i64 x.s, .int .i64 x.t, .int .i64 x.b, .int .i64 x.l, .int .i64 x.h, .int .i64 x.c, .slice A n c, .slice A2 n2 c2] 37)).alloc (.cells #[.int .i64 0, .int .i64 0, .int .i64 0, .int .i64 0, .int .i64 0, .int .i64 0, .int .i64 0, .slice none 0 0, .slice none 0 0] 37)).alloc (.cells #[.int .i64 x.i, .int .i64 x.s, .int .i64 x.t, .int .i64 x.b, .int .i64 x.l, .int .i64 x.h, .int .i64 x.c, .slice A n c, .slice A2 n2 c2] 37)).heap.size = w.heap.size + 1 + 1 + 1 := by simp
  have hb1 : Below w.heap.size w (((w.alloc (.cells #[.int .i64 x.i, .int .i64 x.s, .int .i64 x.t, .int .i64 x.b, .int .i64 x.l, .int .i64 x.h, .int .i64 x.c, .slice A n c, .slice A2 n2 c2] 37)).alloc (.cells #[.int .i64 0, .int .i64 0, .int .i64 0, .int .i64 0, .int .i64 0, .int .i64 0, .int .i64 0, .slice none 0 0, .slice none 0 0] 37)).alloc (.cells #[.int .i64 x.i, .int .i64 x.s, .int .i64 x.t, .int .i64 x.b, .int .i64 x.l, .int .i64 x.h, .int .i64 x.c, .slice A n c, .slice A2 n2 c2] 37)) := Go.Proofs.YthbbpfgjbidbhaaGreatDoor.vers.new3 w (.cells #[.int .i64 x.i, .int .i64 x.s, .int .i64 x.t, .int .i64 x.b, .int .i64 x.l, .int .i64 x.h, .int .i64 x.c, .slice A n c, .slice A2 n2 c2] 37) (.cells #[.int .i64 0, .int .i64 0, .int .i64 0, .int .i64 0, .int .i64 0, .int .i64 0, .int .i64 0, .slice none 0 0, .slice none 0 0] 37) (.cells #[.int .i64 x.i, .int .i64 x.s, .int .i64 x.t, .int .i64 x.b, .int .i64 x.l, .int .i64 x.h, .int .i64 x.c, .slice A n c, .slice A2 n2 c2] 37)
  have hxb := ((Bx.new w x (.slice A n c) (.slice A2 n2 c2)).alloc (.cells #[.int .i64 0, .int .i64 0, .int .i64 0, .int .i64 0, .int .i64 0, .int .i64 0, .int .i64 0, .slice none 0 0, .slice none 0 0] 37)).alloc (.cells #[.int .i64 x.i, .int .i64 x.s, .int .i64 x.t, .int .i64 x.b, .int .i64 x.l, .int .i64 x.h, .int .i64 x.c, .slice A n c, .slice A2 n2 c2] 37)
  have hxr := (Bx.zero (w.alloc (.cells #[.int .i64 x.i, .int .i64 x.s, .int .i64 x.t, .int .i64 x.b, .int .i64 x.l, .int .i64 x.h, .int .i64 x.c, .slice A n c, .slice A2 n2 c2] 37))).alloc (.cells #[.int .i64 x.i, .int .i64 x.s, .int .i64 x.t, .int .i64 x.b, .int .i64 x.l, .int .i64 x.h, .int .i64 x.c, .slice A n c, .slice A2 n2 c2] 37)
  rw [show (w.alloc (.cells #[.int .i64 x.i, .int .i64 x.s, .int .i64 x.t, .int .i64 x.b, .int .i64 x.l, .int .i64 x.h, .int .i64 x.c, .slice A n c, .slice A2 n2 c2] 37)).heap.size = w.heap.size + 1 by simp] at hxr
  have hxc := Bx.new ((w.alloc (.cells #[.int .i64 x.i, .int .i64 x.s, .int .i64 x.t, .int .i64 x.b, .int .i64 x.l, .int .i64 x.h, .int .i64 x.c, .slice A n c, .slice A2 n2 c2] 37)).alloc (.cells #[.int .i64 0, .int .i64 0, .int .i64 0, .int .i64 0, .int .i64 0, .int .i64 0, .int .i64 0, .slice none 0 0, .slice none 0 0] 37)) x (.slice A n c) (.slice A2 n2 c2)
  rw [show ((w.alloc (.cells #[.int .i64 x.i, .int .i64 x.s, .int .i64 x.t, .int .i64 x.b, .int .i64 x.l, .int .i64 x.h, .int .i64 x.c, .slice A n c, .slice A2 n2 c2] 37)).alloc (.cells #[.int .i64 0, .int .i64 0, .int .i64 0, .int .i64 0, .int .i64 0, .int .i64 0, .int .i64 0, .slice none 0 0, .slice none 0 0] 37)).heap.size = w.heap.size + 1 + 1 by simp] at hxc
  obtain ⟨A', c', w1, hr1, ho1, hbw1⟩ := app_empty (c := c) (((w.alloc (.cells #[.int .i64 x.i, .int .i64 x.s, .int .i64 x.t, .int .i64 x.b, .int .i64 x.l, .int .i64 x.h, .int .i64 x.c, .slice A n c, .slice A2 n2 c2] 37)).alloc (.cells #[.int .i64 0, .int .i64 0, .int .i64 0, .int .i64 0, .int .i64 0, .int .i64 0, .int .i64 0, .slice none 0 0, .slice none 0 0] 37)).alloc (.cells #[.int .i64 x.i, .int .i64 x.s, .int .i64 x.t, .int .i64 x.b, .int .i64 x.l, .int .i64 x.h, .int .i64 x.c, .slice A n c, .slice A2 n2 c2] 37)) 34 Tryz.underlying34 hi0 hz0 hsz0 hby0 rfl (h1.below (below_le hb1 hB)) hn (by omega)
  rw [hs1] at hr1
  have hxb1 := hxb.keep hbw1 (by omega)
  have hxr1 := hxr.keep hbw1 (by omega)
  have hxc1 := hxc.keep hbw1 (by omega)
  have hbb1 : Below w.heap.size w w1 := hb1.trans (hbw1.mono (by omega))
  have hsw := hbw1.size
  have o3 : Off (w.heap.size + 1 + 1) w1 (w1.setCell ⟨w.heap.size + 1 + 1, 7, none⟩ (.slice A' n c')) := (Off.refl (w.heap.size + 1 + 1) w1).setCell (p := ⟨w.heap.size + 1 + 1, 7, none⟩) rfl (.slice A' n c')
  have hxb3 := hxb1.other o3 (by omega)
  have hxr3 := hxr1.other o3 (by omega)
  have hxc3 := hxc1.set7 (.slice A' n c')
  have hs3 := o3.size
  have hbb3 := hbb1.trans (o3.below (B := w.heap.size) (by omega))
  obtain ⟨A2', c2', w2, hr2, ho2, hbw2⟩ := app_empty (c := c2) (w1.setCell ⟨w.heap.size + 1 + 1, 7, none⟩ (.slice A' n c')) 35 Tryz.underlying35 hi1 hz1 hsz1 hby1 rfl (h2.below (below_le hbb3 hB)) hn2 (by omega)
  rw [hs3] at hr2
  have hsw2 := hbw2.size
  have hxb4 := hxb3.keep hbw2 (by omega)
  have hxr4 := hxr3.keep hbw2 (by omega)
  have hxc4 := hxc3.keep hbw2 (by omega)
  have o5 : Off (w.heap.size + 1 + 1) w2 (w2.setCell ⟨w.heap.size + 1 + 1, 8, none⟩ (.slice A2' n2 c2')) := (Off.refl (w.heap.size + 1 + 1) w2).setCell (p := ⟨w.heap.size + 1 + 1, 8, none⟩) rfl (.slice A2' n2 c2')
  have hxr5 := hxr4.other o5 (by omega)
  have hxc5 := hxc4.set8 (.slice A2' n2 c2')
  have hbb5 := (hbb3.trans (hbw2.mono (by omega))).trans (o5.below (B := w.heap.size) (by omega))
  have hoo : OwnT (w2.setCell ⟨w.heap.size + 1 + 1, 8, none⟩ (.slice A2' n2 c2')) (w.heap.size + 1 + 1 + 1) (.slice A' n c') n R (.slice A2' n2 c2') n2 S := ⟨own_off (own_keep (own_off (own_more ho1 (by omega)) o3 (by omega)) hbw2) o5 (by omega), own_off (own_more ho2 (by omega)) o5 (by omega)⟩
  have XR5 := Lib.hid hxr5
  have OO := Lib.hid hoo
  have B5 := Lib.hid hbb5
  obtain ⟨_, _, _, _, _, _, _, a7, _⟩ := hxc1.tb
  have a7f := hxc1.fz 7
  obtain ⟨_, _, _, _, _, _, _, _, b8⟩ := hxb3.tb
  have b8' := (hxb3.alloc (.cells #[] 75)).tb.2.2.2.2.2.2.2.2
  obtain ⟨_, _, _, _, _, _, _, _, d8⟩ := hxc4.tb
  have d8f := hxc4.fz 8
  obtain ⟨t0, t1, t2, t3, t4, t5, t6, t7, t8⟩ := hxc5.tb
  obtain ⟨z0, z1, z2, z3, z4, z5, z6, z7, z8⟩ := hxr5.tb
  have y0 := hxr5.fz 0
  have y1 := hxr5.fz 1
  have y2 := hxr5.fz 2
  have y3 := hxr5.fz 3
  have y4 := hxr5.fz 4
  have y5 := hxr5.fz 5
  have y6 := hxr5.fz 6
  have y7 := hxr5.fz 7
  have y8 := hxr5.fz 8
  clear hi0 hz0 hsz0 hby0 hi1 hz1 hsz1 hby1 hs1 hb1 hxb hxr hxc hbw1 ho1 hxb1 hxr1 hxc1 hbb1 hsw o3 hxb3 hxr3 hxc3 hbb3 hbw2 ho2 hsw2 hxb4 hxr4 hxc4 o5 hxr5 hxc5 hbb5 hoo h1 h2
  go_enter Tryz.func22, Tryz.ntmps22
  go_wp2_with (first | (at_builtin; refine Lib.wpList_append_run _ rfl _ _ 34 34 rfl _ _ rfl rfl _ _ hr1 ?_) | (at_builtin; refine Lib.wpList_append_run _ rfl _ _ 35 35 rfl _ _ rfl rfl _ _ hr2 ?_))
  obtain ⟨hT, hO, hB9⟩ := give_back (w := w) (x := x) XR5.out OO.out (by omega) (by omega) B5.out (by omega)
  clear t0 t1 t2 t3 t4 t5 t6 t7 t8 z0 z1 z2 z3 z4 z5 z6 z7 z8 y0 y1 y2 y3 y4 y5 y6 y7 y8 hr1 hr2 a7 a7f b8 b8' d8 d8f
  generalize (((((((((World.setCell (w2.setCell ⟨w.heap.size + 1 + 1, 8, none⟩ (.slice A2' n2 c2')) _ _).setCell _ _).setCell _ _).setCell _ _).setCell _ _).setCell _ _).setCell _ _).setCell _ _).setCell _ _) = W4 at hT hO hB9 ⊢
  obtain ⟨e0, e1, e2, e3, e4, e5, e6, e7, e8⟩ := hT
  exact bodyPost_ret (v := txv x (.slice A' n c') (.slice A2' n2 c2')) (by simp [results, Tryz.results22, go_sem, e0, e1, e2, e3, e4, e5, e6, e7, e8]) rfl ⟨_, _, rfl, hO, hB9⟩
end Go.Proofs.YthbbpfgjbidbhaaGreatDoor.lc
