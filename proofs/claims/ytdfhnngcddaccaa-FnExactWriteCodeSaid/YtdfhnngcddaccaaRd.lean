/- The program's and the model's ReadLatest and ReadAt: what each answers; nothing that was there is written. -/
import Derived.Test.YtdfhnngcddaccaaVal
import Derived.Test.YtdfhnngcddaccaaFind
import Derived.WalkKit
import Derived.ProofKit
import Derived.Below
import Derived.Lib.Hide
import Derived.LoopTactic
import Derived.Outline
import Derived.IntWalk
namespace Go.Proofs.Ytdfhnngcddaccaa.rd
open Go.ChangeShapes Go.WideShapes Go.ChangeAt Go.RowKit
open Go.Proofs.Ytdfhnngcddaccaa.vers Go.Proofs.Ytdfhnngcddaccaa.sl Go.Proofs.Ytdfhnngcddaccaa.ch Go.Proofs.Ytdfhnngcddaccaa.st Go.Proofs.Ytdfhnngcddaccaa.val
open Go.Proofs.Ytdfhnngcddaccaa.find (lastV vAt atI vAt_yes store5 below5 latest_spec latest_impl)
set_option linter.unusedVariables false
set_option linter.unusedSimpArgs false
/-- a box of the call's own and a zero version behind it, in a world that holds what was there -/
structure Loc (w : World) (v : Value) (W : World) : Prop where
  bel : Below w.heap.size w W
  size : w.heap.size + 2 ≤ W.heap.size
  box : W.cell? ⟨w.heap.size, 0, none⟩ = some v
  zer : At W (w.heap.size + 1) 0 ⟨0, 0, 0, 0, 0⟩
  free : ∀ i, W.frozen? ⟨w.heap.size + 1, i, none⟩ = false
theorem Loc.mk2 (w : World) (v : Value) (s t : TypeId) : Loc w v ((w.alloc (.cells #[v] s)).alloc (.cells #[.int .i64 0, .int .i64 0, .int .i64 0, .int .i64 0, .int .i64 0] t)) where
  bel := new2 _ _ _
  size := by simp
  box := up _ (one_cell w v s) (by simp)
  zer := by have := boxed (w.alloc (.cells #[v] s)) ⟨0, 0, 0, 0, 0⟩ t; simpa using this
  free := fun i => by simp
theorem Loc.call {w W W' : World} {v : Value} (h : Loc w v W) (hb : Below W.heap.size W W') : Loc w v W' where
  bel := h.bel.trans (hb.mono h.bel.size)
  size := Nat.le_trans h.size hb.size
  box := (hb.cell (p := ⟨w.heap.size, 0, none⟩) (by have := h.size; simp; omega)).trans h.box
  zer := At.keep h.zer (B := W.heap.size) (by have := h.size; omega) hb
  free := fun i => (hb.frozen (p := ⟨w.heap.size + 1, i, none⟩) (by have := h.size; simp; omega)).trans (h.free i)
noncomputable def rlB (ll : List (List Ver)) (k : Int) : Bool := stB ll && In 0 5 k
noncomputable def rlV (ll : List (List Ver)) (k : Int) : Ver := if rlB ll k = true then lastV (ll.getD k.toNat []) else ⟨0, 0, 0, 0, 0⟩
noncomputable def raB (ll : List (List Ver)) (k s : Int) : Bool := rlB ll k && decide (0 ≤ vAt (ll.getD k.toNat []) s)
noncomputable def raV (ll : List (List Ver)) (k s : Int) : Ver := if raB ll k s = true then (ll.getD k.toNat []).getD (vAt (ll.getD k.toNat []) s).toNat default else ⟨0, 0, 0, 0, 0⟩
theorem rl_st {ll : List (List Ver)} {k : Int} (h : stB ll = false) : rlB ll k = false := by simp [rlB, h]
theorem rl_in {ll : List (List Ver)} {k : Int} (h : In 0 5 k = false) : rlB ll k = false := by simp [rlB, h]
theorem rl_yes {ll : List (List Ver)} {k : Int} (h : stB ll = true) (h2 : In 0 5 k = true) : rlB ll k = true := by simp [rlB, h, h2]
theorem rlV_no {ll : List (List Ver)} {k : Int} (h : rlB ll k = false) : rlV ll k = ⟨0, 0, 0, 0, 0⟩ := by simp [rlV, h]
theorem rlV_yes {ll : List (List Ver)} {k : Int} {l : List Ver} (h : rlB ll k = true) (hl : ll[k.toNat]? = some l) : rlV ll k = lastV l := by simp [rlV, h, List.getD, hl]
theorem ra_rl {ll : List (List Ver)} {k s : Int} (h : rlB ll k = false) : raB ll k s = false := by simp [raB, h]
theorem ra_at {ll : List (List Ver)} {k s : Int} {l : List Ver} (hl : ll[k.toNat]? = some l) (h : vAt l s < 0) : raB ll k s = false := by
  have : ll.getD k.toNat [] = l := by simp [List.getD, hl]
  unfold raB
  rw [this, decide_eq_false (by omega), Bool.and_false]
theorem ra_yes {ll : List (List Ver)} {k s : Int} {l : List Ver} (h : rlB ll k = true) (hl : ll[k.toNat]? = some l) (h2 : 0 ≤ vAt l s) : raB ll k s = true := by
  have : ll.getD k.toNat [] = l := by simp [List.getD, hl]
  unfold raB
  rw [this, h, decide_eq_true h2]
  rfl
theorem raV_no {ll : List (List Ver)} {k s : Int} (h : raB ll k s = false) : raV ll k s = ⟨0, 0, 0, 0, 0⟩ := by simp [raV, h]
theorem raV_yes {ll : List (List Ver)} {k s : Int} {l : List Ver} {x : Ver} {j : Nat} (h : raB ll k s = true) (hl : ll[k.toNat]? = some l) (hj : vAt l s = j) (hx : l[j]? = some x) : raV ll k s = x := by
  have : ll.getD k.toNat [] = l := by simp [List.getD, hl]
  unfold raV
  rw [if_pos h, this, hj]
  simp [List.getD, hx]
theorem atI_range (s : Int) (l : List Ver) (k : Nat) : -1 ≤ atI s l k ∧ atI s l k < (k : Int) := by
  induction k with
  | zero => exact ⟨by simp [atI], by simp [atI]⟩
  | succ k ih =>
    unfold atI
    split
    · exact ⟨by omega, by omega⟩
    · exact ⟨ih.1, by omega⟩
theorem vAt_range {l : List Ver} (s : Int) (h : chB l = true) : -1 ≤ vAt l s ∧ vAt l s < (l.length : Int) := by
  rw [← vAt_yes rfl h]
  exact atI_range s l _
set_option maxRecDepth 100000 in
set_option maxHeartbeats 1600000 in
theorem spec_readat {w : World} {B n c : Nat} {A : Option Addr} {ll : List (List Ver)} {x : Ver} {q : Bool} (k : Int) (s : Int) (hx : raV ll k s = x) (hq : raB ll k s = q) (hn : n ≤ 140737488355328) (h1 : Rs w B A n ll) (hB : B ≤ w.heap.size) :
    Calls Try.prog 38 #[.agg #[.slice A n c], .int .i64 k, .int .i64 s] w fun e w' => e = .returned (.tuple #[.agg #[.int .i64 x.a, .int .i64 x.b, .int .i64 x.c, .int .i64 x.d, .int .i64 x.e], .bool q]) ∧ Below w.heap.size w w' := by
  have H1 := Lib.hid h1
  have hln := h1.1
  clear h1
  rcases hst : stB ll with _ | _
  · have hr := rl_st (ll := ll) (k := k) hst
    have hr := ra_rl (s := s) hr
    rw [raV_no hr] at hx
    rw [hr] at hq
    subst hx hq
    clear hr
    go_enter Try.func38, Try.ntmps38
    go_wp2_with fail
    have hL := Loc.mk2 w (.slice A n c) 26 34
    generalize ((w.alloc _).alloc _) = W0 at hL ⊢
    have L0 := Lib.hid hL
    clear hL
    refine (spec_store hn (H1.out.below (below_le L0.out.bel hB)) (by have := L0.out.size; omega)).mono ?_
    rintro e W1 ⟨rfl, hb⟩
    rw [hst]
    have L1 := Lib.hid (L0.out.call hb)
    clear hb
    obtain ⟨z0, z1, z2, z3, z4⟩ := atFlat L1.out.zer
    have g0 := L1.out.free 0
    have g1 := L1.out.free 1
    have g2 := L1.out.free 2
    have g3 := L1.out.free 3
    have g4 := L1.out.free 4
    have c0 := L1.out.box
    have hsz := L1.out.size
    simp only at z0 z1 z2 z3 z4
    go_wp2_with fail
    have hs := store5 L1.out.zer ⟨0, 0, 0, 0, 0⟩
    have hl := below5 (b := w.heap.size + 1) L1.out.bel (by omega) ⟨0, 0, 0, 0, 0⟩
    generalize (((((World.setCell _ _ _).setCell _ _).setCell _ _).setCell _ _).setCell _ _) = Wf at hs hl ⊢
    obtain ⟨s0, s1, s2, s3, s4⟩ := atFlat hs
    try simp only at s0 s1 s2 s3 s4
    exact bodyPost_ret (v := .tuple #[.agg #[.int .i64 0, .int .i64 0, .int .i64 0, .int .i64 0, .int .i64 0], .bool false]) (by simp [results, Try.results38, go_sem, s0, s1, s2, s3, s4]) rfl ⟨rfl, hl⟩
  rcases hin : In 0 5 k with _ | _
  · have hr := rl_in (ll := ll) (k := k) hin
    have hr := ra_rl (s := s) hr
    rw [raV_no hr] at hx
    rw [hr] at hq
    subst hx hq
    clear hr
    go_enter Try.func38, Try.ntmps38
    go_wp2_with fail
    have hL := Loc.mk2 w (.slice A n c) 26 34
    generalize ((w.alloc _).alloc _) = W0 at hL ⊢
    have L0 := Lib.hid hL
    clear hL
    refine (spec_store hn (H1.out.below (below_le L0.out.bel hB)) (by have := L0.out.size; omega)).mono ?_
    rintro e W1 ⟨rfl, hb⟩
    rw [hst]
    have L1 := Lib.hid (L0.out.call hb)
    clear hb
    obtain ⟨z0, z1, z2, z3, z4⟩ := atFlat L1.out.zer
    have g0 := L1.out.free 0
    have g1 := L1.out.free 1
    have g2 := L1.out.free 2
    have g3 := L1.out.free 3
    have g4 := L1.out.free 4
    have c0 := L1.out.box
    have hsz := L1.out.size
    simp only at z0 z1 z2 z3 z4
    go_wp2_with fail
    refine (in_range _ _ _ _).mono ?_
    rintro e W2 ⟨rfl, rfl⟩
    rw [hin]
    go_wp2_with fail
    have hs := store5 L1.out.zer ⟨0, 0, 0, 0, 0⟩
    have hl := below5 (b := w.heap.size + 1) L1.out.bel (by omega) ⟨0, 0, 0, 0, 0⟩
    generalize (((((World.setCell _ _ _).setCell _ _).setCell _ _).setCell _ _).setCell _ _) = Wf at hs hl ⊢
    obtain ⟨s0, s1, s2, s3, s4⟩ := atFlat hs
    try simp only at s0 s1 s2 s3 s4
    exact bodyPost_ret (v := .tuple #[.agg #[.int .i64 0, .int .i64 0, .int .i64 0, .int .i64 0, .int .i64 0], .bool false]) (by simp [results, Try.results38, go_sem, s0, s1, s2, s3, s4]) rfl ⟨rfl, hl⟩
  have hr := rl_yes hst hin
  have hk := in_yes hin
  have hsix := st_six hst
  obtain ⟨b, o, l, A2, n2, c2, rfl, hbB, hl, hcell, hn2, hv⟩ := H1.out.at_ (k := k.toNat) (by omega)
  have hok := st_ok hst hl
  have hch := okL_ch_of hok
  have HC := Lib.hid hcell
  have HV := Lib.hid hv
  have hl2 := hv.1
  have hlen := okL_len hok
  have hvr := vAt_range s hch
  have t0 : (k.toNat : Int) = k := by omega
  have t1 : (0 : Int) ≤ k := by omega
  have t2 : k < (n : Int) := by omega
  by_cases hneg : vAt l s < 0
  · have hr2 := ra_at hl hneg
    rw [raV_no hr2] at hx
    rw [hr2] at hq
    subst hx hq
    clear hr2 hr hl hv hcell hok hch
    have t3 : decide (vAt l s < 0) = true := decide_eq_true hneg
    go_enter Try.func38, Try.ntmps38
    go_wp2_with fail
    have hL := Loc.mk2 w (.slice (some ⟨b, o, none⟩) n c) 26 34
    generalize ((w.alloc _).alloc _) = W0 at hL ⊢
    have L0 := Lib.hid hL
    clear hL
    refine (spec_store hn (H1.out.below (below_le L0.out.bel hB)) (by have := L0.out.size; omega)).mono ?_
    rintro e W1 ⟨rfl, hb⟩
    rw [hst]
    have L1 := Lib.hid (L0.out.call hb)
    clear hb
    obtain ⟨z0, z1, z2, z3, z4⟩ := atFlat L1.out.zer
    have g0 := L1.out.free 0
    have g1 := L1.out.free 1
    have g2 := L1.out.free 2
    have g3 := L1.out.free 3
    have g4 := L1.out.free 4
    have c0 := L1.out.box
    have hsz := L1.out.size
    simp only at z0 z1 z2 z3 z4
    go_wp2_with fail
    refine (in_range _ _ _ _).mono ?_
    rintro e W2 ⟨rfl, rfl⟩
    rw [hin]
    have d0 := (L1.out.bel.cell (p := ⟨b, o + k.toNat, none⟩) (by simp; omega)).trans HC.out
    go_wp2_with fail
    refine (Go.Proofs.Ytdfhnngcddaccaa.find.spec_at s hn2 (HV.out.below (below_le L1.out.bel hB)) (by omega)).mono ?_
    rintro e W3 ⟨rfl, hb⟩
    have L3 := Lib.hid (L1.out.call hb)
    clear hb d0
    clear z0 z1 z2 z3 z4 g0 g1 g2 g3 g4 c0 hsz
    obtain ⟨z0, z1, z2, z3, z4⟩ := atFlat L3.out.zer
    have g0 := L3.out.free 0
    have g1 := L3.out.free 1
    have g2 := L3.out.free 2
    have g3 := L3.out.free 3
    have g4 := L3.out.free 4
    have c0 := L3.out.box
    have hsz := L3.out.size
    simp only at z0 z1 z2 z3 z4
    go_wp2_with fail
    have hs := store5 L3.out.zer ⟨0, 0, 0, 0, 0⟩
    have hl := below5 (b := w.heap.size + 1) L3.out.bel (by omega) ⟨0, 0, 0, 0, 0⟩
    generalize (((((World.setCell _ _ _).setCell _ _).setCell _ _).setCell _ _).setCell _ _) = Wf at hs hl ⊢
    obtain ⟨s0, s1, s2, s3, s4⟩ := atFlat hs
    try simp only at s0 s1 s2 s3 s4
    exact bodyPost_ret (v := .tuple #[.agg #[.int .i64 0, .int .i64 0, .int .i64 0, .int .i64 0, .int .i64 0], .bool false]) (by simp [results, Try.results38, go_sem, s0, s1, s2, s3, s4]) rfl ⟨rfl, hl⟩
  have hj : ∃ j : Nat, vAt l s = j := ⟨(vAt l s).toNat, by omega⟩
  obtain ⟨j, hj⟩ := hj
  have hjn : j < n2 := by omega
  obtain ⟨b2, o2, y, rfl, hb2, hy, a0, a1, a2, a3, a4⟩ := hv.at_ hjn
  have hr2 := ra_yes hr hl (by omega : 0 ≤ vAt l s)
  rw [raV_yes hr2 hl hj hy] at hx
  rw [hr2] at hq
  subst hx hq
  clear hr2 hr hl hv hcell hok hch hvr hy
  have q0 : At w b2 (o2 + j * 5) y := ⟨a0, a1, a2, a3, a4⟩
  have Q0 := Lib.hid q0
  have HJ := Lib.hid hj
  clear q0 a0 a1 a2 a3 a4 hj hneg
  go_enter Try.func38, Try.ntmps38
  go_wp2_with fail
  have hL := Loc.mk2 w (.slice (some ⟨b, o, none⟩) n c) 26 34
  generalize ((w.alloc _).alloc _) = W0 at hL ⊢
  have L0 := Lib.hid hL
  clear hL
  refine (spec_store hn (H1.out.below (below_le L0.out.bel hB)) (by have := L0.out.size; omega)).mono ?_
  rintro e W1 ⟨rfl, hb⟩
  rw [hst]
  have L1 := Lib.hid (L0.out.call hb)
  clear hb
  obtain ⟨z0, z1, z2, z3, z4⟩ := atFlat L1.out.zer
  have g0 := L1.out.free 0
  have g1 := L1.out.free 1
  have g2 := L1.out.free 2
  have g3 := L1.out.free 3
  have g4 := L1.out.free 4
  have c0 := L1.out.box
  have hsz := L1.out.size
  simp only at z0 z1 z2 z3 z4
  go_wp2_with fail
  refine (in_range _ _ _ _).mono ?_
  rintro e W2 ⟨rfl, rfl⟩
  rw [hin]
  have d0 := (L1.out.bel.cell (p := ⟨b, o + k.toNat, none⟩) (by simp; omega)).trans HC.out
  go_wp2_with fail
  refine (Go.Proofs.Ytdfhnngcddaccaa.find.spec_at s hn2 (HV.out.below (below_le L1.out.bel hB)) (by omega)).mono ?_
  rintro e W3 ⟨rfl, hb⟩
  rw [HJ.out]
  have L3 := Lib.hid (L1.out.call hb)
  clear hb d0
  have d0 := (L3.out.bel.cell (p := ⟨b, o + k.toNat, none⟩) (by simp; omega)).trans HC.out
  obtain ⟨y0, y1, y2, y3, y4⟩ := Q0.out.keep (B := w.heap.size) (by omega) L3.out.bel
  clear z0 z1 z2 z3 z4 g0 g1 g2 g3 g4 c0 hsz
  obtain ⟨z0, z1, z2, z3, z4⟩ := atFlat L3.out.zer
  have g0 := L3.out.free 0
  have g1 := L3.out.free 1
  have g2 := L3.out.free 2
  have g3 := L3.out.free 3
  have g4 := L3.out.free 4
  have c0 := L3.out.box
  have hsz := L3.out.size
  simp only at z0 z1 z2 z3 z4
  go_wp2_with fail
  have hs := store5 L3.out.zer y
  have hl := below5 (b := w.heap.size + 1) L3.out.bel (by omega) y
  generalize (((((World.setCell _ _ _).setCell _ _).setCell _ _).setCell _ _).setCell _ _) = Wf at hs hl ⊢
  obtain ⟨s0, s1, s2, s3, s4⟩ := atFlat hs
  try simp only at s0 s1 s2 s3 s4
  exact bodyPost_ret (v := .tuple #[.agg #[.int .i64 y.a, .int .i64 y.b, .int .i64 y.c, .int .i64 y.d, .int .i64 y.e], .bool true]) (by simp [results, Try.results38, go_sem, s0, s1, s2, s3, s4]) rfl ⟨rfl, hl⟩
end Go.Proofs.Ytdfhnngcddaccaa.rd
