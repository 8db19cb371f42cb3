/- The program's and the model's CountVersions: what each answers; nothing that was there is written. -/
import Derived.Test.YtigbknmiidhblaaGreatDoorVal
import Derived.Test.YtigbknmiidhblaaGreatDoorFind
import Derived.WalkKit
import Derived.ProofKit
import Derived.Below
import Derived.Lib.Hide
import Derived.LoopTactic
import Derived.Outline
import Derived.IntWalk
import Derived.Test.YtigbknmiidhblaaGreatDoorInts
import Derived.Deep.QuietTactic
import Derived.BigQuiet
import Derived.Deep.OwnRows
import Derived.Laws.MakeOwn
import Derived.Laws.Entries
import Derived.Laws.AppendOwn
import Derived.Deep.AppendLies
import Derived.Laws.StructEq
import Derived.ChangeKeysEq
import Derived.Laws.IdiomCopy
import Derived.Test.YtigbknmiidhblaaGreatDoorCh
import Derived.Test.YtigbknmiidhblaaGreatDoorSt
import Derived.StillTailTactics
import Derived.Test.YtigbknmiidhblaaGreatDoorTf
import Derived.Deep.RegionHeld3
/- The program's and the model's ReadLatest and ReadAt: what each answers; nothing that was there is written. -/
namespace Go.Proofs.YtigbknmiidhblaaGreatDoor.rd
open Go.ChangeShapes Go.WideShapes Go.ChangeAt Go.RowKit
open Go.Proofs.YtigbknmiidhblaaGreatDoor.vers Go.Proofs.YtigbknmiidhblaaGreatDoor.sl Go.Proofs.YtigbknmiidhblaaGreatDoor.ch Go.Proofs.YtigbknmiidhblaaGreatDoor.st Go.Proofs.YtigbknmiidhblaaGreatDoor.val
open Go.Proofs.YtigbknmiidhblaaGreatDoor.find (lastV vAt atI vAt_yes store5 below5 latest_spec latest_impl)
set_option linter.unusedVariables false
set_option linter.unusedSimpArgs false
/-- a box of the call's own and a zero version behind it, in a world that holds what was there -/
structure Loc (w : World) (v : Value) (W : World) : Prop where
  bel : Below w.heap.size w W
  size : w.heap.size + 2 ≤ W.heap.size
  box : W.cell? ⟨w.heap.size, 0, none⟩ = some v
  zer : At W (w.heap.size + 1) 0 ⟨0, 0, 0, 0, 0⟩
  free : ∀ i, W.frozen? ⟨w.heap.size + 1, i, none⟩ = false
theorem Loc.mk2 (w : World) (v : Value) (s t : TypeId) : Loc w v ((w.alloc (.cells #[v] s)).alloc (.cells #[.int .i64 0, .int .i64 0, .int .i64 0, .int .i64 0, .int .i64 0] t)) where
  bel := new2 _ _ _
  size := by simp
  box := up _ (one_cell w v s) (by simp)
  zer := by have := boxed (w.alloc (.cells #[v] s)) ⟨0, 0, 0, 0, 0⟩ t; simpa using this
  free := fun i => by simp
theorem Loc.call {w W W' : World} {v : Value} (h : Loc w v W) (hb : Below W.heap.size W W') : Loc w v W' where
  bel := h.bel.trans (hb.mono h.bel.size)
  size := Nat.le_trans h.size hb.size
  box := (hb.cell (p := ⟨w.heap.size, 0, none⟩) (by have := h.size; simp; omega)).trans h.box
  zer := At.keep h.zer (B := W.heap.size) (by have := h.size; omega) hb
  free := fun i => (hb.frozen (p := ⟨w.heap.size + 1, i, none⟩) (by have := h.size; simp; omega)).trans (h.free i)
noncomputable def rlB (ll : List (List Ver)) (k : Int) : Bool := stB ll && In 0 5 k
noncomputable def rlV (ll : List (List Ver)) (k : Int) : Ver := if rlB ll k = true then lastV (ll.getD k.toNat []) else ⟨0, 0, 0, 0, 0⟩
noncomputable def raB (ll : List (List Ver)) (k s : Int) : Bool := rlB ll k && decide (0 ≤ vAt (ll.getD k.toNat []) s)
noncomputable def raV (ll : List (List Ver)) (k s : Int) : Ver := if raB ll k s = true then (ll.getD k.toNat []).getD (vAt (ll.getD k.toNat []) s).toNat default else ⟨0, 0, 0, 0, 0⟩
theorem rl_st {ll : List (List Ver)} {k : Int} (h : stB ll = false) : rlB ll k = false := by simp [rlB, h]
theorem rl_in {ll : List (List Ver)} {k : Int} (h : In 0 5 k = false) : rlB ll k = false := by simp [rlB, h]
theorem rl_yes {ll : List (List Ver)} {k : Int} (h : stB ll = true) (h2 : In 0 5 k = true) : rlB ll k = true := by simp [rlB, h, h2]
theorem rlV_no {ll : List (List Ver)} {k : Int} (h : rlB ll k = false) : rlV ll k = ⟨0, 0, 0, 0, 0⟩ := by simp [rlV, h]
theorem rlV_yes {ll : List (List Ver)} {k : Int} {l : List Ver} (h : rlB ll k = true) (hl : ll[k.toNat]? = some l) : rlV ll k = lastV l := by simp [rlV, h, List.getD, hl]
theorem ra_rl {ll : List (List Ver)} {k s : Int} (h : rlB ll k = false) : raB ll k s = false := by simp [raB, h]
theorem ra_at {ll : List (List Ver)} {k s : Int} {l : List Ver} (hl : ll[k.toNat]? = some l) (h : vAt l s < 0) : raB ll k s = false := by
  have : ll.getD k.toNat [] = l := by simp [List.getD, hl]
  unfold raB
  rw [this, decide_eq_false (by omega), Bool.and_false]
theorem ra_yes {ll : List (List Ver)} {k s : Int} {l : List Ver} (h : rlB ll k = true) (hl : ll[k.toNat]? = some l) (h2 : 0 ≤ vAt l s) : raB ll k s = true := by
  have : ll.getD k.toNat [] = l := by simp [List.getD, hl]
  unfold raB
  rw [this, h, decide_eq_true h2]
  rfl
theorem raV_no {ll : List (List Ver)} {k s : Int} (h : raB ll k s = false) : raV ll k s = ⟨0, 0, 0, 0, 0⟩ := by simp [raV, h]
theorem raV_yes {ll : List (List Ver)} {k s : Int} {l : List Ver} {x : Ver} {j : Nat} (h : raB ll k s = true) (hl : ll[k.toNat]? = some l) (hj : vAt l s = j) (hx : l[j]? = some x) : raV ll k s = x := by
  have : ll.getD k.toNat [] = l := by simp [List.getD, hl]
  unfold raV
  rw [if_pos h, this, hj]
  simp [List.getD, hx]
theorem atI_range (s : Int) (l : List Ver) (k : Nat) : -1 ≤ atI s l k ∧ atI s l k < (k : Int) := by
  induction k with
  | zero => exact ⟨by simp [atI], by simp [atI]⟩
  | succ k ih =>
    unfold atI
    split
    · exact ⟨by omega, by omega⟩
    · exact ⟨ih.1, by omega⟩
theorem vAt_range {l : List Ver} (s : Int) (h : chB l = true) : -1 ≤ vAt l s ∧ vAt l s < (l.length : Int) := by
  rw [← vAt_yes rfl h]
  exact atI_range s l _
set_option maxRecDepth 100000 in
set_option maxHeartbeats 1600000 in
theorem spec_readat {w : World} {B n c : Nat} {A : Option Addr} {ll : List (List Ver)} {x : Ver} {q : Bool} (k : Int) (s : Int) (hx : raV ll k s = x) (hq : raB ll k s = q) (hn : n ≤ 140737488355328) (h1 : Rs w B A n ll) (hB : B ≤ w.heap.size) :
    Calls Tryz.prog 51 #[.agg #[.slice A n c], .int .i64 k, .int .i64 s] w fun e w' => e = .returned (.tuple #[.agg #[.int .i64 x.a, .int .i64 x.b, .int .i64 x.c, .int .i64 x.d, .int .i64 x.e], .bool q]) ∧ Below w.heap.size w w' := by
  have H1 := Lib.hid h1
  have hln := h1.1
  clear h1
  rcases hst : stB ll with _ | _
  · have hr := rl_st (ll := ll) (k := k) hst
    have hr := ra_rl (s := s) hr
    rw [raV_no hr] at hx
    rw [hr] at hq
    subst hx hq
    clear hr
    go_enter Tryz.func51, Tryz.ntmps51
    go_wp2_with fail
    have hL := Loc.mk2 w (.slice A n c) 26 43
    generalize ((w.alloc _).alloc _) = W0 at hL ⊢
    have L0 := Lib.hid hL
    clear hL
    refine (spec_store hn (H1.out.below (below_le L0.out.bel hB)) (by have := L0.out.size; omega)).mono ?_
    rintro e W1 ⟨rfl, hb⟩
    rw [hst]
    have L1 := Lib.hid (L0.out.call hb)
    clear hb
    obtain ⟨z0, z1, z2, z3, z4⟩ := atFlat L1.out.zer
    have g0 := L1.out.free 0
    have g1 := L1.out.free 1
    have g2 := L1.out.free 2
    have g3 := L1.out.free 3
    have g4 := L1.out.free 4
    have c0 := L1.out.box
    have hsz := L1.out.size
    simp only at z0 z1 z2 z3 z4
    go_wp2_with fail
    have hs := store5 L1.out.zer ⟨0, 0, 0, 0, 0⟩
    have hl := below5 (b := w.heap.size + 1) L1.out.bel (by omega) ⟨0, 0, 0, 0, 0⟩
    generalize (((((World.setCell _ _ _).setCell _ _).setCell _ _).setCell _ _).setCell _ _) = Wf at hs hl ⊢
    obtain ⟨s0, s1, s2, s3, s4⟩ := atFlat hs
    try simp only at s0 s1 s2 s3 s4
    exact bodyPost_ret (v := .tuple #[.agg #[.int .i64 0, .int .i64 0, .int .i64 0, .int .i64 0, .int .i64 0], .bool false]) (by simp [results, Tryz.results51, go_sem, s0, s1, s2, s3, s4]) rfl ⟨rfl, hl⟩
  rcases hin : In 0 5 k with _ | _
  · have hr := rl_in (ll := ll) (k := k) hin
    have hr := ra_rl (s := s) hr
    rw [raV_no hr] at hx
    rw [hr] at hq
    subst hx hq
    clear hr
    go_enter Tryz.func51, Tryz.ntmps51
    go_wp2_with fail
    have hL := Loc.mk2 w (.slice A n c) 26 43
    generalize ((w.alloc _).alloc _) = W0 at hL ⊢
    have L0 := Lib.hid hL
    clear hL
    refine (spec_store hn (H1.out.below (below_le L0.out.bel hB)) (by have := L0.out.size; omega)).mono ?_
    rintro e W1 ⟨rfl, hb⟩
    rw [hst]
    have L1 := Lib.hid (L0.out.call hb)
    clear hb
    obtain ⟨z0, z1, z2, z3, z4⟩ := atFlat L1.out.zer
    have g0 := L1.out.free 0
    have g1 := L1.out.free 1
    have g2 := L1.out.free 2
    have g3 := L1.out.free 3
    have g4 := L1.out.free 4
    have c0 := L1.out.box
    have hsz := L1.out.size
    simp only at z0 z1 z2 z3 z4
    go_wp2_with fail
    refine (in_range _ _ _ _).mono ?_
    rintro e W2 ⟨rfl, rfl⟩
    rw [hin]
    go_wp2_with fail
    have hs := store5 L1.out.zer ⟨0, 0, 0, 0, 0⟩
    have hl := below5 (b := w.heap.size + 1) L1.out.bel (by omega) ⟨0, 0, 0, 0, 0⟩
    generalize (((((World.setCell _ _ _).setCell _ _).setCell _ _).setCell _ _).setCell _ _) = Wf at hs hl ⊢
    obtain ⟨s0, s1, s2, s3, s4⟩ := atFlat hs
    try simp only at s0 s1 s2 s3 s4
    exact bodyPost_ret (v := .tuple #[.agg #[.int .i64 0, .int .i64 0, .int .i64 0, .int .i64 0, .int .i64 0], .bool false]) (by simp [results, Tryz.results51, go_sem, s0, s1, s2, s3, s4]) rfl ⟨rfl, hl⟩
  have hr := rl_yes hst hin
  have hk := in_yes hin
  have hsix := st_six hst
  obtain ⟨b, o, l, A2, n2, c2, rfl, hbB, hl, hcell, hn2, hv⟩ := H1.out.at_ (k := k.toNat) (by omega)
  have hok := st_ok hst hl
  have hch := okL_ch_of hok
  have HC := Lib.hid hcell
  have HV := Lib.hid hv
  have hl2 := hv.1
  have hlen := okL_len hok
  have hvr := vAt_range s hch
  have t0 : (k.toNat : Int) = k := by omega
  have t1 : (0 : Int) ≤ k := by omega
  have t2 : k < (n : Int) := by omega
  by_cases hneg : vAt l s < 0
  · have hr2 := ra_at hl hneg
    rw [raV_no hr2] at hx
    rw [hr2] at hq
    subst hx hq
    clear hr2 hr hl hv hcell hok hch
    have t3 : decide (vAt l s < 0) = true := decide_eq_true hneg
    go_enter Tryz.func51, Tryz.ntmps51
    go_wp2_with fail
    have hL := Loc.mk2 w (.slice (some ⟨b, o, none⟩) n c) 26 43
    generalize ((w.alloc _).alloc _) = W0 at hL ⊢
    have L0 := Lib.hid hL
    clear hL
    refine (spec_store hn (H1.out.below (below_le L0.out.bel hB)) (by have := L0.out.size; omega)).mono ?_
    rintro e W1 ⟨rfl, hb⟩
    rw [hst]
    have L1 := Lib.hid (L0.out.call hb)
    clear hb
    obtain ⟨z0, z1, z2, z3, z4⟩ := atFlat L1.out.zer
    have g0 := L1.out.free 0
    have g1 := L1.out.free 1
    have g2 := L1.out.free 2
    have g3 := L1.out.free 3
    have g4 := L1.out.free 4
    have c0 := L1.out.box
    have hsz := L1.out.size
    simp only at z0 z1 z2 z3 z4
    go_wp2_with fail
    refine (in_range _ _ _ _).mono ?_
    rintro e W2 ⟨rfl, rfl⟩
    rw [hin]
    have d0 := (L1.out.bel.cell (p := ⟨b, o + k.toNat, none⟩) (by simp; omega)).trans HC.out
    go_wp2_with fail
    refine (Go.Proofs.YtigbknmiidhblaaGreatDoor.find.spec_at s hn2 (HV.out.below (below_le L1.out.bel hB)) (by omega)).mono ?_
    rintro e W3 ⟨rfl, hb⟩
    have L3 := Lib.hid (L1.out.call hb)
    clear hb d0
    clear z0 z1 z2 z3 z4 g0 g1 g2 g3 g4 c0 hsz
    obtain ⟨z0, z1, z2, z3, z4⟩ := atFlat L3.out.zer
    have g0 := L3.out.free 0
    have g1 := L3.out.free 1
    have g2 := L3.out.free 2
    have g3 := L3.out.free 3
    have g4 := L3.out.free 4
    have c0 := L3.out.box
    have hsz := L3.out.size
    simp only at z0 z1 z2 z3 z4
    go_wp2_with fail
    have hs := store5 L3.out.zer ⟨0, 0, 0, 0, 0⟩
    have hl := below5 (b := w.heap.size + 1) L3.out.bel (by omega) ⟨0, 0, 0, 0, 0⟩
    generalize (((((World.setCell _ _ _).setCell _ _).setCell _ _).setCell _ _).setCell _ _) = Wf at hs hl ⊢
    obtain ⟨s0, s1, s2, s3, s4⟩ := atFlat hs
    try simp only at s0 s1 s2 s3 s4
    exact bodyPost_ret (v := .tuple #[.agg #[.int .i64 0, .int .i64 0, .int .i64 0, .int .i64 0, .int .i64 0], .bool false]) (by simp [results, Tryz.results51, go_sem, s0, s1, s2, s3, s4]) rfl ⟨rfl, hl⟩
  have hj : ∃ j : Nat, vAt l s = j := ⟨(vAt l s).toNat, by omega⟩
  obtain ⟨j, hj⟩ := hj
  have hjn : j < n2 := by omega
  obtain ⟨b2, o2, y, rfl, hb2, hy, a0, a1, a2, a3, a4⟩ := hv.at_ hjn
  have hr2 := ra_yes hr hl (by omega : 0 ≤ vAt l s)
  rw [raV_yes hr2 hl hj hy] at hx
  rw [hr2] at hq
  subst hx hq
  clear hr2 hr hl hv hcell hok hch hvr hy
  have q0 : At w b2 (o2 + j * 5) y := ⟨a0, a1, a2, a3, a4⟩
  have Q0 := Lib.hid q0
  have HJ := Lib.hid hj
  clear q0 a0 a1 a2 a3 a4 hj hneg
  go_enter Tryz.func51, Tryz.ntmps51
  go_wp2_with fail
  have hL := Loc.mk2 w (.slice (some ⟨b, o, none⟩) n c) 26 43
  generalize ((w.alloc _).alloc _) = W0 at hL ⊢
  have L0 := Lib.hid hL
  clear hL
  refine (spec_store hn (H1.out.below (below_le L0.out.bel hB)) (by have := L0.out.size; omega)).mono ?_
  rintro e W1 ⟨rfl, hb⟩
  rw [hst]
  have L1 := Lib.hid (L0.out.call hb)
  clear hb
  obtain ⟨z0, z1, z2, z3, z4⟩ := atFlat L1.out.zer
  have g0 := L1.out.free 0
  have g1 := L1.out.free 1
  have g2 := L1.out.free 2
  have g3 := L1.out.free 3
  have g4 := L1.out.free 4
  have c0 := L1.out.box
  have hsz := L1.out.size
  simp only at z0 z1 z2 z3 z4
  go_wp2_with fail
  refine (in_range _ _ _ _).mono ?_
  rintro e W2 ⟨rfl, rfl⟩
  rw [hin]
  have d0 := (L1.out.bel.cell (p := ⟨b, o + k.toNat, none⟩) (by simp; omega)).trans HC.out
  go_wp2_with fail
  refine (Go.Proofs.YtigbknmiidhblaaGreatDoor.find.spec_at s hn2 (HV.out.below (below_le L1.out.bel hB)) (by omega)).mono ?_
  rintro e W3 ⟨rfl, hb⟩
  rw [HJ.out]
  have L3 := Lib.hid (L1.out.call hb)
  clear hb d0
  have d0 := (L3.out.bel.cell (p := ⟨b, o + k.toNat, none⟩) (by simp; omega)).trans HC.out
  obtain ⟨y0, y1, y2, y3, y4⟩ := Q0.out.keep (B := w.heap.size) (by omega) L3.out.bel
  clear z0 z1 z2 z3 z4 g0 g1 g2 g3 g4 c0 hsz
  obtain ⟨z0, z1, z2, z3, z4⟩ := atFlat L3.out.zer
  have g0 := L3.out.free 0
  have g1 := L3.out.free 1
  have g2 := L3.out.free 2
  have g3 := L3.out.free 3
  have g4 := L3.out.free 4
  have c0 := L3.out.box
  have hsz := L3.out.size
  simp only at z0 z1 z2 z3 z4
  go_wp2_with fail
  have hs := store5 L3.out.zer y
  have hl := below5 (b := w.heap.size + 1) L3.out.bel (by omega) y
  generalize (((((World.setCell _ _ _).setCell _ _).setCell _ _).setCell _ _).setCell _ _) = Wf at hs hl ⊢
  obtain ⟨s0, s1, s2, s3, s4⟩ := atFlat hs
  try simp only at s0 s1 s2 s3 s4
  exact bodyPost_ret (v := .tuple #[.agg #[.int .i64 y.a, .int .i64 y.b, .int .i64 y.c, .int .i64 y.d, .int .i64 y.e], .bool true]) (by simp [results, Tryz.results51, go_sem, s0, s1, s2, s3, s4]) rfl ⟨rfl, hl⟩
set_option maxRecDepth 100000 in
set_option maxHeartbeats 1600000 in
theorem impl_readat {w : World} {B n c : Nat} {A : Option Addr} {ll : List (List Ver)} {x : Ver} {q : Bool} (k : Int) (s : Int) (hx : raV ll k s = x) (hq : raB ll k s = q) (hn : n ≤ 140737488355328) (h1 : Rs w B A n ll) (hB : B ≤ w.heap.size) :
    Calls Tryz.prog 50 #[.agg #[.slice A n c], .int .i64 k, .int .i64 s] w fun e w' => e = .returned (.tuple #[.agg #[.int .i64 x.a, .int .i64 x.b, .int .i64 x.c, .int .i64 x.d, .int .i64 x.e], .bool q]) ∧ Below w.heap.size w w' := by
  have H1 := Lib.hid h1
  have hln := h1.1
  clear h1
  rcases hin : In 0 5 k with _ | _
  · have hr := rl_in (ll := ll) (k := k) hin
    have hr := ra_rl (s := s) hr
    rw [raV_no hr] at hx
    rw [hr] at hq
    subst hx hq
    clear hr
    go_enter Tryz.func50, Tryz.ntmps50
    go_wp2_with fail
    have hL := Loc.mk2 w (.slice A n c) 26 43
    generalize ((w.alloc _).alloc _) = W0 at hL ⊢
    have L0 := Lib.hid hL
    clear hL
    refine (is_key _ _).mono ?_
    rintro e W1 ⟨rfl, rfl⟩
    rw [hin]
    obtain ⟨z0, z1, z2, z3, z4⟩ := atFlat L0.out.zer
    have g0 := L0.out.free 0
    have g1 := L0.out.free 1
    have g2 := L0.out.free 2
    have g3 := L0.out.free 3
    have g4 := L0.out.free 4
    have c0 := L0.out.box
    have hsz := L0.out.size
    simp only at z0 z1 z2 z3 z4
    go_wp2_with fail
    have hs := store5 L0.out.zer ⟨0, 0, 0, 0, 0⟩
    have hl := below5 (b := w.heap.size + 1) L0.out.bel (by omega) ⟨0, 0, 0, 0, 0⟩
    generalize (((((World.setCell _ _ _).setCell _ _).setCell _ _).setCell _ _).setCell _ _) = Wf at hs hl ⊢
    obtain ⟨s0, s1, s2, s3, s4⟩ := atFlat hs
    try simp only at s0 s1 s2 s3 s4
    exact bodyPost_ret (v := .tuple #[.agg #[.int .i64 0, .int .i64 0, .int .i64 0, .int .i64 0, .int .i64 0], .bool false]) (by simp [results, Tryz.results50, go_sem, s0, s1, s2, s3, s4]) rfl ⟨rfl, hl⟩
  rcases hst : stB ll with _ | _
  · have hr := rl_st (ll := ll) (k := k) hst
    have hr := ra_rl (s := s) hr
    rw [raV_no hr] at hx
    rw [hr] at hq
    subst hx hq
    clear hr
    go_enter Tryz.func50, Tryz.ntmps50
    go_wp2_with fail
    have hL := Loc.mk2 w (.slice A n c) 26 43
    generalize ((w.alloc _).alloc _) = W0 at hL ⊢
    have L0 := Lib.hid hL
    clear hL
    refine (is_key _ _).mono ?_
    rintro e W1 ⟨rfl, rfl⟩
    rw [hin]
    obtain ⟨z0, z1, z2, z3, z4⟩ := atFlat L0.out.zer
    have g0 := L0.out.free 0
    have g1 := L0.out.free 1
    have g2 := L0.out.free 2
    have g3 := L0.out.free 3
    have g4 := L0.out.free 4
    have c0 := L0.out.box
    have hsz := L0.out.size
    simp only at z0 z1 z2 z3 z4
    go_wp2_with fail
    refine (impl_store hn (H1.out.below (below_le L0.out.bel hB)) (by have := L0.out.size; omega)).mono ?_
    rintro e W1 ⟨rfl, hb⟩
    rw [hst]
    have L1 := Lib.hid (L0.out.call hb)
    clear hb
    clear z0 z1 z2 z3 z4 g0 g1 g2 g3 g4 c0 hsz
    obtain ⟨z0, z1, z2, z3, z4⟩ := atFlat L1.out.zer
    have g0 := L1.out.free 0
    have g1 := L1.out.free 1
    have g2 := L1.out.free 2
    have g3 := L1.out.free 3
    have g4 := L1.out.free 4
    have c0 := L1.out.box
    have hsz := L1.out.size
    simp only at z0 z1 z2 z3 z4
    go_wp2_with fail
    have hs := store5 L1.out.zer ⟨0, 0, 0, 0, 0⟩
    have hl := below5 (b := w.heap.size + 1) L1.out.bel (by omega) ⟨0, 0, 0, 0, 0⟩
    generalize (((((World.setCell _ _ _).setCell _ _).setCell _ _).setCell _ _).setCell _ _) = Wf at hs hl ⊢
    obtain ⟨s0, s1, s2, s3, s4⟩ := atFlat hs
    try simp only at s0 s1 s2 s3 s4
    exact bodyPost_ret (v := .tuple #[.agg #[.int .i64 0, .int .i64 0, .int .i64 0, .int .i64 0, .int .i64 0], .bool false]) (by simp [results, Tryz.results50, go_sem, s0, s1, s2, s3, s4]) rfl ⟨rfl, hl⟩
  have hr := rl_yes hst hin
  have hk := in_yes hin
  have hsix := st_six hst
  obtain ⟨b, o, l, A2, n2, c2, rfl, hbB, hl, hcell, hn2, hv⟩ := H1.out.at_ (k := k.toNat) (by omega)
  have hok := st_ok hst hl
  have hch := okL_ch_of hok
  have HC := Lib.hid hcell
  have HV := Lib.hid hv
  have hl2 := hv.1
  have hlen := okL_len hok
  have hvr := vAt_range s hch
  have t0 : (k.toNat : Int) = k := by omega
  have t1 : (0 : Int) ≤ k := by omega
  have t2 : k < (n : Int) := by omega
  by_cases hneg : vAt l s < 0
  · have hr2 := ra_at hl hneg
    rw [raV_no hr2] at hx
    rw [hr2] at hq
    subst hx hq
    clear hr2 hr hl hv hcell hok hch
    have t3 : decide (vAt l s < 0) = true := decide_eq_true hneg
    go_enter Tryz.func50, Tryz.ntmps50
    go_wp2_with fail
    have hL := Loc.mk2 w (.slice (some ⟨b, o, none⟩) n c) 26 43
    generalize ((w.alloc _).alloc _) = W0 at hL ⊢
    have L0 := Lib.hid hL
    clear hL
    refine (is_key _ _).mono ?_
    rintro e W1 ⟨rfl, rfl⟩
    rw [hin]
    obtain ⟨z0, z1, z2, z3, z4⟩ := atFlat L0.out.zer
    have g0 := L0.out.free 0
    have g1 := L0.out.free 1
    have g2 := L0.out.free 2
    have g3 := L0.out.free 3
    have g4 := L0.out.free 4
    have c0 := L0.out.box
    have hsz := L0.out.size
    simp only at z0 z1 z2 z3 z4
    go_wp2_with fail
    refine (impl_store hn (H1.out.below (below_le L0.out.bel hB)) (by have := L0.out.size; omega)).mono ?_
    rintro e W1 ⟨rfl, hb⟩
    rw [hst]
    have L1 := Lib.hid (L0.out.call hb)
    clear hb
    clear z0 z1 z2 z3 z4 g0 g1 g2 g3 g4 c0 hsz
    obtain ⟨z0, z1, z2, z3, z4⟩ := atFlat L1.out.zer
    have g0 := L1.out.free 0
    have g1 := L1.out.free 1
    have g2 := L1.out.free 2
    have g3 := L1.out.free 3
    have g4 := L1.out.free 4
    have c0 := L1.out.box
    have hsz := L1.out.size
    simp only at z0 z1 z2 z3 z4
    have d0 := (L1.out.bel.cell (p := ⟨b, o + k.toNat, none⟩) (by simp; omega)).trans HC.out
    go_wp2_with fail
    refine (Go.Proofs.YtigbknmiidhblaaGreatDoor.find.impl_at s hn2 (HV.out.below (below_le L1.out.bel hB)) (by omega)).mono ?_
    rintro e W3 ⟨rfl, hb⟩
    have L3 := Lib.hid (L1.out.call hb)
    clear hb d0
    clear z0 z1 z2 z3 z4 g0 g1 g2 g3 g4 c0 hsz
    obtain ⟨z0, z1, z2, z3, z4⟩ := atFlat L3.out.zer
    have g0 := L3.out.free 0
    have g1 := L3.out.free 1
    have g2 := L3.out.free 2
    have g3 := L3.out.free 3
    have g4 := L3.out.free 4
    have c0 := L3.out.box
    have hsz := L3.out.size
    simp only at z0 z1 z2 z3 z4
    go_wp2_with fail
    have hs := store5 L3.out.zer ⟨0, 0, 0, 0, 0⟩
    have hl := below5 (b := w.heap.size + 1) L3.out.bel (by omega) ⟨0, 0, 0, 0, 0⟩
    generalize (((((World.setCell _ _ _).setCell _ _).setCell _ _).setCell _ _).setCell _ _) = Wf at hs hl ⊢
    obtain ⟨s0, s1, s2, s3, s4⟩ := atFlat hs
    try simp only at s0 s1 s2 s3 s4
    exact bodyPost_ret (v := .tuple #[.agg #[.int .i64 0, .int .i64 0, .int .i64 0, .int .i64 0, .int .i64 0], .bool false]) (by simp [results, Tryz.results50, go_sem, s0, s1, s2, s3, s4]) rfl ⟨rfl, hl⟩
  have hj : ∃ j : Nat, vAt l s = j := ⟨(vAt l s).toNat, by omega⟩
  obtain ⟨j, hj⟩ := hj
  have hjn : j < n2 := by omega
  obtain ⟨b2, o2, y, rfl, hb2, hy, a0, a1, a2, a3, a4⟩ := hv.at_ hjn
  have hr2 := ra_yes hr hl (by omega : 0 ≤ vAt l s)
  rw [raV_yes hr2 hl hj hy] at hx
  rw [hr2] at hq
  subst hx hq
  clear hr2 hr hl hv hcell hok hch hvr hy
  have q0 : At w b2 (o2 + j * 5) y := ⟨a0, a1, a2, a3, a4⟩
  have Q0 := Lib.hid q0
  have HJ := Lib.hid hj
  clear q0 a0 a1 a2 a3 a4 hj hneg
  go_enter Tryz.func50, Tryz.ntmps50
  go_wp2_with fail
  have hL := Loc.mk2 w (.slice (some ⟨b, o, none⟩) n c) 26 43
  generalize ((w.alloc _).alloc _) = W0 at hL ⊢
  have L0 := Lib.hid hL
  clear hL
  refine (is_key _ _).mono ?_
  rintro e W1 ⟨rfl, rfl⟩
  rw [hin]
  obtain ⟨z0, z1, z2, z3, z4⟩ := atFlat L0.out.zer
  have g0 := L0.out.free 0
  have g1 := L0.out.free 1
  have g2 := L0.out.free 2
  have g3 := L0.out.free 3
  have g4 := L0.out.free 4
  have c0 := L0.out.box
  have hsz := L0.out.size
  simp only at z0 z1 z2 z3 z4
  go_wp2_with fail
  refine (impl_store hn (H1.out.below (below_le L0.out.bel hB)) (by have := L0.out.size; omega)).mono ?_
  rintro e W1 ⟨rfl, hb⟩
  rw [hst]
  have L1 := Lib.hid (L0.out.call hb)
  clear hb
  clear z0 z1 z2 z3 z4 g0 g1 g2 g3 g4 c0 hsz
  obtain ⟨z0, z1, z2, z3, z4⟩ := atFlat L1.out.zer
  have g0 := L1.out.free 0
  have g1 := L1.out.free 1
  have g2 := L1.out.free 2
  have g3 := L1.out.free 3
  have g4 := L1.out.free 4
  have c0 := L1.out.box
  have hsz := L1.out.size
  simp only at z0 z1 z2 z3 z4
  have d0 := (L1.out.bel.cell (p := ⟨b, o + k.toNat, none⟩) (by simp; omega)).trans HC.out
  go_wp2_with fail
  refine (Go.Proofs.YtigbknmiidhblaaGreatDoor.find.impl_at s hn2 (HV.out.below (below_le L1.out.bel hB)) (by omega)).mono ?_
  rintro e W3 ⟨rfl, hb⟩
  rw [HJ.out]
  have L3 := Lib.hid (L1.out.call hb)
  clear hb d0
  have d0 := (L3.out.bel.cell (p := ⟨b, o + k.toNat, none⟩) (by simp; omega)).trans HC.out
  obtain ⟨y0, y1, y2, y3, y4⟩ := Q0.out.keep (B := w.heap.size) (by omega) L3.out.bel
  clear z0 z1 z2 z3 z4 g0 g1 g2 g3 g4 c0 hsz
  obtain ⟨z0, z1, z2, z3, z4⟩ := atFlat L3.out.zer
  have g0 := L3.out.free 0
  have g1 := L3.out.free 1
  have g2 := L3.out.free 2
  have g3 := L3.out.free 3
  have g4 := L3.out.free 4
  have c0 := L3.out.box
  have hsz := L3.out.size
  simp only at z0 z1 z2 z3 z4
  go_wp2_with fail
  have hs := store5 L3.out.zer y
  have hl := below5 (b := w.heap.size + 1) L3.out.bel (by omega) y
  generalize (((((World.setCell _ _ _).setCell _ _).setCell _ _).setCell _ _).setCell _ _) = Wf at hs hl ⊢
  obtain ⟨s0, s1, s2, s3, s4⟩ := atFlat hs
  try simp only at s0 s1 s2 s3 s4
  exact bodyPost_ret (v := .tuple #[.agg #[.int .i64 y.a, .int .i64 y.b, .int .i64 y.c, .int .i64 y.d, .int .i64 y.e], .bool true]) (by simp [results, Tryz.results50, go_sem, s0, s1, s2, s3, s4]) rfl ⟨rfl, hl⟩
end Go.Proofs.YtigbknmiidhblaaGreatDoor.rd
/- The program's and the model's StateAt: what each answers; nothing that was there is written. -/
namespace Go.Proofs.YtigbknmiidhblaaGreatDoor.sa
open Go.ChangeShapes Go.WideShapes Go.ChangeAt Go.RowKit
open Go.Proofs.YtigbknmiidhblaaGreatDoor.vers Go.Proofs.YtigbknmiidhblaaGreatDoor.sl Go.Proofs.YtigbknmiidhblaaGreatDoor.ch Go.Proofs.YtigbknmiidhblaaGreatDoor.st Go.Proofs.YtigbknmiidhblaaGreatDoor.val Go.Proofs.YtigbknmiidhblaaGreatDoor.rd Go.Proofs.YtigbknmiidhblaaGreatDoor.ints
set_option linter.unusedVariables false
set_option linter.unusedSimpArgs false
/-- the first k keys can be read at s -/
def RdOk (ll : List (List Ver)) (s : Int) (k : Nat) : Prop := ∀ i : Nat, i < k → raB ll i s = true
noncomputable def saV (ll : List (List Ver)) (s : Int) (k : Nat) : List Int := (List.range k).map fun i => (raV ll (i : Nat) s).b
noncomputable def saL (ll : List (List Ver)) (s : Int) : List Int := @ite _ (RdOk ll s 6) (Classical.propDecidable _) (saV ll s 6) []
theorem saL_yes {ll : List (List Ver)} {s : Int} (h : RdOk ll s 6) : saL ll s = saV ll s 6 := by unfold saL; exact if_pos h
theorem saL_no {ll : List (List Ver)} {s : Int} {k : Nat} (hk : k < 6) (h : raB ll (k : Nat) s = false) : saL ll s = [] := by
  unfold saL
  refine if_neg fun hh => ?_
  have := hh k hk
  rw [h] at this
  cases this
theorem rdok_zero (ll : List (List Ver)) (s : Int) : RdOk ll s 0 := fun i h => absurd h (by omega)
theorem rdok_step {ll : List (List Ver)} {s : Int} {k : Nat} (h : RdOk ll s k) (h2 : raB ll (k : Nat) s = true) : RdOk ll s (k + 1) := fun i hi => by
  by_cases e : i = k
  · subst e; exact h2
  · exact h i (by omega)
theorem saV_step (ll : List (List Ver)) (s : Int) (k : Nat) : saV ll s (k + 1) = saV ll s k ++ [(raV ll (k : Nat) s).b] := by
  unfold saV
  rw [List.range_succ, List.map_append]
  rfl
theorem saV_len (ll : List (List Ver)) (s : Int) (k : Nat) : (saV ll s k).length = k := by simp [saV]
theorem saV_get {ll : List (List Ver)} {s : Int} {k i : Nat} (h : i < k) : (saV ll s k)[i]? = some (raV ll (i : Nat) s).b := by simp [saV, h]
/-- an own row of integers reads as a list -/
theorem own_is {w : World} {B m : Nat} {v : Value} {xs : List Int} (ho : w.ownsRow B 3 1 v m (xs.map (Value.int .i64))) (hl : xs.length = m) : ∃ A c, v = .slice A m c ∧ Is w w.heap.size A m xs := by
  rcases Nat.eq_zero_or_pos m with h0 | h0
  · subst h0
    rcases ho.2 with ⟨rfl, _⟩ | ⟨g, cap, cur, rfl, _⟩
    · exact ⟨none, 0, rfl, hl, fun h => absurd h (by omega)⟩
    · exact ⟨_, cap, rfl, hl, fun h => absurd h (by omega)⟩
  · obtain ⟨g, cap, rfl, _, hlt⟩ := ho.form h0
    refine ⟨_, cap, rfl, hl, fun _ => ⟨g, 0, rfl, hlt, fun k x hx => ?_⟩⟩
    have := ho.cells (g := g) rfl k (.int .i64 x) (by rw [List.getElem?_map, hx]; rfl)
    rw [← this]
    congr 1
    unfold Addr.add
    split <;> simp_all
theorem own_keep {w w' : World} {B m : Nat} {v : Value} {xs : List Value} (h : w.ownsRow B 3 1 v m xs) (hb : Below w.heap.size w w') : w'.ownsRow B 3 1 v m xs := by
  rcases h.2 with ⟨h0, h1⟩ | ⟨g, cap, cur, hv, hbg, hgg, hnc, hcm, hsz, htk⟩
  · exact ⟨h.1, .inl ⟨h0, h1⟩⟩
  · refine ⟨h.1, .inr ⟨g, cap, cur, hv, hbg, ?_, hnc, hcm, hsz, htk⟩⟩
    have hlt : g < w.heap.size := by
      rcases Nat.lt_or_ge g w.heap.size with h' | h'
      · exact h'
      · rw [Array.getElem?_eq_none h'] at hgg; cases hgg
    rw [hb.block g hlt]; exact hgg
theorem cell_one (w : World) (v : Value) (t : TypeId) : ∀ (j : Nat) (u : Value), [v][j]? = some u → (w.alloc (.cells #[v] t)).cell? ((⟨w.heap.size, 0, none⟩ : Addr).add j) = some u := by
  intro j u hu
  match j, hu with
  | 0, hu =>
    simp only [List.getElem?_cons_zero, Option.some.injEq] at hu
    rw [← hu]
    exact World.cell?_alloc_mark w _ t _ 0
  | j + 1, hu => simp at hu
theorem cell_one2 (w : World) (o : Obj) (v : Value) (t : TypeId) : ∀ (j : Nat) (u : Value), [v][j]? = some u → ((w.alloc o).alloc (.cells #[v] t)).cell? ((⟨w.heap.size + 1, 0, none⟩ : Addr).add j) = some u := by
  have h := cell_one (w.alloc o) v t
  rw [World.size_alloc] at h
  exact h
theorem one_int (x : Int) : ∀ u ∈ [Value.int .i64 x], u.oneCell' = true := by
  intro u hu
  simp only [List.mem_singleton] at hu
  rw [hu]; rfl
theorem info_int : (Tryz.prog.info? 3).map (fun i => (i.zero, i.size, i.bytes)) = some (some (.int .i64 0), 1, 8) := by kernel_rfl
/-- an answer that reads as xs, in memory of the call's own or none -/
def Ans (xs : List Int) (w : World) (e : Ending) (w' : World) : Prop := ∃ A m c, e = .returned (.slice A m c) ∧ Is w' w'.heap.size A m xs ∧ Below w.heap.size w w'
set_option maxRecDepth 100000 in
set_option maxHeartbeats 1600000 in
theorem spec_state {w : World} {B n c : Nat} {A : Option Addr} {ll : List (List Ver)} (s : Int) (hn : n ≤ 140737488355328) (h1 : Rs w B A n ll) (hB : B ≤ w.heap.size) :
    Calls Tryz.prog 19 #[.agg #[.slice A n c], .int .i64 s] w (Ans (saL ll s) w) := by
  have H1 := Lib.hid h1
  have hln := h1.1
  obtain ⟨i0, hi, hz0, hz1, hz2⟩ := info_parts info_int
  have HI := Lib.hid hi
  have HZ0 := Lib.hid hz0
  have HZ1 := Lib.hid hz1
  have HZ2 := Lib.hid hz2
  clear h1 hi hz0 hz1 hz2
  go_enter Tryz.func19, Tryz.ntmps19
  go_wp2
  have z0 := up (.cells #[] 3) (one_cell w (.slice A n c) 26) (by simp)
  have hown0 : ((w.alloc (.cells #[.slice A n c] 26)).alloc (.cells #[] 3)).ownsRow (w.heap.size + 1) 3 1 (.slice (some ⟨w.heap.size + 1, 0, none⟩) 0 0) 0 ((saV ll s 0).map (Value.int .i64)) := by
    refine ⟨rfl, .inr ⟨w.heap.size + 1, 0, #[], rfl, Nat.le_refl _, ?_, Nat.le_refl _, by unfold maxLen; omega, rfl, rfl⟩⟩
    have := heap_alloc_new (w.alloc (.cells #[.slice A n c] 26)) (.cells #[] 3)
    simpa using this
  have hb0 := new2 w (.cells #[.slice A n c] 26) (.cells #[] 3)
  have hs0 : ((w.alloc (.cells #[.slice A n c] 26)).alloc (.cells #[] 3)).heap.size = w.heap.size + 2 := by simp
  generalize (w.alloc _).alloc _ = w0 at z0 hown0 hb0 hs0 ⊢
  have HB0 := Lib.hid (below_le (B' := w.heap.size + 1) (Below.refl w0.heap.size w0) (by omega))
  have HBw := Lib.hid hb0
  have HOWN0 := Lib.hid hown0
  have Z0 := Lib.hid z0
  clear hb0 hown0 z0
  go_loopw [5, 6] (fun v i wr => ∃ k : Nat, k ≤ 6 ∧ i = .int .i64 k ∧ RdOk ll s k ∧ wr.ownsRow (w.heap.size + 1) 3 1 v k ((saV ll s k).map (Value.int .i64)) ∧ Below (w.heap.size + 1) w0 wr) (fun _ i _ => 6 - (intOf i).toNat)
  case atStart => exact ⟨0, by omega, rfl, rdok_zero _ _, HOWN0.out, HB0.out⟩
  case round =>
    obtain ⟨k, hk, rfl, hok, hown, hb⟩ := hrel
    have HOK := Lib.hid hok
    have HOWN := Lib.hid hown
    have HB := Lib.hid hb
    have hs1 := hb.size
    have c0 := (hb.cell (p := ⟨w.heap.size, 0, none⟩) (by simp)).trans Z0.out
    have HW := Lib.hid (HBw.out.trans (hb.mono (by omega)))
    clear hok hown hb
    by_cases hlt : k < 6
    · have t : decide ((k : Int) < 6) = true := decide_eq_true (by omega)
      obtain ⟨x, hx⟩ : ∃ x, raV ll (k : Nat) s = x := ⟨_, rfl⟩
      have HX := Lib.hid hx
      clear hx
      rcases hq : raB ll (k : Nat) s with _ | _
      · have HQ := Lib.hid hq
        have hno := saL_no hlt hq
        have HNO := Lib.hid hno
        clear hq hno
        go_wp2_with fail
        refine (spec_readat (k : Nat) s HX.out HQ.out hn (H1.out.below (below_le HW.out hB)) (by omega)).mono ?_
        rintro e W1 ⟨rfl, hb1⟩
        have HB1 := Lib.hid (HW.out.trans (hb1.mono (by omega)))
        clear hb1 c0
        go_wp2_with fail
        go_ret
        exact ⟨_, _, _, rfl, by rw [HNO.out]; exact Is.nil_ _ _ _, (HB1.out.alloc HB1.out.size _).alloc (by have := HB1.out.size; simp; omega) _⟩
      · have HQ := Lib.hid hq
        clear hq
        go_wp2_with fail
        refine (spec_readat (k : Nat) s HX.out HQ.out hn (H1.out.below (below_le HW.out hB)) (by omega)).mono ?_
        rintro e W1 ⟨rfl, hb1⟩
        have HB1 := Lib.hid (HB.out.trans (hb1.mono (by omega)))
        have HOWN1 := Lib.hid (own_keep HOWN.out hb1)
        have hs2 := hb1.size
        have hmax : k + 1 ≤ maxLen := by unfold maxLen; omega
        have hbyt : (k + 1) * 8 ≤ 140737488355328 := by omega
        have hbase : ∀ o o', w.heap.size + 1 ≤ ((W1.alloc o).alloc o').heap.size := fun o o' => by simp; omega
        clear hb1 c0
        go_wp2_with (at_builtin; refine wpList_append_own _ rfl _ _ 49 rfl (w.heap.size + 1) 3 i0 (.int .i64 0) 1 8 Tryz.underlying49 HI.out HZ0.out HZ1.out HZ2.out rfl (by decide) _ _ _ rfl ((HOWN1.out.alloc _).alloc _) ⟨_, 0, none⟩ 1 1 [.int .i64 x.b] rfl rfl (cell_one2 _ _ _ _) (one_int _) hmax hbyt (hbase _ _) ?_)
        intro v' w1 hown' hgrow _
        have hrow := fun q hq => (HOWN1.out.lt q hq).1
        have hb4 : Below (w.heap.size + 1) w0 w1 := ((HB1.out.alloc (by omega) _).alloc (by simp; omega) _).grown hgrow (hbase _ _) hrow
        have hown4 : w1.ownsRow (w.heap.size + 1) 3 1 v' (k + 1) ((saV ll s (k + 1)).map (Value.int .i64)) := by
          rw [saV_step, HX.out, List.map_append]
          exact hown'
        have HB4 := Lib.hid hb4
        have HOWN4 := Lib.hid hown4
        clear hown' hgrow hrow hb4 hown4 hmax hbyt hbase
        go_wp2_with fail
        go_roundw
        case rel => exact ⟨k + 1, by omega, by go_num, rdok_step HOK.out HQ.out, HOWN4.out, HB4.out⟩
        case measure => simp [intOf]; omega
    · have t : decide ((k : Int) < 6) = false := decide_eq_false (by omega)
      obtain rfl : k = 6 := by omega
      have hyes := saL_yes HOK.out
      obtain ⟨A', c', rfl, his⟩ := own_is HOWN.out (saV_len ll s 6)
      have HIS := Lib.hid his
      have HY := Lib.hid hyes
      clear his hyes c0
      go_wp2_with fail
      go_ret
      exact ⟨_, _, _, rfl, by rw [HY.out]; exact HIS.out, HW.out⟩
/-! the program's: two arrays, then one copy -/
theorem info_bool : (Tryz.prog.info? 4).map (fun i => (i.zero, i.size, i.bytes)) = some (some (.bool false), 1, 1) := by kernel_rfl
theorem neq6 (b0 b1 b2 b3 b4 b5 : Bool) (w : World) :
    (binOp .neq 90 (.agg #[.bool b0, .bool b1, .bool b2, .bool b3, .bool b4, .bool b5]) (.agg #[.bool false, .bool false, .bool false, .bool false, .bool false, .bool false])).run Tryz.prog w = .ok (.bool (b0 || b1 || b2 || b3 || b4 || b5)) w := by
  obtain ⟨i, hi, _, _, _⟩ := info_parts info_bool
  have hc : Tryz.prog.cellsOf 4 = 1 := by kernel_rfl
  have hb := Tryz.underlying4
  rw [run_neq_struct, run_equalIn_array w 9999 _ _ Tryz.underlying90 hi, hc, show List.range 6 = [0, 1, 2, 3, 4, 5] from rfl]
  simp [Op.eqItems, go_sem, hb]
  cases b0 <;> simp
  cases b1 <;> simp
  cases b2 <;> simp
  cases b3 <;> simp
  cases b4 <;> simp
  cases b5 <;> simp
theorem six_made (w : World) (v : Value) (t : TypeId) : (w.alloc (.cells #[v, v, v, v, v, v] t)).rowIs w.heap.size t 6 (fun _ => v) :=
  World.rowIs_alloc w #[v, v, v, v, v, v] t (fun _ => v) (fun i hi => by
    have : i = 0 ∨ i = 1 ∨ i = 2 ∨ i = 3 ∨ i = 4 ∨ i = 5 := by simp at hi; omega
    rcases this with rfl | rfl | rfl | rfl | rfl | rfl <;> rfl)
theorem saL_not {ll : List (List Ver)} {s : Int} (h : ¬ RdOk ll s 6) : saL ll s = [] := by unfold saL; exact if_neg h
/-- what the two arrays hold when the first k keys are read -/
noncomputable def fV (ll : List (List Ver)) (s : Int) (k i : Nat) : Value := if i < k then .int .i64 (raV ll (i : Nat) s).b else .int .i64 0
noncomputable def fU (ll : List (List Ver)) (s : Int) (k i : Nat) : Value := if i < k then .bool (!raB ll (i : Nat) s) else .bool false
theorem fV_step (ll : List (List Ver)) (s : Int) (k : Nat) {x : Int} (hx : (raV ll (k : Nat) s).b = x) : (fun j => if j = k then Value.int .i64 x else fV ll s k j) = fV ll s (k + 1) := by
  funext j
  unfold fV
  by_cases e : j = k
  · subst e; rw [if_pos rfl, if_pos (by omega), hx]
  · rw [if_neg e]
    by_cases h : j < k
    · rw [if_pos h, if_pos (by omega)]
    · rw [if_neg h, if_neg (by omega)]
theorem fU_step (ll : List (List Ver)) (s : Int) (k : Nat) {x : Bool} (hx : raB ll (k : Nat) s = x) : (fun j => if j = k then Value.bool (!x) else fU ll s k j) = fU ll s (k + 1) := by
  funext j
  unfold fU
  by_cases e : j = k
  · subst e; rw [if_pos rfl, if_pos (by omega), hx]
  · rw [if_neg e]
    by_cases h : j < k
    · rw [if_pos h, if_pos (by omega)]
    · rw [if_neg h, if_neg (by omega)]
theorem make6 (w : World) : (Instr.makeSlice 49 (.int .i64 6) (.int .i64 6)).run Tryz.prog w = .ok (.slice (some ⟨w.heap.size, 0, none⟩) 6 6) (w.alloc (.cells #[.int .i64 0, .int .i64 0, .int .i64 0, .int .i64 0, .int .i64 0, .int .i64 0] 3)) := by
  obtain ⟨i0, hi, hz0, hz1, hz2⟩ := info_parts info_int
  have hr := run_make (P := Tryz.prog) w 49 3 i0 _ Tryz.underlying49 hi hz0 .i64 .i64 (6 : Nat) (6 : Nat) (by omega) (by omega) (by rw [hz2]; omega) (by omega)
  simp only [Int.toNat_natCast, hz1, Value.cells, Nat.mul_one] at hr
  have e : madeCells #[Value.int .i64 0] 6 = #[.int .i64 0, .int .i64 0, .int .i64 0, .int .i64 0, .int .i64 0, .int .i64 0] := by kernel_rfl
  rw [e] at hr
  exact hr
theorem below_cells {B b : Nat} (hb : B ≤ b) : ∀ (vs : List Value) (o : Nat) {a w : World}, Below B a w → Below B a (w.setCells b o vs)
  | [], _, _, _, h => h
  | v :: r, o, a, w, h => below_cells hb r (o + 1) (h.setCell (p := ⟨b, o, none⟩) hb v)
theorem size_cells (b : Nat) : ∀ (vs : List Value) (o : Nat) (w : World), (w.setCells b o vs).heap.size = w.heap.size
  | [], _, _ => rfl
  | v :: r, o, w => (size_cells b r (o + 1) (w.setCell ⟨b, o, none⟩ v)).trans (by simp [World.setCell])
theorem row_cells {b n : Nat} {t : TypeId} : ∀ (vs : List Value) (o : Nat) (w : World) (f : Nat → Value), w.rowIs b t n f → ∃ f', (w.setCells b o vs).rowIs b t n f'
  | [], _, _, f, h => ⟨f, h⟩
  | v :: r, o, w, f, h => row_cells r (o + 1) (w.setCell ⟨b, o, none⟩ v) _ (h.set o v)
/-- an answer in a new row of the call's own, or nil -/
def AnsR (xs : List Int) (w : World) (e : Ending) (w' : World) : Prop :=
  (e = .returned (.slice none 0 0) ∧ xs = [] ∧ Below w.heap.size w w') ∨ ∃ g, e = .returned (.slice (some ⟨g, 0, none⟩) 6 6) ∧ w.heap.size ≤ g ∧ IR w' g 6 0 0 ∧ Is w' w'.heap.size (some ⟨g, 0, none⟩) 6 xs ∧ Below w.heap.size w w'
/-- the copy of six integers into a new row -/
theorem copy6 {w : World} {V : Nat} {ll : List (List Ver)} {s : Int} (hV : w.rowIs V 88 6 (fV ll s 6)) :
    ∃ W, (Builtin.copy_ #[49, 49] 3 #[.slice (some ⟨w.heap.size, 0, none⟩) 6 6, .slice (some ⟨V, 0, none⟩) 6 6]).run Tryz.prog (w.alloc (.cells #[.int .i64 0, .int .i64 0, .int .i64 0, .int .i64 0, .int .i64 0, .int .i64 0] 3)) = .ok (goInt 6) W ∧ Is W W.heap.size (some ⟨w.heap.size, 0, none⟩) 6 (saV ll s 6) ∧ IR W w.heap.size 6 0 0 ∧ Below w.heap.size w W := by
  have hrow := six_made w (.int .i64 0) 3
  have hlt : V < w.heap.size := hV.lt
  have hle := saV_len ll s 6
  have hs : (Tryz.prog.info? 3).map (·.size) = some 1 := by
    obtain ⟨i0, hi, hz0, hz1, hz2⟩ := info_parts info_int
    rw [hi]; simp [hz1]
  have hz := World.size_alloc w (.cells #[.int .i64 0, .int .i64 0, .int .i64 0, .int .i64 0, .int .i64 0, .int .i64 0] 3)
  have hb1 := new1 w (.cells #[.int .i64 0, .int .i64 0, .int .i64 0, .int .i64 0, .int .i64 0, .int .i64 0] 3)
  have hv1 := hV.alloc (.cells #[.int .i64 0, .int .i64 0, .int .i64 0, .int .i64 0, .int .i64 0, .int .i64 0] 3)
  generalize w.alloc _ = W1 at hrow hz hb1 hv1 ⊢
  have hsome : ∀ j, j < ((saV ll s 6).map (Value.int .i64)).length → (W1.cell? ⟨w.heap.size, 0 + j, none⟩).isSome = true := fun j hj => by
    rw [List.length_map, hle] at hj
    rw [Nat.zero_add, hrow.cell hj]; rfl
  have := run_copy_cells (P := Tryz.prog) W1 49 49 3 3 w.heap.size 0 6 6 ⟨V, 0, none⟩ 6 6 ((saV ll s 6).map (Value.int .i64)) Tryz.underlying49 hs (by rw [List.length_map, hle]; rfl)
    (fun j v hv => by
      have hj : j < 6 := by
        rcases Nat.lt_or_ge j 6 with h | h
        · exact h
        · rw [List.getElem?_eq_none (by rw [List.length_map, hle]; exact h)] at hv; cases hv
      rw [List.getElem?_map, saV_get hj] at hv
      simp only [Option.map_some, Option.some.injEq] at hv
      have hc := hv1.cell hj
      unfold fV at hc
      rw [if_pos hj, hv] at hc
      rw [← hc]
      refine congrArg W1.cell? ?_
      unfold Addr.add
      split <;> simp_all)
    hsome (fun j _ => hrow.frozen _) (fun u hu => by
      obtain ⟨y, _, rfl⟩ := List.mem_map.1 hu
      rfl)
  obtain ⟨f', hf'⟩ := row_cells ((saV ll s 6).map (Value.int .i64)) 0 W1 _ hrow
  refine ⟨W1.setCells w.heap.size 0 ((saV ll s 6).map (Value.int .i64)), ?_, ⟨hle, fun _ => ⟨w.heap.size, 0, rfl, by rw [size_cells]; omega, fun k x hx => ?_⟩⟩, ⟨f', hf', fun i h => absurd h (by omega)⟩, below_cells (Nat.le_refl _) _ _ hb1⟩
  · rw [this, List.length_map, hle]
    rfl
  · have hk := lt_get hx
    have := World.cell?_setCells_in w.heap.size ((saV ll s 6).map (Value.int .i64)) 0 W1 hsome k (by rw [List.length_map]; exact hk)
    rw [this]
    rw [List.getElem?_eq_getElem hk] at hx
    simp only [List.getElem_map, Option.some.injEq] at hx ⊢
    rw [hx]
/-- a row, its cells known, over a call -/
theorem row_below {w w' : World} {b n B : Nat} {t : TypeId} {f : Nat → Value} (h : w.rowIs b t n f) (hb : Below B w w') (hl : b < B) : w'.rowIs b t n f := h.of_block (hb.block b hl)
set_option maxRecDepth 100000 in
set_option maxHeartbeats 1600000 in
theorem impl_state {w : World} {B n c : Nat} {A : Option Addr} {ll : List (List Ver)} (s : Int) (hn : n ≤ 140737488355328) (h1 : Rs w B A n ll) (hB : B ≤ w.heap.size) :
    Calls Tryz.prog 18 #[.agg #[.slice A n c], .int .i64 s] w (AnsR (saL ll s) w) := by
  have H1 := Lib.hid h1
  have hln := h1.1
  clear h1
  go_enter Tryz.func18, Tryz.ntmps18
  go_wp2
  have hb0 := new3 w (.cells #[.slice A n c] 26) (.cells #[.int .i64 0, .int .i64 0, .int .i64 0, .int .i64 0, .int .i64 0, .int .i64 0] 88) (.cells #[.bool false, .bool false, .bool false, .bool false, .bool false, .bool false] 90)
  have z0 := up (.cells #[.bool false, .bool false, .bool false, .bool false, .bool false, .bool false] 90) (up (.cells #[.int .i64 0, .int .i64 0, .int .i64 0, .int .i64 0, .int .i64 0, .int .i64 0] 88) (one_cell w (.slice A n c) 26) (by simp)) (by simp; omega)
  have rv := (six_made (w.alloc (.cells #[.slice A n c] 26)) (.int .i64 0) 88).alloc (.cells #[.bool false, .bool false, .bool false, .bool false, .bool false, .bool false] 90)
  have ru := six_made ((w.alloc (.cells #[.slice A n c] 26)).alloc (.cells #[.int .i64 0, .int .i64 0, .int .i64 0, .int .i64 0, .int .i64 0, .int .i64 0] 88)) (.bool false) 90
  have hs0 : (((w.alloc (.cells #[.slice A n c] 26)).alloc (.cells #[.int .i64 0, .int .i64 0, .int .i64 0, .int .i64 0, .int .i64 0, .int .i64 0] 88)).alloc (.cells #[.bool false, .bool false, .bool false, .bool false, .bool false, .bool false] 90)).heap.size = w.heap.size + 3 := by simp
  simp only [World.size_alloc] at rv ru
  generalize ((w.alloc _).alloc _).alloc _ = w0 at z0 rv ru hb0 hs0 ⊢
  obtain ⟨V, hV⟩ : ∃ V, V = w.heap.size + 1 := ⟨_, rfl⟩
  rw [← hV] at rv ru
  simp only [← hV]
  have hV1 : w.heap.size < V := by omega
  have hV2 : V + 2 = w0.heap.size := by omega
  clear hV
  have HBw := Lib.hid hb0
  have Z0 := Lib.hid z0
  have RV : Hid (w0.rowIs V 88 6 (fV ll s 0)) := Lib.hid (rv.congr fun i _ => by simp [fV])
  have RU : Hid (w0.rowIs (V + 1) 90 6 (fU ll s 0)) := Lib.hid (ru.congr fun i _ => by simp [fU])
  clear hb0 z0 rv ru
  go_loopw [11] (fun i wr => ∃ k : Nat, k ≤ 6 ∧ i = .int .i64 k ∧ wr.rowIs V 88 6 (fV ll s k) ∧ wr.rowIs (V + 1) 90 6 (fU ll s k) ∧ wr.cell? ⟨w.heap.size, 0, none⟩ = some (.slice A n c) ∧ Below w.heap.size w wr ∧ V + 2 ≤ wr.heap.size) (fun i _ => 6 - (intOf i).toNat)
  case atStart => exact ⟨0, by omega, rfl, RV.out, RU.out, Z0.out, HBw.out, by omega⟩
  case round =>
    obtain ⟨k, hk, rfl, rv, ru, c0, hb, hs⟩ := hrel
    have HB := Lib.hid hb
    have RV := Lib.hid rv
    have RU := Lib.hid ru
    clear hb rv ru
    by_cases hlt : k < 6
    · have t : decide ((k : Int) < 6) = true := decide_eq_true (by omega)
      obtain ⟨x, hx⟩ : ∃ x, raV ll (k : Nat) s = x := ⟨_, rfl⟩
      obtain ⟨q, hq⟩ : ∃ q, raB ll (k : Nat) s = q := ⟨_, rfl⟩
      have HX := Lib.hid hx
      have HQ := Lib.hid hq
      clear hx hq
      go_wp2_with fail
      refine (impl_readat (k : Nat) s HX.out HQ.out hn (H1.out.below (below_le HB.out hB)) (by have := HB.out.size; omega)).mono ?_
      rintro e W1 ⟨rfl, hb1⟩
      have rv1 := row_below RV.out hb1 (by omega)
      have ru1 := row_below RU.out hb1 (by omega)
      have hs1 := hb1.size
      have hvl : V < W1.heap.size := by omega
      have hul : V + 1 < W1.heap.size := by omega
      have d0 := (hb1.cell (p := ⟨w.heap.size, 0, none⟩) (by simp; omega)).trans c0
      have HB1 := Lib.hid (HB.out.trans (hb1.mono (by omega)))
      have RV1 := Lib.hid rv1
      have RU1 := Lib.hid ru1
      have cv := rv1.cell hlt
      have cu := ru1.cell hlt
      have fv := rv1.frozen k
      have fu := ru1.frozen k
      clear hb1 c0 rv1 ru1
      obtain ⟨yv, hyv⟩ : ∃ y, fV ll s k k = y := ⟨_, rfl⟩
      obtain ⟨yu, hyu⟩ : ∃ y, fU ll s k k = y := ⟨_, rfl⟩
      rw [hyv] at cv
      rw [hyu] at cu
      go_wp2_with fail
      go_roundw
      case rel =>
        refine ⟨k + 1, by omega, by go_num, ?_, ?_, ?_, ?_, ?_⟩
        · exact World.rowIs.alloc (World.rowIs.setOther (by rw [← fV_step ll s k (x := x.b) (by rw [HX.out])]; exact RV1.out.set k _) (by simp) _) _
        · exact World.rowIs.alloc (by rw [← fU_step ll s k HQ.out]; exact World.rowIs.set (World.rowIs.setOther RU1.out (by simp) _) k _) _
        · exact up _ (set_other (set_other d0 (by simp; omega)) (by simp; omega)) (by simp; omega)
        · exact ((HB1.out.setCell (by simp; omega) _).setCell (by simp; omega) _).alloc (by simp; omega) _
        · simp; omega
      case measure => simp [intOf]; omega
    · have t : decide ((k : Int) < 6) = false := decide_eq_false (by omega)
      obtain rfl : k = 6 := by omega
      obtain ⟨q0, hq0⟩ : ∃ q, raB ll ((0 : Nat) : Int) s = q := ⟨_, rfl⟩
      have u0 : wr.cell? ⟨V + 1, 0, none⟩ = some (.bool (!q0)) := by have := RU.out.cell (i := 0) (by omega); rw [this]; unfold fU; rw [if_pos (by omega), hq0]
      obtain ⟨q1, hq1⟩ : ∃ q, raB ll ((1 : Nat) : Int) s = q := ⟨_, rfl⟩
      have u1 : wr.cell? ⟨V + 1, 1, none⟩ = some (.bool (!q1)) := by have := RU.out.cell (i := 1) (by omega); rw [this]; unfold fU; rw [if_pos (by omega), hq1]
      obtain ⟨q2, hq2⟩ : ∃ q, raB ll ((2 : Nat) : Int) s = q := ⟨_, rfl⟩
      have u2 : wr.cell? ⟨V + 1, 2, none⟩ = some (.bool (!q2)) := by have := RU.out.cell (i := 2) (by omega); rw [this]; unfold fU; rw [if_pos (by omega), hq2]
      obtain ⟨q3, hq3⟩ : ∃ q, raB ll ((3 : Nat) : Int) s = q := ⟨_, rfl⟩
      have u3 : wr.cell? ⟨V + 1, 3, none⟩ = some (.bool (!q3)) := by have := RU.out.cell (i := 3) (by omega); rw [this]; unfold fU; rw [if_pos (by omega), hq3]
      obtain ⟨q4, hq4⟩ : ∃ q, raB ll ((4 : Nat) : Int) s = q := ⟨_, rfl⟩
      have u4 : wr.cell? ⟨V + 1, 4, none⟩ = some (.bool (!q4)) := by have := RU.out.cell (i := 4) (by omega); rw [this]; unfold fU; rw [if_pos (by omega), hq4]
      obtain ⟨q5, hq5⟩ : ∃ q, raB ll ((5 : Nat) : Int) s = q := ⟨_, rfl⟩
      have u5 : wr.cell? ⟨V + 1, 5, none⟩ = some (.bool (!q5)) := by have := RU.out.cell (i := 5) (by omega); rw [this]; unfold fU; rw [if_pos (by omega), hq5]
      clear c0
      by_cases hall : RdOk ll s 6
      · have hyes := saL_yes hall
        have HY := Lib.hid hyes
        have e0 : q0 = true := by rw [← hq0]; exact hall 0 (by omega)
        rw [e0] at u0
        clear e0 hq0
        have e1 : q1 = true := by rw [← hq1]; exact hall 1 (by omega)
        rw [e1] at u1
        clear e1 hq1
        have e2 : q2 = true := by rw [← hq2]; exact hall 2 (by omega)
        rw [e2] at u2
        clear e2 hq2
        have e3 : q3 = true := by rw [← hq3]; exact hall 3 (by omega)
        rw [e3] at u3
        clear e3 hq3
        have e4 : q4 = true := by rw [← hq4]; exact hall 4 (by omega)
        rw [e4] at u4
        clear e4 hq4
        have e5 : q5 = true := by rw [← hq5]; exact hall 5 (by omega)
        rw [e5] at u5
        clear e5 hq5
        simp only [Bool.not_true] at u0 u1 u2 u3 u4 u5
        have hneq := fun W => neq6 false false false false false false W
        simp only [Bool.or_false] at hneq
        have hmk := make6 wr
        obtain ⟨Wf, hcp, his, hir, hbf⟩ := copy6 RV.out
        have HIR := Lib.hid hir
        have HIS := Lib.hid his
        have HBF := Lib.hid (HB.out.trans (hbf.mono HB.out.size))
        clear hyes hall his hbf hir
        go_wp2_with fail
        go_ret
        exact .inr ⟨_, rfl, HB.out.size, HIR.out, by rw [HY.out]; exact HIS.out, HBF.out⟩
      · have hno := saL_not hall
        have HNO := Lib.hid hno
        have hor : (!q0 || !q1 || !q2 || !q3 || !q4 || !q5) = true := by
          rcases h : (!q0 || !q1 || !q2 || !q3 || !q4 || !q5) with _ | _
          · exfalso
            simp only [Bool.or_eq_false_iff, Bool.not_eq_false'] at h
            obtain ⟨⟨⟨⟨⟨e0, e1⟩, e2⟩, e3⟩, e4⟩, e5⟩ := h
            refine hall fun i hi => ?_
            have : i = 0 ∨ i = 1 ∨ i = 2 ∨ i = 3 ∨ i = 4 ∨ i = 5 := by omega
            rcases this with rfl | rfl | rfl | rfl | rfl | rfl
            · rw [hq0, e0]
            · rw [hq1, e1]
            · rw [hq2, e2]
            · rw [hq3, e3]
            · rw [hq4, e4]
            · rw [hq5, e5]
          · rfl
        have hneq := fun W => neq6 (!q0) (!q1) (!q2) (!q3) (!q4) (!q5) W
        rw [hor] at hneq
        clear hno hall hor hq0 hq1 hq2 hq3 hq4 hq5
        go_wp2_with fail
        go_ret
        exact .inl ⟨rfl, HNO.out, HB.out⟩
end Go.Proofs.YtigbknmiidhblaaGreatDoor.sa
/- The program's and the model's EqualChains: what each answers; nothing that was there is written. -/
namespace Go.Proofs.YtigbknmiidhblaaGreatDoor.eqs
open Go.ChangeShapes Go.WideShapes Go.ChangeAt Go.RowKit
open Go.Proofs.YtigbknmiidhblaaGreatDoor.vers Go.Proofs.YtigbknmiidhblaaGreatDoor.sl Go.Proofs.YtigbknmiidhblaaGreatDoor.ch
set_option linter.unusedVariables false
set_option linter.unusedSimpArgs false
def lB (l m : List Ver) : Bool := decide (l = m)
theorem lB_len {l m : List Ver} (h : l.length ≠ m.length) : lB l m = false := by
  unfold lB
  exact decide_eq_false fun e => h (by rw [e])
theorem lB_at {l m : List Ver} {k : Nat} {x y : Ver} (hx : l[k]? = some x) (hy : m[k]? = some y) (h : x ≠ y) : lB l m = false := by
  unfold lB
  refine decide_eq_false fun e => h ?_
  rw [e, hy] at hx
  exact (Option.some.inj hx).symm
theorem lB_all {l m : List Ver} {n : Nat} (hl : l.length = n) (hm : m.length = n) (h : l.take n = m.take n) : lB l m = true := by
  unfold lB
  refine decide_eq_true ?_
  rwa [List.take_of_length_le (by omega), List.take_of_length_le (by omega)] at h
theorem take_step {l m : List Ver} {k : Nat} {x : Ver} (h : l.take k = m.take k) (hx : l[k]? = some x) (hy : m[k]? = some x) : l.take (k + 1) = m.take (k + 1) := by
  have hl := lt_of_some hx
  have hm := lt_of_some hy
  rw [List.getElem?_eq_getElem hl] at hx
  rw [List.getElem?_eq_getElem hm] at hy
  rw [List.take_succ_eq_append_getElem hl, List.take_succ_eq_append_getElem hm, h, Option.some.inj hx, Option.some.inj hy]
theorem guard_ver : Tryz.prog.eqGuardType Tryz.prog.depth 43 = false := by kernel_rfl
theorem held_ver : Tryz.prog.stoodInHeld 43 = false := by kernel_rfl
theorem fields_ver : Tryz.prog.underlying 43 = some (.struct (Tryz.prog.fieldsOf 43)) := by kernel_rfl
theorem neq_run (x y : Ver) (w : World) :
    (binOp .neq 43 (.agg #[.int .i64 x.a, .int .i64 x.b, .int .i64 x.c, .int .i64 x.d, .int .i64 x.e]) (.agg #[.int .i64 y.a, .int .i64 y.b, .int .i64 y.c, .int .i64 y.d, .int .i64 y.e])).run Tryz.prog w = .ok (.bool (!decide (x = y))) w := by
  rw [run_neq_struct, run_equalIn_struct w 9999 43 _ _ fields_ver held_ver]
  have hu := Tryz.underlying43
  have hi := Tryz.underlying3
  simp only [Program.fieldsOf, hu]
  simp [Op.eqFields, go_sem, hi]
  by_cases h : x = y
  · subst h
    simp
  · have hd : x.a = y.a → x.b = y.b → x.c = y.c → x.d = y.d → x.e = y.e → False := fun h1 h2 h3 h4 h5 => h (by cases x; cases y; simp_all)
    rw [decide_eq_false h]
    by_cases h1 : x.a = y.a
    · rw [if_pos h1]
      by_cases h2 : x.b = y.b
      · rw [if_pos h2]
        by_cases h3 : x.c = y.c
        · rw [if_pos h3]
          by_cases h4 : x.d = y.d
          · rw [if_pos h4]
            by_cases h5 : x.e = y.e
            · exact (hd h1 h2 h3 h4 h5).elim
            · rw [if_neg h5]; rfl
          · rw [if_neg h4]; rfl
        · rw [if_neg h3]; rfl
      · rw [if_neg h2]; rfl
    · rw [if_neg h1]; rfl
theorem neq_no {x y : Ver} (h : x = y) (w : World) :
    (binOp .neq 43 (.agg #[.int .i64 x.a, .int .i64 x.b, .int .i64 x.c, .int .i64 x.d, .int .i64 x.e]) (.agg #[.int .i64 y.a, .int .i64 y.b, .int .i64 y.c, .int .i64 y.d, .int .i64 y.e])).run Tryz.prog w = .ok (.bool false) w := by
  rw [neq_run, decide_eq_true h]; rfl
theorem neq_yes {x y : Ver} (h : x ≠ y) (w : World) :
    (binOp .neq 43 (.agg #[.int .i64 x.a, .int .i64 x.b, .int .i64 x.c, .int .i64 x.d, .int .i64 x.e]) (.agg #[.int .i64 y.a, .int .i64 y.b, .int .i64 y.c, .int .i64 y.d, .int .i64 y.e])).run Tryz.prog w = .ok (.bool true) w := by
  rw [neq_run, decide_eq_false h]; rfl
set_option maxRecDepth 100000 in
set_option maxHeartbeats 800000 in
theorem lib_equal {w : World} {B n n2 c c2 : Nat} {A A2 : Option Addr} {l m : List Ver} (hn : n ≤ 140737488355328) (hn2 : n2 ≤ 140737488355328) (h1 : Vs w B A n l) (h2 : Vs w B A2 n2 m) (hB : B ≤ w.heap.size) :
    Calls Tryz.prog 86 #[.slice A n c, .slice A2 n2 c2] w fun e w' => e = .returned (.bool (lB l m)) ∧ Below w.heap.size w w' := by
  have H1 := Lib.hid h1
  have H2 := Lib.hid h2
  have hg := guard_ver
  clear h1 h2
  by_cases hne : n = n2
  case neg =>
    have t : ((n : Int) == (n2 : Int)) = false := by simp; omega
    go_enter Tryz.func86, Tryz.ntmps86
    go_wp2_with fail
    go_ret
    exact ⟨ret_bool (lB_len (by have := H1.out.1; have := H2.out.1; omega)).symm, Below.refl _ _⟩
  subst hne
  go_enter Tryz.func86, Tryz.ntmps86
  go_wp2
  go_loopw [13] (fun i wr => ∃ k : Nat, k ≤ n ∧ i = .int .i64 k ∧ l.take k = m.take k ∧ Below w.heap.size w wr) (fun i _ => n - (intOf i).toNat)
  case atStart => exact ⟨0, by omega, rfl, rfl, Below.refl _ _⟩
  case round =>
    obtain ⟨k, hk, rfl, ht, hb⟩ := hrel
    have HT := Lib.hid ht
    clear ht
    by_cases hlt : k < n
    · obtain ⟨b, o, x, rfl, hbB, hx, a0, a1, a2, a3, a4⟩ := (H1.out.below (below_le hb hB)).at_ hlt
      obtain ⟨b', o', y, rfl, hbB', hy, d0, d1, d2, d3, d4⟩ := (H2.out.below (below_le hb hB)).at_ hlt
      have HX := Lib.hid hx
      have HY := Lib.hid hy
      have HB := Lib.hid hb
      clear hb hx hy
      by_cases hxy : x = y
      · have hnq := neq_no hxy
        have HXY := Lib.hid hxy
        clear hxy
        go_wp2_with fail
        go_quiet (fail)
        clear hnq
        go_wp2_with fail
        go_roundw
        case rel => exact ⟨k + 1, by omega, by go_num, take_step HT.out HX.out (by rw [HXY.out]; exact HY.out), bdrewN HB.out _⟩
        case measure => simp [intOf]; omega
      · have hnq := neq_yes hxy
        have HXY := Lib.hid hxy
        clear hxy
        go_wp2_with fail
        go_quiet (fail)
        clear hnq
        go_wp2_with fail
        go_ret
        exact ⟨ret_bool (lB_at HX.out HY.out HXY.out).symm, bdrewN HB.out _⟩
    · have HB := Lib.hid hb
      clear hb
      go_wp2_with fail
      go_ret
      have e : k = n := by omega
      exact ⟨ret_bool (lB_all H1.out.1 H2.out.1 (by have := HT.out; rwa [e] at this)).symm, HB.out⟩
theorem impl_equal {w : World} {B n n2 c c2 : Nat} {A A2 : Option Addr} {l m : List Ver} (hn : n ≤ 140737488355328) (hn2 : n2 ≤ 140737488355328) (h1 : Vs w B A n l) (h2 : Vs w B A2 n2 m) (hB : B ≤ w.heap.size) :
    Calls Tryz.prog 42 #[.slice A n c, .slice A2 n2 c2] w fun e w' => e = .returned (.bool (lB l m)) ∧ Below w.heap.size w w' := by
  have H1 := Lib.hid h1
  have H2 := Lib.hid h2
  clear h1 h2
  go_enter Tryz.func42, Tryz.ntmps42
  go_wp2_with fail
  refine (lib_equal hn hn2 H1.out H2.out hB).mono ?_
  rintro e W ⟨rfl, hb⟩
  have HB := Lib.hid hb
  clear hb
  go_wp2_with fail
  go_ret
  exact ⟨rfl, HB.out⟩
end Go.Proofs.YtigbknmiidhblaaGreatDoor.eqs
/- The program's and the model's EqualStores: what each answers; nothing that was there is written. -/
namespace Go.Proofs.YtigbknmiidhblaaGreatDoor.eqst
open Go.ChangeShapes Go.WideShapes Go.ChangeAt Go.RowKit
open Go.Proofs.YtigbknmiidhblaaGreatDoor.vers Go.Proofs.YtigbknmiidhblaaGreatDoor.sl Go.Proofs.YtigbknmiidhblaaGreatDoor.ch Go.Proofs.YtigbknmiidhblaaGreatDoor.st
open Go.Proofs.YtigbknmiidhblaaGreatDoor.eqs (lB impl_equal)
set_option linter.unusedVariables false
set_option linter.unusedSimpArgs false
def rB (l m : List (List Ver)) : Bool := decide (l = m)
theorem rB_len {l m : List (List Ver)} (h : l.length ≠ m.length) : rB l m = false := decide_eq_false fun e => h (by rw [e])
theorem lB_of {l m : List Ver} (h : lB l m = true) : l = m := of_decide_eq_true h
theorem rB_at {l m : List (List Ver)} {k : Nat} {x y : List Ver} (hx : l[k]? = some x) (hy : m[k]? = some y) (h : lB x y = false) : rB l m = false := by
  refine decide_eq_false fun e => of_decide_eq_false h ?_
  rw [e, hy] at hx
  exact (Option.some.inj hx).symm
theorem rB_all {l m : List (List Ver)} {n : Nat} (hl : l.length = n) (hm : m.length = n) (h : l.take n = m.take n) : rB l m = true := by
  refine decide_eq_true ?_
  rwa [List.take_of_length_le (by omega), List.take_of_length_le (by omega)] at h
theorem take_more {l m : List (List Ver)} {k : Nat} {x y : List Ver} (h : l.take k = m.take k) (hx : l[k]? = some x) (hy : m[k]? = some y) (he : lB x y = true) : l.take (k + 1) = m.take (k + 1) := by
  have hl := lt_get hx
  have hm := lt_get hy
  have := lB_of he
  subst this
  rw [List.getElem?_eq_getElem hl] at hx
  rw [List.getElem?_eq_getElem hm] at hy
  rw [List.take_succ_eq_append_getElem hl, List.take_succ_eq_append_getElem hm, h, Option.some.inj hx, Option.some.inj hy]
set_option maxRecDepth 100000 in
set_option maxHeartbeats 1600000 in
theorem lib_stores {w : World} {B n n2 c c2 : Nat} {A A2 : Option Addr} {ll mm : List (List Ver)} (hn : n ≤ 140737488355328) (hn2 : n2 ≤ 140737488355328) (h1 : Rs w B A n ll) (h2 : Rs w B A2 n2 mm) (hB : B ≤ w.heap.size) :
    Calls Tryz.prog 41 #[.slice A n c, .slice A2 n2 c2, .func (.func 42) #[] #[]] w fun e w' => e = .returned (.bool (rB ll mm)) ∧ Below w.heap.size w w' := by
  have H1 := Lib.hid h1
  have H2 := Lib.hid h2
  have hl1 := h1.1
  have hl2 := h2.1
  clear h1 h2
  by_cases hne : n = n2
  case neg =>
    have t : ((n : Int) == (n2 : Int)) = false := by simp; omega
    have hr := rB_len (l := ll) (m := mm) (by omega)
    have HR := Lib.hid hr
    clear hr
    go_enter Tryz.func41, Tryz.ntmps41
    go_wp2_with fail
    go_ret
    exact ⟨ret_bool HR.out.symm, Below.refl _ _⟩
  subst hne
  go_enter Tryz.func41, Tryz.ntmps41
  go_wp2
  go_loopw [17] (fun i wr => ∃ k : Nat, k ≤ n ∧ i = .int .i64 k ∧ ll.take k = mm.take k ∧ Below w.heap.size w wr) (fun i _ => n - (intOf i).toNat)
  case atStart => exact ⟨0, by omega, rfl, rfl, Below.refl _ _⟩
  case round =>
    obtain ⟨k, hk, rfl, ht, hb⟩ := hrel
    have HT := Lib.hid ht
    have HB := Lib.hid hb
    clear ht
    by_cases hlt : k < n
    · obtain ⟨b, o, l, A', n', c', rfl, hbB, hx, hc, hn', hv⟩ := (H1.out.below (below_le hb hB)).at_ hlt
      obtain ⟨b', o', l', A'', n'', c'', rfl, hbB', hx', hc', hn'', hv'⟩ := (H2.out.below (below_le hb hB)).at_ hlt
      have HX := Lib.hid hx
      have HX' := Lib.hid hx'
      have HV := Lib.hid hv
      have HV' := Lib.hid hv'
      have hs1 := hb.size
      clear hb hx hx' hv hv'
      rcases he : lB l l' with _ | _
      · have HE := Lib.hid he
        clear he
        go_wp2_with fail
        refine (impl_equal (B := B) hn' hn'' HV.out HV'.out (by omega)).mono ?_
        rintro e W1 ⟨rfl, hb1⟩
        rw [HE.out]
        have HB1 := Lib.hid hb1
        clear hb1
        go_wp2_with fail
        go_ret
        exact ⟨ret_bool (rB_at HX.out HX'.out HE.out).symm, HB.out.trans (HB1.out.mono HB.out.size)⟩
      · have HE := Lib.hid he
        clear he
        go_wp2_with fail
        refine (impl_equal (B := B) hn' hn'' HV.out HV'.out (by omega)).mono ?_
        rintro e W1 ⟨rfl, hb1⟩
        rw [HE.out]
        have HB1 := Lib.hid hb1
        clear hb1
        go_wp2_with fail
        go_roundw
        case rel => exact ⟨k + 1, by omega, by go_num, take_more HT.out HX.out HX'.out HE.out, HB.out.trans (HB1.out.mono HB.out.size)⟩
        case measure => simp [intOf]; omega
    · obtain rfl : k = n := by omega
      have hr := rB_all hl1 hl2 HT.out
      have HR := Lib.hid hr
      clear hb hr
      go_wp2_with fail
      go_ret
      exact ⟨ret_bool HR.out.symm, HB.out⟩
theorem impl_stores {w : World} {B n n2 c c2 : Nat} {A A2 : Option Addr} {ll mm : List (List Ver)} (hn : n ≤ 140737488355328) (hn2 : n2 ≤ 140737488355328) (h1 : Rs w B A n ll) (h2 : Rs w B A2 n2 mm) (hB : B ≤ w.heap.size) :
    Calls Tryz.prog 9 #[.agg #[.slice A n c], .agg #[.slice A2 n2 c2]] w fun e w' => e = .returned (.bool (rB ll mm)) ∧ Below w.heap.size w w' := by
  have H1 := Lib.hid h1
  have H2 := Lib.hid h2
  clear h1 h2
  go_enter Tryz.func9, Tryz.ntmps9
  go_wp2_with fail
  have hb0 := new2 w (.cells #[.slice A n c] 26) (.cells #[.slice A2 n2 c2] 26)
  generalize (w.alloc _).alloc _ = W0 at hb0 ⊢
  have HB0 := Lib.hid hb0
  have hs := hb0.size
  have h1 := Lib.hid (H1.out.below (below_le hb0 hB))
  have h2 := Lib.hid (H2.out.below (below_le hb0 hB))
  clear hb0
  refine (lib_stores hn hn2 h1.out h2.out (by omega)).mono ?_
  rintro e W1 ⟨rfl, hb1⟩
  have HB1 := Lib.hid (HB0.out.trans (hb1.mono (by omega)))
  clear hb1
  go_wp2_with fail
  go_ret
  exact ⟨rfl, HB1.out⟩
end Go.Proofs.YtigbknmiidhblaaGreatDoor.eqst
/- EqualTransactions of the program and of the model, what it answers; nothing that was there is written. -/
namespace Go.Proofs.YtigbknmiidhblaaGreatDoor.te
open Go.ChangeShapes Go.WideShapes Go.ChangeAt Go.RowKit
open Go.Proofs.YtigbknmiidhblaaGreatDoor.el2 Go.Proofs.YtigbknmiidhblaaGreatDoor.tx Go.Proofs.YtigbknmiidhblaaGreatDoor.seq Go.Proofs.YtigbknmiidhblaaGreatDoor.tv Go.Proofs.YtigbknmiidhblaaGreatDoor.tf
open Go.Proofs.YtigbknmiidhblaaGreatDoor.vers (ret_b new2 new3)
set_option linter.unusedVariables false
set_option linter.unusedSimpArgs false
set_option linter.constructorNameAsVariable false
noncomputable def lB (l m : List E2) : Bool := @decide (l = m) (Classical.propDecidable _)
theorem lB_no {l m : List E2} (h : l ≠ m) : lB l m = false := @decide_eq_false _ (Classical.propDecidable _) h
theorem lB_yes {l m : List E2} (h : l = m) : lB l m = true := @decide_eq_true _ (Classical.propDecidable _) h
theorem lB_of {l m : List E2} (h : lB l m = true) : l = m := @of_decide_eq_true _ (Classical.propDecidable _) h
theorem lB_off {l m : List E2} (h : lB l m = false) : l ≠ m := @of_decide_eq_false _ (Classical.propDecidable _) h
theorem lB_len {l m : List E2} (h : l.length ≠ m.length) : lB l m = false := lB_no fun e => h (by rw [e])
theorem at_ne {l m : List E2} {k : Nat} {x y : E2} (hx : l[k]? = some x) (hy : m[k]? = some y) (h : x ≠ y) : l ≠ m := fun e => h (by rw [e, hy] at hx; cases hx; rfl)
theorem all_eq {l m : List E2} {n : Nat} (hl : l.length = n) (hm : m.length = n) (h : l.take n = m.take n) : l = m := by
  rwa [List.take_of_length_le (by omega), List.take_of_length_le (by omega)] at h
theorem take_step {l m : List E2} {k : Nat} {x : E2} (h : l.take k = m.take k) (hx : l[k]? = some x) (hy : m[k]? = some x) : l.take (k + 1) = m.take (k + 1) := by
  have h1 := lt_get hx
  have h2 := lt_get hy
  rw [List.getElem?_eq_getElem h1] at hx
  rw [List.getElem?_eq_getElem h2] at hy
  rw [List.take_succ_eq_append_getElem h1, List.take_succ_eq_append_getElem h2, h, Option.some.inj hx, Option.some.inj hy]
noncomputable def eqT (x : Hd) (R T : List E2) (y : Hd) (R' T' : List E2) : Bool := @decide (x = y ∧ R = R' ∧ T = T') (Classical.propDecidable _)
theorem eqT_no {x y : Hd} {R T R' T' : List E2} (h : ¬ (x = y ∧ R = R' ∧ T = T')) : eqT x R T y R' T' = false := @decide_eq_false _ (Classical.propDecidable _) h
theorem eqT_yes {x y : Hd} {R T R' T' : List E2} (h : x = y ∧ R = R' ∧ T = T') : eqT x R T y R' T' = true := @decide_eq_true _ (Classical.propDecidable _) h
theorem eqT_w {x y : Hd} {R T R' T' : List E2} (h : x = y) (h2 : R = R') : lB T T' = eqT x R T y R' T' := by
  rcases e : lB T T' with _ | _
  · exact (eqT_no fun h => lB_off e h.2.2).symm
  · exact (eqT_yes ⟨h, h2, lB_of e⟩).symm
theorem guard_r : Tryz.prog.eqGuardType Tryz.prog.depth 83 = false := by kernel_rfl
theorem held_r : Tryz.prog.stoodInHeld 83 = false := by kernel_rfl
theorem fields_r : Tryz.prog.underlying 83 = some (.struct (Tryz.prog.fieldsOf 83)) := by kernel_rfl
theorem neq_r (x y : E2) (w : World) : (binOp .neq 83 (.agg #[.int .i64 x.a, .int .i64 x.b]) (.agg #[.int .i64 y.a, .int .i64 y.b])).run Tryz.prog w = .ok (.bool (!decide (x = y))) w := by
  rw [run_neq_struct, run_equalIn_struct w 9999 83 _ _ fields_r held_r]
  have hu := Tryz.underlying83
  have hi := Tryz.underlying3
  simp only [Program.fieldsOf, hu]
  simp [Op.eqFields, go_sem, hi]
  by_cases h : x = y
  · subst h
    simp
  · have hd : x.a = y.a → x.b = y.b → False := fun h1 h2 => h (by cases x; cases y; simp_all)
    rw [decide_eq_false h]
    by_cases h1 : x.a = y.a
    · rw [if_pos h1]
      by_cases h2 : x.b = y.b
      · exact (hd h1 h2).elim
      · rw [if_neg h2]; rfl
    · rw [if_neg h1]; rfl
theorem neq_no_r {x y : E2} (h : x = y) (w : World) : (binOp .neq 83 (.agg #[.int .i64 x.a, .int .i64 x.b]) (.agg #[.int .i64 y.a, .int .i64 y.b])).run Tryz.prog w = .ok (.bool false) w := by rw [neq_r, decide_eq_true h]; rfl
theorem neq_yes_r {x y : E2} (h : x ≠ y) (w : World) : (binOp .neq 83 (.agg #[.int .i64 x.a, .int .i64 x.b]) (.agg #[.int .i64 y.a, .int .i64 y.b])).run Tryz.prog w = .ok (.bool true) w := by rw [neq_r, decide_eq_false h]; rfl
set_option maxRecDepth 100000 in
set_option maxHeartbeats 800000 in
theorem lib_r {w : World} {B n n2 c c2 : Nat} {A A2 : Option Addr} {l m : List E2} (hn : n ≤ 140737488355328) (hn2 : n2 ≤ 140737488355328) (h1 : Vs w B A n l) (h2 : Vs w B A2 n2 m) (hB : B ≤ w.heap.size) :
    Calls Tryz.prog 44 #[.slice A n c, .slice A2 n2 c2] w fun e w' => e = .returned (.bool (lB l m)) ∧ Below w.heap.size w w' := by
  have H1 := Lib.hid h1
  have H2 := Lib.hid h2
  have hg := guard_r
  clear h1 h2
  by_cases hne : n = n2
  case neg =>
    have t : ((n : Int) == (n2 : Int)) = false := by simp; omega
    go_enter Tryz.func44, Tryz.ntmps44
    go_wp2_with fail
    go_ret
    exact ⟨ret_b (lB_len (by have := H1.out.1; have := H2.out.1; omega)).symm, Below.refl _ _⟩
  subst hne
  go_enter Tryz.func44, Tryz.ntmps44
  go_wp2
  go_loopw [13] (fun i wr => ∃ k : Nat, k ≤ n ∧ i = .int .i64 k ∧ l.take k = m.take k ∧ Below w.heap.size w wr) (fun i _ => n - (intOf i).toNat)
  case atStart => exact ⟨0, by omega, rfl, rfl, Below.refl _ _⟩
  case round =>
    obtain ⟨k, hk, rfl, ht, hb⟩ := hrel
    have HT := Lib.hid ht
    clear ht
    by_cases hlt : k < n
    · obtain ⟨b, o, x, rfl, hbB, hx, a0, a1⟩ := (H1.out.below (below_le hb hB)).at_ hlt
      obtain ⟨b', o', y, rfl, hbB', hy, d0, d1⟩ := (H2.out.below (below_le hb hB)).at_ hlt
      have HX := Lib.hid hx
      have HY := Lib.hid hy
      have HB := Lib.hid hb
      clear hb hx hy
      by_cases hxy : x = y
      · have hnq := neq_no_r hxy
        have HXY := Lib.hid hxy
        clear hxy
        go_wp2_with fail
        go_quiet (fail)
        clear hnq
        go_wp2_with fail
        go_roundw
        case rel => exact ⟨k + 1, by omega, by go_num, take_step HT.out HX.out (by rw [HXY.out]; exact HY.out), bdrewN HB.out _⟩
        case measure => simp [intOf]; omega
      · have hnq := neq_yes_r hxy
        have HXY := Lib.hid hxy
        clear hxy
        go_wp2_with fail
        go_quiet (fail)
        clear hnq
        go_wp2_with fail
        go_ret
        exact ⟨ret_b (lB_no (at_ne HX.out HY.out HXY.out)).symm, bdrewN HB.out _⟩
    · have HB := Lib.hid hb
      clear hb
      go_wp2_with fail
      go_ret
      have e : k = n := by omega
      exact ⟨ret_b (lB_yes (all_eq H1.out.1 H2.out.1 (by have := HT.out; rwa [e] at this))).symm, HB.out⟩
theorem guard_w : Tryz.prog.eqGuardType Tryz.prog.depth 45 = false := by kernel_rfl
theorem held_w : Tryz.prog.stoodInHeld 45 = false := by kernel_rfl
theorem fields_w : Tryz.prog.underlying 45 = some (.struct (Tryz.prog.fieldsOf 45)) := by kernel_rfl
theorem neq_w (x y : E2) (w : World) : (binOp .neq 45 (.agg #[.int .i64 x.a, .int .i64 x.b]) (.agg #[.int .i64 y.a, .int .i64 y.b])).run Tryz.prog w = .ok (.bool (!decide (x = y))) w := by
  rw [run_neq_struct, run_equalIn_struct w 9999 45 _ _ fields_w held_w]
  have hu := Tryz.underlying45
  have hi := Tryz.underlying3
  simp only [Program.fieldsOf, hu]
  simp [Op.eqFields, go_sem, hi]
  by_cases h : x = y
  · subst h
    simp
  · have hd : x.a = y.a → x.b = y.b → False := fun h1 h2 => h (by cases x; cases y; simp_all)
    rw [decide_eq_false h]
    by_cases h1 : x.a = y.a
    · rw [if_pos h1]
      by_cases h2 : x.b = y.b
      · exact (hd h1 h2).elim
      · rw [if_neg h2]; rfl
    · rw [if_neg h1]; rfl
theorem neq_no_w {x y : E2} (h : x = y) (w : World) : (binOp .neq 45 (.agg #[.int .i64 x.a, .int .i64 x.b]) (.agg #[.int .i64 y.a, .int .i64 y.b])).run Tryz.prog w = .ok (.bool false) w := by rw [neq_w, decide_eq_true h]; rfl
theorem neq_yes_w {x y : E2} (h : x ≠ y) (w : World) : (binOp .neq 45 (.agg #[.int .i64 x.a, .int .i64 x.b]) (.agg #[.int .i64 y.a, .int .i64 y.b])).run Tryz.prog w = .ok (.bool true) w := by rw [neq_w, decide_eq_false h]; rfl
set_option maxRecDepth 100000 in
set_option maxHeartbeats 800000 in
theorem lib_w {w : World} {B n n2 c c2 : Nat} {A A2 : Option Addr} {l m : List E2} (hn : n ≤ 140737488355328) (hn2 : n2 ≤ 140737488355328) (h1 : Vs w B A n l) (h2 : Vs w B A2 n2 m) (hB : B ≤ w.heap.size) :
    Calls Tryz.prog 45 #[.slice A n c, .slice A2 n2 c2] w fun e w' => e = .returned (.bool (lB l m)) ∧ Below w.heap.size w w' := by
  have H1 := Lib.hid h1
  have H2 := Lib.hid h2
  have hg := guard_w
  clear h1 h2
  by_cases hne : n = n2
  case neg =>
    have t : ((n : Int) == (n2 : Int)) = false := by simp; omega
    go_enter Tryz.func45, Tryz.ntmps45
    go_wp2_with fail
    go_ret
    exact ⟨ret_b (lB_len (by have := H1.out.1; have := H2.out.1; omega)).symm, Below.refl _ _⟩
  subst hne
  go_enter Tryz.func45, Tryz.ntmps45
  go_wp2
  go_loopw [13] (fun i wr => ∃ k : Nat, k ≤ n ∧ i = .int .i64 k ∧ l.take k = m.take k ∧ Below w.heap.size w wr) (fun i _ => n - (intOf i).toNat)
  case atStart => exact ⟨0, by omega, rfl, rfl, Below.refl _ _⟩
  case round =>
    obtain ⟨k, hk, rfl, ht, hb⟩ := hrel
    have HT := Lib.hid ht
    clear ht
    by_cases hlt : k < n
    · obtain ⟨b, o, x, rfl, hbB, hx, a0, a1⟩ := (H1.out.below (below_le hb hB)).at_ hlt
      obtain ⟨b', o', y, rfl, hbB', hy, d0, d1⟩ := (H2.out.below (below_le hb hB)).at_ hlt
      have HX := Lib.hid hx
      have HY := Lib.hid hy
      have HB := Lib.hid hb
      clear hb hx hy
      by_cases hxy : x = y
      · have hnq := neq_no_w hxy
        have HXY := Lib.hid hxy
        clear hxy
        go_wp2_with fail
        go_quiet (fail)
        clear hnq
        go_wp2_with fail
        go_roundw
        case rel => exact ⟨k + 1, by omega, by go_num, take_step HT.out HX.out (by rw [HXY.out]; exact HY.out), bdrewN HB.out _⟩
        case measure => simp [intOf]; omega
      · have hnq := neq_yes_w hxy
        have HXY := Lib.hid hxy
        clear hxy
        go_wp2_with fail
        go_quiet (fail)
        clear hnq
        go_wp2_with fail
        go_ret
        exact ⟨ret_b (lB_no (at_ne HX.out HY.out HXY.out)).symm, bdrewN HB.out _⟩
    · have HB := Lib.hid hb
      clear hb
      go_wp2_with fail
      go_ret
      have e : k = n := by omega
      exact ⟨ret_b (lB_yes (all_eq H1.out.1 H2.out.1 (by have := HT.out; rwa [e] at this))).symm, HB.out⟩
theorem guard_h : Tryz.prog.eqGuardType Tryz.prog.depth 79 = false := by kernel_rfl
theorem held_h : Tryz.prog.stoodInHeld 79 = false := by kernel_rfl
theorem fields_h : Tryz.prog.underlying 79 = some (.struct (Tryz.prog.fieldsOf 79)) := by kernel_rfl
theorem eql_h (x y : Hd) (w : World) : (binOp .eql 79 (.agg #[.int .i64 x.l, .int .i64 x.h, .int .i64 x.i, .int .i64 x.s, .int .i64 x.t, .int .i64 x.b, .int .i64 x.c]) (.agg #[.int .i64 y.l, .int .i64 y.h, .int .i64 y.i, .int .i64 y.s, .int .i64 y.t, .int .i64 y.b, .int .i64 y.c])).run Tryz.prog w = .ok (.bool (@decide (x = y) (Classical.propDecidable _))) w := by
  rw [run_eql_struct, run_equalIn_struct w 9999 79 _ _ fields_h held_h]
  have hu := Tryz.underlying79
  have hv := Tryz.underlying77
  have hi := Tryz.underlying3
  simp only [Program.fieldsOf, hu]
  simp [Op.eqFields, go_sem, hi, hv]
  by_cases h : x = y
  · subst h
    simp
  · have hd : x.l = y.l → x.h = y.h → x.i = y.i → x.s = y.s → x.t = y.t → x.b = y.b → x.c = y.c → False := fun h1 h2 h3 h4 h5 h6 h7 => h (Hd.ext h3 h4 h5 h6 h1 h2 h7)
    rw [@decide_eq_false _ (Classical.propDecidable _) h]
    by_cases h1 : x.l = y.l
    · rw [if_pos h1]
      by_cases h2 : x.h = y.h
      · rw [if_pos h2]
        by_cases h3 : x.i = y.i
        · rw [if_pos h3]
          by_cases h4 : x.s = y.s
          · rw [if_pos h4]
            by_cases h5 : x.t = y.t
            · rw [if_pos h5]
              by_cases h6 : x.b = y.b
              · rw [if_pos h6]
                by_cases h7 : x.c = y.c
                · rw [if_pos h7]
                  exact (hd h1 h2 h3 h4 h5 h6 h7).elim
                · rw [if_neg h7]
              · rw [if_neg h6]
            · rw [if_neg h5]
          · rw [if_neg h4]
        · rw [if_neg h3]
      · rw [if_neg h2]
    · rw [if_neg h1]
theorem eql_h_yes {x y : Hd} (h : x = y) (w : World) : (binOp .eql 79 (.agg #[.int .i64 x.l, .int .i64 x.h, .int .i64 x.i, .int .i64 x.s, .int .i64 x.t, .int .i64 x.b, .int .i64 x.c]) (.agg #[.int .i64 y.l, .int .i64 y.h, .int .i64 y.i, .int .i64 y.s, .int .i64 y.t, .int .i64 y.b, .int .i64 y.c])).run Tryz.prog w = .ok (.bool true) w := by rw [eql_h, @decide_eq_true _ (Classical.propDecidable _) h]
theorem eql_h_no {x y : Hd} (h : x ≠ y) (w : World) : (binOp .eql 79 (.agg #[.int .i64 x.l, .int .i64 x.h, .int .i64 x.i, .int .i64 x.s, .int .i64 x.t, .int .i64 x.b, .int .i64 x.c]) (.agg #[.int .i64 y.l, .int .i64 y.h, .int .i64 y.i, .int .i64 y.s, .int .i64 y.t, .int .i64 y.b, .int .i64 y.c])).run Tryz.prog w = .ok (.bool false) w := by rw [eql_h, @decide_eq_false _ (Classical.propDecidable _) h]
set_option maxRecDepth 100000 in
set_option maxHeartbeats 3200000 in
theorem impl_eqtx {w : World} {B n c n2 c2 n' c' n2' c2' : Nat} {A A2 A' A2' : Option Addr} {R T R' T' : List E2} (x y : Hd) (hn : n ≤ 140737488355328) (hn2 : n2 ≤ 140737488355328) (hn' : n' ≤ 140737488355328) (hn2' : n2' ≤ 140737488355328) (h1 : Vs w B A n R) (h2 : Vs w B A2 n2 T) (h1' : Vs w B A' n' R') (h2' : Vs w B A2' n2' T') (hB : B ≤ w.heap.size) :
    Calls Tryz.prog 10 #[.agg #[.int .i64 x.i, .int .i64 x.s, .int .i64 x.t, .int .i64 x.b, .int .i64 x.l, .int .i64 x.h, .int .i64 x.c, .slice A n c, .slice A2 n2 c2], .agg #[.int .i64 y.i, .int .i64 y.s, .int .i64 y.t, .int .i64 y.b, .int .i64 y.l, .int .i64 y.h, .int .i64 y.c, .slice A' n' c', .slice A2' n2' c2']] w fun e w' => e = .returned (.bool (eqT x R T y R' T')) ∧ Below w.heap.size w w' := by
  have H1 := Lib.hid h1
  have H2 := Lib.hid h2
  have H1' := Lib.hid h1'
  have H2' := Lib.hid h2'
  have hg := guard_h
  clear h1 h2 h1' h2'
  by_cases hxy : x = y
  case neg =>
    have hnq := eql_h_no hxy
    have KH := Lib.hid hxy
    clear hxy
    go_enter Tryz.func10, Tryz.ntmps10
    go_wp2_with fail
    have tb := (TB.new w x A n c A2 n2 c2 30).keep (by simp) (new1 _ (.cells #[.int .i64 y.i, .int .i64 y.s, .int .i64 y.t, .int .i64 y.b, .int .i64 y.l, .int .i64 y.h, .int .i64 y.c, .slice A' n' c', .slice A2' n2' c2'] 30))
    have ub := TB.new (w.alloc (.cells #[.int .i64 x.i, .int .i64 x.s, .int .i64 x.t, .int .i64 x.b, .int .i64 x.l, .int .i64 x.h, .int .i64 x.c, .slice A n c, .slice A2 n2 c2] 30)) y A' n' c' A2' n2' c2' 30
    rw [show (w.alloc (.cells #[.int .i64 x.i, .int .i64 x.s, .int .i64 x.t, .int .i64 x.b, .int .i64 x.l, .int .i64 x.h, .int .i64 x.c, .slice A n c, .slice A2 n2 c2] 30)).heap.size = w.heap.size + 1 by simp] at ub
    have hb := new2 w (.cells #[.int .i64 x.i, .int .i64 x.s, .int .i64 x.t, .int .i64 x.b, .int .i64 x.l, .int .i64 x.h, .int .i64 x.c, .slice A n c, .slice A2 n2 c2] 30) (.cells #[.int .i64 y.i, .int .i64 y.s, .int .i64 y.t, .int .i64 y.b, .int .i64 y.l, .int .i64 y.h, .int .i64 y.c, .slice A' n' c', .slice A2' n2' c2'] 30)
    have hs : ((w.alloc (.cells #[.int .i64 x.i, .int .i64 x.s, .int .i64 x.t, .int .i64 x.b, .int .i64 x.l, .int .i64 x.h, .int .i64 x.c, .slice A n c, .slice A2 n2 c2] 30)).alloc (.cells #[.int .i64 y.i, .int .i64 y.s, .int .i64 y.t, .int .i64 y.b, .int .i64 y.l, .int .i64 y.h, .int .i64 y.c, .slice A' n' c', .slice A2' n2' c2'] 30)).heap.size = w.heap.size + 2 := by simp
    generalize (w.alloc (.cells #[.int .i64 x.i, .int .i64 x.s, .int .i64 x.t, .int .i64 x.b, .int .i64 x.l, .int .i64 x.h, .int .i64 x.c, .slice A n c, .slice A2 n2 c2] 30)).alloc (.cells #[.int .i64 y.i, .int .i64 y.s, .int .i64 y.t, .int .i64 y.b, .int .i64 y.l, .int .i64 y.h, .int .i64 y.c, .slice A' n' c', .slice A2' n2' c2'] 30) = W0 at tb ub hb hs ⊢
    obtain ⟨P, hP⟩ : ∃ P, P = w.heap.size := ⟨_, rfl⟩
    simp only [← hP] at tb ub hb hs ⊢
    have lP : P < W0.heap.size := by omega
    have lP1 : P + 1 < W0.heap.size := by omega
    have HP := Lib.hid hP
    have T1 := Lib.hid tb
    have T2 := Lib.hid ub
    have HB := Lib.hid hb
    have HS := Lib.hid hs
    clear tb ub hb hs hP
    refine class_region W0.heap.size (by kernel_rfl) (by kernel_rfl) ?_
    with_reducible refine class_opk (.agg #[.int .i64 x.i, .int .i64 x.s, .int .i64 x.t, .int .i64 x.b, .int .i64 x.l, .int .i64 x.h, .int .i64 x.c, .slice A n c, .slice A2 n2 c2]) ?_ ?_ ?_
    · first | exact rfl | go_simp
    · intro W hW
      obtain ⟨g0, g1, g2, g3, g4, g5, g6, g7, g8⟩ := T1.out.keep (B := W0.heap.size) lP hW
      go_simp
    intro K hK
    go_simp
    with_reducible refine hK _ ?_
    clear hK K
    with_reducible refine class_opk (.agg #[.int .i64 x.l, .int .i64 x.h, .int .i64 x.i, .int .i64 x.s, .int .i64 x.t, .int .i64 x.b, .int .i64 x.c]) ?_ ?_ ?_
    · first | exact rfl | go_simp
    · intro W hW
      go_simp
      refine class_call hW ?_
      exact header_of x A n c A2 n2 c2 _
    intro K hK
    go_simp
    with_reducible refine hK _ ?_
    clear hK K
    with_reducible refine class_opk (.agg #[.int .i64 y.i, .int .i64 y.s, .int .i64 y.t, .int .i64 y.b, .int .i64 y.l, .int .i64 y.h, .int .i64 y.c, .slice A' n' c', .slice A2' n2' c2']) ?_ ?_ ?_
    · first | exact rfl | go_simp
    · intro W hW
      obtain ⟨g0, g1, g2, g3, g4, g5, g6, g7, g8⟩ := T2.out.keep (B := W0.heap.size) lP1 hW
      go_simp
    intro K hK
    go_simp
    with_reducible refine hK _ ?_
    clear hK K
    with_reducible refine class_opk (.agg #[.int .i64 y.l, .int .i64 y.h, .int .i64 y.i, .int .i64 y.s, .int .i64 y.t, .int .i64 y.b, .int .i64 y.c]) ?_ ?_ ?_
    · first | exact rfl | go_simp
    · intro W hW
      go_simp
      refine class_call hW ?_
      exact header_of y A' n' c' A2' n2' c2' _
    intro K hK
    go_simp
    with_reducible refine hK _ ?_
    clear hK K
    with_reducible refine class_opk (.bool false) ?_ ?_ ?_
    · first | exact rfl | go_simp
    · intro W hW
      go_simp
    intro K hK
    go_simp
    with_reducible refine hK _ ?_
    clear hK K
    with_reducible refine class_opk (.bool false) ?_ ?_ ?_
    · first | exact rfl | go_simp
    · intro W hW
      go_simp
    intro K hK
    go_simp
    with_reducible refine hK _ ?_
    clear hK K
    with_reducible refine class_skipk ?_ ?_
    · first | exact rfl | (go_simp; try simp [undef])
    intro K hK
    go_simp
    with_reducible refine hK _ ?_
    clear hK K
    with_reducible refine class_skipk ?_ ?_
    · first | exact rfl | (go_simp; try simp [undef])
    intro K hK
    go_simp
    with_reducible refine hK _ ?_
    clear hK K
    with_reducible refine class_skipk ?_ ?_
    · first | exact rfl | (go_simp; try simp [undef])
    intro K hK
    go_simp
    with_reducible refine hK _ ?_
    clear hK K
    with_reducible refine class_skipk ?_ ?_
    · first | exact rfl | (go_simp; try simp [undef])
    intro K hK
    go_simp
    with_reducible refine hK _ ?_
    clear hK K
    with_reducible refine class_skipk ?_ ?_
    · first | exact rfl | (go_simp; try simp [undef])
    intro K hK
    go_simp
    with_reducible refine hK _ ?_
    clear hK K
    with_reducible refine class_opk (.bool false) ?_ ?_ ?_
    · first | exact rfl | go_simp
    · intro W hW
      go_simp
    intro K hK
    go_simp
    with_reducible refine hK _ ?_
    clear hK K
    with_reducible refine class_opk (.bool false) ?_ ?_ ?_
    · first | exact rfl | go_simp
    · intro W hW
      go_simp
    intro K hK
    go_simp
    with_reducible refine hK _ ?_
    clear hK K
    with_reducible refine class_skipk ?_ ?_
    · first | exact rfl | (go_simp; try simp [undef])
    intro K hK
    go_simp
    with_reducible refine hK _ ?_
    clear hK K
    with_reducible refine class_skipk ?_ ?_
    · first | exact rfl | (go_simp; try simp [undef])
    intro K hK
    go_simp
    with_reducible refine hK _ ?_
    clear hK K
    with_reducible refine class_skipk ?_ ?_
    · first | exact rfl | (go_simp; try simp [undef])
    intro K hK
    go_simp
    with_reducible refine hK _ ?_
    clear hK K
    with_reducible refine class_skipk ?_ ?_
    · first | exact rfl | (go_simp; try simp [undef])
    intro K hK
    go_simp
    with_reducible refine hK _ ?_
    clear hK K
    with_reducible refine class_skipk ?_ ?_
    · first | exact rfl | (go_simp; try simp [undef])
    intro K hK
    go_simp
    with_reducible refine hK _ ?_
    clear hK K
    with_reducible refine class_opk (.bool false) ?_ ?_ ?_
    · first | exact rfl | go_simp
    · intro W hW
      go_simp
    intro K hK
    go_simp
    with_reducible refine hK _ ?_
    clear hK K
    with_reducible refine class_opk (.bool false) ?_ ?_ ?_
    · first | exact rfl | go_simp
    · intro W hW
      go_simp
    intro K hK
    go_simp
    with_reducible refine hK _ ?_
    clear hK K
    with_reducible refine class_end ?_
    intro W1 hW1
    go_simp
    have HB1 : Hid (Below P w W1) := Lib.hid (HB.out.trans (hW1.mono (by have := HB.out.size; have := HP.out; omega)))
    clear hW1 hnq
    go_wp2_with fail
    go_ret
    exact ⟨ret_b (eqT_no fun h => KH.out h.1).symm, by have := HB1.out; rw [HP.out] at this; exact this⟩
  have hnq := eql_h_yes hxy
  have KH := Lib.hid hxy
  clear hxy
  rcases k1 : lB R R' with _ | _
  · have K1 := Lib.hid k1
    clear k1
    go_enter Tryz.func10, Tryz.ntmps10
    go_wp2_with fail
    have tb := (TB.new w x A n c A2 n2 c2 30).keep (by simp) (new1 _ (.cells #[.int .i64 y.i, .int .i64 y.s, .int .i64 y.t, .int .i64 y.b, .int .i64 y.l, .int .i64 y.h, .int .i64 y.c, .slice A' n' c', .slice A2' n2' c2'] 30))
    have ub := TB.new (w.alloc (.cells #[.int .i64 x.i, .int .i64 x.s, .int .i64 x.t, .int .i64 x.b, .int .i64 x.l, .int .i64 x.h, .int .i64 x.c, .slice A n c, .slice A2 n2 c2] 30)) y A' n' c' A2' n2' c2' 30
    rw [show (w.alloc (.cells #[.int .i64 x.i, .int .i64 x.s, .int .i64 x.t, .int .i64 x.b, .int .i64 x.l, .int .i64 x.h, .int .i64 x.c, .slice A n c, .slice A2 n2 c2] 30)).heap.size = w.heap.size + 1 by simp] at ub
    have hb := new2 w (.cells #[.int .i64 x.i, .int .i64 x.s, .int .i64 x.t, .int .i64 x.b, .int .i64 x.l, .int .i64 x.h, .int .i64 x.c, .slice A n c, .slice A2 n2 c2] 30) (.cells #[.int .i64 y.i, .int .i64 y.s, .int .i64 y.t, .int .i64 y.b, .int .i64 y.l, .int .i64 y.h, .int .i64 y.c, .slice A' n' c', .slice A2' n2' c2'] 30)
    have hs : ((w.alloc (.cells #[.int .i64 x.i, .int .i64 x.s, .int .i64 x.t, .int .i64 x.b, .int .i64 x.l, .int .i64 x.h, .int .i64 x.c, .slice A n c, .slice A2 n2 c2] 30)).alloc (.cells #[.int .i64 y.i, .int .i64 y.s, .int .i64 y.t, .int .i64 y.b, .int .i64 y.l, .int .i64 y.h, .int .i64 y.c, .slice A' n' c', .slice A2' n2' c2'] 30)).heap.size = w.heap.size + 2 := by simp
    generalize (w.alloc (.cells #[.int .i64 x.i, .int .i64 x.s, .int .i64 x.t, .int .i64 x.b, .int .i64 x.l, .int .i64 x.h, .int .i64 x.c, .slice A n c, .slice A2 n2 c2] 30)).alloc (.cells #[.int .i64 y.i, .int .i64 y.s, .int .i64 y.t, .int .i64 y.b, .int .i64 y.l, .int .i64 y.h, .int .i64 y.c, .slice A' n' c', .slice A2' n2' c2'] 30) = W0 at tb ub hb hs ⊢
    obtain ⟨P, hP⟩ : ∃ P, P = w.heap.size := ⟨_, rfl⟩
    simp only [← hP] at tb ub hb hs ⊢
    have lP : P < W0.heap.size := by omega
    have lP1 : P + 1 < W0.heap.size := by omega
    have HP := Lib.hid hP
    have T1 := Lib.hid tb
    have T2 := Lib.hid ub
    have HB := Lib.hid hb
    have HS := Lib.hid hs
    clear tb ub hb hs hP
    refine class_region W0.heap.size (by kernel_rfl) (by kernel_rfl) ?_
    with_reducible refine class_opk (.agg #[.int .i64 x.i, .int .i64 x.s, .int .i64 x.t, .int .i64 x.b, .int .i64 x.l, .int .i64 x.h, .int .i64 x.c, .slice A n c, .slice A2 n2 c2]) ?_ ?_ ?_
    · first | exact rfl | go_simp
    · intro W hW
      obtain ⟨g0, g1, g2, g3, g4, g5, g6, g7, g8⟩ := T1.out.keep (B := W0.heap.size) lP hW
      go_simp
    intro K hK
    go_simp
    with_reducible refine hK _ ?_
    clear hK K
    with_reducible refine class_opk (.agg #[.int .i64 x.l, .int .i64 x.h, .int .i64 x.i, .int .i64 x.s, .int .i64 x.t, .int .i64 x.b, .int .i64 x.c]) ?_ ?_ ?_
    · first | exact rfl | go_simp
    · intro W hW
      go_simp
      refine class_call hW ?_
      exact header_of x A n c A2 n2 c2 _
    intro K hK
    go_simp
    with_reducible refine hK _ ?_
    clear hK K
    with_reducible refine class_opk (.agg #[.int .i64 y.i, .int .i64 y.s, .int .i64 y.t, .int .i64 y.b, .int .i64 y.l, .int .i64 y.h, .int .i64 y.c, .slice A' n' c', .slice A2' n2' c2']) ?_ ?_ ?_
    · first | exact rfl | go_simp
    · intro W hW
      obtain ⟨g0, g1, g2, g3, g4, g5, g6, g7, g8⟩ := T2.out.keep (B := W0.heap.size) lP1 hW
      go_simp
    intro K hK
    go_simp
    with_reducible refine hK _ ?_
    clear hK K
    with_reducible refine class_opk (.agg #[.int .i64 y.l, .int .i64 y.h, .int .i64 y.i, .int .i64 y.s, .int .i64 y.t, .int .i64 y.b, .int .i64 y.c]) ?_ ?_ ?_
    · first | exact rfl | go_simp
    · intro W hW
      go_simp
      refine class_call hW ?_
      exact header_of y A' n' c' A2' n2' c2' _
    intro K hK
    go_simp
    with_reducible refine hK _ ?_
    clear hK K
    with_reducible refine class_opk (.bool true) ?_ ?_ ?_
    · first | exact rfl | go_simp
    · intro W hW
      go_simp
    intro K hK
    go_simp
    with_reducible refine hK _ ?_
    clear hK K
    with_reducible refine class_opk (.bool true) ?_ ?_ ?_
    · first | exact rfl | go_simp
    · intro W hW
      go_simp
    intro K hK
    go_simp
    with_reducible refine hK _ ?_
    clear hK K
    with_reducible refine class_opk (.pointer (some ⟨P, 7, none⟩)) ?_ ?_ ?_
    · first | exact rfl | go_simp
    · intro W hW
      go_simp
    intro K hK
    go_simp
    with_reducible refine hK _ ?_
    clear hK K
    with_reducible refine class_opk (.slice A n c) ?_ ?_ ?_
    · first | exact rfl | go_simp
    · intro W hW
      obtain ⟨g0, g1, g2, g3, g4, g5, g6, g7, g8⟩ := T1.out.keep (B := W0.heap.size) lP hW
      go_simp
    intro K hK
    go_simp
    with_reducible refine hK _ ?_
    clear hK K
    with_reducible refine class_opk (.pointer (some ⟨P + 1, 7, none⟩)) ?_ ?_ ?_
    · first | exact rfl | go_simp
    · intro W hW
      go_simp
    intro K hK
    go_simp
    with_reducible refine hK _ ?_
    clear hK K
    with_reducible refine class_opk (.slice A' n' c') ?_ ?_ ?_
    · first | exact rfl | go_simp
    · intro W hW
      obtain ⟨g0, g1, g2, g3, g4, g5, g6, g7, g8⟩ := T2.out.keep (B := W0.heap.size) lP1 hW
      go_simp
    intro K hK
    go_simp
    with_reducible refine hK _ ?_
    clear hK K
    with_reducible refine class_opk (.bool false) ?_ ?_ ?_
    · first | exact rfl | go_simp
    · intro W hW
      go_simp
      refine class_call hW ?_
      have hk := HB.out.trans (hW.mono (by have := HB.out.size; have := HP.out; omega))
      rw [← K1.out]
      exact lib_r hn hn' (H1.out.below (below_le hk (by have := HP.out; omega))) (H1'.out.below (below_le hk (by have := HP.out; omega))) (by have := hk.size; have := HP.out; omega)
    intro K hK
    go_simp
    with_reducible refine hK _ ?_
    clear hK K
    with_reducible refine class_opk (.bool false) ?_ ?_ ?_
    · first | exact rfl | go_simp
    · intro W hW
      go_simp
    intro K hK
    go_simp
    with_reducible refine hK _ ?_
    clear hK K
    with_reducible refine class_opk (.bool false) ?_ ?_ ?_
    · first | exact rfl | go_simp
    · intro W hW
      go_simp
    intro K hK
    go_simp
    with_reducible refine hK _ ?_
    clear hK K
    with_reducible refine class_skipk ?_ ?_
    · first | exact rfl | (go_simp; try simp [undef])
    intro K hK
    go_simp
    with_reducible refine hK _ ?_
    clear hK K
    with_reducible refine class_skipk ?_ ?_
    · first | exact rfl | (go_simp; try simp [undef])
    intro K hK
    go_simp
    with_reducible refine hK _ ?_
    clear hK K
    with_reducible refine class_skipk ?_ ?_
    · first | exact rfl | (go_simp; try simp [undef])
    intro K hK
    go_simp
    with_reducible refine hK _ ?_
    clear hK K
    with_reducible refine class_skipk ?_ ?_
    · first | exact rfl | (go_simp; try simp [undef])
    intro K hK
    go_simp
    with_reducible refine hK _ ?_
    clear hK K
    with_reducible refine class_skipk ?_ ?_
    · first | exact rfl | (go_simp; try simp [undef])
    intro K hK
    go_simp
    with_reducible refine hK _ ?_
    clear hK K
    with_reducible refine class_opk (.bool false) ?_ ?_ ?_
    · first | exact rfl | go_simp
    · intro W hW
      go_simp
    intro K hK
    go_simp
    with_reducible refine hK _ ?_
    clear hK K
    with_reducible refine class_opk (.bool false) ?_ ?_ ?_
    · first | exact rfl | go_simp
    · intro W hW
      go_simp
    intro K hK
    go_simp
    with_reducible refine hK _ ?_
    clear hK K
    with_reducible refine class_end ?_
    intro W1 hW1
    go_simp
    have HB1 : Hid (Below P w W1) := Lib.hid (HB.out.trans (hW1.mono (by have := HB.out.size; have := HP.out; omega)))
    clear hW1 hnq
    go_wp2_with fail
    go_ret
    exact ⟨ret_b (eqT_no fun h => lB_off K1.out h.2.1).symm, by have := HB1.out; rw [HP.out] at this; exact this⟩
  · have K1 := Lib.hid k1
    clear k1
    go_enter Tryz.func10, Tryz.ntmps10
    go_wp2_with fail
    have tb := (TB.new w x A n c A2 n2 c2 30).keep (by simp) (new1 _ (.cells #[.int .i64 y.i, .int .i64 y.s, .int .i64 y.t, .int .i64 y.b, .int .i64 y.l, .int .i64 y.h, .int .i64 y.c, .slice A' n' c', .slice A2' n2' c2'] 30))
    have ub := TB.new (w.alloc (.cells #[.int .i64 x.i, .int .i64 x.s, .int .i64 x.t, .int .i64 x.b, .int .i64 x.l, .int .i64 x.h, .int .i64 x.c, .slice A n c, .slice A2 n2 c2] 30)) y A' n' c' A2' n2' c2' 30
    rw [show (w.alloc (.cells #[.int .i64 x.i, .int .i64 x.s, .int .i64 x.t, .int .i64 x.b, .int .i64 x.l, .int .i64 x.h, .int .i64 x.c, .slice A n c, .slice A2 n2 c2] 30)).heap.size = w.heap.size + 1 by simp] at ub
    have hb := new2 w (.cells #[.int .i64 x.i, .int .i64 x.s, .int .i64 x.t, .int .i64 x.b, .int .i64 x.l, .int .i64 x.h, .int .i64 x.c, .slice A n c, .slice A2 n2 c2] 30) (.cells #[.int .i64 y.i, .int .i64 y.s, .int .i64 y.t, .int .i64 y.b, .int .i64 y.l, .int .i64 y.h, .int .i64 y.c, .slice A' n' c', .slice A2' n2' c2'] 30)
    have hs : ((w.alloc (.cells #[.int .i64 x.i, .int .i64 x.s, .int .i64 x.t, .int .i64 x.b, .int .i64 x.l, .int .i64 x.h, .int .i64 x.c, .slice A n c, .slice A2 n2 c2] 30)).alloc (.cells #[.int .i64 y.i, .int .i64 y.s, .int .i64 y.t, .int .i64 y.b, .int .i64 y.l, .int .i64 y.h, .int .i64 y.c, .slice A' n' c', .slice A2' n2' c2'] 30)).heap.size = w.heap.size + 2 := by simp
    generalize (w.alloc (.cells #[.int .i64 x.i, .int .i64 x.s, .int .i64 x.t, .int .i64 x.b, .int .i64 x.l, .int .i64 x.h, .int .i64 x.c, .slice A n c, .slice A2 n2 c2] 30)).alloc (.cells #[.int .i64 y.i, .int .i64 y.s, .int .i64 y.t, .int .i64 y.b, .int .i64 y.l, .int .i64 y.h, .int .i64 y.c, .slice A' n' c', .slice A2' n2' c2'] 30) = W0 at tb ub hb hs ⊢
    obtain ⟨P, hP⟩ : ∃ P, P = w.heap.size := ⟨_, rfl⟩
    simp only [← hP] at tb ub hb hs ⊢
    have lP : P < W0.heap.size := by omega
    have lP1 : P + 1 < W0.heap.size := by omega
    have HP := Lib.hid hP
    have T1 := Lib.hid tb
    have T2 := Lib.hid ub
    have HB := Lib.hid hb
    have HS := Lib.hid hs
    clear tb ub hb hs hP
    refine class_region W0.heap.size (by kernel_rfl) (by kernel_rfl) ?_
    with_reducible refine class_opk (.agg #[.int .i64 x.i, .int .i64 x.s, .int .i64 x.t, .int .i64 x.b, .int .i64 x.l, .int .i64 x.h, .int .i64 x.c, .slice A n c, .slice A2 n2 c2]) ?_ ?_ ?_
    · first | exact rfl | go_simp
    · intro W hW
      obtain ⟨g0, g1, g2, g3, g4, g5, g6, g7, g8⟩ := T1.out.keep (B := W0.heap.size) lP hW
      go_simp
    intro K hK
    go_simp
    with_reducible refine hK _ ?_
    clear hK K
    with_reducible refine class_opk (.agg #[.int .i64 x.l, .int .i64 x.h, .int .i64 x.i, .int .i64 x.s, .int .i64 x.t, .int .i64 x.b, .int .i64 x.c]) ?_ ?_ ?_
    · first | exact rfl | go_simp
    · intro W hW
      go_simp
      refine class_call hW ?_
      exact header_of x A n c A2 n2 c2 _
    intro K hK
    go_simp
    with_reducible refine hK _ ?_
    clear hK K
    with_reducible refine class_opk (.agg #[.int .i64 y.i, .int .i64 y.s, .int .i64 y.t, .int .i64 y.b, .int .i64 y.l, .int .i64 y.h, .int .i64 y.c, .slice A' n' c', .slice A2' n2' c2']) ?_ ?_ ?_
    · first | exact rfl | go_simp
    · intro W hW
      obtain ⟨g0, g1, g2, g3, g4, g5, g6, g7, g8⟩ := T2.out.keep (B := W0.heap.size) lP1 hW
      go_simp
    intro K hK
    go_simp
    with_reducible refine hK _ ?_
    clear hK K
    with_reducible refine class_opk (.agg #[.int .i64 y.l, .int .i64 y.h, .int .i64 y.i, .int .i64 y.s, .int .i64 y.t, .int .i64 y.b, .int .i64 y.c]) ?_ ?_ ?_
    · first | exact rfl | go_simp
    · intro W hW
      go_simp
      refine class_call hW ?_
      exact header_of y A' n' c' A2' n2' c2' _
    intro K hK
    go_simp
    with_reducible refine hK _ ?_
    clear hK K
    with_reducible refine class_opk (.bool true) ?_ ?_ ?_
    · first | exact rfl | go_simp
    · intro W hW
      go_simp
    intro K hK
    go_simp
    with_reducible refine hK _ ?_
    clear hK K
    with_reducible refine class_opk (.bool true) ?_ ?_ ?_
    · first | exact rfl | go_simp
    · intro W hW
      go_simp
    intro K hK
    go_simp
    with_reducible refine hK _ ?_
    clear hK K
    with_reducible refine class_opk (.pointer (some ⟨P, 7, none⟩)) ?_ ?_ ?_
    · first | exact rfl | go_simp
    · intro W hW
      go_simp
    intro K hK
    go_simp
    with_reducible refine hK _ ?_
    clear hK K
    with_reducible refine class_opk (.slice A n c) ?_ ?_ ?_
    · first | exact rfl | go_simp
    · intro W hW
      obtain ⟨g0, g1, g2, g3, g4, g5, g6, g7, g8⟩ := T1.out.keep (B := W0.heap.size) lP hW
      go_simp
    intro K hK
    go_simp
    with_reducible refine hK _ ?_
    clear hK K
    with_reducible refine class_opk (.pointer (some ⟨P + 1, 7, none⟩)) ?_ ?_ ?_
    · first | exact rfl | go_simp
    · intro W hW
      go_simp
    intro K hK
    go_simp
    with_reducible refine hK _ ?_
    clear hK K
    with_reducible refine class_opk (.slice A' n' c') ?_ ?_ ?_
    · first | exact rfl | go_simp
    · intro W hW
      obtain ⟨g0, g1, g2, g3, g4, g5, g6, g7, g8⟩ := T2.out.keep (B := W0.heap.size) lP1 hW
      go_simp
    intro K hK
    go_simp
    with_reducible refine hK _ ?_
    clear hK K
    with_reducible refine class_opk (.bool true) ?_ ?_ ?_
    · first | exact rfl | go_simp
    · intro W hW
      go_simp
      refine class_call hW ?_
      have hk := HB.out.trans (hW.mono (by have := HB.out.size; have := HP.out; omega))
      rw [← K1.out]
      exact lib_r hn hn' (H1.out.below (below_le hk (by have := HP.out; omega))) (H1'.out.below (below_le hk (by have := HP.out; omega))) (by have := hk.size; have := HP.out; omega)
    intro K hK
    go_simp
    with_reducible refine hK _ ?_
    clear hK K
    with_reducible refine class_opk (.bool true) ?_ ?_ ?_
    · first | exact rfl | go_simp
    · intro W hW
      go_simp
    intro K hK
    go_simp
    with_reducible refine hK _ ?_
    clear hK K
    with_reducible refine class_opk (.bool true) ?_ ?_ ?_
    · first | exact rfl | go_simp
    · intro W hW
      go_simp
    intro K hK
    go_simp
    with_reducible refine hK _ ?_
    clear hK K
    with_reducible refine class_opk (.pointer (some ⟨P, 8, none⟩)) ?_ ?_ ?_
    · first | exact rfl | go_simp
    · intro W hW
      go_simp
    intro K hK
    go_simp
    with_reducible refine hK _ ?_
    clear hK K
    with_reducible refine class_opk (.slice A2 n2 c2) ?_ ?_ ?_
    · first | exact rfl | go_simp
    · intro W hW
      obtain ⟨g0, g1, g2, g3, g4, g5, g6, g7, g8⟩ := T1.out.keep (B := W0.heap.size) lP hW
      go_simp
    intro K hK
    go_simp
    with_reducible refine hK _ ?_
    clear hK K
    with_reducible refine class_opk (.pointer (some ⟨P + 1, 8, none⟩)) ?_ ?_ ?_
    · first | exact rfl | go_simp
    · intro W hW
      go_simp
    intro K hK
    go_simp
    with_reducible refine hK _ ?_
    clear hK K
    with_reducible refine class_opk (.slice A2' n2' c2') ?_ ?_ ?_
    · first | exact rfl | go_simp
    · intro W hW
      obtain ⟨g0, g1, g2, g3, g4, g5, g6, g7, g8⟩ := T2.out.keep (B := W0.heap.size) lP1 hW
      go_simp
    intro K hK
    go_simp
    with_reducible refine hK _ ?_
    clear hK K
    with_reducible refine class_opk (.bool (lB T T')) ?_ ?_ ?_
    · first | exact rfl | go_simp
    · intro W hW
      go_simp
      refine class_call hW ?_
      have hk := HB.out.trans (hW.mono (by have := HB.out.size; have := HP.out; omega))
      exact lib_w hn2 hn2' (H2.out.below (below_le hk (by have := HP.out; omega))) (H2'.out.below (below_le hk (by have := HP.out; omega))) (by have := hk.size; have := HP.out; omega)
    intro K hK
    go_simp
    with_reducible refine hK _ ?_
    clear hK K
    with_reducible refine class_opk (.bool (lB T T')) ?_ ?_ ?_
    · first | exact rfl | go_simp
    · intro W hW
      go_simp
    intro K hK
    go_simp
    with_reducible refine hK _ ?_
    clear hK K
    with_reducible refine class_opk (.bool (lB T T')) ?_ ?_ ?_
    · first | exact rfl | go_simp
    · intro W hW
      go_simp
    intro K hK
    go_simp
    with_reducible refine hK _ ?_
    clear hK K
    with_reducible refine class_end ?_
    intro W1 hW1
    go_simp
    have HB1 : Hid (Below P w W1) := Lib.hid (HB.out.trans (hW1.mono (by have := HB.out.size; have := HP.out; omega)))
    clear hW1 hnq
    go_wp2_with fail
    go_ret
    exact ⟨ret_b (eqT_w KH.out (lB_of K1.out)), by have := HB1.out; rw [HP.out] at this; exact this⟩
end Go.Proofs.YtigbknmiidhblaaGreatDoor.te
namespace Go.Proofs.YtigbknmiidhblaaGreatDoor.cnts
open Go.ChangeShapes Go.WideShapes Go.ChangeAt Go.RowKit
open Go.Proofs.YtigbknmiidhblaaGreatDoor.vers Go.Proofs.YtigbknmiidhblaaGreatDoor.sl Go.Proofs.YtigbknmiidhblaaGreatDoor.ch Go.Proofs.YtigbknmiidhblaaGreatDoor.st
set_option linter.unusedVariables false
set_option linter.unusedSimpArgs false
set_option maxRecDepth 100000 in
set_option maxHeartbeats 800000 in
theorem spec_count {w : World} {B n c : Nat} {A : Option Addr} {ll : List (List Ver)} (hn : n ≤ 140737488355328) (hc : cnt ll ≤ 4611686018427387904) (h1 : Rs w B A n ll) (hB : B ≤ w.heap.size) :
    Calls Tryz.prog 13 #[.agg #[.slice A n c]] w fun e w' => e = .returned (.int .i64 (cnt ll)) ∧ Below w.heap.size w w' := by
  have H1 := Lib.hid h1
  have hln := h1.1
  clear h1
  go_enter Tryz.func13, Tryz.ntmps13
  go_wp2
  have z0 := one_cell w (.slice A n c) 26
  have hb0 := new1 w (.cells #[.slice A n c] 26)
  have hs0 : (w.alloc (.cells #[.slice A n c] 26)).heap.size = w.heap.size + 1 := by simp
  generalize w.alloc _ = w0 at z0 hb0 hs0 ⊢
  have HB0 := Lib.hid hb0
  have H0 := Lib.hid (H1.out.below (below_le hb0 hB))
  clear hb0
  go_loopw [3, 4] (fun x i wr => ∃ k : Nat, k ≤ n ∧ i = .int .i64 k ∧ x = .int .i64 (cnt (ll.take k)) ∧ w0 = wr) (fun _ i _ => n - (intOf i).toNat)
  case atStart => exact ⟨0, by omega, rfl, by simp [cnt], rfl⟩
  case round =>
    obtain ⟨k, hk, rfl, rfl, rfl⟩ := hrel
    by_cases hlt : k < n
    · obtain ⟨b, o, l, A', n', c', rfl, hbB, hx, hcell, hn', hv⟩ := H0.out.at_ hlt
      have h2 := cnt_take hx
      have h3 := cnt_le ll (k + 1)
      have hl1 := hv.1
      clear hx hv
      go_wp2_with fail
      go_roundw
      case rel => exact ⟨k + 1, by omega, by go_num, by rw [h2, ← hl1]; go_num, by first | rfl | trivial⟩
      case measure => simp [intOf]; omega
    · obtain rfl : k = n := by omega
      have ha := cnt_all hln
      rw [ha]
      go_wp2_with fail
      go_ret
      exact ⟨rfl, HB0.out⟩
set_option maxRecDepth 100000 in
set_option maxHeartbeats 800000 in
theorem impl_count {w : World} {B n c : Nat} {A : Option Addr} {ll : List (List Ver)} (hn : n ≤ 140737488355328) (hc : cnt ll ≤ 4611686018427387904) (h1 : Rs w B A n ll) (hB : B ≤ w.heap.size) :
    Calls Tryz.prog 12 #[.agg #[.slice A n c]] w fun e w' => e = .returned (.int .i64 (cnt ll)) ∧ Below w.heap.size w w' := by
  have H1 := Lib.hid h1
  have hln := h1.1
  clear h1
  go_enter Tryz.func12, Tryz.ntmps12
  go_wp2
  have z0 := one_cell w (.slice A n c) 26
  have hb0 := new1 w (.cells #[.slice A n c] 26)
  have hs0 : (w.alloc (.cells #[.slice A n c] 26)).heap.size = w.heap.size + 1 := by simp
  generalize w.alloc _ = w0 at z0 hb0 hs0 ⊢
  have HB0 := Lib.hid hb0
  have H0 := Lib.hid (H1.out.below (below_le hb0 hB))
  clear hb0
  go_loopw [3, 9] (fun x i wr => ∃ k : Nat, k ≤ n ∧ i = .int .i64 k ∧ x = .int .i64 (cnt (ll.take k)) ∧ w0 = wr) (fun _ i _ => n - (intOf i).toNat)
  case atStart => exact ⟨0, by omega, rfl, by simp [cnt], rfl⟩
  case round =>
    obtain ⟨k, hk, rfl, rfl, rfl⟩ := hrel
    by_cases hlt : k < n
    · obtain ⟨b, o, l, A', n', c', rfl, hbB, hx, hcell, hn', hv⟩ := H0.out.at_ hlt
      have h2 := cnt_take hx
      have h3 := cnt_le ll (k + 1)
      have hl1 := hv.1
      clear hx hv
      go_wp2_with fail
      go_roundw
      case rel => exact ⟨k + 1, by omega, by go_num, by rw [h2, ← hl1]; go_num, by first | rfl | trivial⟩
      case measure => simp [intOf]; omega
    · obtain rfl : k = n := by omega
      have ha := cnt_all hln
      rw [ha]
      go_wp2_with fail
      go_ret
      exact ⟨rfl, HB0.out⟩
end Go.Proofs.YtigbknmiidhblaaGreatDoor.cnts
