/- chooseVersion of the program's rules: what each answers. -/
import Derived.Test.YtdfhnngcddaccaaRu
namespace Go.Proofs.Ytdfhnngcddaccaa.ruc
open Go.ChangeShapes Go.WideShapes Go.ChangeAt Go.RowKit
open Go.Proofs.Ytdfhnngcddaccaa.vers Go.Proofs.Ytdfhnngcddaccaa.sl Go.Proofs.Ytdfhnngcddaccaa.ch Go.Proofs.Ytdfhnngcddaccaa.ru
open Go.Proofs.Ytdfhnngcddaccaa.find (lastV vAt atI vAt_yes store5 below5 latest_spec latest_impl impl_at)
open Go.Proofs.Ytdfhnngcddaccaa.rd (vAt_range)
set_option linter.unusedVariables false
set_option linter.unusedSimpArgs false
/-- a box of the call's own and a zero version behind it, in a world that holds what was there -/
structure Z2 (w W : World) : Prop where
  bel : Below w.heap.size w W
  size : w.heap.size + 2 ≤ W.heap.size
  zer : At W (w.heap.size + 1) 0 ⟨0, 0, 0, 0, 0⟩
  free : ∀ i, W.frozen? ⟨w.heap.size + 1, i, none⟩ = false
theorem Z2.mk2 (w : World) (C : Array Value) (s t : TypeId) : Z2 w ((w.alloc (.cells C s)).alloc (.cells #[.int .i64 0, .int .i64 0, .int .i64 0, .int .i64 0, .int .i64 0] t)) where
  bel := new2 _ _ _
  size := by simp
  zer := by have := boxed (w.alloc (.cells C s)) ⟨0, 0, 0, 0, 0⟩ t; simpa using this
  free := fun i => by simp
theorem Z2.call {w W W' : World} (h : Z2 w W) (hb : Below W.heap.size W W') : Z2 w W' where
  bel := h.bel.trans (hb.mono h.bel.size)
  size := Nat.le_trans h.size hb.size
  zer := At.keep h.zer (B := W.heap.size) (by have := h.size; omega) hb
  free := fun i => (hb.frozen (p := ⟨w.heap.size + 1, i, none⟩) (by have := h.size; simp; omega)).trans (h.free i)
noncomputable def chI (s : Int) (l : List Ver) (b : Int) : Int := if s = 2 then (if 0 ≤ vAt l b then 0 else 3) else if s = 4 ∧ b < (lastV l).c then 3 else 0
noncomputable def chV (s : Int) (l : List Ver) (b : Int) : Ver := if s = 2 then (if 0 ≤ vAt l b then l.getD (vAt l b).toNat default else ⟨0, 0, 0, 0, 0⟩) else if s = 4 ∧ b < (lastV l).c then ⟨0, 0, 0, 0, 0⟩ else lastV l
theorem ch_last {s b : Int} {l : List Ver} (h2 : s ≠ 2) (h4 : ¬ (s = 4 ∧ b < (lastV l).c)) : chI s l b = 0 ∧ chV s l b = lastV l := by unfold chI chV; rw [if_neg h2, if_neg h4, if_neg h2, if_neg h4]; exact ⟨rfl, rfl⟩
theorem ch_late {s b : Int} {l : List Ver} (hs : s = 4) (h : b < (lastV l).c) : chI s l b = 3 ∧ chV s l b = ⟨0, 0, 0, 0, 0⟩ := by
  subst hs
  unfold chI chV
  rw [if_neg (by omega), if_pos ⟨rfl, h⟩, if_neg (by omega), if_pos ⟨rfl, h⟩]
  exact ⟨rfl, rfl⟩
theorem ch_none {s b : Int} {l : List Ver} (hs : s = 2) (h : ¬ 0 ≤ vAt l b) : chI s l b = 3 ∧ chV s l b = ⟨0, 0, 0, 0, 0⟩ := by
  subst hs
  unfold chI chV
  rw [if_pos rfl, if_neg h, if_pos rfl, if_neg h]
  exact ⟨rfl, rfl⟩
theorem ch_hit {s b : Int} {l : List Ver} {x : Ver} {j : Nat} (hs : s = 2) (h : vAt l b = j) (hx : l[j]? = some x) : chI s l b = 0 ∧ chV s l b = x := by
  subst hs
  unfold chI chV
  rw [if_pos rfl, if_pos (by omega), if_pos rfl, if_pos (by omega), h]
  simp [List.getD, hx]
theorem pair_eq {i j : Int} {x y : Ver} (h : i = j ∧ x = y) : Ending.returned (.tuple #[.agg #[.int .i64 x.a, .int .i64 x.b, .int .i64 x.c, .int .i64 x.d, .int .i64 x.e], .int .i64 i]) = .returned (.tuple #[.agg #[.int .i64 y.a, .int .i64 y.b, .int .i64 y.c, .int .i64 y.d, .int .i64 y.e], .int .i64 j]) := by rw [h.1, h.2]
set_option maxRecDepth 100000 in
set_option maxHeartbeats 1600000 in
theorem cv_0 {s : Int} {w : World} {B n c : Nat} {A : Option Addr} {l : List Ver} (b : Int) (h2 : s ≠ 2) (h4 : s ≠ 4) (hch : chB l = true) (hn : n ≤ 140737488355328) (h1 : Vs w B A n l) (hB : B ≤ w.heap.size) :
    Calls Try.prog 124 #[.agg #[], .slice A n c, .int .i64 b] w fun e w' => e = .returned (.tuple #[.agg #[.int .i64 (chV s l b).a, .int .i64 (chV s l b).b, .int .i64 (chV s l b).c, .int .i64 (chV s l b).d, .int .i64 (chV s l b).e], .int .i64 (chI s l b)]) ∧ Below w.heap.size w w' := by
  have H1 := Lib.hid h1
  have hln := h1.1
  clear h1
  obtain ⟨i, hi⟩ : ∃ i, chI s l b = i := ⟨_, rfl⟩
  obtain ⟨y, hy⟩ : ∃ y, chV s l b = y := ⟨_, rfl⟩
  rw [hi, hy]
  have HI := Lib.hid hi
  have HY := Lib.hid hy
  clear hi hy
  obtain ⟨x, hx⟩ : ∃ x, lastV l = x := ⟨_, rfl⟩
  have HX := Lib.hid hx
  have HE : Hid ((0 : Int) = i ∧ x = y) := Lib.hid (by
    obtain ⟨e1, e2⟩ := ch_last (l := l) (b := b) h2 (fun h => h4 h.1)
    rw [← HI.out, ← HY.out, e1, e2, hx]; exact ⟨rfl, rfl⟩)
  clear hx HI HY h2 h4
  go_enter Try.func124, Try.ntmps124
  go_wp2_with fail
  have hL := Z2.mk2 w #[] 112 34
  generalize ((w.alloc _).alloc _) = W0 at hL ⊢
  have L0 := Lib.hid hL
  clear hL
  refine (latest_impl HX.out hn (H1.out.below (below_le L0.out.bel hB)) (by have := L0.out.size; omega)).mono ?_
  rintro e W1 ⟨rfl, hb⟩
  have L1 := Lib.hid (L0.out.call hb)
  clear hb
  obtain ⟨z0, z1, z2, z3, z4⟩ := atFlat L1.out.zer
  have g0 := L1.out.free 0
  have g1 := L1.out.free 1
  have g2 := L1.out.free 2
  have g3 := L1.out.free 3
  have g4 := L1.out.free 4
  have hsz := L1.out.size
  simp only at z0 z1 z2 z3 z4
  go_wp2_with fail
  have hs := store5 L1.out.zer x
  have hl := below5 (b := w.heap.size + 1) L1.out.bel (by omega) x
  generalize (((((World.setCell _ _ _).setCell _ _).setCell _ _).setCell _ _).setCell _ _) = Wf at hs hl ⊢
  obtain ⟨s0, s1, s2, s3, s4⟩ := atFlat hs
  try simp only at s0 s1 s2 s3 s4
  exact bodyPost_ret (v := .tuple #[.agg #[.int .i64 (x : Ver).a, .int .i64 (x : Ver).b, .int .i64 (x : Ver).c, .int .i64 (x : Ver).d, .int .i64 (x : Ver).e], .int .i64 0]) (by simp [results, Try.results124, go_sem, s0, s1, s2, s3, s4]) rfl ⟨pair_eq HE.out, hl⟩
set_option maxRecDepth 100000 in
set_option maxHeartbeats 1600000 in
theorem cv_4 {s : Int} {w : World} {B n c : Nat} {A : Option Addr} {l : List Ver} (b : Int) (hq : s = 4) (hch : chB l = true) (hn : n ≤ 140737488355328) (h1 : Vs w B A n l) (hB : B ≤ w.heap.size) :
    Calls Try.prog 135 #[.agg #[], .slice A n c, .int .i64 b] w fun e w' => e = .returned (.tuple #[.agg #[.int .i64 (chV s l b).a, .int .i64 (chV s l b).b, .int .i64 (chV s l b).c, .int .i64 (chV s l b).d, .int .i64 (chV s l b).e], .int .i64 (chI s l b)]) ∧ Below w.heap.size w w' := by
  have H1 := Lib.hid h1
  have hln := h1.1
  clear h1
  obtain ⟨i, hi⟩ : ∃ i, chI s l b = i := ⟨_, rfl⟩
  obtain ⟨y, hy⟩ : ∃ y, chV s l b = y := ⟨_, rfl⟩
  rw [hi, hy]
  have HI := Lib.hid hi
  have HY := Lib.hid hy
  clear hi hy
  obtain ⟨x, hx⟩ : ∃ x, lastV l = x := ⟨_, rfl⟩
  have HX := Lib.hid hx
  have Q := Lib.hid hq
  clear hq
  by_cases h : b < x.c
  · have t : decide (b < x.c) = true := decide_eq_true h
    have HE : Hid ((3 : Int) = i ∧ (⟨0, 0, 0, 0, 0⟩ : Ver) = y) := Lib.hid (by
      obtain ⟨e1, e2⟩ := ch_late (l := l) (b := b) Q.out (by rw [hx]; exact h)
      rw [← HI.out, ← HY.out, e1, e2]; exact ⟨rfl, rfl⟩)
    clear hx HI HY h
    go_enter Try.func135, Try.ntmps135
    go_wp2_with fail
    have hL := Z2.mk2 w #[] 116 34
    generalize ((w.alloc _).alloc _) = W0 at hL ⊢
    have L0 := Lib.hid hL
    clear hL
    refine (latest_impl HX.out hn (H1.out.below (below_le L0.out.bel hB)) (by have := L0.out.size; omega)).mono ?_
    rintro e W1 ⟨rfl, hb⟩
    have L1 := Lib.hid (L0.out.call hb)
    clear hb
    have hsb : w.heap.size + 1 < W1.heap.size := by have := L1.out.size; omega
    obtain ⟨z0, z1, z2, z3, z4⟩ := atFlat L1.out.zer
    have g0 := L1.out.free 0
    have g1 := L1.out.free 1
    have g2 := L1.out.free 2
    have g3 := L1.out.free 3
    have g4 := L1.out.free 4
    have hsz := L1.out.size
    simp only at z0 z1 z2 z3 z4
    go_wp2_with fail
    have hs := store5 L1.out.zer ⟨0, 0, 0, 0, 0⟩
    have hl := below5 (b := w.heap.size + 1) L1.out.bel (by omega) ⟨0, 0, 0, 0, 0⟩
    generalize hW : (((((World.setCell _ _ _).setCell _ _).setCell _ _).setCell _ _).setCell _ _) = Wf at hs hl ⊢
    have hz : w.heap.size + 1 < Wf.heap.size := by rw [← hW]; simp; omega
    clear hW
    have hs2 := At.keep hs hz (new1 Wf (.cells #[.int .i64 x.a, .int .i64 x.b, .int .i64 x.c, .int .i64 x.d, .int .i64 x.e] 34))
    obtain ⟨s0, s1, s2, s3, s4⟩ := atFlat hs2
    try simp only at s0 s1 s2 s3 s4
    exact bodyPost_ret (v := .tuple #[.agg #[.int .i64 (⟨0, 0, 0, 0, 0⟩ : Ver).a, .int .i64 (⟨0, 0, 0, 0, 0⟩ : Ver).b, .int .i64 (⟨0, 0, 0, 0, 0⟩ : Ver).c, .int .i64 (⟨0, 0, 0, 0, 0⟩ : Ver).d, .int .i64 (⟨0, 0, 0, 0, 0⟩ : Ver).e], .int .i64 3]) (by simp [results, Try.results135, go_sem, s0, s1, s2, s3, s4]) rfl ⟨pair_eq HE.out, hl.alloc hl.size _⟩
  · have t : decide (b < x.c) = false := decide_eq_false h
    have HE : Hid ((0 : Int) = i ∧ x = y) := Lib.hid (by
      obtain ⟨e1, e2⟩ := ch_last (l := l) (b := b) (s := s) (by have := Q.out; omega) (fun h' => h (by rw [← hx]; exact h'.2))
      rw [← HI.out, ← HY.out, e1, e2, hx]; exact ⟨rfl, rfl⟩)
    clear hx HI HY h
    go_enter Try.func135, Try.ntmps135
    go_wp2_with fail
    have hL := Z2.mk2 w #[] 116 34
    generalize ((w.alloc _).alloc _) = W0 at hL ⊢
    have L0 := Lib.hid hL
    clear hL
    refine (latest_impl HX.out hn (H1.out.below (below_le L0.out.bel hB)) (by have := L0.out.size; omega)).mono ?_
    rintro e W1 ⟨rfl, hb⟩
    have L1 := Lib.hid (L0.out.call hb)
    clear hb
    have hsb : w.heap.size + 1 < W1.heap.size := by have := L1.out.size; omega
    obtain ⟨z0, z1, z2, z3, z4⟩ := atFlat L1.out.zer
    have g0 := L1.out.free 0
    have g1 := L1.out.free 1
    have g2 := L1.out.free 2
    have g3 := L1.out.free 3
    have g4 := L1.out.free 4
    have hsz := L1.out.size
    simp only at z0 z1 z2 z3 z4
    go_wp2_with fail
    have hs := store5 L1.out.zer x
    have hl := below5 (b := w.heap.size + 1) L1.out.bel (by omega) x
    generalize hW : (((((World.setCell _ _ _).setCell _ _).setCell _ _).setCell _ _).setCell _ _) = Wf at hs hl ⊢
    have hz : w.heap.size + 1 < Wf.heap.size := by rw [← hW]; simp; omega
    clear hW
    have hs2 := At.keep hs hz (new1 Wf (.cells #[.int .i64 x.a, .int .i64 x.b, .int .i64 x.c, .int .i64 x.d, .int .i64 x.e] 34))
    obtain ⟨s0, s1, s2, s3, s4⟩ := atFlat hs2
    try simp only at s0 s1 s2 s3 s4
    exact bodyPost_ret (v := .tuple #[.agg #[.int .i64 (x : Ver).a, .int .i64 (x : Ver).b, .int .i64 (x : Ver).c, .int .i64 (x : Ver).d, .int .i64 (x : Ver).e], .int .i64 0]) (by simp [results, Try.results135, go_sem, s0, s1, s2, s3, s4]) rfl ⟨pair_eq HE.out, hl.alloc hl.size _⟩
set_option maxRecDepth 100000 in
set_option maxHeartbeats 1600000 in
theorem cv_2 {s : Int} {w : World} {B n c : Nat} {A : Option Addr} {l : List Ver} (b : Int) (hq : s = 2) (hch : chB l = true) (hn : n ≤ 140737488355328) (h1 : Vs w B A n l) (hB : B ≤ w.heap.size) :
    Calls Try.prog 130 #[.agg #[], .slice A n c, .int .i64 b] w fun e w' => e = .returned (.tuple #[.agg #[.int .i64 (chV s l b).a, .int .i64 (chV s l b).b, .int .i64 (chV s l b).c, .int .i64 (chV s l b).d, .int .i64 (chV s l b).e], .int .i64 (chI s l b)]) ∧ Below w.heap.size w w' := by
  have H1 := Lib.hid h1
  have hln := h1.1
  clear h1
  obtain ⟨i, hi⟩ : ∃ i, chI s l b = i := ⟨_, rfl⟩
  obtain ⟨y, hy⟩ : ∃ y, chV s l b = y := ⟨_, rfl⟩
  rw [hi, hy]
  have HI := Lib.hid hi
  have HY := Lib.hid hy
  clear hi hy
  have Q := Lib.hid hq
  clear hq
  obtain ⟨r1, r2⟩ := vAt_range b hch
  obtain ⟨v, hv⟩ : ∃ v, vAt l b = v := ⟨_, rfl⟩
  rw [hv] at r1 r2
  have HV := Lib.hid hv
  clear hv
  by_cases h : v < 0
  · have t : decide (v < 0) = true := decide_eq_true h
    have HE : Hid ((3 : Int) = i ∧ (⟨0, 0, 0, 0, 0⟩ : Ver) = y) := Lib.hid (by
      obtain ⟨e1, e2⟩ := ch_none (l := l) (b := b) Q.out (by rw [HV.out]; omega)
      rw [← HI.out, ← HY.out, e1, e2]; exact ⟨rfl, rfl⟩)
    clear HI HY h
    go_enter Try.func130, Try.ntmps130
    go_wp2_with fail
    have hL := Z2.mk2 w #[] 115 34
    generalize ((w.alloc _).alloc _) = W0 at hL ⊢
    have L0 := Lib.hid hL
    clear hL
    refine (impl_at b hn (H1.out.below (below_le L0.out.bel hB)) (by have := L0.out.size; omega)).mono ?_
    rintro e W1 ⟨rfl, hb⟩
    rw [HV.out]
    have L1 := Lib.hid (L0.out.call hb)
    clear hb
    obtain ⟨z0, z1, z2, z3, z4⟩ := atFlat L1.out.zer
    have g0 := L1.out.free 0
    have g1 := L1.out.free 1
    have g2 := L1.out.free 2
    have g3 := L1.out.free 3
    have g4 := L1.out.free 4
    have hsz := L1.out.size
    simp only at z0 z1 z2 z3 z4
    go_wp2_with fail
    have hs := store5 L1.out.zer ⟨0, 0, 0, 0, 0⟩
    have hl := below5 (b := w.heap.size + 1) L1.out.bel (by omega) ⟨0, 0, 0, 0, 0⟩
    generalize (((((World.setCell _ _ _).setCell _ _).setCell _ _).setCell _ _).setCell _ _) = Wf at hs hl ⊢
    obtain ⟨s0, s1, s2, s3, s4⟩ := atFlat hs
    try simp only at s0 s1 s2 s3 s4
    exact bodyPost_ret (v := .tuple #[.agg #[.int .i64 (⟨0, 0, 0, 0, 0⟩ : Ver).a, .int .i64 (⟨0, 0, 0, 0, 0⟩ : Ver).b, .int .i64 (⟨0, 0, 0, 0, 0⟩ : Ver).c, .int .i64 (⟨0, 0, 0, 0, 0⟩ : Ver).d, .int .i64 (⟨0, 0, 0, 0, 0⟩ : Ver).e], .int .i64 3]) (by simp [results, Try.results130, go_sem, s0, s1, s2, s3, s4]) rfl ⟨pair_eq HE.out, hl⟩
  · have t : decide (v < 0) = false := decide_eq_false h
    obtain ⟨k, rfl⟩ : ∃ k : Nat, v = k := ⟨v.toNat, by omega⟩
    have hk : k < n := by omega
    obtain ⟨b2, o, x, rfl, hbB, hx, hat⟩ := H1.out.at_ hk
    have HE : Hid ((0 : Int) = i ∧ x = y) := Lib.hid (by
      obtain ⟨e1, e2⟩ := ch_hit (l := l) (b := b) Q.out HV.out hx
      rw [← HI.out, ← HY.out, e1, e2]; exact ⟨rfl, rfl⟩)
    have HA := Lib.hid hat
    clear HI HY h hx hat
    have t0 : (0 : Int) ≤ k := by omega
    have t1 : (k : Int) < n := by omega
    go_enter Try.func130, Try.ntmps130
    go_wp2_with fail
    have hL := Z2.mk2 w #[] 115 34
    generalize ((w.alloc _).alloc _) = W0 at hL ⊢
    have L0 := Lib.hid hL
    clear hL
    refine (impl_at b hn (H1.out.below (below_le L0.out.bel hB)) (by have := L0.out.size; omega)).mono ?_
    rintro e W1 ⟨rfl, hb⟩
    rw [HV.out]
    have L1 := Lib.hid (L0.out.call hb)
    clear hb
    obtain ⟨z0, z1, z2, z3, z4⟩ := atFlat L1.out.zer
    have g0 := L1.out.free 0
    have g1 := L1.out.free 1
    have g2 := L1.out.free 2
    have g3 := L1.out.free 3
    have g4 := L1.out.free 4
    have hsz := L1.out.size
    simp only at z0 z1 z2 z3 z4
    obtain ⟨a0, a1, a2, a3, a4⟩ := At.keep HA.out (B := B) (by omega) (below_le L1.out.bel hB)
    go_wp2_with fail
    have hs := store5 L1.out.zer x
    have hl := below5 (b := w.heap.size + 1) L1.out.bel (by omega) x
    generalize (((((World.setCell _ _ _).setCell _ _).setCell _ _).setCell _ _).setCell _ _) = Wf at hs hl ⊢
    obtain ⟨s0, s1, s2, s3, s4⟩ := atFlat hs
    try simp only at s0 s1 s2 s3 s4
    exact bodyPost_ret (v := .tuple #[.agg #[.int .i64 (x : Ver).a, .int .i64 (x : Ver).b, .int .i64 (x : Ver).c, .int .i64 (x : Ver).d, .int .i64 (x : Ver).e], .int .i64 0]) (by simp [results, Try.results130, go_sem, s0, s1, s2, s3, s4]) rfl ⟨pair_eq HE.out, hl⟩
end Go.Proofs.Ytdfhnngcddaccaa.ruc
