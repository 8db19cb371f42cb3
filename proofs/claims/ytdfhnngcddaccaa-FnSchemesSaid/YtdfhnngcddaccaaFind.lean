/- The program's and the model's LatestVersion, FindVersion and VersionAt: what each answers; nothing that was there is written. -/
import Derived.Test.YtdfhnngcddaccaaCh
import Derived.WalkKit
import Derived.ProofKit
import Derived.Below
import Derived.Lib.Hide
import Derived.LoopTactic
import Derived.Deep.QuietTactic
import Derived.BigQuiet
import Derived.Outline
import Derived.IntWalk
namespace Go.Proofs.Ytdfhnngcddaccaa.find
open Go.ChangeShapes Go.WideShapes Go.ChangeAt Go.RowKit
open Go.Proofs.Ytdfhnngcddaccaa.vers Go.Proofs.Ytdfhnngcddaccaa.sl Go.Proofs.Ytdfhnngcddaccaa.ch
set_option linter.unusedVariables false
set_option linter.unusedSimpArgs false
theorem ret_int {k : IntKind} {a b : Int} (h : a = b) : Ending.returned (.int k a) = .returned (.int k b) := by rw [h]
/-- the place of the first version with this Created, counted from k on -/
def fndI (c : Int) : List Ver → Nat → Int
  | [], _ => -1
  | x :: r, k => if x.c = c then k else fndI c r (k + 1)
theorem drop_cons {l : List Ver} {k : Nat} {x : Ver} (h : l[k]? = some x) : l.drop k = x :: l.drop (k + 1) := by
  have hl := lt_of_some h
  rw [List.drop_eq_getElem_cons hl]
  rw [List.getElem?_eq_getElem hl] at h
  injection h with h
  rw [h]
theorem fnd_hit {l : List Ver} {c : Int} {k : Nat} {x : Ver} (h : fndI c l 0 = fndI c (l.drop k) k) (hx : l[k]? = some x) (hc : x.c = c) : (k : Int) = fndI c l 0 := by
  rw [h, drop_cons hx]
  simp [fndI, hc]
theorem fnd_step {l : List Ver} {c : Int} {k : Nat} {x : Ver} (h : fndI c l 0 = fndI c (l.drop k) k) (hx : l[k]? = some x) (hc : x.c ≠ c) : fndI c l 0 = fndI c (l.drop (k + 1)) (k + 1) := by
  rw [h, drop_cons hx]
  simp [fndI, hc]
theorem fnd_none {l : List Ver} {c : Int} {k : Nat} (h : fndI c l 0 = fndI c (l.drop k) k) (hk : l.length ≤ k) : (-1 : Int) = fndI c l 0 := by
  rw [h, List.drop_eq_nil_of_le hk]
  rfl
/-! LatestVersion -/
noncomputable def lastV (l : List Ver) : Ver := if chB l = true then l.getD (l.length - 1) default else ⟨0, 0, 0, 0, 0⟩
noncomputable def lastVal (l : List Ver) : Value := .agg #[.int .i64 (lastV l).a, .int .i64 (lastV l).b, .int .i64 (lastV l).c, .int .i64 (lastV l).d, .int .i64 (lastV l).e]
theorem last_yes {l : List Ver} {x : Ver} (h : chB l = true) (hx : l[l.length - 1]? = some x) : lastV l = x := by simp [lastV, h, List.getD, hx]
theorem last_no {l : List Ver} (h : chB l = false) : lastV l = ⟨0, 0, 0, 0, 0⟩ := by simp [lastV, h]
theorem ch_pos {l : List Ver} (h : chB l = true) : 0 < l.length := by
  rcases Nat.eq_zero_or_pos l.length with h0 | h0
  · rw [ch_none h0] at h; cases h
  · exact h0
theorem ne_off {b i j : Nat} (h : i ≠ j) : (⟨b, i, none⟩ : Addr) ≠ ⟨b, j, none⟩ := fun e => h (by injection e)
theorem oth (w : World) (v : Value) {b i j : Nat} (h : i ≠ j) : (w.setCell ⟨b, i, none⟩ v).cell? ⟨b, j, none⟩ = w.cell? ⟨b, j, none⟩ := by
  apply World.cell?_setCell_other
  exact ne_off h
theorem sam {w : World} {v u : Value} {a : Addr} (h : w.cell? a = some u) : (w.setCell a v).cell? a = some v := by
  apply World.cell?_setCell_same
  exact h
theorem store5 {w : World} {b : Nat} {x : Ver} (h : At w b 0 x) (y : Ver) :
    At (((((w.setCell ⟨b, 0, none⟩ (.int .i64 y.a)).setCell ⟨b, 1, none⟩ (.int .i64 y.b)).setCell ⟨b, 2, none⟩ (.int .i64 y.c)).setCell ⟨b, 3, none⟩ (.int .i64 y.d)).setCell ⟨b, 4, none⟩ (.int .i64 y.e)) b 0 y := by
  obtain ⟨h0, h1, h2, h3, h4⟩ := atFlat h
  refine ⟨?_, ?_, ?_, ?_, ?_⟩
  · rw [oth _ _ (by decide), oth _ _ (by decide), oth _ _ (by decide), oth _ _ (by decide)]
    exact sam h0
  · show World.cell? _ ⟨b, 1, none⟩ = _
    rw [oth _ _ (by decide), oth _ _ (by decide), oth _ _ (by decide)]
    exact sam (by rw [oth _ _ (by decide)]; exact h1)
  · show World.cell? _ ⟨b, 2, none⟩ = _
    rw [oth _ _ (by decide), oth _ _ (by decide)]
    exact sam (by rw [oth _ _ (by decide), oth _ _ (by decide)]; exact h2)
  · show World.cell? _ ⟨b, 3, none⟩ = _
    rw [oth _ _ (by decide)]
    exact sam (by rw [oth _ _ (by decide), oth _ _ (by decide), oth _ _ (by decide)]; exact h3)
  · exact sam (by rw [oth _ _ (by decide), oth _ _ (by decide), oth _ _ (by decide), oth _ _ (by decide)]; exact h4)
theorem below5 {B : Nat} {a w : World} {b : Nat} (h : Below B a w) (hb : B ≤ b) (y : Ver) :
    Below B a (((((w.setCell ⟨b, 0, none⟩ (.int .i64 y.a)).setCell ⟨b, 1, none⟩ (.int .i64 y.b)).setCell ⟨b, 2, none⟩ (.int .i64 y.c)).setCell ⟨b, 3, none⟩ (.int .i64 y.d)).setCell ⟨b, 4, none⟩ (.int .i64 y.e)) :=
  ((((h.setCell hb _).setCell hb _).setCell hb _).setCell hb _).setCell hb _
theorem fresh_free {w W : World} {C : Array Value} {t : TypeId} (hb : Below (w.alloc (.cells C t)).heap.size (w.alloc (.cells C t)) W) (i : Nat) : W.frozen? ⟨w.heap.size, i, none⟩ = false :=
  (hb.frozen (p := ⟨w.heap.size, i, none⟩) (by simp)).trans (World.frozen?_alloc_new _ _ _ _)
set_option maxRecDepth 100000 in
set_option maxHeartbeats 800000 in
theorem spec_latest {w : World} {B n cap : Nat} {A : Option Addr} {l : List Ver} (hn : n ≤ 140737488355328) (h1 : Vs w B A n l) (hB : B ≤ w.heap.size) :
    Calls Try.prog 20 #[.slice A n cap] w fun e w' => e = .returned (lastVal l) ∧ Below w.heap.size w w' := by
  have H1 := Lib.hid h1
  clear h1
  rcases hc : chB l with _ | _
  · have HC := Lib.hid hc
    clear hc
    go_enter Try.func20, Try.ntmps20
    go_wp2_with fail
    refine (spec_chain hn (H1.out.below (below_le (new1 _ _) hB)) (by simp; omega)).mono ?_
    rintro e W ⟨rfl, hb⟩
    rw [HC.out]
    have hA := At.keep (B := (w.alloc (Obj.cells #[.int .i64 0, .int .i64 0, .int .i64 0, .int .i64 0, .int .i64 0] 34)).heap.size) (boxed w ⟨0, 0, 0, 0, 0⟩ 34) (by simp) hb
    have HA := Lib.hid hA
    obtain ⟨z0, z1, z2, z3, z4⟩ := atFlat hA
    have g0 := fresh_free hb 0
    have g1 := fresh_free hb 1
    have g2 := fresh_free hb 2
    have g3 := fresh_free hb 3
    have g4 := fresh_free hb 4
    have hB2 : Below w.heap.size w W := (new1 w _).trans (hb.mono (by simp))
    have HB := Lib.hid hB2
    clear hb hA hB2
    simp only at z0 z1 z2 z3 z4
    go_wp2_with fail
    have hs := store5 HA.out ⟨0, 0, 0, 0, 0⟩
    have hl := below5 (b := w.heap.size) HB.out (Nat.le_refl _) ⟨0, 0, 0, 0, 0⟩
    simp only at hs hl
    generalize (((((W.setCell _ _).setCell _ _).setCell _ _).setCell _ _).setCell _ _) = Wf at hs hl ⊢
    obtain ⟨s0, s1, s2, s3, s4⟩ := atFlat hs
    simp only at s0 s1 s2 s3 s4
    refine bodyPost_ret (v := .agg #[.int .i64 0, .int .i64 0, .int .i64 0, .int .i64 0, .int .i64 0]) (by simp [results, Try.results20, go_sem, s0, s1, s2, s3, s4]) rfl ⟨?_, hl⟩
    unfold lastVal
    rw [last_no HC.out]
  · have HC := Lib.hid hc
    have hp := ch_pos hc
    clear hc
    have hln := H1.out.1
    have HLN := Lib.hid hln
    have hp2 : 0 < n := by omega
    clear hln hp
    obtain ⟨b, o, x, rfl, hbB, hx, a0, a1, a2, a3, a4⟩ := H1.out.at_ (k := n - 1) (by omega)
    have HX := Lib.hid hx
    have q0 : At w b (o + (n - 1) * 5) x := ⟨a0, a1, a2, a3, a4⟩
    have Q0 := Lib.hid q0
    have s1 : IntKind.i64.wrap ((n : Int) - 1) = (n : Int) - 1 := IntWalk.i64_in _ (by omega)
    have s2 : (0 : Int) ≤ (n : Int) - 1 := by omega
    have s3 : ((n : Int) - 1).toNat = n - 1 := by omega
    clear hx a0 a1 a2 a3 a4 q0
    go_enter Try.func20, Try.ntmps20
    go_wp2_with fail
    refine (spec_chain hn (H1.out.below (below_le (new1 _ _) hB)) (by simp; omega)).mono ?_
    rintro e W ⟨rfl, hb⟩
    rw [HC.out]
    have hA := At.keep (B := (w.alloc (Obj.cells #[.int .i64 0, .int .i64 0, .int .i64 0, .int .i64 0, .int .i64 0] 34)).heap.size) (boxed w ⟨0, 0, 0, 0, 0⟩ 34) (by simp) hb
    have HA := Lib.hid hA
    obtain ⟨z0, z1, z2, z3, z4⟩ := atFlat hA
    have g0 := fresh_free hb 0
    have g1 := fresh_free hb 1
    have g2 := fresh_free hb 2
    have g3 := fresh_free hb 3
    have g4 := fresh_free hb 4
    have hB2 : Below w.heap.size w W := (new1 w _).trans (hb.mono (by simp))
    obtain ⟨a0, a1, a2, a3, a4⟩ := Q0.out.keep (B := w.heap.size) (by omega) hB2
    have HB := Lib.hid hB2
    clear hb hA hB2
    simp only at z0 z1 z2 z3 z4
    go_wp2_with fail
    have hs := store5 HA.out x
    have hl := below5 (b := w.heap.size) HB.out (Nat.le_refl _) x
    generalize (((((W.setCell _ _).setCell _ _).setCell _ _).setCell _ _).setCell _ _) = Wf at hs hl ⊢
    obtain ⟨s0, s1, s2, s3, s4⟩ := atFlat hs
    refine bodyPost_ret (v := .agg #[.int .i64 x.a, .int .i64 x.b, .int .i64 x.c, .int .i64 x.d, .int .i64 x.e]) (by simp [results, Try.results20, go_sem, s0, s1, s2, s3, s4]) rfl ⟨?_, hl⟩
    unfold lastVal
    rw [last_yes HC.out (by rw [HLN.out]; exact HX.out)]
set_option maxRecDepth 100000 in
set_option maxHeartbeats 800000 in
theorem impl_latest {w : World} {B n cap : Nat} {A : Option Addr} {l : List Ver} (hn : n ≤ 140737488355328) (h1 : Vs w B A n l) (hB : B ≤ w.heap.size) :
    Calls Try.prog 41 #[.slice A n cap] w fun e w' => e = .returned (lastVal l) ∧ Below w.heap.size w w' := by
  have H1 := Lib.hid h1
  clear h1
  rcases hc : chB l with _ | _
  · have HC := Lib.hid hc
    clear hc
    go_enter Try.func41, Try.ntmps41
    go_wp2_with fail
    refine (impl_chain hn (H1.out.below (below_le (new1 _ _) hB)) (by simp; omega)).mono ?_
    rintro e W ⟨rfl, hb⟩
    rw [HC.out]
    have hA := At.keep (B := (w.alloc (Obj.cells #[.int .i64 0, .int .i64 0, .int .i64 0, .int .i64 0, .int .i64 0] 34)).heap.size) (boxed w ⟨0, 0, 0, 0, 0⟩ 34) (by simp) hb
    have HA := Lib.hid hA
    obtain ⟨z0, z1, z2, z3, z4⟩ := atFlat hA
    have g0 := fresh_free hb 0
    have g1 := fresh_free hb 1
    have g2 := fresh_free hb 2
    have g3 := fresh_free hb 3
    have g4 := fresh_free hb 4
    have hB2 : Below w.heap.size w W := (new1 w _).trans (hb.mono (by simp))
    have HB := Lib.hid hB2
    clear hb hA hB2
    simp only at z0 z1 z2 z3 z4
    go_wp2_with fail
    have hs := store5 HA.out ⟨0, 0, 0, 0, 0⟩
    have hl := below5 (b := w.heap.size) HB.out (Nat.le_refl _) ⟨0, 0, 0, 0, 0⟩
    simp only at hs hl
    generalize (((((W.setCell _ _).setCell _ _).setCell _ _).setCell _ _).setCell _ _) = Wf at hs hl ⊢
    obtain ⟨s0, s1, s2, s3, s4⟩ := atFlat hs
    simp only at s0 s1 s2 s3 s4
    refine bodyPost_ret (v := .agg #[.int .i64 0, .int .i64 0, .int .i64 0, .int .i64 0, .int .i64 0]) (by simp [results, Try.results41, go_sem, s0, s1, s2, s3, s4]) rfl ⟨?_, hl⟩
    unfold lastVal
    rw [last_no HC.out]
  · have HC := Lib.hid hc
    have hp := ch_pos hc
    clear hc
    have hln := H1.out.1
    have HLN := Lib.hid hln
    have hp2 : 0 < n := by omega
    clear hln hp
    obtain ⟨b, o, x, rfl, hbB, hx, a0, a1, a2, a3, a4⟩ := H1.out.at_ (k := n - 1) (by omega)
    have HX := Lib.hid hx
    have q0 : At w b (o + (n - 1) * 5) x := ⟨a0, a1, a2, a3, a4⟩
    have Q0 := Lib.hid q0
    have s1 : IntKind.i64.wrap ((n : Int) - 1) = (n : Int) - 1 := IntWalk.i64_in _ (by omega)
    have s2 : (0 : Int) ≤ (n : Int) - 1 := by omega
    have s3 : ((n : Int) - 1).toNat = n - 1 := by omega
    clear hx a0 a1 a2 a3 a4 q0
    go_enter Try.func41, Try.ntmps41
    go_wp2_with fail
    refine (impl_chain hn (H1.out.below (below_le (new1 _ _) hB)) (by simp; omega)).mono ?_
    rintro e W ⟨rfl, hb⟩
    rw [HC.out]
    have hA := At.keep (B := (w.alloc (Obj.cells #[.int .i64 0, .int .i64 0, .int .i64 0, .int .i64 0, .int .i64 0] 34)).heap.size) (boxed w ⟨0, 0, 0, 0, 0⟩ 34) (by simp) hb
    have HA := Lib.hid hA
    obtain ⟨z0, z1, z2, z3, z4⟩ := atFlat hA
    have g0 := fresh_free hb 0
    have g1 := fresh_free hb 1
    have g2 := fresh_free hb 2
    have g3 := fresh_free hb 3
    have g4 := fresh_free hb 4
    have hB2 : Below w.heap.size w W := (new1 w _).trans (hb.mono (by simp))
    obtain ⟨a0, a1, a2, a3, a4⟩ := Q0.out.keep (B := w.heap.size) (by omega) hB2
    have HB := Lib.hid hB2
    clear hb hA hB2
    simp only at z0 z1 z2 z3 z4
    go_wp2_with fail
    have hs := store5 HA.out x
    have hl := below5 (b := w.heap.size) HB.out (Nat.le_refl _) x
    generalize (((((W.setCell _ _).setCell _ _).setCell _ _).setCell _ _).setCell _ _) = Wf at hs hl ⊢
    obtain ⟨s0, s1, s2, s3, s4⟩ := atFlat hs
    refine bodyPost_ret (v := .agg #[.int .i64 x.a, .int .i64 x.b, .int .i64 x.c, .int .i64 x.d, .int .i64 x.e]) (by simp [results, Try.results41, go_sem, s0, s1, s2, s3, s4]) rfl ⟨?_, hl⟩
    unfold lastVal
    rw [last_yes HC.out (by rw [HLN.out]; exact HX.out)]

/-! VersionAt -/
/-- the place of the last one of the first k versions with Created at most s -/
def atI (s : Int) (l : List Ver) : Nat → Int
  | 0 => -1
  | k + 1 => if (l.getD k default).c ≤ s then k else atI s l k
noncomputable def vAt (l : List Ver) (s : Int) : Int := if chB l = true then atI s l l.length else -1
theorem at_hit {l : List Ver} {s : Int} {k : Nat} {x : Ver} (hx : l[k]? = some x) (h : x.c ≤ s) : atI s l (k + 1) = k := by
  have hd : l.getD k default = x := by simp [List.getD, hx]
  show (if (l.getD k default).c ≤ s then (k : Int) else atI s l k) = k
  rw [hd, if_pos h]
theorem at_miss {l : List Ver} {s : Int} {k : Nat} {x : Ver} (hx : l[k]? = some x) (h : ¬ x.c ≤ s) : atI s l (k + 1) = atI s l k := by
  have hd : l.getD k default = x := by simp [List.getD, hx]
  show (if (l.getD k default).c ≤ s then (k : Int) else atI s l k) = atI s l k
  rw [hd, if_neg h]
theorem vAt_yes {l : List Ver} {s : Int} {n : Nat} (hn : l.length = n) (h : chB l = true) : atI s l n = vAt l s := by subst hn; simp [vAt, h]
theorem vAt_no {l : List Ver} {s : Int} (h : chB l = false) : (-1 : Int) = vAt l s := by simp [vAt, h]
theorem some_val {a b : Int} (h : a = b) : Value.int .i64 a = .int .i64 b := by rw [h]
set_option maxRecDepth 100000 in
set_option maxHeartbeats 800000 in
theorem spec_at {w : World} {B n cap : Nat} {A : Option Addr} {l : List Ver} (s : Int) (hn : n ≤ 140737488355328) (h1 : Vs w B A n l) (hB : B ≤ w.heap.size) :
    Calls Try.prog 69 #[.slice A n cap, .int .i64 s] w fun e w' => e = .returned (.int .i64 (vAt l s)) ∧ Below w.heap.size w w' := by
  have H1 := Lib.hid h1
  clear h1
  rcases hc : chB l with _ | _
  · have HC := Lib.hid hc
    clear hc
    go_enter Try.func69, Try.ntmps69
    go_wp2
    go_loopw [5, 6] (fun a i wr => i = .int .i64 0 ∧ a = .int .i64 (-1) ∧ Below w.heap.size w wr) (fun _ _ _ => 0)
    case atStart => exact ⟨rfl, rfl, Below.refl _ _⟩
    case round =>
      obtain ⟨rfl, rfl, hb⟩ := hrel
      have HB := Lib.hid hb
      clear hb
      by_cases h0 : 0 < n
      · have t : decide (0 < n) = true := decide_eq_true h0
        go_wp2_with fail
        refine (spec_chain hn (H1.out.below (below_le HB.out hB)) (Nat.le_trans hB HB.out.size)).mono ?_
        rintro e W ⟨rfl, hb⟩
        rw [HC.out]
        have HB1 : Hid (Below w.heap.size w W) := Lib.hid (HB.out.trans (hb.mono HB.out.size))
        clear hb
        go_wp2_with fail
        go_ret
        exact ⟨ret_int (vAt_no HC.out), HB1.out⟩
      · have t : decide (0 < n) = false := decide_eq_false h0
        go_wp2_with fail
        go_ret
        exact ⟨ret_int (vAt_no HC.out), HB.out⟩
  · have HC := Lib.hid hc
    clear hc
    go_enter Try.func69, Try.ntmps69
    go_wp2
    go_loopw [5, 6] (fun a i wr => ∃ k : Nat, k ≤ n ∧ i = .int .i64 k ∧ a = .int .i64 (atI s l k) ∧ Below w.heap.size w wr) (fun _ i _ => n - (intOf i).toNat)
    case atStart => exact ⟨0, by omega, rfl, rfl, Below.refl _ _⟩
    case round =>
      obtain ⟨k, hk, rfl, rfl, hb⟩ := hrel
      have HB := Lib.hid hb
      clear hb
      by_cases hlt : k < n
      · have t : decide (k < n) = true := decide_eq_true hlt
        go_wp2_with fail
        refine (spec_chain hn (H1.out.below (below_le HB.out hB)) (Nat.le_trans hB HB.out.size)).mono ?_
        rintro e W ⟨rfl, hb⟩
        rw [HC.out]
        have hb1 : Below w.heap.size w W := HB.out.trans (hb.mono HB.out.size)
        have HB1 := Lib.hid hb1
        obtain ⟨b, o, x, rfl, hbB, hx, a0, a1, a2, a3, a4⟩ := (H1.out.below (below_le hb1 hB)).at_ hlt
        have HX := Lib.hid hx
        clear hb hb1 hx
        by_cases hs : x.c ≤ s
        · have t2 : decide (x.c ≤ s) = true := decide_eq_true hs
          go_wp2_with fail
          go_roundw
          case rel => exact ⟨k + 1, by omega, by go_num, some_val (at_hit HX.out hs).symm, HB1.out⟩
          case measure => simp [intOf]; omega
        · have t2 : decide (x.c ≤ s) = false := decide_eq_false hs
          go_wp2_with fail
          go_roundw
          case rel => exact ⟨k + 1, by omega, by go_num, some_val (at_miss HX.out (by omega)).symm, HB1.out⟩
          case measure => simp [intOf]; omega
      · have t : decide (k < n) = false := decide_eq_false hlt
        go_wp2_with fail
        go_ret
        have e : k = n := by omega
        exact ⟨ret_int (by rw [e]; exact vAt_yes H1.out.1 HC.out), HB.out⟩
set_option maxRecDepth 100000 in
set_option maxHeartbeats 800000 in
theorem impl_at {w : World} {B n cap : Nat} {A : Option Addr} {l : List Ver} (s : Int) (hn : n ≤ 140737488355328) (h1 : Vs w B A n l) (hB : B ≤ w.heap.size) :
    Calls Try.prog 134 #[.slice A n cap, .int .i64 s] w fun e w' => e = .returned (.int .i64 (vAt l s)) ∧ Below w.heap.size w w' := by
  have H1 := Lib.hid h1
  clear h1
  rcases hc : chB l with _ | _
  · have HC := Lib.hid hc
    clear hc
    go_enter Try.func134, Try.ntmps134
    go_wp2_with fail
    refine (impl_chain hn H1.out hB).mono ?_
    rintro e W ⟨rfl, hb⟩
    rw [HC.out]
    have HB := Lib.hid hb
    clear hb
    go_wp2_with fail
    go_ret
    exact ⟨ret_int (vAt_no HC.out), HB.out⟩
  · have HC := Lib.hid hc
    clear hc
    go_enter Try.func134, Try.ntmps134
    go_wp2_with fail
    refine (impl_chain hn H1.out hB).mono ?_
    rintro e W ⟨rfl, hb⟩
    rw [HC.out]
    have HB := Lib.hid hb
    clear hb
    go_wp2_with fail
    go_loopw [5] (fun i wr => ∃ k : Nat, k ≤ n ∧ i = .int .i64 ((k : Int) - 1) ∧ atI s l n = atI s l k ∧ Below w.heap.size w wr) (fun i _ => (intOf i + 1).toNat)
    case atStart => exact ⟨n, by omega, rfl, rfl, HB.out⟩
    case round =>
      obtain ⟨k, hk, rfl, hat, hb⟩ := hrel
      have HAT := Lib.hid hat
      have HB1 := Lib.hid hb
      clear hat
      by_cases h0 : 0 < k
      · obtain ⟨b, o, x, rfl, hbB, hx, a0, a1, a2, a3, a4⟩ := (H1.out.below (below_le hb hB)).at_ (k := k - 1) (by omega)
        have HX := Lib.hid hx
        have s1 : IntKind.i64.wrap ((k : Int) - 1) = (k : Int) - 1 := IntWalk.i64_in _ (by omega)
        have s2 : (0 : Int) ≤ (k : Int) - 1 := by omega
        have s3 : ((k : Int) - 1).toNat = k - 1 := by omega
        have s4 : (k : Int) - 1 < (n : Int) := by omega
        have s5 : (1 : Int) ≤ (k : Int) := by omega
        have t : decide (0 ≤ (k : Int) - 1) = true := decide_eq_true s2
        clear hb hx
        by_cases hs : x.c ≤ s
        · have t2 : decide (s < x.c) = false := decide_eq_false (by omega)
          go_wp2_with fail
          go_ret
          exact ⟨ret_int (by rw [← vAt_yes H1.out.1 HC.out, HAT.out]; have e := at_hit HX.out hs; rw [Nat.sub_add_cancel h0] at e; rw [e]; omega), HB1.out⟩
        · have t2 : decide (s < x.c) = true := decide_eq_true (by omega)
          go_wp2_with fail
          go_roundw
          case rel => exact ⟨k - 1, by omega, by go_num, by rw [HAT.out]; have e := at_miss (s := s) HX.out (by omega); rw [Nat.sub_add_cancel h0] at e; exact e, HB1.out⟩
          case measure => simp [intOf]; omega
      · have t : decide (0 ≤ (k : Int) - 1) = false := decide_eq_false (by omega)
        have t3 : decide (1 ≤ (k : Int)) = false := decide_eq_false (by omega)
        clear hb
        go_wp2_with fail
        go_ret
        have e : k = 0 := by omega
        exact ⟨ret_int (by rw [← vAt_yes H1.out.1 HC.out, HAT.out, e]; rfl), HB1.out⟩

theorem latest_spec {w : World} {B n cap : Nat} {A : Option Addr} {l : List Ver} {x : Ver} (hl : lastV l = x) (hn : n ≤ 140737488355328) (h1 : Vs w B A n l) (hB : B ≤ w.heap.size) :
    Calls Try.prog 20 #[.slice A n cap] w fun e w' => e = .returned (.agg #[.int .i64 x.a, .int .i64 x.b, .int .i64 x.c, .int .i64 x.d, .int .i64 x.e]) ∧ Below w.heap.size w w' := by
  have := spec_latest (cap := cap) hn h1 hB
  unfold lastVal at this
  rw [hl] at this
  exact this
theorem latest_impl {w : World} {B n cap : Nat} {A : Option Addr} {l : List Ver} {x : Ver} (hl : lastV l = x) (hn : n ≤ 140737488355328) (h1 : Vs w B A n l) (hB : B ≤ w.heap.size) :
    Calls Try.prog 41 #[.slice A n cap] w fun e w' => e = .returned (.agg #[.int .i64 x.a, .int .i64 x.b, .int .i64 x.c, .int .i64 x.d, .int .i64 x.e]) ∧ Below w.heap.size w w' := by
  have := impl_latest (cap := cap) hn h1 hB
  unfold lastVal at this
  rw [hl] at this
  exact this
theorem same_version (x : Ver) (w : World) :
    Calls Try.prog 26 #[.agg #[.int .i64 x.a, .int .i64 x.b, .int .i64 x.c, .int .i64 x.d, .int .i64 x.e], .agg #[.int .i64 x.a, .int .i64 x.b, .int .i64 x.c, .int .i64 x.d, .int .i64 x.e]] w fun e w' => e = .returned (.bool true) ∧ Below w.heap.size w w' := by
  have := eq_version x.a x.b x.c x.d x.e x.a x.b x.c x.d x.e w
  rw [show eB x.a x.b x.c x.d x.e x.a x.b x.c x.d x.e = true by simp [eB]] at this
  exact this
end Go.Proofs.Ytdfhnngcddaccaa.find
