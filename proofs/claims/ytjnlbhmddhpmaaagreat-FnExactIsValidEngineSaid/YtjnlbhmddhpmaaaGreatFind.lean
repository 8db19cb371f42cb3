/- The program's and the model's LatestVersion, FindVersion and VersionAt: what each answers; nothing that was there is written. -/
import Derived.Test.YtjnlbhmddhpmaaaGreatCh
import Derived.WalkKit
import Derived.ProofKit
import Derived.Below
import Derived.Lib.Hide
import Derived.LoopTactic
import Derived.Deep.QuietTactic
import Derived.BigQuiet
import Derived.Outline
import Derived.IntWalk
namespace Go.Proofs.YtjnlbhmddhpmaaaGreat.find
open Go.ChangeShapes Go.WideShapes Go.ChangeAt Go.RowKit
open Go.Proofs.YtjnlbhmddhpmaaaGreat.vers Go.Proofs.YtjnlbhmddhpmaaaGreat.sl Go.Proofs.YtjnlbhmddhpmaaaGreat.ch
set_option linter.unusedVariables false
set_option linter.unusedSimpArgs false
theorem ret_int {k : IntKind} {a b : Int} (h : a = b) : Ending.returned (.int k a) = .returned (.int k b) := by rw [h]
/-- the place of the first version with this Created, counted from k on -/
def fndI (c : Int) : List Ver → Nat → Int
  | [], _ => -1
  | x :: r, k => if x.c = c then k else fndI c r (k + 1)
theorem drop_cons {l : List Ver} {k : Nat} {x : Ver} (h : l[k]? = some x) : l.drop k = x :: l.drop (k + 1) := by
  have hl := lt_of_some h
  rw [List.drop_eq_getElem_cons hl]
  rw [List.getElem?_eq_getElem hl] at h
  injection h with h
  rw [h]
theorem fnd_hit {l : List Ver} {c : Int} {k : Nat} {x : Ver} (h : fndI c l 0 = fndI c (l.drop k) k) (hx : l[k]? = some x) (hc : x.c = c) : (k : Int) = fndI c l 0 := by
  rw [h, drop_cons hx]
  simp [fndI, hc]
theorem fnd_step {l : List Ver} {c : Int} {k : Nat} {x : Ver} (h : fndI c l 0 = fndI c (l.drop k) k) (hx : l[k]? = some x) (hc : x.c ≠ c) : fndI c l 0 = fndI c (l.drop (k + 1)) (k + 1) := by
  rw [h, drop_cons hx]
  simp [fndI, hc]
theorem fnd_none {l : List Ver} {c : Int} {k : Nat} (h : fndI c l 0 = fndI c (l.drop k) k) (hk : l.length ≤ k) : (-1 : Int) = fndI c l 0 := by
  rw [h, List.drop_eq_nil_of_le hk]
  rfl
set_option maxRecDepth 100000 in
set_option maxHeartbeats 800000 in
theorem spec_find {w : World} {B n cap : Nat} {A : Option Addr} {l : List Ver} (c : Int) (hn : n ≤ 140737488355328) (h1 : Vs w B A n l) (hB : B ≤ w.heap.size) :
    Calls Tryz.prog 39 #[.slice A n cap, .int .i64 c] w fun e w' => e = .returned (.int .i64 (fndI c l 0)) ∧ Below w.heap.size w w' := by
  have H1 := Lib.hid h1
  clear h1
  go_enter Tryz.func39, Tryz.ntmps39
  go_wp2
  go_loopw [5] (fun i wr => ∃ k : Nat, k ≤ n ∧ i = .int .i64 k ∧ fndI c l 0 = fndI c (l.drop k) k ∧ Below w.heap.size w wr) (fun i _ => n - (intOf i).toNat)
  case atStart => exact ⟨0, by omega, rfl, rfl, Below.refl _ _⟩
  case round =>
    obtain ⟨k, hk, rfl, hP, hb⟩ := hrel
    have HP := Lib.hid hP
    clear hP
    have HB := Lib.hid hb
    by_cases hlt : k < n
    · obtain ⟨b, o, x, rfl, hbB, hx, a0, a1, a2, a3, a4⟩ := (H1.out.below (below_le hb hB)).at_ hlt
      have HX := Lib.hid hx
      clear hb hx
      by_cases hc : x.c = c
      · have t : (x.c == c) = true := by simpa using hc
        have HC := Lib.hid hc
        clear hc
        go_wp2_with fail
        go_ret
        exact ⟨ret_int (fnd_hit HP.out HX.out HC.out), HB.out⟩
      · have t : (x.c == c) = false := by simpa using hc
        have HC := Lib.hid hc
        clear hc
        go_wp2_with fail
        go_roundw
        case rel => exact ⟨k + 1, by omega, by go_num, fnd_step HP.out HX.out HC.out, HB.out⟩
        case measure => simp [intOf]; omega
    · clear hb
      go_wp2_with fail
      go_ret
      exact ⟨ret_int (fnd_none HP.out (by have := H1.out.1; omega)), HB.out⟩
set_option maxRecDepth 100000 in
set_option maxHeartbeats 800000 in
theorem impl_find {w : World} {B n cap : Nat} {A : Option Addr} {l : List Ver} (c : Int) (hn : n ≤ 140737488355328) (h1 : Vs w B A n l) (hB : B ≤ w.heap.size) :
    Calls Tryz.prog 104 #[.slice A n cap, .int .i64 c] w fun e w' => e = .returned (.int .i64 (fndI c l 0)) ∧ Below w.heap.size w w' := by
  have H1 := Lib.hid h1
  clear h1
  go_enter Tryz.func104, Tryz.ntmps104
  go_wp2
  go_loopw [9] (fun i wr => ∃ k : Nat, k ≤ n ∧ i = .int .i64 k ∧ fndI c l 0 = fndI c (l.drop k) k ∧ Below w.heap.size w wr) (fun i _ => n - (intOf i).toNat)
  case atStart => exact ⟨0, by omega, rfl, rfl, Below.refl _ _⟩
  case round =>
    obtain ⟨k, hk, rfl, hP, hb⟩ := hrel
    have HP := Lib.hid hP
    clear hP
    have HB := Lib.hid hb
    by_cases hlt : k < n
    · obtain ⟨b, o, x, rfl, hbB, hx, a0, a1, a2, a3, a4⟩ := (H1.out.below (below_le hb hB)).at_ hlt
      have HX := Lib.hid hx
      clear hb hx
      by_cases hc : x.c = c
      · have t : (x.c == c) = true := by simpa using hc
        have HC := Lib.hid hc
        clear hc
        go_wp2_with fail
        go_ret
        exact ⟨ret_int (fnd_hit HP.out HX.out HC.out), HB.out.alloc HB.out.size _⟩
      · have t : (x.c == c) = false := by simpa using hc
        have HC := Lib.hid hc
        clear hc
        go_wp2_with fail
        go_roundw
        case rel => exact ⟨k + 1, by omega, by go_num, fnd_step HP.out HX.out HC.out, HB.out.alloc HB.out.size _⟩
        case measure => simp [intOf]; omega
    · clear hb
      go_wp2_with fail
      go_ret
      exact ⟨ret_int (fnd_none HP.out (by have := H1.out.1; omega)), HB.out⟩

/-! LatestVersion -/
noncomputable def lastV (l : List Ver) : Ver := if chB l = true then l.getD (l.length - 1) default else ⟨0, 0, 0, 0, 0⟩
noncomputable def lastVal (l : List Ver) : Value := .agg #[.int .i64 (lastV l).a, .int .i64 (lastV l).b, .int .i64 (lastV l).c, .int .i64 (lastV l).d, .int .i64 (lastV l).e]
theorem last_yes {l : List Ver} {x : Ver} (h : chB l = true) (hx : l[l.length - 1]? = some x) : lastV l = x := by simp [lastV, h, List.getD, hx]
theorem last_no {l : List Ver} (h : chB l = false) : lastV l = ⟨0, 0, 0, 0, 0⟩ := by simp [lastV, h]
theorem ch_pos {l : List Ver} (h : chB l = true) : 0 < l.length := by
  rcases Nat.eq_zero_or_pos l.length with h0 | h0
  · rw [ch_none h0] at h; cases h
  · exact h0
theorem ne_off {b i j : Nat} (h : i ≠ j) : (⟨b, i, none⟩ : Addr) ≠ ⟨b, j, none⟩ := fun e => h (by injection e)
theorem oth (w : World) (v : Value) {b i j : Nat} (h : i ≠ j) : (w.setCell ⟨b, i, none⟩ v).cell? ⟨b, j, none⟩ = w.cell? ⟨b, j, none⟩ := by
  apply World.cell?_setCell_other
  exact ne_off h
theorem sam {w : World} {v u : Value} {a : Addr} (h : w.cell? a = some u) : (w.setCell a v).cell? a = some v := by
  apply World.cell?_setCell_same
  exact h
theorem store5 {w : World} {b : Nat} {x : Ver} (h : At w b 0 x) (y : Ver) :
    At (((((w.setCell ⟨b, 0, none⟩ (.int .i64 y.a)).setCell ⟨b, 1, none⟩ (.int .i64 y.b)).setCell ⟨b, 2, none⟩ (.int .i64 y.c)).setCell ⟨b, 3, none⟩ (.int .i64 y.d)).setCell ⟨b, 4, none⟩ (.int .i64 y.e)) b 0 y := by
  obtain ⟨h0, h1, h2, h3, h4⟩ := atFlat h
  refine ⟨?_, ?_, ?_, ?_, ?_⟩
  · rw [oth _ _ (by decide), oth _ _ (by decide), oth _ _ (by decide), oth _ _ (by decide)]
    exact sam h0
  · show World.cell? _ ⟨b, 1, none⟩ = _
    rw [oth _ _ (by decide), oth _ _ (by decide), oth _ _ (by decide)]
    exact sam (by rw [oth _ _ (by decide)]; exact h1)
  · show World.cell? _ ⟨b, 2, none⟩ = _
    rw [oth _ _ (by decide), oth _ _ (by decide)]
    exact sam (by rw [oth _ _ (by decide), oth _ _ (by decide)]; exact h2)
  · show World.cell? _ ⟨b, 3, none⟩ = _
    rw [oth _ _ (by decide)]
    exact sam (by rw [oth _ _ (by decide), oth _ _ (by decide), oth _ _ (by decide)]; exact h3)
  · exact sam (by rw [oth _ _ (by decide), oth _ _ (by decide), oth _ _ (by decide), oth _ _ (by decide)]; exact h4)
theorem below5 {B : Nat} {a w : World} {b : Nat} (h : Below B a w) (hb : B ≤ b) (y : Ver) :
    Below B a (((((w.setCell ⟨b, 0, none⟩ (.int .i64 y.a)).setCell ⟨b, 1, none⟩ (.int .i64 y.b)).setCell ⟨b, 2, none⟩ (.int .i64 y.c)).setCell ⟨b, 3, none⟩ (.int .i64 y.d)).setCell ⟨b, 4, none⟩ (.int .i64 y.e)) :=
  ((((h.setCell hb _).setCell hb _).setCell hb _).setCell hb _).setCell hb _
theorem fresh_free {w W : World} {C : Array Value} {t : TypeId} (hb : Below (w.alloc (.cells C t)).heap.size (w.alloc (.cells C t)) W) (i : Nat) : W.frozen? ⟨w.heap.size, i, none⟩ = false :=
  (hb.frozen (p := ⟨w.heap.size, i, none⟩) (by simp)).trans (World.frozen?_alloc_new _ _ _ _)
/-! VersionAt -/
/-- the place of the last one of the first k versions with Created at most s -/
def atI (s : Int) (l : List Ver) : Nat → Int
  | 0 => -1
  | k + 1 => if (l.getD k default).c ≤ s then k else atI s l k
noncomputable def vAt (l : List Ver) (s : Int) : Int := if chB l = true then atI s l l.length else -1
theorem at_hit {l : List Ver} {s : Int} {k : Nat} {x : Ver} (hx : l[k]? = some x) (h : x.c ≤ s) : atI s l (k + 1) = k := by
  have hd : l.getD k default = x := by simp [List.getD, hx]
  show (if (l.getD k default).c ≤ s then (k : Int) else atI s l k) = k
  rw [hd, if_pos h]
theorem at_miss {l : List Ver} {s : Int} {k : Nat} {x : Ver} (hx : l[k]? = some x) (h : ¬ x.c ≤ s) : atI s l (k + 1) = atI s l k := by
  have hd : l.getD k default = x := by simp [List.getD, hx]
  show (if (l.getD k default).c ≤ s then (k : Int) else atI s l k) = atI s l k
  rw [hd, if_neg h]
theorem vAt_yes {l : List Ver} {s : Int} {n : Nat} (hn : l.length = n) (h : chB l = true) : atI s l n = vAt l s := by subst hn; simp [vAt, h]
theorem vAt_no {l : List Ver} {s : Int} (h : chB l = false) : (-1 : Int) = vAt l s := by simp [vAt, h]
theorem some_val {a b : Int} (h : a = b) : Value.int .i64 a = .int .i64 b := by rw [h]
theorem same_version (x : Ver) (w : World) :
    Calls Tryz.prog 89 #[.agg #[.int .i64 x.a, .int .i64 x.b, .int .i64 x.c, .int .i64 x.d, .int .i64 x.e], .agg #[.int .i64 x.a, .int .i64 x.b, .int .i64 x.c, .int .i64 x.d, .int .i64 x.e]] w fun e w' => e = .returned (.bool true) ∧ Below w.heap.size w w' := by
  have := eq_version x.a x.b x.c x.d x.e x.a x.b x.c x.d x.e w
  rw [show eB x.a x.b x.c x.d x.e x.a x.b x.c x.d x.e = true by simp [eB]] at this
  exact this
end Go.Proofs.YtjnlbhmddhpmaaaGreat.find
