/- FindWrite, HasRead, IsReadOnly, SchemeName and NewTransaction of the program and of the model: what each answers; nothing that was there is written. -/
import Derived.Test.YtbnkkgjkhpbgiaaGreatDoorTv
import Derived.Test.YtbnkkgjkhpbgiaaGreatDoorTvs
import Derived.WalkKit
import Derived.ProofKit
import Derived.Below
import Derived.Lib.Hide
import Derived.LoopTactic
import Derived.Deep.QuietTactic
import Derived.BigQuiet
import Derived.StillTailTactics
import Derived.Outline
import Derived.IntWalk
import Derived.Deep.RegionHeld3
import Derived.Laws.StructEq
import Derived.Laws.Entries
namespace Go.Proofs.YtbnkkgjkhpbgiaaGreatDoor.tf
open Go.ChangeShapes Go.WideShapes Go.ChangeAt Go.RowKit
open Go.Proofs.YtbnkkgjkhpbgiaaGreatDoor.el2 Go.Proofs.YtbnkkgjkhpbgiaaGreatDoor.tx Go.Proofs.YtbnkkgjkhpbgiaaGreatDoor.seq Go.Proofs.YtbnkkgjkhpbgiaaGreatDoor.tv
open Go.Proofs.YtbnkkgjkhpbgiaaGreatDoor.vers (In in_yes in_no in_of in_off in_range ret_b new2 new3)
set_option linter.unusedVariables false
set_option linter.unusedSimpArgs false
set_option linter.constructorNameAsVariable false
/-! the first write of a key -/
def fndW (c : Int) : List E2 → Nat → Int
  | [], _ => -1
  | x :: r, k => if x.a = c then k else fndW c r (k + 1)
theorem drop_cons {l : List E2} {k : Nat} {x : E2} (h : l[k]? = some x) : l.drop k = x :: l.drop (k + 1) := by
  have hl := lt_of_some h
  rw [List.drop_eq_getElem_cons hl]
  rw [List.getElem?_eq_getElem hl] at h
  injection h with h
  rw [h]
theorem fnd_hit {l : List E2} {c : Int} {k : Nat} {x : E2} (h : fndW c l 0 = fndW c (l.drop k) k) (hx : l[k]? = some x) (hc : x.a = c) : (k : Int) = fndW c l 0 := by
  rw [h, drop_cons hx]
  simp [fndW, hc]
theorem fnd_step {l : List E2} {c : Int} {k : Nat} {x : E2} (h : fndW c l 0 = fndW c (l.drop k) k) (hx : l[k]? = some x) (hc : x.a ≠ c) : fndW c l 0 = fndW c (l.drop (k + 1)) (k + 1) := by
  rw [h, drop_cons hx]
  simp [fndW, hc]
theorem fnd_none {l : List E2} {c : Int} {k : Nat} (h : fndW c l 0 = fndW c (l.drop k) k) (hk : l.length ≤ k) : (-1 : Int) = fndW c l 0 := by
  rw [h, List.drop_eq_nil_of_le hk]
  rfl
/-! a mark among the reads -/
theorem guard_rm : Tryz.prog.eqGuardType Tryz.prog.depth 38 = false := by kernel_rfl
theorem held_rm : Tryz.prog.stoodInHeld 38 = false := by kernel_rfl
theorem fields_rm : Tryz.prog.underlying 38 = some (.struct (Tryz.prog.fieldsOf 38)) := by kernel_rfl
theorem eql_rm (x y : E2) (w : World) : (binOp .eql 38 (.agg #[.int .i64 x.a, .int .i64 x.b]) (.agg #[.int .i64 y.a, .int .i64 y.b])).run Tryz.prog w = .ok (.bool (decide (x = y))) w := by
  rw [run_eql_struct, run_equalIn_struct w 9999 38 _ _ fields_rm held_rm]
  have hu := Tryz.underlying38
  have hi := Tryz.underlying3
  simp only [Program.fieldsOf, hu]
  simp [Op.eqFields, go_sem, hi]
  by_cases h : x = y
  · subst h
    simp
  · have hd : x.a = y.a → x.b = y.b → False := fun h1 h2 => h (by cases x; cases y; simp_all)
    rw [decide_eq_false h]
    by_cases h1 : x.a = y.a
    · rw [if_pos h1]
      by_cases h2 : x.b = y.b
      · exact (hd h1 h2).elim
      · rw [if_neg h2]
    · rw [if_neg h1]
theorem eql_yes {x y : E2} (h : x = y) (w : World) : (binOp .eql 38 (.agg #[.int .i64 x.a, .int .i64 x.b]) (.agg #[.int .i64 y.a, .int .i64 y.b])).run Tryz.prog w = .ok (.bool true) w := by rw [eql_rm, decide_eq_true h]
theorem eql_no {x y : E2} (h : x ≠ y) (w : World) : (binOp .eql 38 (.agg #[.int .i64 x.a, .int .i64 x.b]) (.agg #[.int .i64 y.a, .int .i64 y.b])).run Tryz.prog w = .ok (.bool false) w := by rw [eql_rm, decide_eq_false h]
theorem ro_eq (n : Nat) : (((n : Nat) : Int) == 0) = (true && decide (n = 0)) := by rw [Bool.true_and, Bool.eq_iff_iff]; simp
def hasB (m : E2) (l : List E2) : Bool := decide (m ∈ l)
theorem has_hit {m x : E2} {l : List E2} {k : Nat} (hx : l[k]? = some x) (h : x = m) : hasB m l = true := decide_eq_true (by rw [← h]; exact List.mem_of_getElem? hx)
theorem has_step {m x : E2} {l : List E2} {k : Nat} (h : ∀ j y, j < k → l[j]? = some y → y ≠ m) (hx : l[k]? = some x) (hm : x ≠ m) : ∀ j y, j < k + 1 → l[j]? = some y → y ≠ m := by
  intro j y hj hy
  by_cases e : j = k
  · subst e; rw [hx] at hy; cases hy; exact hm
  · exact h j y (by omega) hy
theorem has_none {m : E2} {l : List E2} {n : Nat} (hn : l.length = n) (h : ∀ j y, j < n → l[j]? = some y → y ≠ m) : hasB m l = false := decide_eq_false (by
  intro hm
  obtain ⟨j, hj, e⟩ := List.getElem_of_mem hm
  exact h j m (by omega) (by rw [List.getElem?_eq_getElem hj, e]) rfl)
theorem Off1 {B : Nat} {w w' : World} (h : Below B w w') (n : Nat) : Below B w (w'.drewN n) := ⟨h.os, h.tape, h.output, h.size, h.block⟩
theorem TB.drewN {w : World} {b : Nat} {x : Hd} {u v : Value} (h : TB w b x u v) (n : Nat) : TB (w.drewN n) b x u v := h
theorem At.drewN {w : World} {b q : Nat} {x : E2} (h : At w b q x) (n : Nat) : At (w.drewN n) b q x := h
set_option maxRecDepth 100000 in
set_option maxHeartbeats 1600000 in
theorem spec_hasread {w : World} {B n c n2 c2 : Nat} {A A2 : Option Addr} {l l2 : List E2} (x : Hd) (m : E2) (hn : n ≤ 140737488355328) (hn2 : n2 ≤ 140737488355328) (h1 : Vs w B A n l) (h2 : Vs w B A2 n2 l2) (hB : B ≤ w.heap.size) :
    Calls Tryz.prog 15 #[.agg #[.int .i64 x.i, .int .i64 x.s, .int .i64 x.t, .int .i64 x.b, .int .i64 x.l, .int .i64 x.h, .int .i64 x.c, .slice A n c, .slice A2 n2 c2], .agg #[.int .i64 m.a, .int .i64 m.b]] w fun e w' => e = .returned (.bool (hasB m l)) ∧ Below w.heap.size w w' := by
  have H1 := Lib.hid h1
  have hln := h1.1
  have hg := guard_rm
  clear h1 h2
  go_enter Tryz.func15, Tryz.ntmps15
  go_wp2_with fail
  have hb := new2 w (.cells #[.int .i64 x.i, .int .i64 x.s, .int .i64 x.t, .int .i64 x.b, .int .i64 x.l, .int .i64 x.h, .int .i64 x.c, .slice A n c, .slice A2 n2 c2] 30) (.cells #[.int .i64 m.a, .int .i64 m.b] 38)
  have tb := (TB.new w x A n c A2 n2 c2 30).keep (by simp) (new1 _ (.cells #[.int .i64 m.a, .int .i64 m.b] 38))
  have mb := boxed (w.alloc (.cells #[.int .i64 x.i, .int .i64 x.s, .int .i64 x.t, .int .i64 x.b, .int .i64 x.l, .int .i64 x.h, .int .i64 x.c, .slice A n c, .slice A2 n2 c2] 30)) m 38
  rw [show (w.alloc _).heap.size = w.heap.size + 1 by simp] at mb
  have hs : w.heap.size + 1 < ((w.alloc (.cells #[.int .i64 x.i, .int .i64 x.s, .int .i64 x.t, .int .i64 x.b, .int .i64 x.l, .int .i64 x.h, .int .i64 x.c, .slice A n c, .slice A2 n2 c2] 30)).alloc (.cells #[.int .i64 m.a, .int .i64 m.b] 38)).heap.size := by simp
  generalize (w.alloc _).alloc _ = W0 at hb tb mb hs ⊢
  go_loopw [5] (fun i wr => ∃ k : Nat, k ≤ n ∧ i = .int .i64 k ∧ (∀ j y, j < k → l[j]? = some y → y ≠ m) ∧ Below w.heap.size w wr ∧ TB wr w.heap.size x (.slice A n c) (.slice A2 n2 c2) ∧ At wr (w.heap.size + 1) 0 m) (fun i _ => n - (intOf i).toNat)
  case atStart => exact ⟨0, by omega, rfl, fun j y h => absurd h (by omega), hb, tb, mb⟩
  case round =>
    clear hb tb mb hs
    obtain ⟨k, hk, rfl, hP, hb, tb, mb⟩ := hrel
    have HP := Lib.hid hP
    clear hP
    by_cases hlt : k < n
    · obtain ⟨b, o, y, rfl, hbB, hx, a0, a1⟩ := (H1.out.below (below_le hb hB)).at_ hlt
      have HX := Lib.hid hx
      have HB := Lib.hid hb
      have TW := Lib.hid tb
      have MW := Lib.hid mb
      obtain ⟨tc0, tc1, tc2, tc3, tc4, tc5, tc6, tc7, tc8⟩ := tb
      obtain ⟨m0, m1⟩ := atFlat mb
      clear hb hx tc0 tc1 tc2 tc3 tc4 tc5 tc6 tc8 mb
      by_cases hxy : y = m
      · have hnq := eql_yes hxy
        have HXY := Lib.hid hxy
        clear hxy
        go_wp2_with fail
        go_quiet (fail)
        clear hnq
        go_wp2_with fail
        go_ret
        exact ⟨ret_b (has_hit HX.out HXY.out).symm, Off1 HB.out _⟩
      · have hnq := eql_no hxy
        have HXY := Lib.hid hxy
        clear hxy
        go_wp2_with fail
        go_quiet (fail)
        clear hnq
        go_wp2_with fail
        go_roundw
        case rel => exact ⟨k + 1, by omega, by go_num, has_step HP.out HX.out HXY.out, Off1 HB.out _, TW.out, MW.out⟩
        case measure => simp [intOf]; omega
    · have HB := Lib.hid hb
      obtain ⟨tc0, tc1, tc2, tc3, tc4, tc5, tc6, tc7, tc8⟩ := tb
      clear hb tc0 tc1 tc2 tc3 tc4 tc5 tc6 tc8 mb
      obtain rfl : n = k := by omega
      go_wp2_with fail
      go_ret
      exact ⟨ret_b (has_none hln HP.out).symm, HB.out⟩
end Go.Proofs.YtbnkkgjkhpbgiaaGreatDoor.tf
