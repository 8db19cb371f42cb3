/- Chapter 6: the store's version of a read, ReadsExist of the program and of the model: what each answers; nothing that was there is written. -/
import Derived.Test.YtjnlbhmddhpmaaaGreatTf
import Derived.Test.YtjnlbhmddhpmaaaGreatTvs
import Derived.Test.YtjnlbhmddhpmaaaGreatVal
import Derived.Test.YtjnlbhmddhpmaaaGreatFind
namespace Go.Proofs.YtjnlbhmddhpmaaaGreat.rx
open Go.ChangeShapes Go.WideShapes Go.ChangeAt Go.RowKit
open Go.Proofs.YtjnlbhmddhpmaaaGreat.el2 Go.Proofs.YtjnlbhmddhpmaaaGreat.tx Go.Proofs.YtjnlbhmddhpmaaaGreat.seq Go.Proofs.YtjnlbhmddhpmaaaGreat.tv Go.Proofs.YtjnlbhmddhpmaaaGreat.tf
open Go.Proofs.YtjnlbhmddhpmaaaGreat.vers (new2)
open Go.Proofs.YtjnlbhmddhpmaaaGreat.sl (Ver)
open Go.Proofs.YtjnlbhmddhpmaaaGreat.st (Rs)
open Go.Proofs.YtjnlbhmddhpmaaaGreat.val (stB)
open Go.Proofs.YtjnlbhmddhpmaaaGreat.find (fndI)
set_option linter.unusedVariables false
set_option linter.unusedSimpArgs false
/-- the chain of a key -/
def chOf (C : List (List Ver)) (k : Int) : List Ver := C.getD k.toNat []
def hasV (C : List (List Ver)) (m : E2) : Bool := decide (0 ≤ fndI m.b (chOf C m.a) 0)
noncomputable def rexB (C : List (List Ver)) (x : Hd) (R S : List E2) : Bool := stB C && txB x R S && R.all (hasV C)
theorem rex_st {C : List (List Ver)} {x : Hd} {R S : List E2} (h : stB C = false) : rexB C x R S = false := by simp [rexB, h]
theorem rex_tx {C : List (List Ver)} {x : Hd} {R S : List E2} (h : txB x R S = false) : rexB C x R S = false := by simp [rexB, h]
theorem rex_all {C : List (List Ver)} {x : Hd} {R S : List E2} (hs : stB C = true) (ht : txB x R S = true) : rexB C x R S = R.all (hasV C) := by simp [rexB, hs, ht]
theorem rex_parts {C : List (List Ver)} {x : Hd} {R S : List E2} (h : rexB C x R S = true) : stB C = true ∧ txB x R S = true ∧ R.all (hasV C) = true := by
  simp only [rexB, Bool.and_eq_true] at h
  exact ⟨h.1.1, h.1.2, h.2⟩
theorem all_bad {p : E2 → Bool} {l : List E2} {k : Nat} {y : E2} (hx : l[k]? = some y) (h : p y = false) : l.all p = false := by
  rw [List.all_eq_false]
  exact ⟨y, List.mem_of_getElem? hx, by rw [h]; exact Bool.false_ne_true⟩
theorem all_good {p : E2 → Bool} {l : List E2} {n : Nat} (hn : l.length = n) (h : ∀ (j : Nat) (y : E2), j < n → l[j]? = some y → p y = true) : l.all p = true := by
  rw [List.all_eq_true]
  intro y hy
  obtain ⟨j, hj, rfl⟩ := List.getElem_of_mem hy
  exact h j _ (by omega) (List.getElem?_eq_getElem hj)
theorem all_at {p : E2 → Bool} {l : List E2} {k : Nat} {y : E2} (h : l.all p = true) (hx : l[k]? = some y) : p y = true := by
  rw [List.all_eq_true] at h
  exact h y (List.mem_of_getElem? hx)
theorem all_step {p : E2 → Bool} {l : List E2} {k : Nat} {x : E2} (h : ∀ (j : Nat) (y : E2), j < k → l[j]? = some y → p y = true) (hx : l[k]? = some x) (hp : p x = true) : ∀ (j : Nat) (y : E2), j < k + 1 → l[j]? = some y → p y = true := by
  intro j y hj hy
  by_cases e : j = k
  · subst e
    rw [hx] at hy
    injection hy with hy
    rw [← hy]; exact hp
  · exact h j y (by omega) hy
/-- a read of a valid transaction names a key -/
theorem rd_ok {l : List E2} {k : Nat} {m : E2} (h : rdB l = true) (hx : l[k]? = some m) : okR m = true := by
  simp only [rdB, Bool.and_eq_true] at h
  exact (sq_of h.2).1 k m hx
theorem tx_rd {x : Hd} {R S : List E2} (h : txB x R S = true) : rdB R = true := by
  simp only [txB, Bool.and_eq_true] at h
  exact h.1.2
theorem okR_key {m : E2} (h : okR m = true) : 0 ≤ m.a ∧ m.a ≤ 5 := by
  simp only [okR, vers.In, Bool.and_eq_true, decide_eq_true_eq] at h
  exact h.1
theorem key_of {x : Hd} {R S : List E2} {k : Nat} {m : E2} (h : txB x R S = true) (hx : R[k]? = some m) : 0 ≤ m.a ∧ m.a ≤ 5 := okR_key (rd_ok (tx_rd h) hx)
theorem fnd_range (c : Int) (l : List Ver) (k : Nat) : fndI c l k = -1 ∨ ((k : Int) ≤ fndI c l k ∧ fndI c l k < k + l.length) := by
  induction l generalizing k with
  | nil => left; rfl
  | cons x r ih =>
    unfold fndI
    split
    · right
      refine ⟨by omega, ?_⟩
      simp
      omega
    · rcases ih (k + 1) with h | ⟨h1, h2⟩
      · left; exact h
      · right
        refine ⟨by omega, ?_⟩
        simp only [List.length_cons]
        omega
theorem fnd_lt {c : Int} {l : List Ver} (h : 0 ≤ fndI c l 0) : ∃ j : Nat, fndI c l 0 = j ∧ j < l.length := by
  rcases fnd_range c l 0 with e | ⟨h1, h2⟩
  · omega
  · exact ⟨(fndI c l 0).toNat, by omega, by omega⟩
theorem ch_at {C : List (List Ver)} {k : Int} {l : List Ver} (h : C[k.toNat]? = some l) : chOf C k = l := by simp [chOf, List.getD, h]
/-- the version that a mark names -/
noncomputable def verOf (C : List (List Ver)) (m : E2) : Ver := (chOf C m.a).getD (fndI m.b (chOf C m.a) 0).toNat default
theorem ver_at {C : List (List Ver)} {m : E2} {l : List Ver} {j : Nat} {v : Ver} (h : C[m.a.toNat]? = some l) (hj : fndI m.b l 0 = j) (hv : l[j]? = some v) : verOf C m = v := by
  unfold verOf
  rw [ch_at h, hj]
  simp [List.getD, hv]
theorem has_at {C : List (List Ver)} {m : E2} {l : List Ver} (h : C[m.a.toNat]? = some l) {z : Int} (hz : fndI m.b l 0 = z) {q : Bool} (hq : decide (0 ≤ z) = q) : hasV C m = q := by
  unfold hasV
  rw [ch_at h, hz, hq]
/-- a box of a store and a box of a transaction behind it, in a world that holds what was there -/
structure LS (w : World) (sv : Value) (x : Hd) (u v : Value) (W : World) : Prop where
  bel : Below w.heap.size w W
  size : w.heap.size + 2 ≤ W.heap.size
  st : W.cell? ⟨w.heap.size, 0, none⟩ = some sv
  tb : TB W (w.heap.size + 1) x u v
section
variable {w W W' : World} {sv u v : Value} {x : Hd}
theorem LS.mk2 (w : World) (sv : Value) (s t : TypeId) (x : Hd) (A : Option Addr) (n c : Nat) (A2 : Option Addr) (n2 c2 : Nat) : LS w sv x (.slice A n c) (.slice A2 n2 c2) ((w.alloc (.cells #[sv] s)).alloc (.cells #[.int .i64 x.i, .int .i64 x.s, .int .i64 x.t, .int .i64 x.b, .int .i64 x.l, .int .i64 x.h, .int .i64 x.c, .slice A n c, .slice A2 n2 c2] t)) where
  bel := new2 _ _ _
  size := by simp
  st := st.up _ (st.one_cell w sv s) (by simp)
  tb := by have := TB.new (w.alloc (.cells #[sv] s)) x A n c A2 n2 c2 t; simpa using this
theorem LS.call (h : LS w sv x u v W) (hb : Below W.heap.size W W') : LS w sv x u v W' where
  bel := h.bel.trans (hb.mono h.bel.size)
  size := Nat.le_trans h.size hb.size
  st := (hb.cell (p := ⟨w.heap.size, 0, none⟩) (by have := h.size; simp; omega)).trans h.st
  tb := h.tb.keep (by have := h.size; omega) hb
theorem LS.drewN (h : LS w sv x u v W) (n : Nat) : LS w sv x u v (W.drewN n) := ⟨Off1 h.bel n, h.size, h.st, TB.drewN h.tb n⟩
end
set_option maxRecDepth 100000 in
set_option maxHeartbeats 800000 in
theorem spec_findq {w : World} {B n cap : Nat} {A : Option Addr} {l : List Ver} {z : Int} (c : Int) (hz : fndI c l 0 = z) (hn : n ≤ 140737488355328) (h1 : Go.Proofs.YtjnlbhmddhpmaaaGreat.sl.Vs w B A n l) :
    Calls Tryz.prog 39 #[.slice A n cap, .int .i64 c] w fun e w' => e = .returned (.int .i64 z) ∧ w = w' := by
  have H1 := Lib.hid h1
  clear h1
  subst hz
  go_enter Tryz.func39, Tryz.ntmps39
  go_wp2
  go_loopw [5] (fun i wr => ∃ k : Nat, k ≤ n ∧ i = .int .i64 k ∧ fndI c l 0 = fndI c (l.drop k) k ∧ w = wr) (fun i _ => n - (intOf i).toNat)
  case atStart => exact ⟨0, by omega, rfl, rfl, rfl⟩
  case round =>
    obtain ⟨k, hk, rfl, hP, rfl⟩ := hrel
    have HP := Lib.hid hP
    clear hP
    by_cases hlt : k < n
    · obtain ⟨b, o, x, rfl, hbB, hx, a0, a1, a2, a3, a4⟩ := H1.out.at_ hlt
      have HX := Lib.hid hx
      clear hx
      by_cases hc : x.c = c
      · have t : (x.c == c) = true := by simpa using hc
        have HC := Lib.hid hc
        clear hc
        go_wp2_with fail
        go_ret
        exact ⟨find.ret_int (find.fnd_hit HP.out HX.out HC.out), rfl⟩
      · have t : (x.c == c) = false := by simpa using hc
        have HC := Lib.hid hc
        clear hc
        go_wp2_with fail
        go_roundw
        case rel => exact ⟨k + 1, by omega, by go_num, find.fnd_step HP.out HX.out HC.out, by first | rfl | trivial⟩
        case measure => simp [intOf]; omega
    · go_wp2_with fail
      go_ret
      exact ⟨find.ret_int (find.fnd_none HP.out (by have := H1.out.1; omega)), rfl⟩
set_option maxRecDepth 100000 in
set_option maxHeartbeats 3200000 in
theorem spec_rex0 {w : World} {B n c n2 c2 N cN : Nat} {A A2 D : Option Addr} {R S : List E2} {C : List (List Ver)} (x : Hd) (hn : n ≤ 140737488355328) (hn2 : n2 ≤ 140737488355328) (hN : N ≤ 140737488355328) (h1 : Vs w B A n R) (h2 : Vs w B A2 n2 S) (h3 : Rs w B D N C) (hB : B ≤ w.heap.size) (hst : stB C = false) :
    Calls Tryz.prog 19 #[.agg #[.slice D N cN], .agg #[.int .i64 x.i, .int .i64 x.s, .int .i64 x.t, .int .i64 x.b, .int .i64 x.l, .int .i64 x.h, .int .i64 x.c, .slice A n c, .slice A2 n2 c2]] w fun e w' => e = .returned (.bool (rexB C x R S)) ∧ Below w.heap.size w w' := by
  have H1 := Lib.hid h1
  have H2 := Lib.hid h2
  have H3 := Lib.hid h3
  have hln := h1.1
  clear h1 h2 h3
  rw [rex_st hst]
  have HST := Lib.hid hst
  clear hst
  go_enter Tryz.func19, Tryz.ntmps19
  go_wp2_with fail
  have hL := LS.mk2 w (.slice D N cN) 34 55 x A n c A2 n2 c2
  generalize ((w.alloc _).alloc _) = W0 at hL ⊢
  have L0 := Lib.hid hL
  have c0 := hL.st
  clear hL
  go_wp2_with fail
  refine (val.spec_store hN (H3.out.below (below_le L0.out.bel hB)) (by have := L0.out.size; omega)).mono ?_
  rintro e W1 ⟨rfl, hb⟩
  rw [HST.out]
  have L1 := Lib.hid (L0.out.call hb)
  clear hb c0
  go_wp2_with fail
  go_ret
  exact ⟨rfl, L1.out.bel⟩
set_option maxRecDepth 100000 in
set_option maxHeartbeats 3200000 in
theorem spec_rex1 {w : World} {B n c n2 c2 N cN : Nat} {A A2 D : Option Addr} {R S : List E2} {C : List (List Ver)} (x : Hd) (hn : n ≤ 140737488355328) (hn2 : n2 ≤ 140737488355328) (hN : N ≤ 140737488355328) (h1 : Vs w B A n R) (h2 : Vs w B A2 n2 S) (h3 : Rs w B D N C) (hB : B ≤ w.heap.size) (hst : stB C = true) (htx : txB x R S = false) :
    Calls Tryz.prog 19 #[.agg #[.slice D N cN], .agg #[.int .i64 x.i, .int .i64 x.s, .int .i64 x.t, .int .i64 x.b, .int .i64 x.l, .int .i64 x.h, .int .i64 x.c, .slice A n c, .slice A2 n2 c2]] w fun e w' => e = .returned (.bool (rexB C x R S)) ∧ Below w.heap.size w w' := by
  have H1 := Lib.hid h1
  have H2 := Lib.hid h2
  have H3 := Lib.hid h3
  have hln := h1.1
  clear h1 h2 h3
  rw [rex_tx htx]
  have HST := Lib.hid hst
  have HTX := Lib.hid htx
  clear hst htx
  go_enter Tryz.func19, Tryz.ntmps19
  go_wp2_with fail
  have hL := LS.mk2 w (.slice D N cN) 34 55 x A n c A2 n2 c2
  generalize ((w.alloc _).alloc _) = W0 at hL ⊢
  have L0 := Lib.hid hL
  have c0 := hL.st
  clear hL
  go_wp2_with fail
  refine (val.spec_store hN (H3.out.below (below_le L0.out.bel hB)) (by have := L0.out.size; omega)).mono ?_
  rintro e W1 ⟨rfl, hb⟩
  rw [HST.out]
  have L1 := Lib.hid (L0.out.call hb)
  have tb := L1.out.tb
  obtain ⟨t0, t1, t2, t3, t4, t5, t6, t7, t8⟩ := tb
  clear hb c0
  go_wp2_with fail
  refine (tvs.spec_tx x hn hn2 (H1.out.below (below_le L1.out.bel hB)) (H2.out.below (below_le L1.out.bel hB)) (by have := L1.out.size; omega)).mono ?_
  rintro e W2 ⟨rfl, hb⟩
  rw [HTX.out]
  have L2 := Lib.hid (L1.out.call hb)
  clear hb t0 t1 t2 t3 t4 t5 t6 t7 t8
  go_wp2_with fail
  go_ret
  exact ⟨rfl, L2.out.bel⟩
end Go.Proofs.YtjnlbhmddhpmaaaGreat.rx
