/- checkRoom of the program, MayCommit of the program and of the model: what each answers; nothing that was there is written. -/
import Derived.Test.YthbbpfgjbidbhaaGreatDoorBx
import Derived.Test.YthbbpfgjbidbhaaGreatDoorRx
import Derived.Test.YthbbpfgjbidbhaaGreatDoorXga
import Derived.Test.YthbbpfgjbidbhaaGreatDoorCl
import Derived.Test.YthbbpfgjbidbhaaGreatDoorAo
import Derived.Test.YthbbpfgjbidbhaaGreatDoorTv
import Derived.Test.YthbbpfgjbidbhaaGreatDoorTvs
import Derived.Deep.RegionHeld3
/- A box of a mark that is written; the boxes of a store, of a transaction and of a mark. -/
namespace Go.Proofs.YthbbpfgjbidbhaaGreatDoor.mx
open Go.ChangeShapes Go.WideShapes Go.ChangeAt Go.RowKit
open Go.Proofs.YthbbpfgjbidbhaaGreatDoor.el2 Go.Proofs.YthbbpfgjbidbhaaGreatDoor.tx Go.Proofs.YthbbpfgjbidbhaaGreatDoor.bx Go.Proofs.YthbbpfgjbidbhaaGreatDoor.rx
open Go.Proofs.YthbbpfgjbidbhaaGreatDoor.vers (new2 new3)
open Go.Proofs.YthbbpfgjbidbhaaGreatDoor.sl (Ver)
open Go.Proofs.YthbbpfgjbidbhaaGreatDoor.st (Rs)
set_option linter.unusedVariables false
set_option linter.unusedSimpArgs false
/-- a box of a mark -/
def Mx (w : World) (b : Nat) (m : E2) : Prop := ∃ f, w.rowIs b 78 2 f ∧ f 0 = .int .i64 m.a ∧ f 1 = .int .i64 m.b
section
variable {w w' : World} {b : Nat} {x y : E2}
theorem Mx.cells (h : Mx w b x) : w.cell? ⟨b, 0, none⟩ = some (.int .i64 x.a) ∧ w.cell? ⟨b, 1, none⟩ = some (.int .i64 x.b) := by
  obtain ⟨f, hf, h0, h1⟩ := h
  exact ⟨(hf.cell (show 0 < 2 by decide)).trans (by rw [h0]), (hf.cell (show 1 < 2 by decide)).trans (by rw [h1])⟩
theorem Mx.fz (h : Mx w b x) (i : Nat) : w.frozen? ⟨b, i, none⟩ = false := by obtain ⟨f, hf, _⟩ := h; exact hf.frozen i
theorem Mx.lt (h : Mx w b x) : b < w.heap.size := by obtain ⟨f, hf, _⟩ := h; exact hf.lt
theorem Mx.of_block (h : Mx w b x) (hk : w'.heap[b]? = w.heap[b]?) : Mx w' b x := by obtain ⟨f, hf, hr⟩ := h; exact ⟨f, hf.of_block hk, hr⟩
theorem Mx.new (w : World) (x : E2) : Mx (w.alloc (.cells #[.int .i64 x.a, .int .i64 x.b] 78)) w.heap.size x :=
  ⟨fun i => if i = 0 then .int .i64 x.a else .int .i64 x.b, World.rowIs_alloc w #[.int .i64 x.a, .int .i64 x.b] 78 _ (fun i hi => by
    have : i = 0 ∨ i = 1 := by simp at hi; omega
    rcases this with rfl | rfl <;> rfl), rfl, rfl⟩
theorem Mx.zero (w : World) : Mx (w.alloc (.cells #[.int .i64 0, .int .i64 0] 78)) w.heap.size ⟨0, 0⟩ := Mx.new w ⟨0, 0⟩
theorem Mx.put (h : Mx w b y) (x : E2) : Mx (World.setCell (World.setCell w ⟨b, 0, none⟩ (.int .i64 x.a)) ⟨b, 1, none⟩ (.int .i64 x.b)) b x := by
  obtain ⟨f, hf, _⟩ := h
  exact ⟨_, (hf.set 0 (.int .i64 x.a)).set 1 (.int .i64 x.b), rfl, rfl⟩
theorem off2 (V : World) (bb : Nat) (v0 v1 : Value) : Off bb V (World.setCell (World.setCell V ⟨bb, 0, none⟩ v0) ⟨bb, 1, none⟩ v1) :=
  ((Off.refl bb V).setCell (p := ⟨bb, 0, none⟩) rfl _).setCell (p := ⟨bb, 1, none⟩) rfl _
/-- writing a block that is new since the start -/
theorem bel_off {w0 W W' : World} {q : Nat} (h : Below w0.heap.size w0 W) (ho : Off q W W') (hq : w0.heap.size ≤ q) : Below w0.heap.size w0 W' := h.trans (ho.below hq)
theorem Mx.keep {B : Nat} (h : Mx w b x) (hb : Below B w w') (hB : b < B) : Mx w' b x := h.of_block (hb.block b hB)
end
/-- the boxes of a store, of a transaction and of a mark -/
structure LM (w : World) (sv : Value) (x : Hd) (u1 u2 : Value) (m : E2) (W : World) : Prop where
  ls : LS w sv x u1 u2 W
  size : w.heap.size + 3 ≤ W.heap.size
  rb : Mx W (w.heap.size + 2) m
section
variable {w W W' : World} {x : Hd} {u1 u2 sv : Value} {m m' : E2}
theorem LS.keep {w W W' : World} {x : Hd} {u1 u2 sv : Value} (h : LS w sv x u1 u2 W) (hb : Below (w.heap.size + 2) W W') : LS w sv x u1 u2 W' :=
  ⟨h.bel.trans (hb.mono (by omega)), Nat.le_trans h.size hb.size, (hb.cell (p := ⟨w.heap.size, 0, none⟩) (by simp only; omega)).trans h.st, h.tb.keep (by omega) hb⟩
theorem LM.keep (h : LM w sv x u1 u2 m W) (hb : Below (w.heap.size + 3) W W') : LM w sv x u1 u2 m W' :=
  ⟨LS.keep h.ls (hb.mono (by omega)), Nat.le_trans h.size hb.size, h.rb.keep hb (by omega)⟩
theorem LM.call (h : LM w sv x u1 u2 m W) (hb : Below W.heap.size W W') : LM w sv x u1 u2 m W' := h.keep (below_le hb h.size)
theorem LM.put (h : LM w sv x u1 u2 m W) (m' : E2) : LM w sv x u1 u2 m' (World.setCell (World.setCell W ⟨w.heap.size + 2, 0, none⟩ (.int .i64 m'.a)) ⟨w.heap.size + 2, 1, none⟩ (.int .i64 m'.b)) :=
  have ho := off2 W (w.heap.size + 2) (.int .i64 m'.a) (.int .i64 m'.b)
  ⟨LS.keep h.ls (ho.below (Nat.le_refl _)), by rw [ho.size]; exact h.size, h.rb.put m'⟩
theorem LM.drew (h : LM w sv x u1 u2 m W) : LM w sv x u1 u2 m W.drew := h.call ((Below.refl _ _).drew)
end
theorem LM.mk3 (w : World) (x : Hd) (A A2 D : Option Addr) (n c n2 c2 N cN : Nat) : LM w (.slice D N cN) x (.slice A n c) (.slice A2 n2 c2) ⟨0, 0⟩ (((w.alloc (.cells #[.slice D N cN] 33)).alloc (.cells #[.int .i64 x.i, .int .i64 x.s, .int .i64 x.t, .int .i64 x.b, .int .i64 x.l, .int .i64 x.h, .int .i64 x.c, .slice A n c, .slice A2 n2 c2] 37)).alloc (.cells #[.int .i64 0, .int .i64 0] 78)) where
  ls := (LS.mk2 w (.slice D N cN) 33 37 x A n c A2 n2 c2).call (new1 _ _)
  size := by simp
  rb := by
    have h := Mx.zero ((w.alloc (.cells #[.slice D N cN] 33)).alloc (.cells #[.int .i64 x.i, .int .i64 x.s, .int .i64 x.t, .int .i64 x.b, .int .i64 x.l, .int .i64 x.h, .int .i64 x.c, .slice A n c, .slice A2 n2 c2] 37))
    rw [show ((w.alloc (.cells #[.slice D N cN] 33)).alloc (.cells #[.int .i64 x.i, .int .i64 x.s, .int .i64 x.t, .int .i64 x.b, .int .i64 x.l, .int .i64 x.h, .int .i64 x.c, .slice A n c, .slice A2 n2 c2] 37)).heap.size = w.heap.size + 2 by simp] at h
    exact h
end Go.Proofs.YthbbpfgjbidbhaaGreatDoor.mx
/- StaleReads of the model: what it answers, in memory of its own. -/
namespace Go.Proofs.YthbbpfgjbidbhaaGreatDoor.ss
open Go.ChangeShapes Go.WideShapes Go.ChangeAt Go.RowKit
open Go.Proofs.YthbbpfgjbidbhaaGreatDoor.el2 Go.Proofs.YthbbpfgjbidbhaaGreatDoor.tx Go.Proofs.YthbbpfgjbidbhaaGreatDoor.seq Go.Proofs.YthbbpfgjbidbhaaGreatDoor.tv Go.Proofs.YthbbpfgjbidbhaaGreatDoor.tf Go.Proofs.YthbbpfgjbidbhaaGreatDoor.rx Go.Proofs.YthbbpfgjbidbhaaGreatDoor.ri Go.Proofs.YthbbpfgjbidbhaaGreatDoor.ap Go.Proofs.YthbbpfgjbidbhaaGreatDoor.bx Go.Proofs.YthbbpfgjbidbhaaGreatDoor.cl
open Go.Proofs.YthbbpfgjbidbhaaGreatDoor.vers (new2)
open Go.Proofs.YthbbpfgjbidbhaaGreatDoor.sl (Ver)
open Go.Proofs.YthbbpfgjbidbhaaGreatDoor.st (Rs)
open Go.Proofs.YthbbpfgjbidbhaaGreatDoor.val (stB)
open Go.Proofs.YthbbpfgjbidbhaaGreatDoor.find (fndI)
set_option linter.unusedVariables false
set_option linter.unusedSimpArgs false
/-- a read is stale: its version has a successor -/
noncomputable def stP (C : List (List Ver)) (m : E2) : Bool := decide ((verOf C m).e < 1000)
noncomputable def staleK (C : List (List Ver)) (R : List E2) (k : Nat) : List E2 := (R.take k).filter (stP C)
noncomputable def staleL (C : List (List Ver)) (x : Hd) (R S : List E2) : List E2 := if rexB C x R S = true then R.filter (stP C) else []
theorem stale_zero (C : List (List Ver)) (R : List E2) : staleK C R 0 = [] := by simp [staleK]
theorem stale_hit {C : List (List Ver)} {R : List E2} {k : Nat} {y : E2} {v : Ver} (hx : R[k]? = some y) (hv : verOf C y = v) (h : v.e < 1000) : staleK C R (k + 1) = staleK C R k ++ [y] := by
  unfold staleK
  rw [List.take_add_one, hx]
  simp [stP, hv, h]
theorem stale_miss {C : List (List Ver)} {R : List E2} {k : Nat} {y : E2} {v : Ver} (hx : R[k]? = some y) (hv : verOf C y = v) (h : ¬ v.e < 1000) : staleK C R (k + 1) = staleK C R k := by
  unfold staleK
  rw [List.take_add_one, hx]
  simp [stP, hv]
  omega
theorem stale_len (C : List (List Ver)) (R : List E2) (k : Nat) : (staleK C R k).length ≤ R.length := by
  unfold staleK
  refine Nat.le_trans (List.length_filter_le _ _) ?_
  rw [List.length_take]
  omega
theorem staleL_len (C : List (List Ver)) (x : Hd) (R S : List E2) : (staleL C x R S).length ≤ R.length := by
  unfold staleL
  split
  · exact List.length_filter_le _ _
  · simp
theorem stale_no {C : List (List Ver)} {x : Hd} {R S : List E2} {k : Nat} (h : rexB C x R S = false) (hk : 0 < k → rexB C x R S = true) : staleK C R k = staleL C x R S := by
  rcases Nat.eq_zero_or_pos k with h0 | h0
  · subst h0; simp [staleL, h, stale_zero]
  · rw [hk h0] at h; cases h
theorem stale_end {C : List (List Ver)} {x : Hd} {R S : List E2} {n : Nat} (hn : R.length = n) (hk : 0 < n → rexB C x R S = true) : staleK C R n = staleL C x R S := by
  rcases Nat.eq_zero_or_pos n with h0 | h0
  · subst h0
    obtain rfl : R = [] := List.eq_nil_of_length_eq_zero hn
    simp [staleK, staleL]
  · unfold staleL
    rw [if_pos (hk h0), staleK, List.take_of_length_le (by omega)]
theorem ls_grown {w W W' : World} {sv u v : Value} {x : Hd} (h : LS w sv x u v W) (hb : Below (w.heap.size + 1 + 1) W W') : LS w sv x u v W' where
  bel := h.bel.trans (hb.mono (by omega))
  size := Nat.le_trans h.size hb.size
  st := (hb.cell (p := ⟨w.heap.size, 0, none⟩) (by simp only; omega)).trans h.st
  tb := h.tb.keep (by omega) hb
theorem ret_s {A : Option Addr} {m m' c : Nat} (h : m = m') : Ending.returned (.slice A m c) = .returned (.slice A m' c) := by rw [h]
end Go.Proofs.YthbbpfgjbidbhaaGreatDoor.ss
/- OverwrittenVersions of the program and of the model: what each answers, in memory of its own. -/
namespace Go.Proofs.YthbbpfgjbidbhaaGreatDoor.ov
open Go.ChangeShapes Go.WideShapes Go.ChangeAt Go.RowKit
open Go.Proofs.YthbbpfgjbidbhaaGreatDoor.el2 Go.Proofs.YthbbpfgjbidbhaaGreatDoor.tx Go.Proofs.YthbbpfgjbidbhaaGreatDoor.seq Go.Proofs.YthbbpfgjbidbhaaGreatDoor.tv Go.Proofs.YthbbpfgjbidbhaaGreatDoor.tf Go.Proofs.YthbbpfgjbidbhaaGreatDoor.rx Go.Proofs.YthbbpfgjbidbhaaGreatDoor.ri Go.Proofs.YthbbpfgjbidbhaaGreatDoor.ap Go.Proofs.YthbbpfgjbidbhaaGreatDoor.bx Go.Proofs.YthbbpfgjbidbhaaGreatDoor.cl Go.Proofs.YthbbpfgjbidbhaaGreatDoor.rl Go.Proofs.YthbbpfgjbidbhaaGreatDoor.ss Go.Proofs.YthbbpfgjbidbhaaGreatDoor.ao
open Go.Proofs.YthbbpfgjbidbhaaGreatDoor.vers (new2)
open Go.Proofs.YthbbpfgjbidbhaaGreatDoor.sl (Ver)
open Go.Proofs.YthbbpfgjbidbhaaGreatDoor.st (Rs)
open Go.Proofs.YthbbpfgjbidbhaaGreatDoor.val (stB)
set_option linter.unusedVariables false
set_option linter.unusedSimpArgs false
/-- the mark of a write: its key, the creation of the key's latest version -/
noncomputable def ovM (C : List (List Ver)) (m : E2) : E2 := ⟨m.a, (latOf C m).c⟩
noncomputable def ovK (C : List (List Ver)) (S : List E2) (k : Nat) : List E2 := (S.take k).map (ovM C)
noncomputable def ovL (C : List (List Ver)) (x : Hd) (R S : List E2) : List E2 := if bothB C x R S = true then S.map (ovM C) else []
theorem ovL_len (C : List (List Ver)) (x : Hd) (R S : List E2) : (ovL C x R S).length ≤ S.length := by unfold ovL; split <;> simp
theorem ovK_len {C : List (List Ver)} {S : List E2} {k : Nat} (h : k ≤ S.length) : (ovK C S k).length = k := by simp [ovK, List.length_take]; omega
theorem ovK_step {C : List (List Ver)} {S : List E2} {k : Nat} {y : E2} {z : Ver} (hx : S[k]? = some y) (hz : latOf C y = z) : ovK C S k ++ [⟨y.a, z.c⟩] = ovK C S (k + 1) := by
  unfold ovK
  rw [List.take_add_one, hx, ← hz]
  simp [ovM]
theorem ov_end {C : List (List Ver)} {x : Hd} {R S : List E2} {n : Nat} (hn : S.length = n) (hk : 0 < n → bothB C x R S = true) : ovK C S n = ovL C x R S := by
  rcases Nat.eq_zero_or_pos n with h0 | h0
  · subst h0
    obtain rfl : S = [] := List.eq_nil_of_length_eq_zero hn
    simp [ovL, ovK]
  · unfold ovK ovL
    rw [if_pos (hk h0), List.take_of_length_le (by omega)]
theorem ov_no {C : List (List Ver)} {x : Hd} {R S : List E2} {k : Nat} (h : bothB C x R S = false) (hk : 0 < k → bothB C x R S = true) : ovK C S k = ovL C x R S := by
  rcases Nat.eq_zero_or_pos k with h0 | h0
  · subst h0; simp [ovL, ovK, h]
  · rw [hk h0] at h; cases h
theorem ovL_no {C : List (List Ver)} {x : Hd} {R S : List E2} (h : bothB C x R S = false) : ovL C x R S = [] := by simp [ovL, h]
set_option maxRecDepth 100000 in
set_option maxHeartbeats 3200000 in
theorem impl_ov {w : World} {B n c n2 c2 N cN : Nat} {A A2 D : Option Addr} {R S : List E2} {C : List (List Ver)} (x : Hd) (hn : n ≤ 2097152) (hn2 : n2 ≤ 2097152) (hN : N ≤ 2097152) (h1 : Vs w B A n R) (h2 : Vs w B A2 n2 S) (h3 : Rs w B D N C) (hB : B ≤ w.heap.size) :
    Calls Tryz.prog 85 #[.agg #[.slice D N cN], .agg #[.int .i64 x.i, .int .i64 x.s, .int .i64 x.t, .int .i64 x.b, .int .i64 x.l, .int .i64 x.h, .int .i64 x.c, .slice A n c, .slice A2 n2 c2]] w fun e w' => ∃ A' c', e = .returned (.slice A' (ovL C x R S).length c') ∧ w'.ownsRow w.heap.size 78 2 (.slice A' (ovL C x R S).length c') (ovL C x R S).length (flat (ovL C x R S)) ∧ Below w.heap.size w w' := by
  have H1 := Lib.hid h1
  have H2 := Lib.hid h2
  have H3 := Lib.hid h3
  have hln := h1.1
  have hln2 := h2.1
  clear h1 h2 h3
  go_enter Tryz.func85, Tryz.ntmps85
  go_wp2_with fail
  have hL := LS.mk2 w (.slice D N cN) 33 37 x A n c A2 n2 c2
  generalize ((w.alloc _).alloc _) = W0 at hL ⊢
  have L0 := Lib.hid hL
  have c0 := hL.st
  clear hL
  go_wp2_with fail
  refine (val.impl_store (by omega) (H3.out.below (below_le L0.out.bel hB)) (by have := L0.out.size; omega)).mono ?_
  rintro e W1 ⟨rfl, hb⟩
  have L1 := Lib.hid (L0.out.call hb)
  clear hb c0
  rcases hst : stB C with _ | _
  · have HE := Lib.hid (no_st (x := x) (R := R) (S := S) hst)
    clear hst
    go_wp2_with fail
    go_ret
    rw [ovL_no HE.out]
    exact ⟨_, _, rfl, World.ownsRow_nil _ _ _ _, L1.out.bel⟩
  obtain ⟨t0, t1, t2, t3, t4, t5, t6, t7, t8⟩ := L1.out.tb
  have HST := Lib.hid hst
  clear hst
  go_wp2_with fail
  refine (impl_tx x (by omega) (by omega) (H1.out.below (below_le L1.out.bel hB)) (H2.out.below (below_le L1.out.bel hB)) (by have := L1.out.size; omega)).mono ?_
  rintro e W2 ⟨rfl, hb⟩
  have L2 := Lib.hid (L1.out.call hb)
  clear hb t0 t1 t2 t3 t4 t5 t6 t7 t8
  rcases htx : txB x R S with _ | _
  · have HE := Lib.hid (no_tx (C := C) htx)
    clear htx
    go_wp2_with fail
    go_ret
    rw [ovL_no HE.out]
    exact ⟨_, _, rfl, World.ownsRow_nil _ _ _ _, L2.out.bel⟩
  have HTX := Lib.hid htx
  clear htx
  obtain ⟨t0, t1, t2, t3, t4, t5, t6, t7, t8⟩ := L2.out.tb
  have hsz2 := L2.out.size
  obtain ⟨i0, hi, hz, hs, hby⟩ := info_parts info_rm
  obtain ⟨W3, hmk, hE, hg⟩ := run_make_own (P := Tryz.prog) W2 (w.heap.size + 1 + 1) 34 78 i0 _ 2 Tryz.underlying34 hi hz hs .i64 .i64 n2 (by rw [hby]; omega) (by unfold maxLen; omega) (by omega)
  have hb3 : Below W2.heap.size W2 W3 := (Below.refl _ _).grown hg (Nat.le_refl _) (fun q hq => by cases hq)
  have L3 := Lib.hid (L2.out.call hb3)
  have E3 := Lib.hid hE
  have t8' := (L3.out.tb).2.2.2.2.2.2.2.2
  clear t0 t1 t2 t3 t4 t5 t6 t7 hE hg hb3 hi hz hs hby
  go_wp2_with fail
  clear hmk t8 t8'
  go_loopw [5, 7, 23] (fun o _ i wr => ∃ (k c' : Nat) (A' : Option Addr), k ≤ n2 ∧ i = .int .i64 k ∧ o = .slice A' k c' ∧ wr.ownsRow (w.heap.size + 1 + 1) 78 2 (.slice A' k c') k (flat (ovK C S k)) ∧ LS w (.slice D N cN) x (.slice A n c) (.slice A2 n2 c2) wr) (fun _ _ i _ => n2 - (intOf i).toNat)
  case atStart => exact ⟨0, _, _, by omega, rfl, rfl, by simpa [ovK, flat] using E3.out, L3.out⟩
  case round =>
    obtain ⟨k, c', A', hk, rfl, rfl, hO, hL⟩ := hrel
    have OW := Lib.hid hO
    have LW := Lib.hid hL
    clear hO hL
    by_cases hlt : k < n2
    · obtain ⟨b, o, y, rfl, hbB, hx, a0, a1⟩ := (H2.out.below (below_le LW.out.bel hB)).at_ hlt
      have HX := Lib.hid hx
      clear hx
      have hb := new1 wr (.cells #[.int .i64 y.a, .int .i64 y.b] 75)
      have mb := boxed wr y 75
      have hs1 : wr.heap.size < (wr.alloc (.cells #[.int .i64 y.a, .int .i64 y.b] 75)).heap.size := by simp
      have LX := Lib.hid (LW.out.call hb)
      have OX := Lib.hid (own_keep OW.out hb)
      have hsz := LX.out.size
      go_wp2_with fail
      generalize wr.alloc _ = W4 at hb mb LX OX hsz hs1 ⊢
      have h6 := val.st_six HST.out
      rw [H3.out.1] at h6
      obtain ⟨s1, s2⟩ := wkey_of HTX.out HX.out
      have s3 : y.a < (N : Int) := by omega
      have s4 : y.a.toNat < N := by omega
      clear h6
      obtain ⟨b2, o2, l, A9, n9, c9, rfl, hb2, hl, d0, hn9, hv⟩ := (H3.out.below (below_le LX.out.bel hB)).at_ s4
      have HL := Lib.hid hl
      have HV := Lib.hid hv
      clear hl hv
      obtain ⟨z, hz⟩ : ∃ z, latOf C y = z := ⟨_, rfl⟩
      have HZ := Lib.hid hz
      have HLV : Hid (Go.Proofs.YthbbpfgjbidbhaaGreatDoor.find.lastV l = z) := Lib.hid (by rw [lat_at HL.out, hz])
      clear hz
      have c0 := LX.out.st
      have MB := Lib.hid mb
      obtain ⟨m0, m1⟩ := atFlat mb
      have hq : B ≤ W4.heap.size := by have := LX.out.bel.size; omega
      have hbk0 : Below W4.heap.size W4 W4.drew := (Below.refl _ _).drew
      have hf := fld2 (.int .i64 z.a) (.int .i64 z.b) (.int .i64 z.c) (.int .i64 z.d) (.int .i64 z.e)
      clear a0 a1 mb hb
      go_region_law (first | (go_simp; go_at_call 80; refine (Go.Proofs.YthbbpfgjbidbhaaGreatDoor.find.latest_impl HLV.out hn9 ((HV.out.below (below_le hbk0 hq)).more hq) (Nat.le_refl _)).mono ?_; rintro e W5 ⟨rfl, hb5⟩; have hbk1 := hbk0.trans (hb5.mono hbk0.size); have hn5 := new1 W5 (.cells #[.int .i64 y.a, .int .i64 z.c] 78); have M5 := MB.out.keep hs1 hbk1; obtain ⟨n0, n1⟩ := atFlat M5; have O5 := Lib.hid (own_keep OX.out hbk1); obtain ⟨A6, c6, W6, hr, ho6, _, hb6⟩ := app_own (c := 1) _ (own_keep O5.out hn5) (one_vs (boxed W5 ⟨y.a, z.c⟩ 78)) (by omega) (by have := hbk1.size; simp; omega)) | (refine step_append_run rfl (.tmp 27) (.tmp 39) 34 34 rfl _ _ (by simp [Act.eval, Act.put]) (by simp [Act.eval, Act.put]) hr ?_))
      all_goals
        have hb7 : Below (w.heap.size + 1 + 1) W4 W6 := ((hbk1.trans (hn5.mono hbk1.size)).mono (by omega)).trans hb6
        rw [ovK_step HX.out HZ.out] at ho6
        have O6 := Lib.hid ho6
        have L6 := Lib.hid (ls_grown LX.out hb7)
        clear hf hbk0 hbk1 hn5 hr ho6 hb6 hb7 hb5 c0 d0 m0 m1 n0 n1
        go_wp2_with fail
        go_roundw
        case rel => exact ⟨k + 1, c6, A6, by omega, by go_num, rfl, O6.out, L6.out⟩
        case measure => simp [intOf]; omega
    · obtain rfl : n2 = k := by omega
      have HE : Hid (ovK C S n2 = ovL C x R S) := Lib.hid (ov_end hln2 fun _ => both_yes HST.out HTX.out)
      have HM : Hid ((ovL C x R S).length = n2) := Lib.hid (by rw [← HE.out]; exact ovK_len (by omega))
      go_wp2_with fail
      go_ret
      rw [HM.out, ← HE.out]
      exact ⟨_, _, rfl, own_more OW.out (by omega), LW.out.bel⟩
end Go.Proofs.YthbbpfgjbidbhaaGreatDoor.ov
/- Chapter 8, plain mathematics: the marks of an excluding pair. -/
namespace Go.Proofs.YthbbpfgjbidbhaaGreatDoor.ep
open Go.Proofs.YthbbpfgjbidbhaaGreatDoor.el2 Go.Proofs.YthbbpfgjbidbhaaGreatDoor.tx Go.Proofs.YthbbpfgjbidbhaaGreatDoor.seq Go.Proofs.YthbbpfgjbidbhaaGreatDoor.tv Go.Proofs.YthbbpfgjbidbhaaGreatDoor.tf Go.Proofs.YthbbpfgjbidbhaaGreatDoor.rx Go.Proofs.YthbbpfgjbidbhaaGreatDoor.rl Go.Proofs.YthbbpfgjbidbhaaGreatDoor.rh Go.Proofs.YthbbpfgjbidbhaaGreatDoor.ov Go.Proofs.YthbbpfgjbidbhaaGreatDoor.last Go.Proofs.YthbbpfgjbidbhaaGreatDoor.em
open Go.Proofs.YthbbpfgjbidbhaaGreatDoor.sl (Ver)
open Go.Proofs.YthbbpfgjbidbhaaGreatDoor.val (stB okL_ch_of st_ok st_six)
open Go.Proofs.YthbbpfgjbidbhaaGreatDoor.find (fndI lastV last_yes fnd_hit fnd_step)
open Go.Proofs.YthbbpfgjbidbhaaGreatDoor.ch (chB ch_of okV fol)
set_option linter.unusedVariables false
set_option linter.unusedSimpArgs false
/-! a list of marks with what each asks: the first of the greatest -/
def up (s : Int × E2) (p : E2 × Int) : Int × E2 := if s.1 < p.2 then (p.2, p.1) else s
def fstAt (P : List (E2 × Int)) (v : Int) : E2 := match P.find? (fun p => decide (p.2 = v)) with
  | some p => p.1
  | none => ⟨0, 0⟩
theorem up_one (n : Int) (b : E2) (p : E2 × Int) : (up (n, b) p).1 = max n p.2 := by
  unfold up
  split <;> simp only at * <;> omega
theorem up_max (P : List (E2 × Int)) : ∀ (n : Int) (b : E2), (P.foldl up (n, b)).1 = P.foldl (fun a p => max a p.2) n := by
  induction P with
  | nil => intro n b; rfl
  | cons p r ih =>
    intro n b
    simp only [List.foldl_cons]
    rw [← up_one n b p]
    exact ih (up (n, b) p).1 (up (n, b) p).2
theorem max_ge (P : List (E2 × Int)) : ∀ n : Int, n ≤ P.foldl (fun a p => max a p.2) n := by
  induction P with
  | nil => intro n; exact Int.le_refl _
  | cons p r ih =>
    intro n
    have := ih (max n p.2)
    simp only [List.foldl_cons]
    omega
theorem up_fst (P : List (E2 × Int)) : ∀ (n : Int) (b : E2), ((P.foldl up (n, b)).1 = n ∧ (P.foldl up (n, b)).2 = b) ∨ (n < (P.foldl up (n, b)).1 ∧ fstAt P (P.foldl up (n, b)).1 = (P.foldl up (n, b)).2) := by
  induction P with
  | nil => intro n b; exact .inl ⟨rfl, rfl⟩
  | cons p r ih =>
    intro n b
    simp only [List.foldl_cons]
    by_cases h : n < p.2
    · have hu : up (n, b) p = (p.2, p.1) := if_pos h
      rw [hu]
      right
      rcases ih p.2 p.1 with ⟨h1, h2⟩ | ⟨h1, h2⟩
      · refine ⟨by omega, ?_⟩
        rw [h1, h2]
        simp [fstAt]
      · refine ⟨by omega, ?_⟩
        rw [← h2]
        have hne : decide (p.2 = (r.foldl up (p.2, p.1)).1) = false := decide_eq_false (by omega)
        simp only [fstAt, List.find?_cons, hne]
    · have hu : up (n, b) p = (n, b) := if_neg h
      rw [hu]
      rcases ih n b with h1 | ⟨h1, h2⟩
      · exact .inl h1
      · right
        refine ⟨h1, ?_⟩
        rw [← h2]
        have hne : decide (p.2 = (r.foldl up (n, b)).1) = false := decide_eq_false (by omega)
        simp only [fstAt, List.find?_cons, hne]
theorem max_start (P : List (E2 × Int)) (h0 : ∀ p ∈ P, 0 ≤ p.2) (hne : P ≠ []) : P.foldl (fun a p => max a p.2) (-1) = P.foldl (fun a p => max a p.2) 0 := by
  cases P with
  | nil => exact absurd rfl hne
  | cons p r =>
    have := h0 p (by simp)
    simp only [List.foldl_cons]
    rw [show max (-1) p.2 = max 0 p.2 by omega]
/-- the first of the greatest, as the model keeps it -/
theorem up_all (P : List (E2 × Int)) (h0 : ∀ p ∈ P, 0 ≤ p.2) (hne : P ≠ []) : (P.foldl up (-1, ⟨0, 0⟩)).2 = fstAt P (P.foldl (fun a p => max a p.2) 0) := by
  rw [← max_start P h0 hne, ← up_max P (-1) ⟨0, 0⟩]
  rcases up_fst P (-1) ⟨0, 0⟩ with ⟨h1, h2⟩ | ⟨h1, h2⟩
  · have h3 := up_max P (-1) ⟨0, 0⟩
    rw [max_start P h0 hne] at h3
    have := max_ge P 0
    omega
  · exact h2.symm
theorem fst_hit {P : List (E2 × Int)} {v : Int} {k : Nat} {p : E2 × Int} (hx : P[k]? = some p) (hv : p.2 = v) (hn : ∀ (j : Nat) (q : E2 × Int), j < k → P[j]? = some q → q.2 ≠ v) : fstAt P v = p.1 := by
  induction P generalizing k with
  | nil => simp at hx
  | cons q r ih =>
    cases k with
    | zero =>
      simp only [List.getElem?_cons_zero, Option.some.injEq] at hx
      subst hx
      simp [fstAt, hv]
    | succ k =>
      have hq : decide (q.2 = v) = false := decide_eq_false (hn 0 q (by omega) (by simp))
      have := ih (k := k) (by simpa using hx) (fun j y hj hy => hn (j + 1) y (by omega) (by simpa using hy))
      simp only [fstAt, List.find?_cons, hq] at this ⊢
      exact this
theorem fst_none {P : List (E2 × Int)} {v : Int} (hn : ∀ (j : Nat) (q : E2 × Int), P[j]? = some q → q.2 ≠ v) : fstAt P v = ⟨0, 0⟩ := by
  have : P.find? (fun p => decide (p.2 = v)) = none := by
    rw [List.find?_eq_none]
    intro q hq
    obtain ⟨j, hj, rfl⟩ := List.getElem_of_mem hq
    simp only [decide_eq_true_eq]
    exact hn j _ (List.getElem?_eq_getElem hj)
  simp [fstAt, this]
/-- of two lists laid one behind the other -/
theorem two_fst {P Q : List (E2 × Int)} {n : Nat} (hn : P.length = n) {k : Nat} : (P ++ Q)[n + k]? = Q[k]? := by
  rw [List.getElem?_append_right (by omega)]
  congr 1
  omega
section
variable {C : List (List Ver)} {x : Hd} {R S : List E2}
theorem ver_lat (hs : stB C = true) {m : E2} (h0 : 0 ≤ m.a) (h5 : m.a ≤ 5) : verOf C (ovM C m) = latOf C m ∧ hasV C (ovM C m) = true := by
  obtain ⟨l, hl, hc, hch⟩ := chain_key hs h0 h5
  obtain ⟨y, hy, hy2, ho, hf⟩ := last_at hc
  have hlat : latOf C m = y := by unfold latOf; rw [hch, hy2]
  refine ⟨?_, ?_⟩
  · unfold verOf
    simp only [ovM, hlat]
    rw [hch, hf]
    simp [List.getD, hy]
  · unfold hasV
    simp only [ovM, hlat]
    rw [hch, hf]
    exact decide_eq_true (by omega)
/-! the pair -/
noncomputable def candR (R : List E2) : List (E2 × Int) := R.map fun m => (m, m.b)
noncomputable def candS (C : List (List Ver)) (S : List E2) : List (E2 × Int) := S.map fun m => (ovM C m, (latOf C m).d)
noncomputable def cand (C : List (List Ver)) (R S : List E2) : List (E2 × Int) := candR R ++ candS C S
noncomputable def sucR (C : List (List Ver)) (R : List E2) : List (E2 × Int) := R.map fun m => (m, (verOf C m).e)
theorem candR_at {k : Nat} {y : E2} (h : R[k]? = some y) : (candR R)[k]? = some (y, y.b) := by simp [candR, h]
theorem candS_at {k : Nat} {y : E2} (h : S[k]? = some y) : (candS C S)[k]? = some (ovM C y, (latOf C y).d) := by simp [candS, h]
theorem sucR_at {k : Nat} {y : E2} (h : R[k]? = some y) : (sucR C R)[k]? = some (y, (verOf C y).e) := by simp [sucR, h]
theorem candR_len : (candR R).length = R.length := by simp [candR]
theorem candS_len : (candS C S).length = S.length := by simp [candS]
theorem cand_len : (cand C R S).length = R.length + S.length := by simp [cand, candR, candS]
theorem sucR_len : (sucR C R).length = R.length := by simp [sucR]
theorem cand_r {k : Nat} {y : E2} (h : R[k]? = some y) : (cand C R S)[k]? = some (y, y.b) := by
  have hk := lt_get h
  unfold cand
  rw [List.getElem?_append_left (by rw [candR_len]; exact hk)]
  exact candR_at h
theorem cand_s {n k : Nat} {y : E2} (hn : R.length = n) (h : S[k]? = some y) : (cand C R S)[n + k]? = some (ovM C y, (latOf C y).d) := by
  unfold cand
  rw [two_fst (by rw [candR_len]; exact hn)]
  exact candS_at h
noncomputable def xpB (C : List (List Ver)) (x : Hd) (R S : List E2) (z : Int) : Bool := fwB C x R S z && decide (rhI C x R S ≤ rlI C x R S)
noncomputable def xpL (C : List (List Ver)) (x : Hd) (R S : List E2) (z : Int) : E2 := if xpB C x R S z = true then fstAt (cand C R S) (rlI C x R S) else ⟨0, 0⟩
noncomputable def xpH (C : List (List Ver)) (x : Hd) (R S : List E2) (z : Int) : E2 := if xpB C x R S z = true then fstAt (sucR C R) (rhI C x R S) else ⟨0, 0⟩
theorem xp_no {z : Int} (h : fwB C x R S z = false) : xpB C x R S z = false := by simp [xpB, h]
theorem xp_lt {z : Int} (h : rlI C x R S < rhI C x R S) : xpB C x R S z = false := by simp [xpB]; intro _; omega
theorem xp_yes {z : Int} (h : fwB C x R S z = true) (h1 : rhI C x R S ≤ rlI C x R S) : xpB C x R S z = true := by simp [xpB, h, h1]
theorem xpL_no {z : Int} (h : xpB C x R S z = false) : xpL C x R S z = ⟨0, 0⟩ := if_neg (by rw [h]; exact Bool.false_ne_true)
theorem xpH_no {z : Int} (h : xpB C x R S z = false) : xpH C x R S z = ⟨0, 0⟩ := if_neg (by rw [h]; exact Bool.false_ne_true)
theorem xpL_yes {z : Int} (h : xpB C x R S z = true) : xpL C x R S z = fstAt (cand C R S) (rlI C x R S) := if_pos h
theorem xpH_yes {z : Int} (h : xpB C x R S z = true) : xpH C x R S z = fstAt (sucR C R) (rhI C x R S) := if_pos h
/-- RefreshLow is the greatest that is asked -/
theorem rl_cand (h : bothB C x R S = true) : rlI C x R S = (cand C R S).foldl (fun a p => max a p.2) 0 := by
  rw [rlI, if_pos h]
  unfold loW loR cand candR candS
  rw [List.take_of_length_le (Nat.le_refl _), List.take_of_length_le (Nat.le_refl _), List.foldl_append, List.foldl_map, List.foldl_map]
theorem cand_range (h : bothB C x R S = true) : ∀ p ∈ cand C R S, 0 ≤ p.2 ∧ p.2 ≤ 999 := by
  obtain ⟨hs, ht⟩ := both_parts h
  intro p hp
  unfold cand candR candS at hp
  simp only [List.mem_append, List.mem_map] at hp
  rcases hp with ⟨m, hm, rfl⟩ | ⟨m, hm, rfl⟩
  · obtain ⟨j, hj, rfl⟩ := List.getElem_of_mem hm
    have := rd_ok (tx_rd ht) (List.getElem?_eq_getElem hj)
    simp only [okR, Go.Proofs.YthbbpfgjbidbhaaGreatDoor.vers.In, Bool.and_eq_true, decide_eq_true_eq] at this
    simp only
    omega
  · obtain ⟨j, hj, rfl⟩ := List.getElem_of_mem hm
    have hk := wkey_of ht (List.getElem?_eq_getElem hj)
    have := okV_parts (lat_ok hs hk.1 hk.2)
    simp only
    omega
theorem max_le (P : List (E2 × Int)) {b : Int} (h : ∀ p ∈ P, p.2 ≤ b) : ∀ n : Int, n ≤ b → P.foldl (fun a p => max a p.2) n ≤ b := by
  induction P with
  | nil => intro n hn; exact hn
  | cons p r ih =>
    intro n hn
    have := h p (by simp)
    exact ih (fun q hq => h q (by simp [hq])) (max n p.2) (by omega)
theorem rl_le (h : bothB C x R S = true) : 0 ≤ rlI C x R S ∧ rlI C x R S ≤ 999 := by
  rw [rl_cand h]
  exact ⟨max_ge _ 0, max_le _ (fun p hp => (cand_range h p hp).2) 0 (by omega)⟩
/-! how the program finds the marks -/
theorem lm_read {k : Nat} {y : E2} {v : Int} (hx : R[k]? = some y) (hv : y.b = v) (hn : ∀ (j : Nat) (z : E2), j < k → R[j]? = some z → z.b ≠ v) : fstAt (cand C R S) v = y :=
  fst_hit (cand_r hx) hv fun j q hj hq => by
    have hjl : j < R.length := by have := lt_get hx; omega
    have hz := List.getElem?_eq_getElem hjl
    rw [cand_r (C := C) (S := S) hz] at hq
    cases hq
    exact hn j _ hj hz
theorem cand_cases {n k : Nat} {v : Int} (hn : R.length = n) (h1 : ∀ (j : Nat) (z : E2), R[j]? = some z → z.b ≠ v) (h2 : ∀ (j : Nat) (z : E2), j < k → S[j]? = some z → (latOf C z).d ≠ v) : ∀ (j : Nat) (q : E2 × Int), j < n + k → (cand C R S)[j]? = some q → q.2 ≠ v := by
  intro j q hj hq
  rcases Nat.lt_or_ge j n with hjn | hjn
  · have hz := List.getElem?_eq_getElem (show j < R.length by omega)
    rw [cand_r (C := C) (S := S) hz] at hq
    cases hq
    exact h1 j _ hz
  · obtain ⟨i, rfl⟩ : ∃ i, j = n + i := ⟨j - n, by omega⟩
    have hl := lt_get hq
    rw [cand_len] at hl
    have hz := List.getElem?_eq_getElem (show i < S.length by omega)
    rw [cand_s (C := C) hn hz] at hq
    cases hq
    exact h2 i _ (by omega) hz
theorem lm_over {n k : Nat} {y : E2} {v : Int} (hn : R.length = n) (hx : S[k]? = some y) (hv : (latOf C y).d = v) (h1 : ∀ (j : Nat) (z : E2), R[j]? = some z → z.b ≠ v) (h2 : ∀ (j : Nat) (z : E2), j < k → S[j]? = some z → (latOf C z).d ≠ v) : fstAt (cand C R S) v = ovM C y :=
  fst_hit (cand_s hn hx) hv fun j q hj hq => cand_cases hn h1 h2 j q hj hq
theorem lm_none {n n2 : Nat} {v : Int} (hn : R.length = n) (hn2 : S.length = n2) (h1 : ∀ (j : Nat) (z : E2), R[j]? = some z → z.b ≠ v) (h2 : ∀ (j : Nat) (z : E2), j < n2 → S[j]? = some z → (latOf C z).d ≠ v) : fstAt (cand C R S) v = ⟨0, 0⟩ :=
  fst_none fun j q hq => cand_cases hn h1 h2 j q (by have := lt_get hq; rw [cand_len] at this; omega) hq
theorem hm_hit {k : Nat} {y : E2} {v : Int} (hx : R[k]? = some y) (hv : (verOf C y).e = v) (hn : ∀ (j : Nat) (z : E2), j < k → R[j]? = some z → (verOf C z).e ≠ v) : fstAt (sucR C R) v = y :=
  fst_hit (sucR_at hx) hv fun j q hj hq => by
    have hjl : j < R.length := by have := lt_get hx; omega
    have hz := List.getElem?_eq_getElem hjl
    rw [sucR_at (C := C) hz] at hq
    cases hq
    exact hn j _ hj hz
theorem hm_none {n : Nat} {v : Int} (hl : R.length = n) (hn : ∀ (j : Nat) (z : E2), j < n → R[j]? = some z → (verOf C z).e ≠ v) : fstAt (sucR C R) v = ⟨0, 0⟩ :=
  fst_none fun j q hq => by
    have hjl := lt_get hq
    rw [sucR_len] at hjl
    have hz := List.getElem?_eq_getElem hjl
    rw [sucR_at (C := C) hz] at hq
    cases hq
    exact hn j _ (by omega) hz
theorem ne_step {α : Type} {l : List α} {f : α → Int} {v : Int} {k : Nat} {x : α} (h : ∀ (j : Nat) (z : α), j < k → l[j]? = some z → f z ≠ v) (hx : l[k]? = some x) (hv : f x ≠ v) : ∀ (j : Nat) (z : α), j < k + 1 → l[j]? = some z → f z ≠ v := by
  intro j z hj hz
  by_cases e : j = k
  · subst e
    rw [hx] at hz
    cases hz
    exact hv
  · exact h j z (by omega) hz
theorem ne_all {α : Type} {l : List α} {f : α → Int} {v : Int} {n : Nat} (hn : l.length = n) (h : ∀ (j : Nat) (z : α), j < n → l[j]? = some z → f z ≠ v) : ∀ (j : Nat) (z : α), l[j]? = some z → f z ≠ v := fun j z hz => h j z (by have := lt_get hz; omega) hz
theorem ret_m {m m' : E2} (h : m = m') : Ending.returned (.agg #[.int .i64 m.a, .int .i64 m.b]) = .returned (.agg #[.int .i64 m'.a, .int .i64 m'.b]) := by rw [h]
theorem ret_z {m' : E2} (h : ⟨0, 0⟩ = m') : Ending.returned (.agg #[.int .i64 0, .int .i64 0]) = .returned (.agg #[.int .i64 m'.a, .int .i64 m'.b]) := by rw [← h]
/-- the model's greatest, the program's first -/
theorem low_mark (h : bothB C x R S = true) (hne : R ≠ []) : (((cand C R S)).foldl up (-1, ⟨0, 0⟩)).2 = fstAt (cand C R S) (rlI C x R S) := by
  rw [rl_cand h]
  refine up_all _ (fun p hp => (cand_range h p hp).1) ?_
  intro e
  have := congrArg List.length e
  rw [cand_len] at this
  cases R with
  | nil => exact hne rfl
  | cons a b => simp at this
/-- RefreshHigh is Infinity or what a read's version has -/
theorem hi_att (C : List (List Ver)) (R : List E2) : hiK C R R.length = 1000 ∨ ∃ (k : Nat) (y : E2), R[k]? = some y ∧ (verOf C y).e = hiK C R R.length := by
  unfold hiK
  rw [List.take_of_length_le (Nat.le_refl _)]
  have key : ∀ (L : List E2) (n : Int), L.foldl (fun h m => min h (verOf C m).e) n = n ∨ ∃ y ∈ L, (verOf C y).e = L.foldl (fun h m => min h (verOf C m).e) n := by
    intro L
    induction L with
    | nil => intro n; exact .inl rfl
    | cons a b ih =>
      intro n
      simp only [List.foldl_cons]
      rcases ih (min n (verOf C a).e) with h | ⟨y, hy, he⟩
      · rw [h]
        by_cases hm : n ≤ (verOf C a).e
        · left; omega
        · right; exact ⟨a, by simp, by omega⟩
      · right; exact ⟨y, by simp [hy], he⟩
  rcases key R 1000 with h | ⟨y, hy, he⟩
  · exact .inl h
  · obtain ⟨j, hj, rfl⟩ := List.getElem_of_mem hy
    exact .inr ⟨j, _, List.getElem?_eq_getElem hj, he⟩
/-- of a pair there is a read that sets the high end -/
theorem xp_read {z : Int} (h : xpB C x R S z = true) : ∃ (k : Nat) (y : E2), R[k]? = some y ∧ (verOf C y).e = rhI C x R S := by
  simp only [xpB, Bool.and_eq_true, decide_eq_true_eq] at h
  obtain ⟨hr, _, _⟩ := fw_parts h.1
  have hl := rl_le (rex_both hr)
  have he : rhI C x R S = hiK C R R.length := if_pos hr
  rw [he] at h ⊢
  rcases hi_att C R with h1 | h1
  · omega
  · exact h1
theorem xp_parts {z : Int} (h : xpB C x R S z = true) : fwB C x R S z = true ∧ rhI C x R S ≤ rlI C x R S := by
  simp only [xpB, Bool.and_eq_true, decide_eq_true_eq] at h
  exact h
theorem xp_ne {z : Int} (h : xpB C x R S z = true) : R ≠ [] := by
  obtain ⟨k, y, hy, _⟩ := xp_read h
  rintro rfl
  simp at hy
/-- the mark that sets the high end is one of the reads -/
theorem xp_mem {z : Int} (h : xpB C x R S z = true) : xpH C x R S z ∈ R := by
  rw [xpH_yes h]
  obtain ⟨k, y, hy, he⟩ := xp_read h
  unfold fstAt
  rcases hf : (sucR C R).find? (fun p => decide (p.2 = rhI C x R S)) with _ | p
  · rw [List.find?_eq_none] at hf
    have := hf _ (List.mem_of_getElem? (sucR_at (C := C) hy))
    simp [he] at this
  · have := List.mem_of_find?_eq_some hf
    simp only [sucR, List.mem_map] at this
    obtain ⟨m, hm, rfl⟩ := this
    rw [hf]
    exact hm
theorem may_xp {z : Int} (h : xpB C x R S z = true) : mayB C x R S z = false := by
  obtain ⟨h1, h2⟩ := xp_parts h
  rw [may_is h1, fwL_yes h1, fwH_yes h1]
  exact decide_eq_false (by omega)
end
end Go.Proofs.YthbbpfgjbidbhaaGreatDoor.ep
/- lowMark, highMark of the program: what each answers; nothing that was there is written. -/
namespace Go.Proofs.YthbbpfgjbidbhaaGreatDoor.lm
open Go.ChangeShapes Go.WideShapes Go.ChangeAt Go.RowKit
open Go.Proofs.YthbbpfgjbidbhaaGreatDoor.el2 Go.Proofs.YthbbpfgjbidbhaaGreatDoor.tx Go.Proofs.YthbbpfgjbidbhaaGreatDoor.seq Go.Proofs.YthbbpfgjbidbhaaGreatDoor.tv Go.Proofs.YthbbpfgjbidbhaaGreatDoor.tf Go.Proofs.YthbbpfgjbidbhaaGreatDoor.rx Go.Proofs.YthbbpfgjbidbhaaGreatDoor.ri Go.Proofs.YthbbpfgjbidbhaaGreatDoor.rl Go.Proofs.YthbbpfgjbidbhaaGreatDoor.ov Go.Proofs.YthbbpfgjbidbhaaGreatDoor.bx Go.Proofs.YthbbpfgjbidbhaaGreatDoor.mx Go.Proofs.YthbbpfgjbidbhaaGreatDoor.em Go.Proofs.YthbbpfgjbidbhaaGreatDoor.ep
open Go.Proofs.YthbbpfgjbidbhaaGreatDoor.vers (new2)
open Go.Proofs.YthbbpfgjbidbhaaGreatDoor.sl (Ver)
open Go.Proofs.YthbbpfgjbidbhaaGreatDoor.st (Rs)
open Go.Proofs.YthbbpfgjbidbhaaGreatDoor.val (stB)
set_option linter.unusedVariables false
set_option linter.unusedSimpArgs false
set_option maxRecDepth 100000 in
set_option maxHeartbeats 3200000 in
theorem impl_hm {w : World} {B n c n2 c2 N cN : Nat} {A A2 D : Option Addr} {R S : List E2} {C : List (List Ver)} (x : Hd) (v : Int) (hn : n ≤ 1048576) (hn2 : n2 ≤ 1048576) (hN : N ≤ 1048576) (h1 : Vs w B A n R) (h2 : Vs w B A2 n2 S) (h3 : Rs w B D N C) (hB : B ≤ w.heap.size) (hr : rexB C x R S = true) :
    Calls Tryz.prog 74 #[.agg #[.slice D N cN], .agg #[.int .i64 x.i, .int .i64 x.s, .int .i64 x.t, .int .i64 x.b, .int .i64 x.l, .int .i64 x.h, .int .i64 x.c, .slice A n c, .slice A2 n2 c2], .int .i64 v] w fun e w' => e = .returned (.agg #[.int .i64 (fstAt (sucR C R) v).a, .int .i64 (fstAt (sucR C R) v).b]) ∧ Below w.heap.size w w' := by
  have H1 := Lib.hid h1
  have H2 := Lib.hid h2
  have H3 := Lib.hid h3
  have hln := h1.1
  have hln2 := h2.1
  have HRX := Lib.hid hr
  clear h1 h2 h3 hr
  go_enter Tryz.func74, Tryz.ntmps74
  go_wp2_with fail
  have hL := LM.mk3 w x A A2 D n c n2 c2 N cN
  generalize (((w.alloc _).alloc _).alloc _) = W0 at hL ⊢
  have L0 := Lib.hid hL
  clear hL
  go_loopw [8, 12] (fun _ i wr => ∃ k : Nat, k ≤ n ∧ i = .int .i64 k ∧ (∀ (j : Nat) (z : E2), j < k → R[j]? = some z → (verOf C z).e ≠ v) ∧ LM w (.slice D N cN) x (.slice A n c) (.slice A2 n2 c2) ⟨0, 0⟩ wr) (fun _ i _ => n - (intOf i).toNat)
  case atStart => exact ⟨0, by omega, rfl, fun j z hj => absurd hj (by omega), L0.out⟩
  case round =>
    obtain ⟨k, hk, rfl, hP, hL⟩ := hrel
    have LW := Lib.hid hL
    have HPP := Lib.hid hP
    clear hL hP
    by_cases hlt : k < n
    · obtain ⟨b, o, y, rfl, hbB, hx, a0, a1⟩ := (H1.out.below (below_le LW.out.ls.bel hB)).at_ hlt
      obtain ⟨hst, htx, hall⟩ := rex_parts HRX.out
      have hkey := key_of htx hx
      have hhas := all_at hall hx
      have h6 := val.st_six hst
      rw [H3.out.1] at h6
      have HX := Lib.hid hx
      have HH := Lib.hid hhas
      obtain ⟨s1, s2⟩ := hkey
      have s3 : y.a < (N : Int) := by omega
      clear h6 hst htx hall hx hhas
      go_wp2_with fail
      have hb := new1 wr (.cells #[.int .i64 y.a, .int .i64 y.b] 78)
      have mb := boxed wr y 78
      have hsz := LW.out.size
      have LX := Lib.hid (LW.out.call hb)
      have hs1 : wr.heap.size < (wr.alloc (.cells #[.int .i64 y.a, .int .i64 y.b] 78)).heap.size := by simp
      clear hb a0 a1
      generalize wr.alloc _ = W2 at LX mb hs1 ⊢
      have MB := Lib.hid mb
      clear mb
      refine (impl_vof y w.heap.size (by have := LX.out.size; omega) LX.out.ls.st s1 s3 (H3.out.below (below_le LX.out.ls.bel hB)) (by have := LX.out.size; omega)).mono ?_
      rintro e W3 ⟨⟨hn, rfl⟩ | ⟨hn, b4, o4, rfl, hbB4, hA⟩, hb1⟩
      · exact absurd hn (by rw [HH.out]; exact fun h => by cases h)
      · have L3 := Lib.hid (LX.out.call hb1)
        obtain ⟨m0, m1⟩ := atFlat (MB.out.keep hs1 hb1)
        obtain ⟨e0, e1, e2, e3, e4⟩ := hA
        obtain ⟨u, hu⟩ : ∃ u, (verOf C y).e = u := ⟨_, rfl⟩
        rw [hu] at e4
        have HU := Lib.hid hu
        clear hb1 e0 e1 e2 e3 hn hu
        by_cases huv : u = v
        · subst huv
          have t : (u == u) = true := by simp
          obtain ⟨z0, z1⟩ := L3.out.rb.cells
          have f0 := L3.out.rb.fz 0
          have f1 := L3.out.rb.fz 1
          go_wp2_with fail
          have hp := L3.out.put y
          clear z0 z1 f0 f1
          generalize World.setCell (World.setCell _ _ _) _ _ = W9 at hp ⊢
          obtain ⟨e0, e1⟩ := hp.rb.cells
          exact bodyPost_ret (v := .agg #[.int .i64 y.a, .int .i64 y.b]) (by simp [results, Tryz.results74, go_sem, e0, e1]) rfl ⟨ret_m (hm_hit HX.out HU.out HPP.out).symm, hp.ls.bel⟩
        · have t : (u == v) = false := by simpa using huv
          have HUV := Lib.hid huv
          clear huv
          go_wp2_with fail
          go_roundw
          case rel => exact ⟨k + 1, by omega, by go_num, ne_step (f := fun z => (verOf C z).e) HPP.out HX.out (by rw [HU.out]; exact HUV.out), L3.out⟩
          case measure => simp [intOf]; omega
    · obtain rfl : n = k := by omega
      obtain ⟨z0, z1⟩ := LW.out.rb.cells
      have f0 := LW.out.rb.fz 0
      have f1 := LW.out.rb.fz 1
      go_wp2_with fail
      have hp := LW.out.put (⟨0, 0⟩ : E2)
      clear z0 z1 f0 f1
      generalize World.setCell (World.setCell _ _ _) _ _ = W9 at hp ⊢
      obtain ⟨e0, e1⟩ := hp.rb.cells
      exact bodyPost_ret (v := .agg #[.int .i64 (⟨0, 0⟩ : E2).a, .int .i64 (⟨0, 0⟩ : E2).b]) (by simp [results, Tryz.results74, go_sem, e0, e1]) rfl ⟨ret_z (hm_none hln HPP.out).symm, hp.ls.bel⟩
set_option maxRecDepth 100000 in
set_option maxHeartbeats 3200000 in
theorem impl_lm {w : World} {B n c n2 c2 N cN : Nat} {A A2 D : Option Addr} {R S : List E2} {C : List (List Ver)} (x : Hd) (v : Int) (hn : n ≤ 1048576) (hn2 : n2 ≤ 1048576) (hN : N ≤ 1048576) (h1 : Vs w B A n R) (h2 : Vs w B A2 n2 S) (h3 : Rs w B D N C) (hB : B ≤ w.heap.size) (hr : rexB C x R S = true) :
    Calls Tryz.prog 73 #[.agg #[.slice D N cN], .agg #[.int .i64 x.i, .int .i64 x.s, .int .i64 x.t, .int .i64 x.b, .int .i64 x.l, .int .i64 x.h, .int .i64 x.c, .slice A n c, .slice A2 n2 c2], .int .i64 v] w fun e w' => e = .returned (.agg #[.int .i64 (fstAt (cand C R S) v).a, .int .i64 (fstAt (cand C R S) v).b]) ∧ Below w.heap.size w w' := by
  have H1 := Lib.hid h1
  have H2 := Lib.hid h2
  have H3 := Lib.hid h3
  have hln := h1.1
  have hln2 := h2.1
  have HRX := Lib.hid hr
  clear h1 h2 h3 hr
  go_enter Tryz.func73, Tryz.ntmps73
  go_wp2_with fail
  have hL := LM.mk3 w x A A2 D n c n2 c2 N cN
  generalize (((w.alloc _).alloc _).alloc _) = W0 at hL ⊢
  have L0 := Lib.hid hL
  clear hL
  go_loopw [8, 14] (fun _ i wr => ∃ k : Nat, k ≤ n ∧ i = .int .i64 k ∧ (∀ (j : Nat) (z : E2), j < k → R[j]? = some z → z.b ≠ v) ∧ LM w (.slice D N cN) x (.slice A n c) (.slice A2 n2 c2) ⟨0, 0⟩ wr) (fun _ i _ => n - (intOf i).toNat)
  case atStart => exact ⟨0, by omega, rfl, fun j z hj => absurd hj (by omega), L0.out⟩
  case round =>
    obtain ⟨k, hk, rfl, hP, hL⟩ := hrel
    have LW := Lib.hid hL
    have HPP := Lib.hid hP
    clear hL hP
    by_cases hlt : k < n
    · obtain ⟨b, o, y, rfl, hbB, hx, a0, a1⟩ := (H1.out.below (below_le LW.out.ls.bel hB)).at_ hlt
      have HX := Lib.hid hx
      clear hx
      have LX := Lib.hid (LW.out.call (new1 wr (.cells #[.int .i64 y.a, .int .i64 y.b] 78)))
      by_cases huv : y.b = v
      · have t : (y.b == v) = true := by simpa using huv
        have HUV := Lib.hid huv
        clear huv
        obtain ⟨z0, z1⟩ := LX.out.rb.cells
        have f0 := LX.out.rb.fz 0
        have f1 := LX.out.rb.fz 1
        go_wp2_with fail
        have hp := LX.out.put y
        clear z0 z1 f0 f1
        generalize World.setCell (World.setCell _ _ _) _ _ = W9 at hp ⊢
        obtain ⟨e0, e1⟩ := hp.rb.cells
        exact bodyPost_ret (v := .agg #[.int .i64 y.a, .int .i64 y.b]) (by simp [results, Tryz.results73, go_sem, e0, e1]) rfl ⟨ret_m (lm_read HX.out HUV.out HPP.out).symm, hp.ls.bel⟩
      · have t : (y.b == v) = false := by simpa using huv
        have HUV := Lib.hid huv
        clear huv
        go_wp2_with fail
        go_roundw
        case rel => exact ⟨k + 1, by omega, by go_num, ne_step (f := fun z => z.b) HPP.out HX.out HUV.out, LX.out⟩
        case measure => simp [intOf]; omega
    · obtain rfl : n = k := by omega
      have HNR := Lib.hid (ne_all (f := fun z => z.b) hln HPP.out)
      have c0 := LW.out.ls.st
      obtain ⟨t0, t1, t2, t3, t4, t5, t6, t7, t8⟩ := LW.out.ls.tb
      obtain ⟨l, hlq⟩ : ∃ l, ovL C x R S = l := ⟨_, rfl⟩
      have hov : l = S.map (ovM C) := by rw [← hlq]; exact if_pos (rex_both HRX.out)
      have hq : l.length = n2 := by rw [hov, List.length_map]; exact hln2
      have HLQ := Lib.hid hlq
      have HQ := Lib.hid hq
      have HOV := Lib.hid hov
      clear hlq hq hov
      go_wp2_with fail
      refine (impl_ov x (by omega) (by omega) (by omega) (H1.out.below (below_le LW.out.ls.bel hB)) (H2.out.below (below_le LW.out.ls.bel hB)) (H3.out.below (below_le LW.out.ls.bel hB)) (by have := LW.out.size; omega)).mono ?_
      rintro e W1 ⟨A7, c7, he, ho, hb⟩
      rw [HLQ.out, HQ.out] at he ho
      subst he
      have L1 := Lib.hid (LW.out.call hb)
      obtain ⟨A8, c8, hv8, hvs⟩ := own_vs ho HQ.out
      obtain ⟨rfl, -, rfl⟩ : A8 = A7 ∧ True ∧ c8 = c7 := by injection hv8 with e1 e2 e3; exact ⟨e1.symm, trivial, e3.symm⟩
      have HV := Lib.hid (show Vs W1 W1.heap.size A8 n2 l from hvs.1)
      clear hb ho hv8 hvs c0 t0 t1 t2 t3 t4 t5 t6 t7 t8
      go_wp2_with fail
      go_loopw [10, 28] (fun _ i wr => ∃ k : Nat, k ≤ n2 ∧ i = .int .i64 k ∧ (∀ (j : Nat) (z : E2), j < k → S[j]? = some z → (latOf C z).d ≠ v) ∧ LM w (.slice D N cN) x (.slice A n c) (.slice A2 n2 c2) ⟨0, 0⟩ wr ∧ Below W1.heap.size W1 wr) (fun _ i _ => n2 - (intOf i).toNat)
      case atStart => exact ⟨0, by omega, rfl, fun j z hj => absurd hj (by omega), L1.out, Below.refl _ _⟩
      case round =>
        clear LW HPP
        obtain ⟨k, hk, rfl, hP, hL, hB1⟩ := hrel
        have LW := Lib.hid hL
        have HPP := Lib.hid hP
        have HB1 := Lib.hid hB1
        clear hL hP hB1
        by_cases hlt : k < n2
        · obtain ⟨b, o, y', rfl, hbB, hx, a0, a1⟩ := (HV.out.below HB1.out).at_ hlt
          obtain ⟨hst, htx, hall⟩ := rex_parts HRX.out
          have hy := List.getElem?_eq_getElem (show k < S.length by omega)
          obtain ⟨y, hyq⟩ : ∃ y, S[k]'(by omega) = y := ⟨_, rfl⟩
          rw [hyq] at hy
          have hyo : y' = ovM C y := by rw [HOV.out, List.getElem?_map, hy] at hx; simpa using hx.symm
          have hkey := wkey_of htx hy
          obtain ⟨hver, hhas⟩ := ver_lat hst hkey.1 hkey.2
          rw [← hyo] at hver hhas
          have h6 := val.st_six hst
          rw [H3.out.1] at h6
          have s1 : 0 ≤ y'.a := by rw [hyo]; exact hkey.1
          have s2 : y'.a ≤ 5 := by rw [hyo]; exact hkey.2
          have s3 : y'.a < (N : Int) := by omega
          have HX := Lib.hid hy
          have HH := Lib.hid hhas
          have HYO := Lib.hid hyo
          have HVR := Lib.hid hver
          clear h6 hst htx hall hx hhas hyq hy hyo hkey hver
          go_wp2_with fail
          have hb := new1 wr (.cells #[.int .i64 y'.a, .int .i64 y'.b] 78)
          have mb := boxed wr y' 78
          have hsz := LW.out.size
          have LX := Lib.hid (LW.out.call hb)
          have HBX : Hid (Below W1.heap.size W1 (wr.alloc (.cells #[.int .i64 y'.a, .int .i64 y'.b] 78))) := Lib.hid (HB1.out.trans (hb.mono HB1.out.size))
          have hs1 : wr.heap.size < (wr.alloc (.cells #[.int .i64 y'.a, .int .i64 y'.b] 78)).heap.size := by simp
          clear hb a0 a1
          generalize wr.alloc _ = W2 at LX mb hs1 HBX ⊢
          have MB := Lib.hid mb
          clear mb
          refine (impl_vof y' w.heap.size (by have := LX.out.size; omega) LX.out.ls.st s1 s3 (H3.out.below (below_le LX.out.ls.bel hB)) (by have := LX.out.size; omega)).mono ?_
          rintro e W3 ⟨⟨hn, rfl⟩ | ⟨hn, b4, o4, rfl, hbB4, hA⟩, hb1⟩
          · exact absurd hn (by rw [HH.out]; exact fun h => by cases h)
          · have L3 := Lib.hid (LX.out.call hb1)
            have HB3 := Lib.hid (HBX.out.trans (hb1.mono HBX.out.size))
            obtain ⟨m0, m1⟩ := atFlat (MB.out.keep hs1 hb1)
            rw [HVR.out] at hA
            obtain ⟨e0, e1, e2, e3, e4⟩ := hA
            obtain ⟨u, hu⟩ : ∃ u, (latOf C y).d = u := ⟨_, rfl⟩
            rw [hu] at e3
            have HU := Lib.hid hu
            clear hb1 e0 e1 e2 e4 hn hu
            by_cases huv : u = v
            · subst huv
              have t : (u == u) = true := by simp
              obtain ⟨z0, z1⟩ := L3.out.rb.cells
              have f0 := L3.out.rb.fz 0
              have f1 := L3.out.rb.fz 1
              go_wp2_with fail
              have hp := L3.out.put y'
              clear z0 z1 f0 f1
              generalize World.setCell (World.setCell _ _ _) _ _ = W9 at hp ⊢
              obtain ⟨e0, e1⟩ := hp.rb.cells
              exact bodyPost_ret (v := .agg #[.int .i64 y'.a, .int .i64 y'.b]) (by simp [results, Tryz.results73, go_sem, e0, e1]) rfl ⟨ret_m (by rw [HYO.out]; exact (lm_over hln HX.out HU.out HNR.out HPP.out).symm), hp.ls.bel⟩
            · have t : (u == v) = false := by simpa using huv
              have HUV := Lib.hid huv
              clear huv
              go_wp2_with fail
              go_roundw
              case rel => exact ⟨k + 1, by omega, by go_num, ne_step (f := fun z => (latOf C z).d) HPP.out HX.out (by rw [HU.out]; exact HUV.out), L3.out, HB3.out⟩
              case measure => simp [intOf]; omega
        · obtain rfl : n2 = k := by omega
          obtain ⟨z0, z1⟩ := LW.out.rb.cells
          have f0 := LW.out.rb.fz 0
          have f1 := LW.out.rb.fz 1
          go_wp2_with fail
          have hp := LW.out.put (⟨0, 0⟩ : E2)
          clear z0 z1 f0 f1
          generalize World.setCell (World.setCell _ _ _) _ _ = W9 at hp ⊢
          obtain ⟨e0, e1⟩ := hp.rb.cells
          exact bodyPost_ret (v := .agg #[.int .i64 (⟨0, 0⟩ : E2).a, .int .i64 (⟨0, 0⟩ : E2).b]) (by simp [results, Tryz.results73, go_sem, e0, e1]) rfl ⟨ret_z (lm_none hln hln2 HNR.out HPP.out).symm, hp.ls.bel⟩
end Go.Proofs.YthbbpfgjbidbhaaGreatDoor.lm
/- isActive of the program: what it answers; nothing that was there is written. -/
namespace Go.Proofs.YthbbpfgjbidbhaaGreatDoor.ia
open Go.ChangeShapes Go.WideShapes Go.ChangeAt Go.RowKit
open Go.Proofs.YthbbpfgjbidbhaaGreatDoor.el2 Go.Proofs.YthbbpfgjbidbhaaGreatDoor.tx Go.Proofs.YthbbpfgjbidbhaaGreatDoor.seq Go.Proofs.YthbbpfgjbidbhaaGreatDoor.tv
open Go.Proofs.YthbbpfgjbidbhaaGreatDoor.vers (new2 In ret_b)
set_option linter.unusedVariables false
set_option linter.unusedSimpArgs false
noncomputable def actB (x : Hd) (R S : List E2) : Bool := txB x R S && decide (x.t = 1)
theorem act_t {x : Hd} {R S : List E2} (h : txB x R S = true) : decide (x.t = 1) = actB x R S := by simp [actB, h]
theorem act_f {x : Hd} {R S : List E2} (h : txB x R S = false) : false = actB x R S := by simp [actB, h]
set_option maxRecDepth 100000 in
set_option maxHeartbeats 1600000 in
theorem impl_active {w : World} {B n c n2 c2 : Nat} {A A2 : Option Addr} {R S : List E2} (x : Hd) (hn : n ≤ 1048576) (hn2 : n2 ≤ 1048576) (h1 : Vs w B A n R) (h2 : Vs w B A2 n2 S) (hB : B ≤ w.heap.size) :
    Calls Tryz.prog 57 #[.agg #[.int .i64 x.i, .int .i64 x.s, .int .i64 x.t, .int .i64 x.b, .int .i64 x.l, .int .i64 x.h, .int .i64 x.c, .slice A n c, .slice A2 n2 c2]] w fun e w' => e = .returned (.bool (actB x R S)) ∧ Below w.heap.size w w' := by
  have H1 := Lib.hid h1
  have H2 := Lib.hid h2
  clear h1 h2
  go_enter Tryz.func57, Tryz.ntmps57
  go_wp2_with fail
  have hb := new1 w (.cells #[.int .i64 x.i, .int .i64 x.s, .int .i64 x.t, .int .i64 x.b, .int .i64 x.l, .int .i64 x.h, .int .i64 x.c, .slice A n c, .slice A2 n2 c2] 37)
  have tb := TB.new w x A n c A2 n2 c2 37
  have hs : (w.alloc (.cells #[.int .i64 x.i, .int .i64 x.s, .int .i64 x.t, .int .i64 x.b, .int .i64 x.l, .int .i64 x.h, .int .i64 x.c, .slice A n c, .slice A2 n2 c2] 37)).heap.size = w.heap.size + 1 := by simp
  generalize w.alloc _ = W0 at hb tb hs ⊢
  have HB0 := Lib.hid hb
  have HT0 := Lib.hid tb
  obtain ⟨t0, t1, t2, t3, t4, t5, t6, t7, t8⟩ := tb
  clear hb
  go_wp2_with fail
  refine (impl_tx x (by omega) (by omega) (H1.out.below (below_le HB0.out hB)) (H2.out.below (below_le HB0.out hB)) (by omega)).mono ?_
  rintro e W1 ⟨rfl, hb1⟩
  clear t0 t1 t2 t3 t4 t5 t6 t7 t8
  obtain ⟨t0, t1, t2, t3, t4, t5, t6, t7, t8⟩ := HT0.out.keep (by omega) hb1
  have HB1 := Lib.hid (HB0.out.trans (hb1.mono (by omega)))
  clear hb1 t0 t1 t3 t4 t5 t6 t7 t8
  rcases hq : txB x R S with _ | _
  · have HQ := Lib.hid hq
    clear hq
    go_wp2_with fail
    go_ret
    exact ⟨ret_b (act_f HQ.out), HB1.out⟩
  · have HQ := Lib.hid hq
    clear hq
    go_wp2_with fail
    go_ret
    exact ⟨ret_b (by rw [← act_t HQ.out, Bool.eq_iff_iff]; simp), HB1.out⟩
end Go.Proofs.YthbbpfgjbidbhaaGreatDoor.ia
/- FinalWindow, WindowRoom, IsExcluded of the program and of the model: what each answers; nothing that was there is written. -/
namespace Go.Proofs.YthbbpfgjbidbhaaGreatDoor.fw
open Go.ChangeShapes Go.WideShapes Go.ChangeAt Go.RowKit
open Go.Proofs.YthbbpfgjbidbhaaGreatDoor.el2 Go.Proofs.YthbbpfgjbidbhaaGreatDoor.tx Go.Proofs.YthbbpfgjbidbhaaGreatDoor.seq Go.Proofs.YthbbpfgjbidbhaaGreatDoor.tv Go.Proofs.YthbbpfgjbidbhaaGreatDoor.tf Go.Proofs.YthbbpfgjbidbhaaGreatDoor.rx Go.Proofs.YthbbpfgjbidbhaaGreatDoor.ri Go.Proofs.YthbbpfgjbidbhaaGreatDoor.rl Go.Proofs.YthbbpfgjbidbhaaGreatDoor.em Go.Proofs.YthbbpfgjbidbhaaGreatDoor.ia
open Go.Proofs.YthbbpfgjbidbhaaGreatDoor.vers (new2 ret_b)
open Go.Proofs.YthbbpfgjbidbhaaGreatDoor.sl (Ver)
open Go.Proofs.YthbbpfgjbidbhaaGreatDoor.st (Rs)
open Go.Proofs.YthbbpfgjbidbhaaGreatDoor.val (stB)
open Go.Proofs.YthbbpfgjbidbhaaGreatDoor.last (lstS)
set_option linter.unusedVariables false
set_option linter.unusedSimpArgs false
theorem ret_3 {a b a' b' : Int} {p q : Bool} (h : a = b) (h' : a' = b') (h2 : p = q) : Ending.returned (.tuple #[.int .i64 a, .int .i64 a', .bool p]) = .returned (.tuple #[.int .i64 b, .int .i64 b', .bool q]) := by rw [h, h', h2]
theorem min3 (x y z : Int) (w : World) : (Builtin.min_ #[3, 3, 3] 3 #[.int .i64 x, .int .i64 y, .int .i64 z]).run Tryz.prog w = .ok (.int .i64 (min (min x y) z)) w := by
  have e : (if y < x then y else x) = min x y := by
    rw [Int.min_def]
    split <;> split <;> omega
  have e2 : (if z < min x y then z else min x y) = min (min x y) z := by
    generalize min x y = u
    rw [Int.min_def]
    split <;> split <;> omega
  simp [Builtin.min_, Builtin.min2, e, e2]
/-- what is below a transaction's or a store's high end -/
noncomputable def excB (x : Hd) (R S : List E2) : Bool := txB x R S && decide (x.h ≤ x.l)
theorem exc_no {x : Hd} {R S : List E2} (h : txB x R S = false) : false = excB x R S := by simp [excB, h]
theorem exc_is {x : Hd} {R S : List E2} (h : txB x R S = true) : decide (x.h ≤ x.l) = excB x R S := by simp [excB, h]
theorem un_a {C : List (List Ver)} {z : Int} (h : ¬ lstS C < z) : false = unB C z := by simp [unB, h]
theorem un_b {C : List (List Ver)} {z : Int} (h : lstS C < z) : decide (z ≤ 999) = unB C z := by simp [unB, h]
set_option maxRecDepth 100000 in
set_option maxHeartbeats 1600000 in
theorem impl_un {w : World} {B N cN : Nat} {D : Option Addr} {C : List (List Ver)} (z : Int) (hN : N ≤ 1048576) (h3 : Rs w B D N C) (hB : B ≤ w.heap.size) :
    Calls Tryz.prog 58 #[.agg #[.slice D N cN], .int .i64 z] w fun e w' => e = .returned (.bool (unB C z)) ∧ Below w.heap.size w w' := by
  have H3 := Lib.hid h3
  clear h3
  obtain ⟨m, hm⟩ : ∃ m, lstS C = m := ⟨_, rfl⟩
  have HM := Lib.hid hm
  clear hm
  go_enter Tryz.func58, Tryz.ntmps58
  go_wp2_with fail
  have z0 := st.one_cell w (.slice D N cN) 33
  have hb0 := new1 w (.cells #[.slice D N cN] 33)
  have hs0 : (w.alloc (.cells #[.slice D N cN] 33)).heap.size = w.heap.size + 1 := by simp
  generalize w.alloc _ = W0 at z0 hb0 hs0 ⊢
  have HB0 := Lib.hid hb0
  clear hb0
  go_wp2_with fail
  refine (Go.Proofs.YthbbpfgjbidbhaaGreatDoor.last.impl_last (by omega) (H3.out.below (below_le HB0.out hB)) (by omega)).mono ?_
  rintro e W1 ⟨he, hb⟩
  rw [HM.out] at he
  subst he
  have HB1 := Lib.hid (HB0.out.trans (hb.mono HB0.out.size))
  clear hb z0
  by_cases hq : m < z
  · have t : decide (m < z) = true := decide_eq_true hq
    have HQ := Lib.hid hq
    clear hq
    go_wp2_with fail
    go_ret
    exact ⟨ret_b (un_b (by rw [HM.out]; exact HQ.out)), HB1.out⟩
  · have t : decide (m < z) = false := decide_eq_false hq
    have HQ := Lib.hid hq
    clear hq
    go_wp2_with fail
    go_ret
    exact ⟨ret_b (un_a (by rw [HM.out]; have := HQ.out; omega)), HB1.out⟩
set_option maxRecDepth 100000 in
set_option maxHeartbeats 3200000 in
theorem impl_fw {w : World} {B n c n2 c2 N cN : Nat} {A A2 D : Option Addr} {R S : List E2} {C : List (List Ver)} (x : Hd) (z : Int) (hn : n ≤ 1048576) (hn2 : n2 ≤ 1048576) (hN : N ≤ 1048576) (h1 : Vs w B A n R) (h2 : Vs w B A2 n2 S) (h3 : Rs w B D N C) (hB : B ≤ w.heap.size) :
    Calls Tryz.prog 30 #[.agg #[.slice D N cN], .agg #[.int .i64 x.i, .int .i64 x.s, .int .i64 x.t, .int .i64 x.b, .int .i64 x.l, .int .i64 x.h, .int .i64 x.c, .slice A n c, .slice A2 n2 c2], .int .i64 z] w fun e w' => e = .returned (.tuple #[.int .i64 (fwL C x R S z), .int .i64 (fwH C x R S z), .bool (fwB C x R S z)]) ∧ Below w.heap.size w w' := by
  have H1 := Lib.hid h1
  have H2 := Lib.hid h2
  have H3 := Lib.hid h3
  clear h1 h2 h3
  obtain ⟨q1, hq1⟩ : ∃ q, rlI C x R S = q := ⟨_, rfl⟩
  obtain ⟨q2, hq2⟩ : ∃ q, Go.Proofs.YthbbpfgjbidbhaaGreatDoor.rh.rhI C x R S = q := ⟨_, rfl⟩
  have HQ1 := Lib.hid hq1
  have HQ2 := Lib.hid hq2
  clear hq1 hq2
  go_enter Tryz.func30, Tryz.ntmps30
  go_wp2_with fail
  have hL := LS.mk2 w (.slice D N cN) 33 37 x A n c A2 n2 c2
  generalize ((w.alloc _).alloc _) = W0 at hL ⊢
  have L0 := Lib.hid hL
  have c0 := hL.st
  obtain ⟨t0, t1, t2, t3, t4, t5, t6, t7, t8⟩ := hL.tb
  clear hL
  go_wp2_with fail
  refine (impl_rex x (by omega) (by omega) (by omega) (H1.out.below (below_le L0.out.bel hB)) (H2.out.below (below_le L0.out.bel hB)) (H3.out.below (below_le L0.out.bel hB)) (by have := L0.out.size; omega)).mono ?_
  rintro e W1 ⟨rfl, hb⟩
  have L1 := Lib.hid (L0.out.call hb)
  clear hb c0 t0 t1 t2 t3 t4 t5 t6 t7 t8
  rcases hrx : rexB C x R S with _ | _
  · have HRX := Lib.hid hrx
    clear hrx
    go_wp2_with fail
    exact bodyPost_ret (v := .tuple #[.int .i64 0, .int .i64 0, .bool false]) (by simp [results, Tryz.results30, go_sem]) rfl ⟨ret_3 (fwL_no (fw_rex HRX.out)).symm (fwH_no (fw_rex HRX.out)).symm (fw_rex HRX.out).symm, L1.out.bel⟩
  have HRX := Lib.hid hrx
  clear hrx
  have c0 := L1.out.st
  obtain ⟨t0, t1, t2, t3, t4, t5, t6, t7, t8⟩ := L1.out.tb
  go_wp2_with fail
  refine (impl_active x (by omega) (by omega) (H1.out.below (below_le L1.out.bel hB)) (H2.out.below (below_le L1.out.bel hB)) (by have := L1.out.size; omega)).mono ?_
  rintro e W2 ⟨he, hb⟩
  rw [← act_t (rex_parts HRX.out).2.1] at he
  have L2 := Lib.hid (L1.out.call hb)
  clear hb c0 t0 t1 t2 t3 t4 t5 t6 t7 t8
  by_cases hx : x.t = 1
  case neg =>
    have e0 : decide (x.t = 1) = false := decide_eq_false hx
    rw [e0] at he
    subst he
    have HX := Lib.hid hx
    clear hx e0
    go_wp2_with fail
    exact bodyPost_ret (v := .tuple #[.int .i64 0, .int .i64 0, .bool false]) (by simp [results, Tryz.results30, go_sem]) rfl ⟨ret_3 (fwL_no (fw_act HX.out)).symm (fwH_no (fw_act HX.out)).symm (fw_act HX.out).symm, L2.out.bel⟩
  have e0 : decide (x.t = 1) = true := decide_eq_true hx
  rw [e0] at he
  subst he
  have HX := Lib.hid hx
  clear hx e0
  have c0 := L2.out.st
  obtain ⟨t0, t1, t2, t3, t4, t5, t6, t7, t8⟩ := L2.out.tb
  go_wp2_with fail
  refine (impl_un z (by omega) (H3.out.below (below_le L2.out.bel hB)) (by have := L2.out.size; omega)).mono ?_
  rintro e W3 ⟨rfl, hb⟩
  have L3 := Lib.hid (L2.out.call hb)
  clear hb c0 t0 t1 t2 t3 t4 t5 t6 t7 t8
  rcases hun : unB C z with _ | _
  · have HU := Lib.hid hun
    clear hun
    go_wp2_with fail
    exact bodyPost_ret (v := .tuple #[.int .i64 0, .int .i64 0, .bool false]) (by simp [results, Tryz.results30, go_sem]) rfl ⟨ret_3 (fwL_no (fw_un HU.out)).symm (fwH_no (fw_un HU.out)).symm (fw_un HU.out).symm, L3.out.bel⟩
  have HU := Lib.hid hun
  clear hun
  have HALL := Lib.hid (fw_all HRX.out HX.out HU.out)
  go_wp2_with fail
  have hbk0 : Below W3.heap.size W3 W3.drew := (Below.refl _ _).drew
  have M0 := Lib.hid (L3.out.call hbk0)
  have c0 := L3.out.st
  obtain ⟨t0, t1, t2, t3, t4, t5, t6, t7, t8⟩ := L3.out.tb
  go_region_held3 (fun w' => w'.cell? ⟨w.heap.size, 0, none⟩ = some (.slice D N cN) ∧ w'.cell? ⟨w.heap.size + 1, 0, none⟩ = some (.int .i64 x.i) ∧ w'.cell? ⟨w.heap.size + 1, 1, none⟩ = some (.int .i64 x.s) ∧ w'.cell? ⟨w.heap.size + 1, 2, none⟩ = some (.int .i64 x.t) ∧ w'.cell? ⟨w.heap.size + 1, 3, none⟩ = some (.int .i64 x.b) ∧ w'.cell? ⟨w.heap.size + 1, 4, none⟩ = some (.int .i64 x.l) ∧ w'.cell? ⟨w.heap.size + 1, 5, none⟩ = some (.int .i64 x.h) ∧ w'.cell? ⟨w.heap.size + 1, 6, none⟩ = some (.int .i64 x.c) ∧ w'.cell? ⟨w.heap.size + 1, 7, none⟩ = some (.slice A n c) ∧ w'.cell? ⟨w.heap.size + 1, 8, none⟩ = some (.slice A2 n2 c2)) (go_keep) (first | (go_at_call 59; (with_reducible refine (impl_rl x (by omega) (by omega) (by omega) (H1.out.below (below_le M0.out.bel hB)) (H2.out.below (below_le M0.out.bel hB)) (H3.out.below (below_le M0.out.bel hB)) (by have := M0.out.size; omega)).mono ?_); rintro e W4 ⟨he, hb⟩; rw [HQ1.out] at he; subst he; have hbk1 := hbk0.trans (hb.mono hbk0.size); clear hb; have M1 := Lib.hid (L3.out.call hbk1); have v0 := M1.out.st; obtain ⟨u00, u01, u02, u03, u04, u05, u06, u07, u08⟩ := M1.out.tb))
  have L4 := M1
  clear hbk0 c0 t0 t1 t2 t3 t4 t5 t6 t7 t8 hbk1 v0 u00 u01 u02 u03 u04 u05 u06 u07 u08 M0 M1
  try go_wp2_with fail
  have hmn := min3 x.h q2 z
  have hbk0 : Below W4.heap.size W4 W4.drew := (Below.refl _ _).drew
  have M0 := Lib.hid (L4.out.call hbk0)
  have c0 := L4.out.st
  obtain ⟨t0, t1, t2, t3, t4, t5, t6, t7, t8⟩ := L4.out.tb
  go_region_held3 (fun w' => w'.cell? ⟨w.heap.size, 0, none⟩ = some (.slice D N cN) ∧ w'.cell? ⟨w.heap.size + 1, 0, none⟩ = some (.int .i64 x.i) ∧ w'.cell? ⟨w.heap.size + 1, 1, none⟩ = some (.int .i64 x.s) ∧ w'.cell? ⟨w.heap.size + 1, 2, none⟩ = some (.int .i64 x.t) ∧ w'.cell? ⟨w.heap.size + 1, 3, none⟩ = some (.int .i64 x.b) ∧ w'.cell? ⟨w.heap.size + 1, 4, none⟩ = some (.int .i64 x.l) ∧ w'.cell? ⟨w.heap.size + 1, 5, none⟩ = some (.int .i64 x.h) ∧ w'.cell? ⟨w.heap.size + 1, 6, none⟩ = some (.int .i64 x.c) ∧ w'.cell? ⟨w.heap.size + 1, 7, none⟩ = some (.slice A n c) ∧ w'.cell? ⟨w.heap.size + 1, 8, none⟩ = some (.slice A2 n2 c2)) (go_keep) (first | (go_at_call 60; (with_reducible refine (Go.Proofs.YthbbpfgjbidbhaaGreatDoor.rh.impl_rh x (by omega) (by omega) (by omega) (H1.out.below (below_le M0.out.bel hB)) (H2.out.below (below_le M0.out.bel hB)) (H3.out.below (below_le M0.out.bel hB)) (by have := M0.out.size; omega)).mono ?_); rintro e W5 ⟨he, hb⟩; rw [HQ2.out] at he; subst he; have hbk1 := hbk0.trans (hb.mono hbk0.size); clear hb; have M1 := Lib.hid (L4.out.call hbk1); have v0 := M1.out.st; obtain ⟨u00, u01, u02, u03, u04, u05, u06, u07, u08⟩ := M1.out.tb))
  have L5 := M1
  clear hbk0 c0 t0 t1 t2 t3 t4 t5 t6 t7 t8 hbk1 v0 u00 u01 u02 u03 u04 u05 u06 u07 u08 M0 M1
  clear hmn
  try go_wp2_with fail
  exact bodyPost_ret (v := .tuple #[.int .i64 (max x.l q1), .int .i64 (min (min x.h q2) z), .bool true]) (by simp [results, Tryz.results30, go_sem]) rfl ⟨ret_3 (by rw [fwL_yes HALL.out, HQ1.out]) (by rw [fwH_yes HALL.out, HQ2.out]) HALL.out.symm, L5.out.bel⟩
set_option maxRecDepth 100000 in
set_option maxHeartbeats 3200000 in
theorem spec_fw {w : World} {B n c n2 c2 N cN : Nat} {A A2 D : Option Addr} {R S : List E2} {C : List (List Ver)} (x : Hd) (z : Int) (hn : n ≤ 1048576) (hn2 : n2 ≤ 1048576) (hN : N ≤ 1048576) (h1 : Vs w B A n R) (h2 : Vs w B A2 n2 S) (h3 : Rs w B D N C) (hB : B ≤ w.heap.size) :
    Calls Tryz.prog 19 #[.agg #[.slice D N cN], .agg #[.int .i64 x.i, .int .i64 x.s, .int .i64 x.t, .int .i64 x.b, .int .i64 x.l, .int .i64 x.h, .int .i64 x.c, .slice A n c, .slice A2 n2 c2], .int .i64 z] w fun e w' => e = .returned (.tuple #[.int .i64 (fwL C x R S z), .int .i64 (fwH C x R S z), .bool (fwB C x R S z)]) ∧ Below w.heap.size w w' := by
  have H1 := Lib.hid h1
  have H2 := Lib.hid h2
  have H3 := Lib.hid h3
  clear h1 h2 h3
  obtain ⟨q1, hq1⟩ : ∃ q, rlI C x R S = q := ⟨_, rfl⟩
  obtain ⟨q2, hq2⟩ : ∃ q, Go.Proofs.YthbbpfgjbidbhaaGreatDoor.rh.rhI C x R S = q := ⟨_, rfl⟩
  have HQ1 := Lib.hid hq1
  have HQ2 := Lib.hid hq2
  clear hq1 hq2
  go_enter Tryz.func19, Tryz.ntmps19
  go_wp2_with fail
  have hL := LS.mk2 w (.slice D N cN) 33 37 x A n c A2 n2 c2
  generalize ((w.alloc _).alloc _) = W0 at hL ⊢
  have L0 := Lib.hid hL
  have c0 := hL.st
  obtain ⟨t0, t1, t2, t3, t4, t5, t6, t7, t8⟩ := hL.tb
  clear hL
  go_wp2_with fail
  refine (spec_rex x (by omega) (by omega) (by omega) (H1.out.below (below_le L0.out.bel hB)) (H2.out.below (below_le L0.out.bel hB)) (H3.out.below (below_le L0.out.bel hB)) (by have := L0.out.size; omega)).mono ?_
  rintro e W1 ⟨rfl, hb⟩
  have L1 := Lib.hid (L0.out.call hb)
  clear hb c0 t0 t1 t2 t3 t4 t5 t6 t7 t8
  rcases hrx : rexB C x R S with _ | _
  · have HRX := Lib.hid hrx
    clear hrx
    go_wp2_with fail
    exact bodyPost_ret (v := .tuple #[.int .i64 0, .int .i64 0, .bool false]) (by simp [results, Tryz.results19, go_sem]) rfl ⟨ret_3 (fwL_no (fw_rex HRX.out)).symm (fwH_no (fw_rex HRX.out)).symm (fw_rex HRX.out).symm, L1.out.bel⟩
  have HRX := Lib.hid hrx
  clear hrx
  have c0 := L1.out.st
  obtain ⟨t0, t1, t2, t3, t4, t5, t6, t7, t8⟩ := L1.out.tb
  by_cases hx : x.t = 1
  case neg =>
    have e0 : (x.t != 1) = true := by simp [hx]
    have HX := Lib.hid hx
    clear hx
    go_wp2_with fail
    exact bodyPost_ret (v := .tuple #[.int .i64 0, .int .i64 0, .bool false]) (by simp [results, Tryz.results19, go_sem]) rfl ⟨ret_3 (fwL_no (fw_act HX.out)).symm (fwH_no (fw_act HX.out)).symm (fw_act HX.out).symm, L1.out.bel⟩
  have e0 : (x.t != 1) = false := by simp [hx]
  have HX := Lib.hid hx
  clear hx
  obtain ⟨m, hm⟩ : ∃ m, lstS C = m := ⟨_, rfl⟩
  have hr := lst_range C
  rw [hm] at hr
  obtain ⟨hr0, hr1⟩ := hr
  have HM := Lib.hid hm
  clear hm
  go_wp2_with fail
  clear e0
  refine (Go.Proofs.YthbbpfgjbidbhaaGreatDoor.last.spec_last (by omega) (H3.out.below (below_le L1.out.bel hB)) (by have := L1.out.size; omega)).mono ?_
  rintro e W2 ⟨he, hb⟩
  rw [HM.out] at he
  subst he
  have L2 := Lib.hid (L1.out.call hb)
  clear hb c0 t0 t1 t2 t3 t4 t5 t6 t7 t8
  go_wp2_with fail
  refine (Go.Proofs.YthbbpfgjbidbhaaGreatDoor.vers.in_range _ _ _ _).mono ?_
  rintro e W3 ⟨he, rfl⟩
  have hz : Go.Proofs.YthbbpfgjbidbhaaGreatDoor.vers.In (m + 1) 999 z = unB C z := by rw [← HM.out]; exact un_spec C z
  rw [hz] at he
  subst he
  clear hz
  rcases hun : unB C z with _ | _
  · have HU := Lib.hid hun
    clear hun
    go_wp2_with fail
    exact bodyPost_ret (v := .tuple #[.int .i64 0, .int .i64 0, .bool false]) (by simp [results, Tryz.results19, go_sem]) rfl ⟨ret_3 (fwL_no (fw_un HU.out)).symm (fwH_no (fw_un HU.out)).symm (fw_un HU.out).symm, L2.out.bel⟩
  have HU := Lib.hid hun
  clear hun hr0 hr1
  have HALL := Lib.hid (fw_all HRX.out HX.out HU.out)
  have hmn := min3 x.h q2 z
  go_wp2_with fail
  have hbk0 : Below W2.heap.size W2 W2.drew := (Below.refl _ _).drew
  have M0 := Lib.hid (L2.out.call hbk0)
  have c0 := L2.out.st
  obtain ⟨t0, t1, t2, t3, t4, t5, t6, t7, t8⟩ := L2.out.tb
  go_region_held3 (fun w' => w'.cell? ⟨w.heap.size, 0, none⟩ = some (.slice D N cN) ∧ w'.cell? ⟨w.heap.size + 1, 0, none⟩ = some (.int .i64 x.i) ∧ w'.cell? ⟨w.heap.size + 1, 1, none⟩ = some (.int .i64 x.s) ∧ w'.cell? ⟨w.heap.size + 1, 2, none⟩ = some (.int .i64 x.t) ∧ w'.cell? ⟨w.heap.size + 1, 3, none⟩ = some (.int .i64 x.b) ∧ w'.cell? ⟨w.heap.size + 1, 4, none⟩ = some (.int .i64 x.l) ∧ w'.cell? ⟨w.heap.size + 1, 5, none⟩ = some (.int .i64 x.h) ∧ w'.cell? ⟨w.heap.size + 1, 6, none⟩ = some (.int .i64 x.c) ∧ w'.cell? ⟨w.heap.size + 1, 7, none⟩ = some (.slice A n c) ∧ w'.cell? ⟨w.heap.size + 1, 8, none⟩ = some (.slice A2 n2 c2)) (go_keep) (first | (go_at_call 46; (with_reducible refine (Go.Proofs.YthbbpfgjbidbhaaGreatDoor.rh.spec_rh x (by omega) (by omega) (by omega) (H1.out.below (below_le M1.out.bel hB)) (H2.out.below (below_le M1.out.bel hB)) (H3.out.below (below_le M1.out.bel hB)) (by have := M1.out.size; omega)).mono ?_); rintro e W3 ⟨he, hb⟩; rw [HQ2.out] at he; subst he; have hbk2 := hbk1.trans (hb.mono hbk1.size); clear hb; have M2 := Lib.hid (L2.out.call hbk2); have v1 := M2.out.st; obtain ⟨u10, u11, u12, u13, u14, u15, u16, u17, u18⟩ := M2.out.tb) | (go_at_call 45; (with_reducible refine (spec_rl x (by omega) (by omega) (by omega) (H1.out.below (below_le M0.out.bel hB)) (H2.out.below (below_le M0.out.bel hB)) (H3.out.below (below_le M0.out.bel hB)) (by have := M0.out.size; omega)).mono ?_); rintro e V1 ⟨he, hb⟩; rw [HQ1.out] at he; subst he; have hbk1 := hbk0.trans (hb.mono hbk0.size); clear hb; have M1 := Lib.hid (L2.out.call hbk1); have v0 := M1.out.st; obtain ⟨u00, u01, u02, u03, u04, u05, u06, u07, u08⟩ := M1.out.tb))
  all_goals
    have L3 := M2
    clear hbk0 c0 t0 t1 t2 t3 t4 t5 t6 t7 t8 hbk1 v0 u00 u01 u02 u03 u04 u05 u06 u07 u08 hbk2 v1 u10 u11 u12 u13 u14 u15 u16 u17 u18 M0 M1 M2
    clear hmn
    try go_wp2_with fail
    exact bodyPost_ret (v := .tuple #[.int .i64 (max x.l q1), .int .i64 (min (min x.h q2) z), .bool true]) (by simp [results, Tryz.results19, go_sem]) rfl ⟨ret_3 (by rw [fwL_yes HALL.out, HQ1.out]) (by rw [fwH_yes HALL.out, HQ2.out]) HALL.out.symm, L3.out.bel⟩
end Go.Proofs.YthbbpfgjbidbhaaGreatDoor.fw
namespace Go.Proofs.YthbbpfgjbidbhaaGreatDoor.crm
open Go.ChangeShapes Go.WideShapes Go.ChangeAt Go.RowKit
open Go.Proofs.YthbbpfgjbidbhaaGreatDoor.el2 Go.Proofs.YthbbpfgjbidbhaaGreatDoor.tx Go.Proofs.YthbbpfgjbidbhaaGreatDoor.seq Go.Proofs.YthbbpfgjbidbhaaGreatDoor.tv Go.Proofs.YthbbpfgjbidbhaaGreatDoor.tf Go.Proofs.YthbbpfgjbidbhaaGreatDoor.rx Go.Proofs.YthbbpfgjbidbhaaGreatDoor.ri Go.Proofs.YthbbpfgjbidbhaaGreatDoor.rl Go.Proofs.YthbbpfgjbidbhaaGreatDoor.em Go.Proofs.YthbbpfgjbidbhaaGreatDoor.ep Go.Proofs.YthbbpfgjbidbhaaGreatDoor.fw Go.Proofs.YthbbpfgjbidbhaaGreatDoor.lm
open Go.Proofs.YthbbpfgjbidbhaaGreatDoor.vers (new2 ret_b)
open Go.Proofs.YthbbpfgjbidbhaaGreatDoor.sl (Ver)
open Go.Proofs.YthbbpfgjbidbhaaGreatDoor.st (Rs)
open Go.Proofs.YthbbpfgjbidbhaaGreatDoor.val (stB)
set_option linter.unusedVariables false
set_option linter.unusedSimpArgs false
/-- the two listed errors: each the address of a text -/
def Ev (W : World) : Prop := (∃ p, W.cell? ⟨0, 0, none⟩ = some (.iface 129 (.pointer (some p)))) ∧ ∃ p, W.cell? ⟨1, 0, none⟩ = some (.iface 129 (.pointer (some p)))
theorem cell_lt {W : World} {b : Nat} {v : Value} (h : W.cell? ⟨b, 0, none⟩ = some v) : b < W.heap.size := World.block_lt_of_cell? W _ h
theorem Ev.below {w w' : World} (h : Ev w) (hb : Below w.heap.size w w') : Ev w' := by
  obtain ⟨⟨p, h1⟩, q, h2⟩ := h
  exact ⟨⟨p, (hb.cell (p := ⟨0, 0, none⟩) (cell_lt h1)).trans h1⟩, q, (hb.cell (p := ⟨1, 0, none⟩) (cell_lt h2)).trans h2⟩
/-- what checkRoom answers: the pair, nothing, or an error without a pair -/
def CR (C : List (List Ver)) (x : Hd) (R S : List E2) (z : Int) (e : Ending) : Prop :=
  (xpB C x R S z = true ∧ e = .returned (.iface 106 (.agg #[.int .i64 (xpL C x R S z).a, .int .i64 (xpL C x R S z).b, .int .i64 (xpH C x R S z).a, .int .i64 (xpH C x R S z).b]))) ∨
  (xpB C x R S z = false ∧ mayB C x R S z = true ∧ e = .returned .nilIface) ∨
  (xpB C x R S z = false ∧ mayB C x R S z = false ∧ ∃ p, e = .returned (.iface 129 (.pointer (some p))))
theorem cr_pair {C : List (List Ver)} {x : Hd} {R S : List E2} {z : Int} {m1 m2 : E2} (h : fwB C x R S z = true) (h1 : Go.Proofs.YthbbpfgjbidbhaaGreatDoor.rh.rhI C x R S ≤ rlI C x R S) (e1 : fstAt (cand C R S) (rlI C x R S) = m1) (e2 : fstAt (sucR C R) (Go.Proofs.YthbbpfgjbidbhaaGreatDoor.rh.rhI C x R S) = m2) :
    CR C x R S z (.returned (.iface 106 (.agg #[.int .i64 m1.a, .int .i64 m1.b, .int .i64 m2.a, .int .i64 m2.b]))) := by
  have hx := xp_yes h h1
  exact Or.inl ⟨hx, by rw [xpL_yes hx, xpH_yes hx, e1, e2]⟩
theorem cr_none {C : List (List Ver)} {x : Hd} {R S : List E2} {z : Int} (h : fwB C x R S z = true) (h1 : rlI C x R S < Go.Proofs.YthbbpfgjbidbhaaGreatDoor.rh.rhI C x R S) (h2 : fwL C x R S z < fwH C x R S z) : CR C x R S z (.returned .nilIface) :=
  Or.inr (Or.inl ⟨xp_lt h1, by rw [may_is h]; exact decide_eq_true h2, rfl⟩)
theorem cr_room {C : List (List Ver)} {x : Hd} {R S : List E2} {z : Int} {p : Addr} (h : fwB C x R S z = true) (h1 : rlI C x R S < Go.Proofs.YthbbpfgjbidbhaaGreatDoor.rh.rhI C x R S) (h2 : ¬ fwL C x R S z < fwH C x R S z) : CR C x R S z (.returned (.iface 129 (.pointer (some p)))) :=
  Or.inr (Or.inr ⟨xp_lt h1, by rw [may_is h]; exact decide_eq_false h2, p, rfl⟩)
theorem cr_no {C : List (List Ver)} {x : Hd} {R S : List E2} {z : Int} {p : Addr} (h : fwB C x R S z = false) : CR C x R S z (.returned (.iface 129 (.pointer (some p)))) :=
  Or.inr (Or.inr ⟨xp_no h, may_no h, p, rfl⟩)
set_option maxRecDepth 100000 in
set_option maxHeartbeats 3200000 in
theorem impl_cr {w : World} {B n c n2 c2 N cN : Nat} {A A2 D : Option Addr} {R S : List E2} {C : List (List Ver)} (x : Hd) (z : Int) (hn : n ≤ 1048576) (hn2 : n2 ≤ 1048576) (hN : N ≤ 1048576) (h1 : Vs w B A n R) (h2 : Vs w B A2 n2 S) (h3 : Rs w B D N C) (hB : B ≤ w.heap.size) (hE : Ev w) :
    Calls Tryz.prog 55 #[.agg #[.slice D N cN], .agg #[.int .i64 x.i, .int .i64 x.s, .int .i64 x.t, .int .i64 x.b, .int .i64 x.l, .int .i64 x.h, .int .i64 x.c, .slice A n c, .slice A2 n2 c2], .int .i64 z] w fun e w' => CR C x R S z e ∧ Below w.heap.size w w' := by
  have H1 := Lib.hid h1
  have H2 := Lib.hid h2
  have H3 := Lib.hid h3
  have HE := Lib.hid hE
  clear h1 h2 h3 hE
  obtain ⟨q1, hq1⟩ : ∃ q, rlI C x R S = q := ⟨_, rfl⟩
  obtain ⟨q2, hq2⟩ : ∃ q, Go.Proofs.YthbbpfgjbidbhaaGreatDoor.rh.rhI C x R S = q := ⟨_, rfl⟩
  have HQ1 := Lib.hid hq1
  have HQ2 := Lib.hid hq2
  clear hq1 hq2
  obtain ⟨m1, hm1⟩ : ∃ q, fstAt (cand C R S) q1 = q := ⟨_, rfl⟩
  obtain ⟨m2, hm2⟩ : ∃ q, fstAt (sucR C R) q2 = q := ⟨_, rfl⟩
  have HM1 := Lib.hid hm1
  have HM2 := Lib.hid hm2
  clear hm1 hm2
  obtain ⟨a, ha⟩ : ∃ q, fwL C x R S z = q := ⟨_, rfl⟩
  obtain ⟨b, hb0⟩ : ∃ q, fwH C x R S z = q := ⟨_, rfl⟩
  have HA := Lib.hid ha
  have HBB := Lib.hid hb0
  clear ha hb0
  go_enter Tryz.func55, Tryz.ntmps55
  go_wp2_with fail
  have hL := LS.mk2 w (.slice D N cN) 33 37 x A n c A2 n2 c2
  generalize ((w.alloc _).alloc _) = W0 at hL ⊢
  have L0 := Lib.hid hL
  have c0 := hL.st
  obtain ⟨t0, t1, t2, t3, t4, t5, t6, t7, t8⟩ := hL.tb
  clear hL
  go_wp2_with fail
  refine (impl_fw x z (by omega) (by omega) (by omega) (H1.out.below (below_le L0.out.bel hB)) (H2.out.below (below_le L0.out.bel hB)) (H3.out.below (below_le L0.out.bel hB)) (by have := L0.out.size; omega)).mono ?_
  rintro e W1 ⟨he, hb⟩
  rw [HA.out, HBB.out] at he
  have L1 := Lib.hid (L0.out.call hb)
  have HE1 := Lib.hid (HE.out.below L1.out.bel)
  clear hb c0 t0 t1 t2 t3 t4 t5 t6 t7 t8
  rcases hq : fwB C x R S z with _ | _
  · rw [hq] at he
    subst he
    have HQ := Lib.hid hq
    clear hq
    obtain ⟨⟨p, g0⟩, -⟩ := HE1.out
    go_wp2_with fail
    go_ret
    exact ⟨cr_no HQ.out, L1.out.bel⟩
  rw [hq] at he
  subst he
  have HQ := Lib.hid hq
  have HRX := Lib.hid (fw_parts hq).1
  clear hq
  go_wp2_with fail
  have hbk0 : Below W1.heap.size W1 W1.drew := (Below.refl _ _).drew
  have M0 := Lib.hid (L1.out.call hbk0)
  have c0 := L1.out.st
  obtain ⟨t0, t1, t2, t3, t4, t5, t6, t7, t8⟩ := L1.out.tb
  go_region_held3 (fun w' => w'.cell? ⟨w.heap.size, 0, none⟩ = some (.slice D N cN) ∧ w'.cell? ⟨w.heap.size + 1, 0, none⟩ = some (.int .i64 x.i) ∧ w'.cell? ⟨w.heap.size + 1, 1, none⟩ = some (.int .i64 x.s) ∧ w'.cell? ⟨w.heap.size + 1, 2, none⟩ = some (.int .i64 x.t) ∧ w'.cell? ⟨w.heap.size + 1, 3, none⟩ = some (.int .i64 x.b) ∧ w'.cell? ⟨w.heap.size + 1, 4, none⟩ = some (.int .i64 x.l) ∧ w'.cell? ⟨w.heap.size + 1, 5, none⟩ = some (.int .i64 x.h) ∧ w'.cell? ⟨w.heap.size + 1, 6, none⟩ = some (.int .i64 x.c) ∧ w'.cell? ⟨w.heap.size + 1, 7, none⟩ = some (.slice A n c) ∧ w'.cell? ⟨w.heap.size + 1, 8, none⟩ = some (.slice A2 n2 c2)) (go_keep) (first | (go_at_call 60; (with_reducible refine (Go.Proofs.YthbbpfgjbidbhaaGreatDoor.rh.impl_rh x (by omega) (by omega) (by omega) (H1.out.below (below_le M1.out.bel hB)) (H2.out.below (below_le M1.out.bel hB)) (H3.out.below (below_le M1.out.bel hB)) (by have := M1.out.size; omega)).mono ?_); rintro e W2 ⟨he, hb⟩; rw [HQ2.out] at he; subst he; have hbk2 := hbk1.trans (hb.mono hbk1.size); clear hb; have M2 := Lib.hid (L1.out.call hbk2); have v1 := M2.out.st; obtain ⟨u10, u11, u12, u13, u14, u15, u16, u17, u18⟩ := M2.out.tb) | (go_at_call 59; (with_reducible refine (impl_rl x (by omega) (by omega) (by omega) (H1.out.below (below_le M0.out.bel hB)) (H2.out.below (below_le M0.out.bel hB)) (H3.out.below (below_le M0.out.bel hB)) (by have := M0.out.size; omega)).mono ?_); rintro e V1 ⟨he, hb⟩; rw [HQ1.out] at he; subst he; have hbk1 := hbk0.trans (hb.mono hbk0.size); clear hb; have M1 := Lib.hid (L1.out.call hbk1); have v0 := M1.out.st; obtain ⟨u00, u01, u02, u03, u04, u05, u06, u07, u08⟩ := M1.out.tb))
  all_goals
    have L2 := M2
    clear hbk0 c0 t0 t1 t2 t3 t4 t5 t6 t7 t8 hbk1 v0 u00 u01 u02 u03 u04 u05 u06 u07 u08 hbk2 v1 u10 u11 u12 u13 u14 u15 u16 u17 u18 M0 M1 M2
    have HE2 := Lib.hid (HE.out.below L2.out.bel)
    by_cases hlt : q2 ≤ q1
    · have HLT := Lib.hid hlt
      have t : decide (q2 ≤ q1) = true := decide_eq_true hlt
      clear hlt
      go_wp2_with fail
      have hbk0 : Below W2.heap.size W2 W2.drew := (Below.refl _ _).drew
      have M0 := Lib.hid (L2.out.call hbk0)
      have c0 := L2.out.st
      obtain ⟨t0, t1, t2, t3, t4, t5, t6, t7, t8⟩ := L2.out.tb
      go_region_held3 (fun w' => w'.cell? ⟨w.heap.size, 0, none⟩ = some (.slice D N cN) ∧ w'.cell? ⟨w.heap.size + 1, 0, none⟩ = some (.int .i64 x.i) ∧ w'.cell? ⟨w.heap.size + 1, 1, none⟩ = some (.int .i64 x.s) ∧ w'.cell? ⟨w.heap.size + 1, 2, none⟩ = some (.int .i64 x.t) ∧ w'.cell? ⟨w.heap.size + 1, 3, none⟩ = some (.int .i64 x.b) ∧ w'.cell? ⟨w.heap.size + 1, 4, none⟩ = some (.int .i64 x.l) ∧ w'.cell? ⟨w.heap.size + 1, 5, none⟩ = some (.int .i64 x.h) ∧ w'.cell? ⟨w.heap.size + 1, 6, none⟩ = some (.int .i64 x.c) ∧ w'.cell? ⟨w.heap.size + 1, 7, none⟩ = some (.slice A n c) ∧ w'.cell? ⟨w.heap.size + 1, 8, none⟩ = some (.slice A2 n2 c2)) (go_keep) (first | (go_at_call 74; (with_reducible refine (impl_hm x q2 (by omega) (by omega) (by omega) (H1.out.below (below_le M1.out.bel hB)) (H2.out.below (below_le M1.out.bel hB)) (H3.out.below (below_le M1.out.bel hB)) (by have := M1.out.size; omega) HRX.out).mono ?_); rintro e W3 ⟨he, hb⟩; rw [HM2.out] at he; subst he; have hbk2 := hbk1.trans (hb.mono hbk1.size); clear hb; have M2 := Lib.hid (L2.out.call hbk2); have v1 := M2.out.st; obtain ⟨u10, u11, u12, u13, u14, u15, u16, u17, u18⟩ := M2.out.tb) | (go_at_call 73; (with_reducible refine (impl_lm x q1 (by omega) (by omega) (by omega) (H1.out.below (below_le M0.out.bel hB)) (H2.out.below (below_le M0.out.bel hB)) (H3.out.below (below_le M0.out.bel hB)) (by have := M0.out.size; omega) HRX.out).mono ?_); rintro e V1 ⟨he, hb⟩; rw [HM1.out] at he; subst he; have hbk1 := hbk0.trans (hb.mono hbk0.size); clear hb; have M1 := Lib.hid (L2.out.call hbk1); have v0 := M1.out.st; obtain ⟨u00, u01, u02, u03, u04, u05, u06, u07, u08⟩ := M1.out.tb))
      all_goals
        have L3 := M2
        clear hbk0 c0 t0 t1 t2 t3 t4 t5 t6 t7 t8 hbk1 v0 u00 u01 u02 u03 u04 u05 u06 u07 u08 hbk2 v1 u10 u11 u12 u13 u14 u15 u16 u17 u18 M0 M1 M2
        try go_wp2_with fail
        go_ret
        exact ⟨cr_pair HQ.out (by rw [HQ1.out, HQ2.out]; exact HLT.out) (by rw [HQ1.out]; exact HM1.out) (by rw [HQ2.out]; exact HM2.out), L3.out.bel⟩
    · have HLT := Lib.hid (show rlI C x R S < Go.Proofs.YthbbpfgjbidbhaaGreatDoor.rh.rhI C x R S by rw [HQ1.out, HQ2.out]; omega)
      have t : decide (q2 ≤ q1) = false := decide_eq_false hlt
      clear hlt
      by_cases hab : b ≤ a
      · have HAB := Lib.hid (show ¬ fwL C x R S z < fwH C x R S z by rw [HA.out, HBB.out]; omega)
        have t2 : decide (b ≤ a) = true := decide_eq_true hab
        clear hab
        obtain ⟨-, p, g1⟩ := HE2.out
        go_wp2_with fail
        go_ret
        exact ⟨cr_room HQ.out HLT.out (by have := HAB.out; omega), L2.out.bel⟩
      · have HAB := Lib.hid (show fwL C x R S z < fwH C x R S z by rw [HA.out, HBB.out]; omega)
        have t2 : decide (b ≤ a) = false := decide_eq_false hab
        clear hab
        go_wp2_with fail
        go_ret
        exact ⟨cr_none HQ.out HLT.out HAB.out, L2.out.bel⟩
set_option maxRecDepth 100000 in
set_option maxHeartbeats 3200000 in
theorem impl_may {w : World} {B n c n2 c2 N cN : Nat} {A A2 D : Option Addr} {R S : List E2} {C : List (List Ver)} (x : Hd) (z : Int) (hn : n ≤ 1048576) (hn2 : n2 ≤ 1048576) (hN : N ≤ 1048576) (h1 : Vs w B A n R) (h2 : Vs w B A2 n2 S) (h3 : Rs w B D N C) (hB : B ≤ w.heap.size) (hE : Ev w) :
    Calls Tryz.prog 29 #[.agg #[.slice D N cN], .agg #[.int .i64 x.i, .int .i64 x.s, .int .i64 x.t, .int .i64 x.b, .int .i64 x.l, .int .i64 x.h, .int .i64 x.c, .slice A n c, .slice A2 n2 c2], .int .i64 z] w fun e w' => e = .returned (.bool (mayB C x R S z)) ∧ Below w.heap.size w w' := by
  have H1 := Lib.hid h1
  have H2 := Lib.hid h2
  have H3 := Lib.hid h3
  have HE := Lib.hid hE
  clear h1 h2 h3 hE
  go_enter Tryz.func29, Tryz.ntmps29
  go_wp2_with fail
  have hL := LS.mk2 w (.slice D N cN) 33 37 x A n c A2 n2 c2
  generalize ((w.alloc _).alloc _) = W0 at hL ⊢
  have L0 := Lib.hid hL
  have c0 := hL.st
  obtain ⟨t0, t1, t2, t3, t4, t5, t6, t7, t8⟩ := hL.tb
  clear hL
  go_wp2_with fail
  refine (impl_cr x z (by omega) (by omega) (by omega) (H1.out.below (below_le L0.out.bel hB)) (H2.out.below (below_le L0.out.bel hB)) (H3.out.below (below_le L0.out.bel hB)) (by have := L0.out.size; omega) (HE.out.below L0.out.bel)).mono ?_
  rintro e W1 ⟨he, hb⟩
  have L1 := Lib.hid (L0.out.call hb)
  clear hb c0 t0 t1 t2 t3 t4 t5 t6 t7 t8
  rcases he with ⟨h, rfl⟩ | ⟨h, h2, rfl⟩ | ⟨h, h2, p, rfl⟩
  · have HX := Lib.hid (may_xp h)
    clear h
    go_wp2_with fail
    go_ret
    exact ⟨ret_b HX.out.symm, L1.out.bel⟩
  · have HX := Lib.hid h2
    clear h h2
    go_wp2_with fail
    go_ret
    exact ⟨ret_b HX.out.symm, L1.out.bel⟩
  · have HX := Lib.hid h2
    clear h h2
    go_wp2_with fail
    go_ret
    exact ⟨ret_b HX.out.symm, L1.out.bel⟩
end Go.Proofs.YthbbpfgjbidbhaaGreatDoor.crm
